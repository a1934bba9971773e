/- Sound: stretches. -/
import Derived.Test.YtdbjifpnbghbaaaA17
import Derived.Maps.AppendAt
import Derived.OwnWalkIn
namespace Go.Proofs.Ytdbjifpnbghbaaa
set_option linter.unusedSimpArgs false
set_option linter.unusedVariables false
open Go.RowKit Go.Shelf Go.Maps
attribute [local go_sem] Oper.semAt_some

/-- one more element behind a row of the call's own -/
theorem run_one (t ty e : TypeId) (k bytes : Nat) (z : Value) (ht : Try.prog.underlying t = some (.slice e)) (hinfo : (Try.prog.info? e).map (fun i => (i.zero, i.size, i.bytes)) = some (some z, k, bytes))
    (hzs : z.cells.size = k) (hk : 0 < k) (hby : bytes ≤ 64) {w : World} (base q : Nat) {v : Value} {n : Nat} {F : List Value} (hown : w.ownsRow base e k v n F) (vals : List Value) (hvl : vals.length = k)
    (hq : w.heap[q]? = some (.cells vals.toArray e (0, 0))) (h1 : ∀ u ∈ vals, u.oneCell' = true) (hl : n ≤ 1000) (hbase : base ≤ w.heap.size) :
    ∃ g cp w', (Builtin.append_ #[t, t] ty #[v, .slice (some ⟨q, 0, none⟩) 1 1]).run Try.prog w = .ok (.slice (some ⟨g, 0, none⟩) (n + 1) cp) w' ∧ w'.ownsRow base e k (.slice (some ⟨g, 0, none⟩) (n + 1) cp) (n + 1) (F ++ vals) ∧ base ≤ g ∧ w.grownBy w' v.ownBlock := by
  obtain ⟨i0, hi, hz0, hz1, hz2⟩ := info_parts hinfo
  have hb : (n + 1) * bytes ≤ 140737488355328 := by
    have : (n + 1) * bytes ≤ 1001 * 64 := Nat.mul_le_mul (by omega) hby
    omega
  obtain ⟨v', w', hr, ha, hg, _, _⟩ := run_append_own_at (P := Try.prog) (w := w) base t ty e i0 z k bytes ht hi hz0 hz1 hz2 hzs hk v n F hown ⟨q, 0, none⟩ 1 1 vals (by rw [hvl, Nat.one_mul]) (fun j u hj => by
    rw [Addr.add_lit, Nat.zero_add]
    simp [World.cell?, hq, hj]) h1 (by unfold maxLen; omega) hb hbase
  have ha' := ha
  rcases ha.2 with ⟨_, h0⟩ | ⟨g, cap, cur, rfl, hbg, _⟩
  · omega
  · exact ⟨g, cap, w', hr, ha', hbg, hg⟩
theorem wpListIn_append_run {F : Fence} {n : Nat} {ops : Array Oper} {rest : List Oper} {o : Oper} {a : Act} {w : World} {Q : Exit → Act → World → Prop} (hgd : o.guard = none) (s x : Operand) (t : TypeId) (ho : o.op = .call { callee := .builtin .append, args := #[s, x], argTypes := #[t, t] }) {v u v' : Value} {w' : World}
    (hs : a.eval s = v) (hx : a.eval x = u) (hr : (Builtin.append_ #[t, t] o.type #[v, u]).run Try.prog w = .ok v' w') (h : wpListIn F n Try.prog ops Q rest (a.put o.dst v') w') : wpListIn F n Try.prog ops Q (o :: rest) a w := by
  refine wpListIn_plain hgd fun K hK => ?_
  unfold Oper.wpIn
  refine ⟨?_, ?_⟩
  · simp [Oper.about, ho, resolve, Target.leads, Sem.run_pure]
  · rw [Oper.semAt_plain F _ _ (by rw [ho]; intro c hc; cases hc)]
    simp [execOp, ho, resolve, invoke, builtin, hs, hx, hr, Result.andThen]
    exact hK _ _ h
theorem Try.info49 : (Try.prog.info? 49).map (fun i => (i.zero, i.size, i.bytes)) = some (some (.agg #[.int .i64 0, .int .i64 0, .int .i64 0]), 3, 24) := by kernel_rfl
theorem own_ty {w : World} {base e k n g : Nat} {v : Value} {xs : List Value} (h : w.ownsRow base e k v n xs) (hv : v.ownBlock = some g) : base ≤ g ∧ ∃ cs, w.heap[g]? = some (.cells cs e (0, 0)) := by
  rcases h.2 with ⟨rfl, _⟩ | ⟨g', cap, cur, rfl, hb, hg, _⟩
  · cases hv
  · have e1 : g' = g := Option.some.inj hv
    subst e1; exact ⟨hb, _, hg⟩
theorem cutF_one (s o : Int × Int) : (cutF s [o]).1 = max s.1 o.1 ∧ (cutF s [o]).2 = min s.2 o.2 := ⟨rfl, rfl⟩
/-- the stretches of some pipes -/
def strL (l : List Pi) (s : Int × Int) (pre : List Nat) : List St := pre.foldl (fun acc i =>
  let k := clN l.length i
  let c := cutF s [(posF l k, posF l (k + 1))]
  if emptyF c then acc else acc ++ [⟨k, c.1 - posF l k, c.2 - posF l k⟩]) []
theorem strL_snoc (l : List Pi) (s : Int × Int) (pre : List Nat) (i : Nat) : strL l s (pre ++ [i]) = (let k := clN l.length i
  let c := cutF s [(posF l k, posF l (k + 1))]
  if emptyF c then strL l s pre else strL l s pre ++ [⟨k, c.1 - posF l k, c.2 - posF l k⟩]) := by
  unfold strL; rw [List.foldl_append]; rfl
theorem strL_range (l : List Pi) (s : Int × Int) : ∀ k : Nat, k ≤ l.length → strL l s (List.range k) = strUp l s k
  | 0, _ => rfl
  | k + 1, h => by
    rw [List.range_succ, strL_snoc, strL_range l s k (by omega), clN_same (by omega)]
    rfl
theorem strL_few (l : List Pi) (s : Int × Int) (pre : List Nat) : (strL l s pre).length ≤ pre.length := by
  obtain ⟨rs, hr⟩ : ∃ rs, pre.reverse = rs := ⟨_, rfl⟩
  obtain rfl : pre = rs.reverse := by rw [← hr, List.reverse_reverse]
  clear hr
  induction rs with
  | nil => exact Nat.le_refl _
  | cons i rs ih =>
    rw [List.reverse_cons, strL_snoc, List.length_append]
    simp only []
    split
    · omega
    · simp; simp at ih; exact ih
theorem own_base {w : World} {B B' e k n : Nat} {v : Value} {xs : List Value} (h : w.ownsRow B e k v n xs) (hB : B' ≤ B) : w.ownsRow B' e k v n xs := by
  refine ⟨h.1, ?_⟩
  rcases h.2 with h | ⟨g, cap, cur, e1, h1, h2⟩
  · exact .inl h
  · exact .inr ⟨g, cap, cur, e1, by omega, h2⟩
/-- a list of stretches that the call made -/
def OutT (B : Nat) (L : List St) (v : Value) (w' : World) : Prop := w'.ownsRow B 49 3 v L.length (flatK 3 stC L)
set_option maxRecDepth 100000 in
set_option maxHeartbeats 6400000 in
theorem stretches_any (l : List Pi) (hok : lineOk l = true) (v : Value) (s0 s1 : Int) (w : World) (hl : TabAt 3 piC w v l) : Calls Try.prog 47 #[v, .agg #[.int .i64 s0, .int .i64 s1]] w fun e w' => ∃ v', e = .returned v' ∧ OutT w.heap.size (strUp l (s0, s1) l.length) v' w' ∧ Below w.heap.size w w' := by
  obtain ⟨a, c, rfl⟩ := hl.shape
  obtain ⟨hl1, hl8⟩ := line_few hok
  have hrow : ∀ b off, a = some ⟨b, off, none⟩ → b < w.heap.size := fun b off e => by
    obtain ⟨b', off', e', hb', _⟩ := hl.at (by omega)
    rw [e] at e'; cases e'; exact hb'
  obtain ⟨W0, hW0⟩ : ∃ X, X = (w.alloc (.cells #[.int .i64 s0, .int .i64 s1] 24)).alloc (.cells #[.slice none 0 0] 38) := ⟨_, rfl⟩
  have hal : W0 = al w [(.cells #[.int .i64 s0, .int .i64 s1] 24), (.cells #[.slice none 0 0] 38)] := hW0
  have hb0 : Below w.heap.size w W0 := by rw [hal]; exact al_below w _ (Nat.le_refl _)
  have hs0 : W0.heap.size = w.heap.size + 2 := by rw [hal]; exact al_size w _
  have hr0 : W0.heap[w.heap.size]? = some (.cells #[.int .i64 s0, .int .i64 s1] 24 (0, 0)) := by rw [hal]; exact al_get w _ 0 _ rfl
  have hr1 : W0.heap[w.heap.size + 1]? = some (.cells #[.slice none 0 0] 38 (0, 0)) := by rw [hal]; exact al_get w _ 1 _ rfl
  obtain ⟨P, hP0⟩ : ∃ x, w.heap.size = x := ⟨_, rfl⟩
  rw [hP0] at hr0 hr1 hs0
  obtain ⟨T, hP1⟩ : ∃ x, P + 1 = x := ⟨_, rfl⟩
  rw [hP1] at hr1
  clear hal
  rw [hP0] at hrow
  have HROW := Lib.hid hrow
  have HS := Lib.hid (show w.heap.size = P ∧ T = P + 1 ∧ W0.heap.size = P + 2 from ⟨by omega, by omega, by omega⟩)
  have HB := Lib.hid hb0
  have H0 := Lib.hid hr0
  have H1 := Lib.hid hr1
  have HL0 := Lib.hid (hl.below hb0)
  clear hb0 hr0 hr1 hs0 hl hrow
  refine (callsIn_wide (n := 9)).1 ?_
  refine callsIn_of_wp_marks Try.func47 rfl trivial ?_ rfl
  simp only [Try.ntmps47, List.size_toArray, List.length_cons, List.length_nil, Nat.reduceAdd, Nat.reduceSub, Array.replicate_succ, Array.replicate_zero, List.push_toArray, List.append_toArray, List.nil_append, List.cons_append]
  replace hW0 := hW0.symm
  gi_wp2
  clear hW0 hP0 hP1
  refine ⟨trivial, callsIn_wide.2 ((pipes_any a l.length c W0).mono ?_)⟩
  rintro e W2 ⟨rfl, rfl⟩
  obtain ⟨B, hBs⟩ : ∃ x, W0.heap.size = x := ⟨_, rfl⟩
  obtain ⟨W2, hW2⟩ : ∃ X, W0.alloc (.cells #[.slice a l.length c] 68) = X := ⟨_, rfl⟩
  have hb2 : Below W0.heap.size W0 W2 := by rw [← hW2]; exact (Below.refl _ _).alloc (Nat.le_refl _) _
  have hs2 : W2.heap.size = B + 1 := by rw [← hW2, ← hBs]; simp
  have hr3 : W2.heap[B]? = some (.cells #[.slice a l.length c] 68 (0, 0)) := by rw [← hW2, ← hBs]; exact alloc_heap W0 _
  have hM : LMem B l a c W2 := ⟨hr3, HL0.out.below hb2⟩
  have h02 := box_step (w0 := w) H0.out hb2
  have h12 := box_step (w0 := w) H1.out hb2
  have HBW2 := Lib.hid (HB.out.trans (hb2.mono (by have := HS.out; omega)))
  have HS2 := Lib.hid (show w.heap.size = P ∧ T = P + 1 ∧ B = P + 2 ∧ W2.heap.size = P + 3 by have := HS.out; omega)
  rw [hW2, hBs]
  have H02 := Lib.hid h02
  clear hW2 hBs hb2 hs2 HL0 HS H0 H1 HB h02 hr3
  gi_wp2
  refine wpIn_rangeFunc_ownH rfl (by omega) (gf := 66) (lb := #[.pointer (some ⟨B, 0, none⟩)]) rfl trivial (enters_of Try.func66 (by kernel_rfl) rfl)
    (pipesX_stops W2.heap.size 8 (by omega) B l hok a c (fun k => k = T) (fun e => by have := HS2.out; omega) (fun b off e => by have := HROW.out b off e; have := HS2.out; exact ⟨by omega, by omega⟩) W2 (fun k e => by have := HS2.out; omega) hM)
    KeepX.trans (fun W l o o' _ hl hc _ => KeepX.of_grown (grownBy_putObj' W l o') (fun q e => by cases e; exact .inr (.inl (fun o2 h2 => by rw [hl] at h2; cases h2; exact hc)))) (Below.refl _ _) (fun _ => rfl)
    (fun pre W => OnlyE (fun k => k = T) W2 W ∧ ∃ v, W.heap[T]? = some (.cells #[v] 38 (0, 0)) ∧ W.ownsRow W2.heap.size 49 3 v (strL l (s0, s1) pre).length (flatK 3 stC (strL l (s0, s1) pre)))
    (fun cc pre W => False)
    (fun pre X Y row hs hg hr => by
      obtain ⟨s1, v, s2, s3⟩ := hs
      exact ⟨s1.far hg (fun q e => (hr q e).1), v, cells_kept s2 hg hr, own_far s3 hg (fun r e => (hr r e).2)⟩)
    (fun cc pre X Y row hs hg hr => hs)
    ⟨OnlyE.refl _ _, _, h12, ⟨rfl, .inl ⟨rfl, rfl⟩⟩⟩
    (fun i a' W => ∃ b, W2.heap.size ≤ b ∧ a' = { tmps := #[.slice a l.length c, .agg #[.int .i64 s0, .int .i64 s1], undef, .pointer (some ⟨P, 0, none⟩), .slice none 0 0, .pointer (some ⟨T, 0, none⟩), .int .i64 (clN l.length i : Nat), .pointer (some ⟨b, 0, none⟩), undef, .slice a l.length c, .func (.func 66) #[] #[.pointer (some ⟨B, 0, none⟩)], .int .i64 (clN l.length i : Nat), .agg #[.int .i64 (posF l (clN l.length i)), .int .i64 (posF l (clN l.length i + 1))], undef, undef, undef, undef, undef, undef, undef, undef, undef, undef, undef, undef, undef, undef, undef, undef, undef, undef, undef, undef, undef, undef, undef], defers := [] } ∧ W.heap[b]? = some (.cells #[.int .i64 (posF l (clN l.length i)), .int .i64 (posF l (clN l.length i + 1))] 24 (0, 0)))
    (fun i a' _ X Y row hs hg hr => by
      obtain ⟨b, h1, h2, h3⟩ := hs
      exact ⟨b, h1, h2, cells_kept h3 hg hr⟩)
    ?assign ?body ?done ?stop
  case stop =>
    rintro D cc pre W hD hpre h hK
    exact absurd h id
  case assign =>
    rintro l2 pre i W K2 hI hK
    unfold encL
    obtain ⟨u, hu⟩ : ∃ u, posF l (clN l.length i) = u := ⟨_, rfl⟩
    obtain ⟨u1, hu1⟩ : ∃ u, posF l (clN l.length i + 1) = u := ⟨_, rfl⟩
    rw [hu, hu1] at hK ⊢
    have hb4 : Below W.heap.size W (W.alloc (.cells #[.int .i64 u, .int .i64 u1] 24)) := (Below.refl _ _).alloc (Nat.le_refl _) _
    obtain ⟨i1, v, i2, i3⟩ := hI
    have HK := Lib.hid (hK _ _ (keeps_grown (n := W2.heap.size) (World.grownBy_alloc W (.cells #[.int .i64 u, .int .i64 u1] 24) none) (fun r o e _ => by cases e)) (KeepX.of_below hb4) ⟨i1.alloc _, v, box_step (w0 := w) i2 hb4, row_below i3 hb4⟩ ⟨W.heap.size, i1.size, rfl, alloc_heap W _⟩)
    clear hK hb4 i1 i2 i3 hu hu1
    gi_wp2
    exact HK.out
  case body =>
    rintro l2 pre i a' W hl ⟨rr, hrr⟩ ⟨i1, vv, i2, i3⟩ ⟨b, hb, rfl, h3⟩ hlt
    have hsn := strL_snoc l (s0, s1) pre i
    have hfew := strL_few l (s0, s1) pre
    have hcl := clN_lt (n := l.length) i (by omega)
    have hp0 := pos_small hok (i := clN l.length i) (by omega)
    have hp1 := pos_small hok (i := clN l.length i + 1) (by omega)
    have hpm := pos_mono hok (i := clN l.length i) (j := clN l.length i + 1) (by omega) (by omega)
    obtain ⟨k, hk⟩ : ∃ k, clN l.length i = k := ⟨_, rfl⟩
    rw [hk] at hsn hcl hp0 hp1 hpm h3 ⊢
    simp only [] at hsn
    obtain ⟨u, hu⟩ : ∃ u, posF l k = u := ⟨_, rfl⟩
    obtain ⟨u1, hu1⟩ : ∃ u, posF l (k + 1) = u := ⟨_, rfl⟩
    rw [hu] at hsn hp0 hpm h3 ⊢
    rw [hu1] at hsn hp1 hpm h3 ⊢
    have KC := Lib.hid (fun v X hX => cut_any s0 s1 [(u, u1)] v X hX)
    have hci := cutF_one (s0, s1) (u, u1)
    obtain ⟨⟨c0, c1⟩, hc⟩ : ∃ x, cutF (s0, s1) [(u, u1)] = x := ⟨_, rfl⟩
    simp only [hc] at KC hsn hci
    have KE := Lib.hid (fun X => isEmpty_any c0 c1 X)
    have hed : emptyF (c0, c1) = decide (c1 < c0) := rfl
    obtain ⟨em, hem⟩ : ∃ x, emptyF (c0, c1) = x := ⟨_, rfl⟩
    simp only [hem] at KE hsn
    rw [hem] at hed
    obtain ⟨LL, hLL⟩ : ∃ L, strL l (s0, s1) pre = L := ⟨_, rfl⟩
    rw [hLL] at hsn i3 hfew
    have h0W := i1.get H02.out (by have := HS2.out; omega)
    obtain ⟨x0, x1⟩ := two_cells h0W
    obtain ⟨y0, y1⟩ := two_cells h3
    have HI1 := Lib.hid i1
    have HI2 := Lib.hid i2
    have HI3 := Lib.hid i3
    have H3 := Lib.hid h3
    have HSN := Lib.hid hsn
    have HFEW := Lib.hid (show LL.length ≤ 1000 by omega)
    obtain ⟨W5, hW5⟩ : ∃ X, W.alloc (.cells #[.int .i64 u, .int .i64 u1] 24) = X := ⟨_, rfl⟩
    have hb5 : Below W.heap.size W W5 := by rw [← hW5]; exact (Below.refl _ _).alloc (Nat.le_refl _) _
    have hr5 : W5.heap[W.heap.size]? = some (.cells #[.int .i64 u, .int .i64 u1] 24 (0, 0)) := by rw [← hW5]; exact alloc_heap W _
    have KC5 := Lib.hid (KC.out _ W5 (tab_of_block (f := spC) (k := 2) (L := [(u, u1)]) hr5 (by simp)))
    have HB5 := Lib.hid hb5
    have HCI := Lib.hid hci
    have HED := Lib.hid hed
    clear hsn hfew hk hu hu1 hc hem hLL h0W i1 i2 i3 h3 hb5 hr5 hrr hci hed
    gi_wp2
    clear hW5 x0 x1 y0 y1
    refine ⟨trivial, CallsIn.inRound _ (callsIn_wide.2 (KC5.out.mono ?_))⟩
    rintro e W6 ⟨rfl, hb6⟩
    unfold spV
    simp only []
    have hb6' := HB5.out.trans (hb6.mono HB5.out.size)
    obtain ⟨C, hC⟩ : ∃ x, W6.heap.size = x := ⟨_, rfl⟩
    have hb7 := hb6'.trans (((Below.refl W6.heap.size W6).alloc (Nat.le_refl _) (.cells #[.int .i64 c0, .int .i64 c1] 24)).mono hb6'.size)
    obtain ⟨d0, d1⟩ := two_cells (alloc_heap W6 (.cells #[.int .i64 c0, .int .i64 c1] 24))
    have HB7 := Lib.hid hb7
    have HCs := Lib.hid (show W.heap.size ≤ C by rw [← hC]; exact hb6'.size)
    rw [hC] at d0 d1
    clear hb6 hb6' hb7
    gi_wp2
    obtain ⟨W7, hW7⟩ : ∃ X, W6.alloc (.cells #[.int .i64 c0, .int .i64 c1] 24) = X := ⟨_, rfl⟩
    rw [hW7] at HB7 d0 d1 ⊢
    have hr7 : W7.heap[C]? = some (.cells #[.int .i64 c0, .int .i64 c1] 24 (0, 0)) := by rw [← hW7, ← hC]; exact alloc_heap W6 _
    have HR7 := Lib.hid hr7
    clear hW7 hC hr7 d0 d1
    refine ⟨trivial, CallsIn.inRound _ (callsIn_wide.2 ((KE.out W7).mono ?_))⟩
    rintro e W8 ⟨rfl, hb8⟩
    have hb8' := HB7.out.trans (hb8.mono HB7.out.size)
    have HB8 := Lib.hid hb8'
    have hT8 := box_step (w0 := w) HI2.out hb8'
    have hR8 := row_below HI3.out hb8'
    have hC8 := box_step (w0 := w) HR7.out hb8
    have h38 := box_step (w0 := w) H3.out hb8'
    clear hb8 hb8'
    cases em with
    | true =>
      have HII := Lib.hid (show OnlyE (fun k => k = T) W2 W8 ∧ ∃ v, W8.heap[T]? = some (.cells #[v] 38 (0, 0)) ∧ W8.ownsRow W2.heap.size 49 3 v (strL l (s0, s1) (pre ++ [i])).length (flatK 3 stC (strL l (s0, s1) (pre ++ [i]))) from
        ⟨HI1.out.trans (.of_below HB8.out), vv, hT8, by rw [HSN.out]; exact hR8⟩)
      have HKF := Lib.hid (keeps_grown (n := W2.heap.size) (grown_of_below HB8.out) (fun r o e _ => by cases e))
      clear hT8 hR8 hC8 h38
      gi_wp2
      exact ⟨HKF.out, KeepX.of_below HB8.out, HII.out⟩
    | false =>
      have hne : ¬ c1 < c0 := by simpa using HED.out.symm
      have hci2 : c0 = max s0 u ∧ c1 = min s1 u1 := HCI.out
      have hsn2 : strL l (s0, s1) (pre ++ [i]) = LL ++ [⟨k, c0 - u, c1 - u⟩] := HSN.out
      obtain ⟨e0, he0⟩ : ∃ x, c0 - u = x := ⟨_, rfl⟩
      obtain ⟨e1, he1⟩ : ∃ x, c1 - u = x := ⟨_, rfl⟩
      rw [he0, he1] at hsn2
      have w1 : IntKind.i64.wrap (c0 - u) = e0 := by rw [he0]; exact IntWalk.i64_in _ (by omega)
      have w2 : IntKind.i64.wrap (c1 - u) = e1 := by rw [he1]; exact IntWalk.i64_in _ (by omega)
      clear hne hci2
      obtain ⟨W9, hW9⟩ : ∃ X, W8.alloc (.cells #[.int .i64 (k : Nat), .int .i64 e0, .int .i64 e1] 49) = X := ⟨_, rfl⟩
      obtain ⟨q, hq⟩ : ∃ x, W8.heap.size = x := ⟨_, rfl⟩
      have hb9 : Below W8.heap.size W8 W9 := by rw [← hW9]; exact (Below.refl _ _).alloc (Nat.le_refl _) _
      have hr9 : W9.heap[q]? = some (.cells #[.int .i64 (k : Nat), .int .i64 e0, .int .i64 e1] 49 (0, 0)) := by rw [← hW9, ← hq]; exact alloc_heap W8 _
      have hT9 := box_step (w0 := w) hT8 hb9
      have hR9 := row_below hR8 hb9
      have hWW9 := HB8.out.trans (hb9.mono HB8.out.size)
      obtain ⟨g, cp, W10, hrun, hown, hgb, hgrow⟩ := run_one 38 38 49 3 24 _ Try.underlying38 Try.info49 rfl (by decide) (by decide) W2.heap.size q hR9 [.int .i64 (k : Nat), .int .i64 e0, .int .i64 e1] rfl hr9 (by intro x hx; simp at hx; rcases hx with rfl | rfl | rfl <;> rfl) HFEW.out (by have := HI1.out.size; have := hWW9.size; omega)
      have hnb : ∀ r, vv.ownBlock = some r → W2.heap.size ≤ r ∧ ∃ cs, W9.heap[r]? = some (.cells cs 49 (0, 0)) := fun r hr => own_ty hR9 hr
      have hT10 : W10.heap[T]? = some (.cells #[vv] 38 (0, 0)) := (hgrow.block T (Array.getElem?_eq_some_iff.1 hT9).1 (fun e => by have := (hnb T e.symm).1; have := HS2.out; omega)).trans hT9
      have fT : W10.frozen? ⟨T, 0, none⟩ = false := frozen_of hT10
      have t8 := one_cell hT8
      have t10 := one_cell hT10
      have hz := set_one hT10 (.slice (some ⟨g, 0, none⟩) (LL.length + 1) cp)
      have hO : OnlyE (fun k => k = T) W2 (W10.setCell ⟨T, 0, none⟩ (.slice (some ⟨g, 0, none⟩) (LL.length + 1) cp)) :=
        OnlyE.set (E := fun k => k = T) ((HI1.out.trans (.of_below hWW9)).far hgrow (fun r hr => (hnb r hr).1)) rfl _
      have hX : KeepX W2.heap.size 49 (fun k => k = T) W (W10.setCell ⟨T, 0, none⟩ (.slice (some ⟨g, 0, none⟩) (LL.length + 1) cp)) :=
        (KeepX.of_below hWW9).trans ((KeepX.of_grown hgrow (fun r hr => by obtain ⟨h1, cs, h2⟩ := hnb r hr; exact .inr (.inr ⟨h1, cs, _, h2⟩))).trans (KeepX.of_grown (setCell_grown W10 ⟨T, 0, none⟩ _) (fun r hr => by cases hr; exact .inl rfl)))
      have hKF : KeepsFrom W2.heap.size W (W10.setCell ⟨T, 0, none⟩ (.slice (some ⟨g, 0, none⟩) (LL.length + 1) cp)) :=
        (keeps_grown (n := W2.heap.size) (grown_of_below hWW9) (fun r o e _ => by cases e)).trans ((keeps_grown hgrow (own_cells hR9)).trans (keeps_grown (setCell_grown W10 ⟨T, 0, none⟩ _) (fun r o hr ho => by cases hr; rw [hT10] at ho; cases ho; rfl)))
      have hrow2 := hown.kept (setCell_grown W10 ⟨T, 0, none⟩ (.slice (some ⟨g, 0, none⟩) (LL.length + 1) cp)) (.inr (by simp only [Value.ownBlock, ne_eq, Option.some.injEq]; have := HS2.out; omega))
      have HII := Lib.hid (show OnlyE (fun k => k = T) W2 (W10.setCell ⟨T, 0, none⟩ (.slice (some ⟨g, 0, none⟩) (LL.length + 1) cp)) ∧ ∃ v, (W10.setCell ⟨T, 0, none⟩ (.slice (some ⟨g, 0, none⟩) (LL.length + 1) cp)).heap[T]? = some (.cells #[v] 38 (0, 0)) ∧ (W10.setCell ⟨T, 0, none⟩ (.slice (some ⟨g, 0, none⟩) (LL.length + 1) cp)).ownsRow W2.heap.size 49 3 v (strL l (s0, s1) (pre ++ [i])).length (flatK 3 stC (strL l (s0, s1) (pre ++ [i]))) from
        ⟨hO, _, hz, by rw [hsn2, flat_snoc, List.length_append]; exact hrow2⟩)
      have HX := Lib.hid hX
      have HKF := Lib.hid hKF
      obtain ⟨d0, d1⟩ := two_cells hC8
      obtain ⟨y0, y1⟩ := two_cells h38
      clear hT8 hR8 hC8 h38 hb9 hr9 hT9 hR9 hWW9 hown hgb hgrow hnb hT10 hz hO hX hKF hrow2 hsn2 he0 he1
      gi_wp2_with (gi_at_builtin; refine wpListIn_append_run rfl _ _ 38 rfl rfl rfl hrun ?_)
      exact ⟨HKF.out, HX.out, HII.out⟩
  case done =>
    rintro D xs W hD rfl ⟨i1, vv, i2, i3⟩ hK
    rw [strL_range _ _ _ (Nat.le_refl _)] at i3
    have g0 := one_cell i2
    have HI1 := Lib.hid i1
    have HI3 := Lib.hid i3
    have HK := Lib.hid hK
    have HD := Lib.hid hD
    clear i1 i2 i3 hK hD hM h12
    gi_wp2
    refine ⟨by simp, .inl ⟨_, _, rfl, run_takeDeferred HK.out, ?_⟩⟩
    have hg := grownBy_putObj' W D (.deferred none)
    have hO : OnlyE (fun k => k = T ∨ k = D) W2 (W.putObj D (.deferred none)) :=
      ⟨hg.os.trans HI1.out.os, hg.tape.trans HI1.out.tape, hg.output.trans HI1.out.output, Nat.le_trans HI1.out.size hg.size, fun k hk he => (hg.block k (Nat.lt_of_lt_of_le hk HI1.out.size) (fun e => he (by cases e; exact .inr rfl))).trans (HI1.out.block k hk (fun e => he (.inl e)))⟩
    have hP := HS2.out
    refine ⟨_, results_tmp rfl _ _ _, vv, rfl, ?_, ?_⟩
    · exact own_base (own_far HI3.out hg (fun r e => by cases e; exact ⟨_, HK.out, rfl⟩)) (by omega)
    · exact HBW2.out.trans (hO.below (n := w.heap.size) (by omega) (by have := HD.out; intro k hk; omega))
end Go.Proofs.Ytdbjifpnbghbaaa
