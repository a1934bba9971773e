/- Size: which sizes starve no set. -/
import Derived.Test.YtlcmedfjghcigaaA10
import Derived.Maps.AppendAt
namespace Go.Proofs.Ytlcmedfjghcigaa
set_option linter.unusedSimpArgs false
set_option linter.unusedVariables false
open Go.RowKit Go.Shelf Go.Maps
attribute [local go_sem] Oper.semAt_some

def mark (D : Nat) : Deferred := { target := .collected D, args := #[] }
/-- what a function leaves behind its marks -/
theorem leaves_marks {fn : Func} {tmps : Array Value} {R : Ending → World → Prop} (G : World → Prop) (hE : ∀ W, G W → LeavesInM Fence.wide 9 Try.prog fn tmps R [] .returning W) :
    ∀ (ds : List Nat) (W : World), ds.Nodup → (∀ D ∈ ds, W.heap[D]? = some (.deferred (some []))) → (∀ X D, D ∈ ds → G X → X.heap[D]? = some (.deferred (some [])) → G (X.putObj D (.deferred none))) → G W → LeavesInM Fence.wide 9 Try.prog fn tmps R (ds.map mark) .returning W
  | [], W, _, _, _, h => hE W h
  | D :: ds, W, hn, hd, hg, h => by
    rw [List.nodup_cons] at hn
    have hD := hd D (List.mem_cons_self ..)
    refine ⟨by simp, .inl ⟨D, _, rfl, run_takeDeferred hD, ?_⟩⟩
    refine leaves_marks G hE ds _ hn.2 (fun E hE' => ?_) (fun X E hE' => hg X E (List.mem_cons_of_mem _ hE')) (hg W D (List.mem_cons_self ..) h hD)
    exact (World.putObj_heap_other (fun e => hn.1 (by rw [← e]; exact hE'))).trans (hd E (List.mem_cons_of_mem _ hE'))
/-- marks that stand open -/
structure Marks (B : Nat) (ds : List Nat) (W : World) : Prop where
  nd : ds.Nodup
  at_ : ∀ D ∈ ds, W.heap[D]? = some (.deferred (some []))
  ge : ∀ D ∈ ds, B ≤ D
theorem Marks.nil (B : Nat) (W : World) : Marks B [] W := ⟨List.nodup_nil, fun D h => (by cases h), fun D h => (by cases h)⟩
theorem Marks.only {B : Nat} {ds : List Nat} {X Y : World} (h : Marks B ds X) (k : OnlyE (fun _ => False) X Y) : Marks B ds Y := ⟨h.nd, fun D hD => k.get (h.at_ D hD) (fun e => e), h.ge⟩
theorem Marks.grown {B : Nat} {ds : List Nat} {X Y : World} {row : Option Nat} (h : Marks B ds X) (k : X.grownBy Y row) (hr : ∀ r o, row = some r → X.heap[r]? = some o → o.isCells = true) : Marks B ds Y :=
  ⟨h.nd, fun D hD => (k.block D (Array.getElem?_eq_some_iff.1 (h.at_ D hD)).1 (fun e => by have := hr D _ e.symm (h.at_ D hD); cases this)).trans (h.at_ D hD), h.ge⟩
theorem Marks.cons {B : Nat} {ds : List Nat} {X Y : World} {D : Nat} (h : Marks B ds X) (k : OnlyE (fun _ => False) X Y) (hD : Y.heap[D]? = some (.deferred (some []))) (hX : X.heap.size ≤ D) (hB : B ≤ D) : Marks B (D :: ds) Y :=
  ⟨List.nodup_cons.2 ⟨fun e => by have := (Array.getElem?_eq_some_iff.1 (h.at_ D e)).1; omega, h.nd⟩, fun E hE => by
    rcases List.mem_cons.1 hE with rfl | hE
    · exact hD
    · exact k.get (h.at_ E hE) (fun e => e), fun E hE => by
    rcases List.mem_cons.1 hE with rfl | hE
    · exact hB
    · exact h.ge E hE⟩
theorem row_only {E : Nat → Prop} {base e size n : Nat} {w w' : World} {v : Value} {xs : List Value} (h : w.ownsRow base e size v n xs) (hk : OnlyE E w w') (he : ∀ b, base ≤ b → ¬ E b) : w'.ownsRow base e size v n xs := by
  refine ⟨h.1, ?_⟩
  rcases h.2 with h | ⟨g, cap, cur, e1, h1, h2, h3⟩
  · exact .inl h
  · exact .inr ⟨g, cap, cur, e1, h1, hk.get h2 (he g h1), h3⟩
theorem Try.info3' : (Try.prog.info? 3).map (fun i => (i.zero, i.size, i.bytes)) = some (some (.int .i64 0), 1, 8) := by kernel_rfl
theorem wpList_append_run {ops : Array Oper} {rest : List Oper} {o : Oper} {a : Act} {w : World} {Q : Exit → Act → World → Prop} (hgd : o.guard = none) (s x : Operand) (t : TypeId) (ho : o.op = .call { callee := .builtin .append, args := #[s, x], argTypes := #[t, t] }) {v u v' : Value} {w' : World}
    (hs : a.eval s = v) (hx : a.eval x = u) (hr : (Builtin.append_ #[t, t] o.type #[v, u]).run Try.prog w = .ok v' w') (h : wpList Try.prog ops Q rest (a.put o.dst v') w') : wpList Try.prog ops Q (o :: rest) a w :=
  wpList_plain hgd fun K hK => by
    unfold Oper.wp execOp
    simp only [ho, resolve, invoke, builtin, Sem.run_bind, Sem.run_pure, Result.andThen_ok, List.map_toArray, List.map_cons, List.map_nil, hs, hx, hr]
    exact hK _ _ h
/-- one more element behind a row of the call's own -/
theorem run_one (t ty e : TypeId) (k bytes : Nat) (z : Value) (ht : Try.prog.underlying t = some (.slice e)) (hinfo : (Try.prog.info? e).map (fun i => (i.zero, i.size, i.bytes)) = some (some z, k, bytes))
    (hzs : z.cells.size = k) (hk : 0 < k) (hby : bytes ≤ 64) {w : World} (base q : Nat) {v : Value} {n : Nat} {F : List Value} (hown : w.ownsRow base e k v n F) (vals : List Value) (hvl : vals.length = k)
    (hq : w.heap[q]? = some (.cells vals.toArray e (0, 0))) (h1 : ∀ u ∈ vals, u.oneCell' = true) (hl : n ≤ 1000) (hbase : base ≤ w.heap.size) :
    ∃ g cp w', (Builtin.append_ #[t, t] ty #[v, .slice (some ⟨q, 0, none⟩) 1 1]).run Try.prog w = .ok (.slice (some ⟨g, 0, none⟩) (n + 1) cp) w' ∧ w'.ownsRow base e k (.slice (some ⟨g, 0, none⟩) (n + 1) cp) (n + 1) (F ++ vals) ∧ base ≤ g ∧ w.grownBy w' v.ownBlock := by
  obtain ⟨i0, hi, hz0, hz1, hz2⟩ := info_parts hinfo
  have hb : (n + 1) * bytes ≤ 140737488355328 := by
    have : (n + 1) * bytes ≤ 1001 * 64 := Nat.mul_le_mul (by omega) hby
    omega
  obtain ⟨v', w', hr, ha, hg, _, _⟩ := run_append_own_at (P := Try.prog) (w := w) base t ty e i0 z k bytes ht hi hz0 hz1 hz2 hzs hk v n F hown ⟨q, 0, none⟩ 1 1 vals (by rw [hvl, Nat.one_mul]) (fun j u hj => by
    rw [Addr.add_lit, Nat.zero_add]
    simp [World.cell?, hq, hj]) h1 (by unfold maxLen; omega) hb hbase
  have ha' := ha
  rcases ha.2 with ⟨_, h0⟩ | ⟨g, cap, cur, rfl, hbg, _⟩
  · omega
  · exact ⟨g, cap, w', hr, ha', hbg, hg⟩
def natC (n : Nat) : Nat → Int := fun _ => n
theorem enough_yes {h : Hs} {l : List Sz} {k : Nat} (e : fullF h l[k]! = true) : enoughUp h l (k + 1) = enoughUp h l k ++ [k] := by
  unfold enoughUp; rw [List.range_succ, List.filter_append]; simp only [List.filter_cons, List.filter_nil, e, if_true]
theorem enough_no {h : Hs} {l : List Sz} {k : Nat} (e : fullF h l[k]! = false) : enoughUp h l (k + 1) = enoughUp h l k := by
  unfold enoughUp; rw [List.range_succ, List.filter_append]; simp only [List.filter_cons, List.filter_nil, e, Bool.false_eq_true, if_false, List.append_nil]
theorem enough_few (h : Hs) (l : List Sz) (k : Nat) : (enoughUp h l k).length ≤ k := by
  unfold enoughUp
  exact Nat.le_trans (List.length_filter_le _ _) (by simp)
theorem full_no {h : Hs} {z : Sz} {x : Nat} (hx : x ∈ setsF h) (hb : badF h z x = true) : fullF h z = false := by
  unfold fullF
  rw [← Bool.not_eq_true, List.all_eq_true]
  intro hh
  have := hh x hx
  rw [hb] at this
  cases this
theorem full_yes {h : Hs} {z : Sz} (hb : ∀ x ∈ setsF h, badF h z x = false) : fullF h z = true := by
  unfold fullF
  rw [List.all_eq_true]
  intro x hx
  rw [hb x hx]; rfl
/-- a slice's row lies from a block on -/
def FreshAt (n : Nat) (v : Value) : Prop := ∀ a m c b off, v = .slice a m c → 0 < m → a = some ⟨b, off, none⟩ → n ≤ b
theorem fresh_own {X : World} {base e size n : Nat} {v : Value} {xs : List Value} (h : X.ownsRow base e size v n xs) {B : Nat} (hB : B ≤ base) : FreshAt B v := fun a m c b off e hm ha => by
  rcases h.2 with ⟨e1, h0⟩ | ⟨g, cap, cur, e1, h1, _⟩
  · rw [e1] at e; cases e; omega
  · rw [e1] at e
    simp only [Value.slice.injEq] at e
    rw [← e.1] at ha
    simp only [Option.some.injEq, Addr.mk.injEq] at ha
    omega
/-- what holds before round i -/
structure EH (h : Hs) (l : List Sz) (P : Nat) (W0 : World) (i : Nat) (ds : List Nat) (ov : Value) (w : World) : Prop where
  le : i ≤ l.length
  below : Below W0.heap.size W0 w
  row : w.ownsRow (P + 1) 3 1 ov (enoughUp h l i).length ((enoughUp h l i).map (fun n : Nat => Value.int .i64 n))
  marks : Marks (P + 1) ds w
set_option maxRecDepth 100000 in
set_option maxHeartbeats 6400000 in
theorem enough_any (h : Hs) (hok : hsOk h = true) (a1 : Option Addr) (c1 : Nat) (a2 : Option Addr) (c2 M : Nat) (l : List Sz) (v : Value) (hlen : l.length ≤ 100) (hsz : ∀ i, i < l.length → SzSane (l.getD i default)) (w : World) (hd : DAt w h a1 c1 a2 c2 M) (hl : TabAt 4 szC w v l) : Calls Try.prog 45 #[dV h a1 c1 a2 c2 M, v] w fun e w' => ∃ u, e = .returned u ∧ TabAt 1 natC w' u (enoughF h l) ∧ FreshAt w.heap.size u ∧ Below w.heap.size w w' := by
  obtain ⟨la, lc, rfl⟩ := hl.shape
  have mt : h.tp.length ≤ 9223372036854775807 := hd.tp.1
  have ml : l.length ≤ 9223372036854775807 := hl.1
  obtain ⟨W0, hW0⟩ : ∃ X, X = w.alloc (.cells #[.int .i64 h.head, .int .i64 h.drip, .slice a1 h.tp.length c1, .slice a2 h.rl.length c2, .map (some M)] 72) := ⟨_, rfl⟩
  have hal : W0 = al w [(.cells #[.int .i64 h.head, .int .i64 h.drip, .slice a1 h.tp.length c1, .slice a2 h.rl.length c2, .map (some M)] 72)] := hW0
  have hb0 : Below w.heap.size w W0 := by rw [hal]; exact al_below w _ (Nat.le_refl _)
  have hs0 : W0.heap.size = w.heap.size + 1 := by rw [hal]; exact al_size w _
  have hr0 : W0.heap[w.heap.size]? = some (.cells #[.int .i64 h.head, .int .i64 h.drip, .slice a1 h.tp.length c1, .slice a2 h.rl.length c2, .map (some M)] 72 (0, 0)) := by rw [hal]; exact al_get w _ 0 _ rfl
  obtain ⟨P, hP0⟩ : ∃ x, w.heap.size = x := ⟨_, rfl⟩
  rw [hP0] at hr0 hs0
  clear hal
  rw [hP0] at hb0
  have HS := Lib.hid (show w.heap.size = P ∧ W0.heap.size = P + 1 from ⟨by omega, by omega⟩)
  have HB := Lib.hid hb0
  have H0 := Lib.hid hr0
  have HD0 := Lib.hid (hd.below (by rw [hP0]; exact hb0))
  have HL0 := Lib.hid (hl.below (by rw [hP0]; exact hb0))
  have HSZ := Lib.hid hsz
  clear hb0 hr0 hs0 hd hl hsz
  unfold dV setsCells
  refine (callsIn_wide (n := 9)).1 ?_
  refine callsIn_of_wp_marks Try.func45 rfl trivial ?_ rfl
  simp only [Try.ntmps45, List.size_toArray, List.length_cons, List.length_nil, Nat.reduceAdd, Nat.reduceSub, Array.replicate_succ, Array.replicate_zero, List.push_toArray, List.append_toArray, List.nil_append, List.cons_append]
  replace hW0 := hW0.symm
  gi_wp2
  clear hW0 hP0
  refine wpIn_wide.2 ?_
  go_step3
  go_wp2_with fail
  go_step3
  go_wp2_with fail
  refine wp_loop (I := fun a w => ∃ (i : Nat) (ds : List Nat) (ov u6 u7 u8 u12 u13 u14 u15 u16 u17 u18 u19 u20 u21 u22 u23 u24 u25 u26 u27 u28 u29 u30 : Value), a = ⟨#[.agg #[.int .i64 h.head, .int .i64 h.drip, .slice a1 h.tp.length c1, .slice a2 h.rl.length c2, .map (some M)], .slice la l.length lc, .pointer (some ⟨P, 0, none⟩), undef, .slice none 0 0, ov, u6, u7, u8, .slice la l.length lc, .int .i64 (l.length : Nat), .int .i64 (i : Nat), u12, u13, u14, u15, u16, u17, u18, u19, u20, u21, u22, u23, u24, u25, u26, u27, u28, u29, u30], ds.map mark⟩ ∧ EH h l P W0 i ds ov w) (μ := fun a _ => l.length - (intOf (a.tmps.getD 11 undef)).toNat) ?_ ?_
  · exact ⟨0, [], _, _, _, _, _, _, _, _, _, _, _, _, _, _, _, _, _, _, _, _, _, _, _, rfl, ⟨by omega, Below.refl _ _, by simpa [enoughUp] using World.ownsRow_nil W0 (P + 1) 3 1, .nil _ _⟩⟩
  · rintro a wr ⟨i, ds, ov, u6, u7, u8, u12, u13, u14, u15, u16, u17, u18, u19, u20, u21, u22, u23, u24, u25, u26, u27, u28, u29, u30, rfl, hH⟩
    have hle := hH.le
    have hbw := hH.below
    have hdr := HD0.out.below hbw
    have hlr := HL0.out.below hbw
    have hPr := box_step (w0 := w) H0.out hbw
    have hsr : P + 1 ≤ wr.heap.size := by have := hbw.size; have := HS.out; omega
    have HH := Lib.hid hH
    clear hH
    by_cases hlt : i < l.length
    · obtain ⟨lb, lo, e1, hlb, hlx⟩ := hlr.at (by omega)
      subst e1
      have x0 := hlx i hlt 0 (by omega)
      have x1 := hlx i hlt 1 (by omega)
      have x2 := hlx i hlt 2 (by omega)
      have x3 := hlx i hlt 3 (by omega)
      have hsane := HSZ.out i hlt
      have hyes := enough_yes (h := h) (l := l) (k := i)
      have hno := enough_no (h := h) (l := l) (k := i)
      rw [← getD_bang l hlt] at hyes hno
      obtain ⟨⟨s0, s1, s2, s3⟩, hrow⟩ : ∃ x : Sz, l.getD i default = x := ⟨_, rfl⟩
      rw [hrow] at x0 x1 x2 x3 hsane hyes hno
      simp only [Nat.add_zero, szC] at x0 x1 x2 x3
      have ij1 : (i : Int) < (l.length : Int) := Int.ofNat_lt.2 hlt
      obtain ⟨Z, hZ⟩ : ∃ x, wr.heap.size = x := ⟨_, rfl⟩
      obtain ⟨W1, hW1⟩ : ∃ X, wr.alloc (.cells #[.int .i64 s0, .int .i64 s1, .int .i64 s2, .int .i64 s3] 27) = X := ⟨_, rfl⟩
      have hb1 : Below wr.heap.size wr W1 := by rw [← hW1]; exact (Below.refl _ _).alloc (Nat.le_refl _) _
      have hz1 : W1.heap.size = Z + 1 := by rw [← hW1, ← hZ]; simp
      have hZ1 : W1.heap[Z]? = some (.cells #[.int .i64 s0, .int .i64 s1, .int .i64 s2, .int .i64 s3] 27 (0, 0)) := by rw [← hW1, ← hZ]; exact alloc_heap wr _
      have hP1 := box_step (w0 := w) hPr hb1
      obtain ⟨y0, y1, y2, y3, y4⟩ := five_cells hP1
      have HD1 := Lib.hid (hdr.below hb1)
      have HP1 := Lib.hid hP1
      have HZ1 := Lib.hid hZ1
      have HZS := Lib.hid (show P + 1 ≤ Z ∧ wr.heap.size = Z ∧ W1.heap.size = Z + 1 from ⟨by omega, hZ, hz1⟩)
      have HB1 := Lib.hid hb1
      have HYES := Lib.hid hyes
      have HNO := Lib.hid hno
      have HSA := Lib.hid hsane
      clear hlx hrow hyes hno hsane hb1 hz1 hZ1 hP1 hPr hdr hsr hbw hlr hlb
      go_wp2_with (go_at_call 42; fail)
      clear hW1 hZ x0 x1 x2 x3
      refine (sets_any h a1 c1 a2 c2 M W1).mono ?_
      rintro e W2 ⟨rfl, rfl⟩
      obtain ⟨B, hBs⟩ : ∃ x, W1.heap.size = x := ⟨_, rfl⟩
      obtain ⟨W2, hW2⟩ : ∃ X, W1.alloc (.cells (setsCells h a1 c1 a2 c2 M) 72) = X := ⟨_, rfl⟩
      have hb2 : Below W1.heap.size W1 W2 := by rw [← hW2]; exact (Below.refl _ _).alloc (Nat.le_refl _) _
      have hs2 : W2.heap.size = B + 1 := by rw [← hW2, ← hBs]; simp
      have hr3 : W2.heap[B]? = some (.cells (setsCells h a1 c1 a2 c2 M) 72 (0, 0)) := by rw [← hW2, ← hBs]; exact alloc_heap W1 _
      have hd2 := HD1.out.below hb2
      have hP2 := box_step (w0 := w) HP1.out hb2
      have hZ2 := box_step (w0 := w) HZ1.out hb2
      have hbr2 := HB1.out.trans (hb2.mono (by have := HZS.out; omega))
      have HS2 := Lib.hid (show P + 1 ≤ Z ∧ wr.heap.size = Z ∧ B = Z + 1 ∧ W2.heap.size = Z + 2 by have := HZS.out; omega)
      rw [hW2, hBs]
      have hHm := HH.out.marks.only (.of_below hbr2)
      have HD2 := Lib.hid hd2
      have HP2 := Lib.hid hP2
      have HZ2 := Lib.hid hZ2
      have HBR2 := Lib.hid hbr2
      have HM2 := Lib.hid hHm
      have hSM : SMem B h a1 c1 a2 c2 M W2 := ⟨hr3, hd2.rl⟩
      have hpw := pow_table (few_taps hok).2
      have HPW := Lib.hid hpw
      clear hW2 hBs hb2 hs2 hd2 hP2 hZ2 hbr2 hHm hpw HD1 HP1 HZ1 HB1 HZS y0 y1 y2 y3 y4
      go_wp2_with fail
      refine (wpIn_wide (n := 9)).1 ?_
      refine wpIn_rangeFunc_ownH rfl (by omega) (gf := 56) (lb := #[.pointer (some ⟨B, 0, none⟩)]) rfl trivial (enters_of Try.func56 (by kernel_rfl) rfl)
        (sets_stops 8 (by omega) B h hok a1 c1 a2 c2 M (fun _ => False) (fun e => e) (fun _ _ _ _ e => e) W2 hSM)
        KeepE.trans (fun W l o o' _ hl hc _ => KeepE.of_grown (grownBy_putObj' W l o') (fun q e => by cases e; exact .inr (fun o2 h2 => by rw [hl] at h2; cases h2; exact hc))) (Below.refl _ _) (fun _ => rfl)
        (fun pre W => pre.length ≤ 2 ^ h.tp.length ∧ OnlyE (fun _ => False) W2 W ∧ ∀ x ∈ pre.map (clS (setsF h)), badF h ⟨s0, s1, s2, s3⟩ x = false)
        (fun cc pre W => cc = .exit 1 ∧ OnlyE (fun _ => False) W2 W ∧ ∃ x ∈ setsF h, badF h ⟨s0, s1, s2, s3⟩ x = true)
        (fun pre X Y row hs hg hr => ⟨hs.1, hs.2.1.far hg (fun q e => (hr q e).1), hs.2.2⟩)
        (fun cc pre X Y row hs hg hr => ⟨hs.1, hs.2.1.far hg (fun q e => (hr q e).1), hs.2.2⟩)
        ⟨by simp, OnlyE.refl _ _, fun x hx => by cases hx⟩
        (fun x a' W => a' = { tmps := #[.agg #[.int .i64 h.head, .int .i64 h.drip, .slice a1 h.tp.length c1, .slice a2 h.rl.length c2, .map (some M)], .slice (some ⟨lb, lo, none⟩) l.length lc, .pointer (some ⟨P, 0, none⟩), undef, .slice none 0 0, ov, .int .i64 (i : Nat), .pointer (some ⟨Z, 0, none⟩), .int .i64 (clS (setsF h) x : Nat), .slice (some ⟨lb, lo, none⟩) l.length lc, .int .i64 (l.length : Nat), .int .i64 (i : Nat), .bool true, .int .i64 (i : Nat), .pointer (some ⟨lb, lo + i * 4, none⟩), .agg #[.int .i64 s0, .int .i64 s1, .int .i64 s2, .int .i64 s3], .agg #[.int .i64 h.head, .int .i64 h.drip, .slice a1 h.tp.length c1, .slice a2 h.rl.length c2, .map (some M)], .func (.func 56) #[] #[.pointer (some ⟨B, 0, none⟩)], .int .i64 (clS (setsF h) x : Nat), u19, u20, u21, u22, u23, u24, u25, u26, u27, u28, u29, u30], defers := [] })
        (fun x a' _ X Y row hs hg hr => hs)
        ?assign ?body ?done ?stop
      case assign =>
        rintro l2 pre x W K2 hI hK
        unfold encS
        gi_wp2
        exact hK _ _ (KeepsFrom.refl _ _) (KeepE.refl _ _) hI rfl
      case body =>
        rintro l2 pre x a' W hl ⟨rr, hrr⟩ ⟨i1, i2, i3⟩ rfl hlt2
        have hcm := clS_mem x (sets_ne hok)
        have hmp : (pre ++ [x]).map (clS (setsF h)) = pre.map (clS (setsF h)) ++ [clS (setsF h) x] := by simp
        obtain ⟨y, hy⟩ : ∃ y, clS (setsF h) x = y := ⟨_, rfl⟩
        rw [hy] at hcm hmp ⊢
        have hbW := i2.below (Nat.le_refl _) (fun k e => e.elim)
        have hdW := HD2.out.below hbW
        have KF := find_any h hok a1 c1 a2 c2 M ⟨s0, s1, s2, s3⟩ HSA.out y hcm W hdW
        have hP3 := i2.get HP2.out (fun e => e)
        have hZ3 := i2.get HZ2.out (fun e => e)
        obtain ⟨y0, y1, y2, y3, y4⟩ := five_cells hP3
        obtain ⟨z0, z1, z2, z3⟩ := four_cells hZ3
        have hbad : badF h ⟨s0, s1, s2, s3⟩ y = decide (findF h ⟨s0, s1, s2, s3⟩ y ≠ (false, false)) := rfl
        obtain ⟨⟨f1, f2⟩, hf⟩ : ∃ f, findF h ⟨s0, s1, s2, s3⟩ y = f := ⟨_, rfl⟩
        rw [hf] at KF hbad
        simp only [fiV] at KF
        unfold dV setsCells szV at KF
        simp only [] at KF
        have KFF := Lib.hid KF
        have HBAD := Lib.hid hbad
        have HI2 := Lib.hid i2
        have HI3 := Lib.hid i3
        have HMP := Lib.hid hmp
        have HCM := Lib.hid hcm
        clear KF hbad hf i2 i3 hmp hcm hbW hdW hP3 hZ3 hy
        gi_wp2
        refine ⟨trivial, CallsIn.inRound _ (callsIn_wide.2 (KFF.out.mono ?_))⟩
        rintro e W3 ⟨rfl, hb3⟩
        have HO3 := Lib.hid (show OnlyE (fun _ => False) W W3 from .of_below hb3)
        clear hb3 y0 y1 y2 y3 y4 z0 z1 z2 z3
        by_cases hg : f1 = false ∧ f2 = false
        · obtain ⟨rfl, rfl⟩ := hg
          have HB := Lib.hid (show badF h ⟨s0, s1, s2, s3⟩ y = false by rw [HBAD.out]; rfl)
          gi_wp2
          exact ⟨HO3.out.from (by intro k hk; exact hk.elim), HO3.out.keep, by simp; omega, HI2.out.trans HO3.out, fun z hz => by
            rw [HMP.out] at hz
            rcases List.mem_append.1 hz with hz | hz
            · exact HI3.out z hz
            · simp at hz; rw [hz]; exact HB.out⟩
        · have HB := Lib.hid (show badF h ⟨s0, s1, s2, s3⟩ y = true by
            rw [HBAD.out]
            simp only [ne_eq, Prod.mk.injEq, decide_eq_true_eq]
            exact hg)
          have hne : f1 = true ∨ f2 = true := by
            cases f1 <;> cases f2 <;> simp at hg ⊢
          clear hg
          rcases hne with rfl | rfl
          · gi_wp2
            exact ⟨HO3.out.from (by intro k hk; exact hk.elim), rfl, HI2.out.trans HO3.out, y, HCM.out, HB.out⟩
          · cases f1
            all_goals
              gi_wp2
              exact ⟨HO3.out.from (by intro k hk; exact hk.elim), rfl, HI2.out.trans HO3.out, y, HCM.out, HB.out⟩
      case done =>
        rintro D xs W hD rfl ⟨i1, i2, i3⟩ hK
        rw [clS_map] at i3
        have HE := Lib.hid (HYES.out (full_yes i3))
        have hbW := HBR2.out.trans ((i2.below (Nat.le_refl _) (fun k e => e.elim)).mono HBR2.out.size)
        have hOr : OnlyE (fun _ => False) wr W := .of_below hbW
        have hm := HH.out.marks.cons hOr hK (by have := HS2.out; omega) (by have := HS2.out; omega)
        have hrow := row_only HH.out.row hOr (fun _ _ e => e)
        have hbl := HH.out.below.trans (hbW.mono HH.out.below.size)
        have hfew := enough_few h l i
        obtain ⟨q, hq⟩ : ∃ q, W.heap.size = q := ⟨_, rfl⟩
        obtain ⟨W3, hW3⟩ : ∃ X, W.alloc (.cells #[.int .i64 (i : Nat)] 3) = X := ⟨_, rfl⟩
        have hb3 : Below W.heap.size W W3 := by rw [← hW3]; exact (Below.refl _ _).alloc (Nat.le_refl _) _
        have hq3 : W3.heap[q]? = some (.cells #[.int .i64 (i : Nat)] 3 (0, 0)) := by rw [← hW3, ← hq]; exact alloc_heap W _
        have hrow3 := row_below hrow hb3
        have hm3 := hm.only (.of_below hb3)
        have hbl3 := hbl.trans (hb3.mono hbl.size)
        obtain ⟨g, cp, W4, hrun, hown, hgb, hgrow⟩ := run_one 89 89 3 1 8 (.int .i64 0) Try.underlying89 Try.info3' rfl (by decide) (by decide) (P + 1) q hrow3 [.int .i64 (i : Nat)] rfl hq3 (by intro u hu; simp at hu; rw [hu]; rfl) (by omega) (by have := hbl3.size; have := HS.out; omega)
        have hm4 := hm3.grown hgrow (own_cells hrow3)
        have hbl4 : Below W0.heap.size W0 W4 := hbl3.grown hgrow hbl3.size (fun r e => by have := (hrow3.lt r e).1; have := HS.out; omega)
        rw [← List.map_singleton (f := fun n : Nat => Value.int .i64 (n : Nat)), ← List.map_append, ← HE.out] at hown
        have HM4 := Lib.hid hm4
        have HBL4 := Lib.hid hbl4
        have HOWN := Lib.hid hown
        have HRUN := Lib.hid hrun
        have hlenE : (enoughUp h l i).length + 1 = (enoughUp h l (i + 1)).length := by rw [HE.out]; simp
        have HLE := Lib.hid hlenE
        clear hm hm3 hm4 hrow hrow3 hbl hbl3 hbl4 hown hrun hq3 hb3 hOr hbW hK hD i1 i2 i3 hr3 hSM hgrow hlenE
        go_wp2_with (at_builtin; refine wpList_append_run rfl (.tmp 25) (.tmp 27) 89 rfl rfl rfl HRUN.out ?_)
        clear hW3 hq
        go_wp2
        rw [show Value.int .i64 ((i : Int) + 1) = .int .i64 ((i + 1 : Nat) : Int) by go_num]
        refine ⟨⟨i + 1, D :: ds, _, _, _, _, _, _, _, _, _, _, _, _, _, _, _, _, _, _, _, _, _, _, _, rfl, ⟨by omega, HBL4.out, by rw [← HLE.out]; exact HOWN.out, HM4.out⟩⟩, ?_⟩
        simp [intOf]; omega
      case stop =>
        rintro D cc pre W hD hpre ⟨rfl, i2, y, hy1, hy2⟩ hK
        have HE := Lib.hid (HNO.out (full_no hy1 hy2))
        have hbW := HBR2.out.trans ((i2.below (Nat.le_refl _) (fun k e => e.elim)).mono HBR2.out.size)
        have hOr : OnlyE (fun _ => False) wr W := .of_below hbW
        have hm := HH.out.marks.cons hOr hK (by have := HS2.out; omega) (by have := HS2.out; omega)
        have hrow := row_only HH.out.row hOr (fun _ _ e => e)
        have hbl := HH.out.below.trans (hbW.mono HH.out.below.size)
        rw [← HE.out] at hrow
        have HM := Lib.hid hm
        have HROW := Lib.hid hrow
        have HBL := Lib.hid hbl
        clear hm hrow hbl hK hD i2 hy1 hy2 hpre hr3 hSM hbW hOr
        refine wpIn_wide.2 ?_
        go_wp2
        rw [show Value.int .i64 ((i : Int) + 1) = .int .i64 ((i + 1 : Nat) : Int) by go_num]
        refine ⟨⟨i + 1, D :: ds, _, _, _, _, _, _, _, _, _, _, _, _, _, _, _, _, _, _, _, _, _, _, _, rfl, ⟨by omega, HBL.out, HROW.out, HM.out⟩⟩, ?_⟩
        simp [intOf]; omega
    · have hil : i = l.length := by omega
      have i1 : ¬ (i : Int) < (l.length : Int) := by omega
      have hnat : ∀ L : List Nat, L.map (fun n : Nat => Value.int .i64 (n : Int)) = flatK 1 natC L := fun L => by
        unfold flatK natC
        induction L with
        | nil => rfl
        | cons a L ih => rw [List.map_cons, ih]; rfl
      have hfin : ∀ X : World, X.ownsRow (P + 1) 3 1 ov (enoughF h l).length ((enoughF h l).map (fun n : Nat => Value.int .i64 n)) → TabAt 1 natC X ov (enoughF h l) := fun X hr => by
        rw [hnat] at hr
        exact tab_of_own hr rfl (by have := enough_few h l l.length; show (enoughUp h l l.length).length ≤ maxLen; unfold maxLen; omega)
      have hrow := HH.out.row
      rw [hil] at hrow
      have HF := Lib.hid hfin
      have HBW := Lib.hid (HB.out.trans (hbw.mono (by have := HS.out; omega)))
      have HMK := Lib.hid HH.out.marks
      have HRW := Lib.hid hrow
      clear hil hlt hbw hdr hlr hPr HH hle hnat hfin hrow
      go_wp2
      refine leaves_marks (fun X => X.ownsRow (P + 1) 3 1 ov (enoughF h l).length ((enoughF h l).map (fun n : Nat => Value.int .i64 n)) ∧ Below P w X) (fun X hX => ⟨ov, (by simp [results, Try.results45]), ov, rfl, HF.out X hX.1, fresh_own hX.1 (by have := HS.out; omega), by rw [HS.out.1]; exact hX.2⟩) ds wr HMK.out.nd HMK.out.at_ (fun X D hD hX hXD => ?_) ⟨HRW.out, HBW.out⟩
      have hg := grownBy_putObj' X D (.deferred none)
      exact ⟨own_far hX.1 hg (fun r e => by cases e; exact ⟨_, hXD, rfl⟩), hX.2.grown hg (by have := hX.2.size; have := HS.out; omega) (fun r e => by cases e; have := HMK.out.ge D hD; omega)⟩
end Go.Proofs.Ytlcmedfjghcigaa
