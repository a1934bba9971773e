/- Term: the walk of TermOrder. -/
import Derived.Test.YtcmfplfnpjknlaaA29
import Derived.Test.YtcmfplfnpjknlaaA27
import Derived.Test.YtcmfplfnpjknlaaB31
import Derived.Test.YtcmfplfnpjknlaaM7
import Derived.Test.YtcmfplfnpjknlaaG1
import Derived.Lib.QuietBelow
namespace Go.Proofs.Ytcmfplfnpjknlaa
set_option linter.unusedSimpArgs false
set_option linter.unusedVariables false
open Go.RowKit Go.Maps

theorem own_below {X Y : World} {base : Nat} {e : TypeId} {k n : Nat} {v : Value} {xs : List Value} {B : Nat} (h : X.ownsRow base e k v n xs) (hb : Below B X Y) (hB : B = X.heap.size := by rfl) : Y.ownsRow base e k v n xs := by
  subst hB
  refine ⟨h.1, ?_⟩
  rcases h.2 with h | ⟨g, cap, cur, e1, h1, h2, h3⟩
  · exact .inl h
  · exact .inr ⟨g, cap, cur, e1, h1, (hb.block g (Array.getElem?_eq_some_iff.1 h2).1).trans h2, h3⟩
theorem own_apart {w : World} {b1 b2 : Nat} {e1 e2 : TypeId} {k1 k2 n1 n2 : Nat} {v1 v2 : Value} {x1 x2 : List Value} (h1 : w.ownsRow b1 e1 k1 v1 n1 x1) (h2 : w.ownsRow b2 e2 k2 v2 n2 x2) (he : e1 ≠ e2) : v1.ownBlock = none ∨ v1.ownBlock ≠ v2.ownBlock := by
  rcases h1.2 with ⟨rfl, _⟩ | ⟨g, cap, cur, rfl, _, hg, _⟩
  · exact .inl rfl
  · right
    rcases h2.2 with ⟨rfl, _⟩ | ⟨g', cap', cur', rfl, _, hg', _⟩
    · simp [Value.ownBlock]
    · simp only [Value.ownBlock, ne_eq, Option.some.injEq]
      intro e
      subst e
      rw [hg] at hg'
      simp at hg'
      exact he hg'.2
theorem own_off {w : World} {B : Nat} {e : TypeId} {k n : Nat} {v : Value} {xs : List Value} (h : w.ownsRow (B + 1) e k v n xs) : v.ownBlock = none ∨ v.ownBlock ≠ some B := by
  rcases h.2 with ⟨rfl, _⟩ | ⟨g, cap, cur, rfl, hb, hg, _⟩
  · exact .inl rfl
  · right; simp [Value.ownBlock]; omega
theorem getD_bang' {α : Type} [Inhabited α] (l : List α) {k : Nat} (hk : k < l.length) : l.getD k default = l[k]! := by
  rw [getElem!_pos l k hk, List.getD, List.getElem?_eq_getElem hk]; rfl
def At1 (WB w : World) (Xb : Nat) (cv : Value) (rs : List Row) (t j : Nat) : Prop := ∃ v1, w.heap[Xb]? = some (.cells #[cv, v1, .slice none 0 0, .slice none 0 0] 27 (0, 0)) ∧ w.ownsRow (Xb + 1) 42 4 v1 j (flatK 4 rowC ((rotF rs t).take j)) ∧ Below WB.heap.size WB w
def At2 (WB w : World) (Xb : Nat) (cv v1 : Value) (rs : List Row) (bs : List (Int × Int)) (t j : Nat) : Prop := ∃ v3, w.heap[Xb]? = some (.cells #[cv, v1, .slice none 0 0, v3] 27 (0, 0)) ∧ w.ownsRow (Xb + 1) 43 2 v3 j (flatK 2 brkC ((rotF bs t).take j)) ∧ w.ownsRow (Xb + 1) 42 4 v1 rs.length (flatK 4 rowC (rotF rs t)) ∧ Below WB.heap.size WB w
def At3 (WB w : World) (Xb : Nat) (cv v1 v3 : Value) (rs : List Row) (bs : List (Int × Int)) (ps : List Prf) (t j : Nat) : Prop := ∃ v2 F, w.heap[Xb]? = some (.cells #[cv, v1, v2, v3] 27 (0, 0)) ∧ w.ownsRow (Xb + 1) 52 4 v2 j F ∧ PrfVals WB F ((rotF ps t).take j) ∧ w.ownsRow (Xb + 1) 42 4 v1 rs.length (flatK 4 rowC (rotF rs t)) ∧ w.ownsRow (Xb + 1) 43 2 v3 bs.length (flatK 2 brkC (rotF bs t)) ∧ Below WB.heap.size WB w
def Twice (ps : List Prf) (j : Nat) (b : Bool) : Prop := b = twiceF ps j
theorem At3.below' {WB w : World} {Xb : Nat} {cv v1 v3 : Value} {rs : List Row} {bs : List (Int × Int)} {ps : List Prf} {t j : Nat} (h : At3 WB w Xb cv v1 v3 rs bs ps t j) : Below WB.heap.size WB w := by
  obtain ⟨_, _, _, _, _, _, _, h⟩ := h
  exact h
theorem At3.drewN {WB w : World} {Xb : Nat} {cv v1 v3 : Value} {rs : List Row} {bs : List (Int × Int)} {ps : List Prf} {t j : Nat} (h : At3 WB w Xb cv v1 v3 rs bs ps t j) (q : Nat) : At3 WB (w.drewN q) Xb cv v1 v3 rs bs ps t j := by
  obtain ⟨v2, F, h1, h2, h3, h4, h5, h6⟩ := h
  have hb := below_drewn (Below.refl w.heap.size w) q
  exact ⟨v2, F, box_step (w0 := w) h1 hb, own_below h2 hb, h3, own_below h4 hb, own_below h5 hb, below_drewn h6 q⟩
def TwiceIn (ps : List Prf) (j : Nat) (b : Bool) (k : Nat) (c : Bool) : Prop := c = (b || (List.range k).any (fun a => decide (ps[j]!.day = ps[a]!.day)))
theorem twice_in {ps : List Prf} {j k : Nat} {b c : Bool} (h : TwiceIn ps j b k c) : TwiceIn ps j b (k + 1) (c || (ps[j]!.day == ps[k]!.day)) := by
  unfold TwiceIn at *
  rw [List.range_succ, List.any_append, ← Bool.or_assoc, ← h]
  simp only [List.any_cons, List.any_nil, Bool.or_false]
  rfl
theorem twice_out {ps : List Prf} {j : Nat} {b c : Bool} (h : Twice ps j b) (k : TwiceIn ps j b j c) : Twice ps (j + 1) c := by
  unfold Twice TwiceIn twiceF at *
  rw [List.range_succ, List.any_append, ← h, k]
  simp
def Prf3 (WB w : World) (Xb : Nat) (R2 PV : Value) (ps : List Prf) (t : Nat) : Prop := (twiceF ps ps.length = true ∧ R2 = PV) ∨ (twiceF ps ps.length = false ∧ ∃ F, w.ownsRow (Xb + 1) 52 4 R2 ps.length F ∧ PrfVals WB F (rotF ps t))
theorem own_shape {w : World} {base : Nat} {e : TypeId} {k n : Nat} {v : Value} {xs : List Value} (h : w.ownsRow base e k v n xs) : ∃ a c, v = .slice a n c := by
  rcases h.2 with ⟨rfl, rfl⟩ | ⟨g, cap, cur, rfl, _⟩
  · exact ⟨none, 0, rfl⟩
  · exact ⟨_, _, rfl⟩
theorem wpList_append_run {ops : Array Oper} {rest : List Oper} {o : Oper} {a : Act} {w : World} {Q : Exit → Act → World → Prop} (hgd : o.guard = none) (s x : Operand) (t : TypeId) (ho : o.op = .call { callee := .builtin .append, args := #[s, x], argTypes := #[t, t] }) {v u v' : Value} {w' : World}
    (hs : a.eval s = v) (hx : a.eval x = u) (hr : (Builtin.append_ #[t, t] o.type #[v, u]).run Try.prog w = .ok v' w') (h : wpList Try.prog ops Q rest (a.put o.dst v') w') : wpList Try.prog ops Q (o :: rest) a w :=
  wpList_plain hgd fun K hK => by
    unfold Oper.wp execOp
    simp only [ho, resolve, invoke, builtin, Sem.run_bind, Sem.run_pure, Result.andThen_ok, List.map_toArray, List.map_cons, List.map_nil, hs, hx, hr]
    exact hK _ _ h
theorem run_oneE (w : World) (t e ty : TypeId) (k bytes : Nat) (z : Value) (ht : Try.prog.underlying t = some (.slice e)) (hinfo : (Try.prog.info? e).map (fun i => (i.zero, i.size, i.bytes)) = some (some z, k, bytes))
    (hzs : z.cells.size = k) (hk : 0 < k) (hby : bytes ≤ 64) (base q : Nat) {v : Value} {n : Nat} {F : List Value} (hown : w.ownsRow base e k v n F) (vals : List Value) (hvl : vals.length = k) (hq : w.heap[q]? = some (.cells vals.toArray e (0, 0))) (h1 : ∀ u ∈ vals, u.oneCell' = true) (hl : n ≤ 1000) (hbase : base ≤ w.heap.size) :
    ∃ g cp w', (Builtin.append_ #[t, t] ty #[v, .slice (some ⟨q, 0, none⟩) 1 1]).run Try.prog w = .ok (.slice (some ⟨g, 0, none⟩) (n + 1) cp) w' ∧ w'.ownsRow base e k (.slice (some ⟨g, 0, none⟩) (n + 1) cp) (n + 1) (F ++ vals) ∧ base ≤ g ∧ w.grownBy w' v.ownBlock := by
  obtain ⟨i0, hi, hz0, hz1, hz2⟩ := info_parts hinfo
  have hb : (n + 1) * bytes ≤ 140737488355328 := by
    have : (n + 1) * bytes ≤ 1001 * 64 := Nat.mul_le_mul (by omega) hby
    omega
  obtain ⟨v', w', hr, h2, h3, _, _⟩ := run_append_own_at (P := Try.prog) w base t ty e i0 z k bytes ht hi hz0 hz1 hz2 hzs hk v n F hown ⟨q, 0, none⟩ 1 1 vals (by rw [hvl, Nat.one_mul]) (fun j u hj => by
    rw [Addr.add_lit, Nat.zero_add]
    simp [World.cell?, hq, hj]) h1 (by unfold maxLen; omega) hb hbase
  have h2' := h2
  rcases h2.2 with ⟨_, h0⟩ | ⟨g, cap, cur, rfl, hbg, _⟩
  · omega
  · exact ⟨g, cap, w', hr, h2', hbg, h3⟩
structure Mem (WB w : World) (Xb : Nat) (cv v1 R2 v3 PV : Value) (L : List Row) (n : Nat) (bs : List (Int × Int)) (ps : List Prf) (t : Nat) : Prop where
  box : w.heap[Xb]? = some (.cells #[cv, v1, R2, v3] 27 (0, 0))
  rows : w.ownsRow (Xb + 1) 42 4 v1 n (flatK 4 rowC L)
  prf : Prf3 WB w Xb R2 PV ps t
  brk : w.ownsRow (Xb + 1) 43 2 v3 bs.length (flatK 2 brkC (rotF bs t))
  bel : Below WB.heap.size WB w
theorem Prf3.grown {WB w w' : World} {Xb : Nat} {R2 PV : Value} {ps : List Prf} {t : Nat} {row : Option Nat} (h : Prf3 WB w Xb R2 PV ps t) (hg : w.grownBy w' row) (hr : ∀ F, w.ownsRow (Xb + 1) 52 4 R2 ps.length F → R2.ownBlock = none ∨ R2.ownBlock ≠ row) : Prf3 WB w' Xb R2 PV ps t := by
  rcases h with h | ⟨h0, F, h1, h2⟩
  · exact .inl h
  · exact .inr ⟨h0, F, h1.kept hg (hr F h1), h2⟩
theorem own_row_ne {w : World} {B b : Nat} {e T : TypeId} {k n : Nat} {v : Value} {xs : List Value} {cs : Array Value} (h : w.ownsRow B e k v n xs) (hb : w.heap[b]? = some (.cells cs T (0, 0))) (hT : T ≠ e) : v.ownBlock = none ∨ v.ownBlock ≠ some b := by
  rcases h.2 with ⟨rfl, _⟩ | ⟨g, cap, cur, rfl, _, hg, _⟩
  · exact .inl rfl
  · right
    simp only [Value.ownBlock, ne_eq, Option.some.injEq]
    intro e'
    subst e'
    rw [hg] at hb
    simp at hb
    exact hT hb.2.symm
section
variable {WB w w' : World} {Xb : Nat} {cv v1 R2 v3 PV : Value} {L : List Row} {n : Nat} {bs : List (Int × Int)} {ps : List Prf} {t : Nat}
theorem grown_none {X Y : World} (h : Below X.heap.size X Y) : X.grownBy Y none := ⟨h.os, h.tape, h.output, h.size, fun k hk _ => h.block k hk⟩
theorem ne_none {v : Value} : v.ownBlock = none ∨ v.ownBlock ≠ none := by
  cases v.ownBlock with
  | none => exact .inl rfl
  | some x => exact .inr (by simp)
theorem Mem.below (h : Mem WB w Xb cv v1 R2 v3 PV L n bs ps t) (hb : Below w.heap.size w w') : Mem WB w' Xb cv v1 R2 v3 PV L n bs ps t :=
  ⟨box_step (w0 := w) h.box hb, own_below h.rows hb, h.prf.grown (grown_none hb) (fun _ _ => ne_none), own_below h.brk hb, h.bel.trans (hb.mono h.bel.size)⟩
theorem Mem.set (h : Mem WB w Xb cv v1 R2 v3 PV L n bs ps t) {b : Nat} {cs : Array Value} (hb : w.heap[b]? = some (.cells cs 42 (0, 0))) (hne : v1.ownBlock ≠ some b) (hX : Xb < b) (hWB : WB.heap.size = Xb) (i : Nat) (u : Value) : Mem WB (w.setCell ⟨b, i, none⟩ u) Xb cv v1 R2 v3 PV L n bs ps t := by
  have hg := setCell_grown w ⟨b, i, none⟩ u
  exact ⟨(hg.block Xb (Array.getElem?_eq_some_iff.1 h.box).1 (by simp; omega)).trans h.box, h.rows.kept hg (.inr hne), h.prf.grown hg (fun F hF => own_row_ne hF hb (by decide)), h.brk.kept hg (own_row_ne h.brk hb (by decide)), h.bel.setCell (by simp; omega) _⟩
theorem Mem.stored {g c : Nat} (h : Mem WB w Xb cv (.slice (some ⟨g, 0, none⟩) n c) R2 v3 PV L n bs ps t) (hWB : WB.heap.size = Xb) (i : Nat) (u : Value) {L' : List Row} (hL : (flatK 4 rowC L).set i u = flatK 4 rowC L') : Mem WB (w.setCell ⟨g, i, none⟩ u) Xb cv (.slice (some ⟨g, 0, none⟩) n c) R2 v3 PV L' n bs ps t := by
  obtain ⟨h1, hg⟩ := h.rows.stored i u
  rw [hL] at h1
  obtain ⟨hlo, hhi⟩ := h.rows.lt g rfl
  have hrow : ∃ cur, w.heap[g]? = some (.cells cur 42 (0, 0)) := by
    rcases h.rows.2 with ⟨e, _⟩ | ⟨g', cap, cur, e, _, hg', _⟩
    · simp at e
    · simp only [Value.slice.injEq, Option.some.injEq, Addr.mk.injEq, and_true] at e
      obtain ⟨rfl, _⟩ := e
      exact ⟨cur, hg'⟩
  obtain ⟨cur, hcur⟩ := hrow
  exact ⟨(hg.block Xb (Array.getElem?_eq_some_iff.1 h.box).1 (by simp; omega)).trans h.box, h1, h.prf.grown hg (fun F hF => own_row_ne hF hcur (by decide)), h.brk.kept hg (own_row_ne h.brk hcur (by decide)), h.bel.setCell (by simp; omega) _⟩
end
def cutB (L : List Row) : Bool := match L with | [] => false | r :: l => decide (l.length + 1 < 24) && decide (r.lo < r.hi)
theorem cutB_cons (r : Row) (l : List Row) : cutB (r :: l) = (decide (l.length + 1 < 24) && decide (r.lo < r.hi)) := rfl
theorem cutB_false {L : List Row} {t : Nat} (h : cutB L = false) : cutF L t = L := by
  cases L with
  | nil => rfl
  | cons r l =>
    rw [cutF_cons, if_neg]
    unfold cutB at h
    simp only [Bool.and_eq_false_iff, decide_eq_false_iff_not] at h
    simp only [List.length_cons]
    omega
theorem rows_all {s : Stk} (h : stkOk s = true) : s.rs.all (rowOk s.cs.length) = true := by
  unfold stkOk at h
  simp only [Bool.and_eq_true] at h
  exact h.2.2.1
theorem rot_step {α : Type} [Inhabited α] {l : List α} {t j : Nat} (hj : j < l.length) : (rotF l t).take (j + 1) = (rotF l t).take j ++ [l.getD ((j + t) % l.length) default] := by
  rw [List.take_succ_eq_append_getElem (by rw [rot_len]; exact hj)]
  congr 2
  have := rot_get l t hj
  rw [List.getD, List.getElem?_eq_getElem (by rw [rot_len]; exact hj)] at this
  exact this
theorem mod_lt' {j t n : Nat} (h : j < n) : (j + t) % n < n := Nat.mod_lt _ (by omega)
theorem tmod_nat (j t n : Nat) : ((j : Int) + (t : Int)).tmod (n : Int) = (((j + t) % n : Nat) : Int) := by
  rw [Int.tmod_eq_emod_of_nonneg (by omega)]
  push_cast; rfl
set_option maxRecDepth 100000 in
set_option maxHeartbeats 12800000 in
theorem order_law (s : Stk) (n day lo hi : Int) (t : Nat) (ht : t ≤ 255) (v : Value) (w : World) (hs : StkAt w v s) :
    Calls Try.prog 6 #[v, .int .i64 n, .int .i64 day, .agg #[.int .i64 lo, .int .i64 hi], .int .u8 t] w fun e w' => e = .returned (.bool true) ∧ Below w.heap.size w w' := by
  obtain ⟨cv, rv, pv, bv, rfl, hc, hr, hp, hb⟩ := hs
  obtain ⟨cs, rs, ps, bs⟩ := s
  simp only [] at hc hr hp hb
  obtain ⟨ca, cc, rfl⟩ := hc.shape
  obtain ⟨ra, rc, rfl⟩ := hr.shape
  obtain ⟨pa, pc, rfl⟩ := hp.shape
  obtain ⟨ba, bc, rfl⟩ := hb.shape
  have m1 : cs.length ≤ 9223372036854775807 := hc.1
  have m2 : rs.length ≤ 9223372036854775807 := hr.1
  have m3 : ps.length ≤ 9223372036854775807 := hp.1
  have m4 : bs.length ≤ 9223372036854775807 := hb.1
  obtain ⟨W0, hW0⟩ : ∃ X, X = w.alloc (.cells #[.slice ca cs.length cc, .slice ra rs.length rc, .slice pa ps.length pc, .slice ba bs.length bc] 27) := ⟨_, rfl⟩
  have hb0 : Below w.heap.size w W0 := by rw [hW0]; exact (Below.refl _ _).alloc (Nat.le_refl _) _
  have hr0 : W0.heap[w.heap.size]? = some (.cells #[.slice ca cs.length cc, .slice ra rs.length rc, .slice pa ps.length pc, .slice ba bs.length bc] 27 (0, 0)) := by rw [hW0]; exact alloc_heap w _
  have hc0 := Lib.hid (hc.below hb0)
  have hq0 := Lib.hid (hr.below hb0)
  have hp0 := Lib.hid (hp.below hb0)
  have hs0 := Lib.hid (hb.below hb0)
  obtain ⟨P, hP⟩ : ∃ P, w.heap.size = P := ⟨_, rfl⟩
  rw [hP] at hr0
  obtain ⟨d0, d1, d2, d3⟩ := four_cells hr0
  have HB := Lib.hid hb0
  have HR0 := Lib.hid hr0
  clear hr0 hb0 hc hr hp hb
  have hz0 : StkAt W0 (.agg #[.slice ca cs.length cc, .slice ra rs.length rc, .slice pa ps.length pc, .slice ba bs.length bc]) ⟨cs, rs, ps, bs⟩ := ⟨_, _, _, _, rfl, hc0.out, hq0.out, hp0.out, hs0.out⟩
  have hsz : W0.heap.size = w.heap.size + 1 := by rw [hW0]; simp
  rw [hP] at hsz
  have HSZ := Lib.hid hsz
  have KL := Lib.hid (fun (X : World) (hX : Below W0.heap.size W0 X) => large_any ⟨cs, rs, ps, bs⟩ 1099511627776 _ X (hz0.below hX))
  have KA := Lib.hid (fun (X : World) => awake_any X)
  have kch := fun (X : World) (hX : Below W0.heap.size W0 X) => check_any ⟨cs, rs, ps, bs⟩ _ X (hz0.below hX)
  obtain ⟨⟨ix, er⟩, hch⟩ : ∃ x, checkF ⟨cs, rs, ps, bs⟩ = x := ⟨_, rfl⟩
  simp only [hch] at kch
  have her : (termsF ⟨cs, rs, ps, bs⟩).2.1 = er := by have := congrArg Prod.snd hch; exact this
  have KCH := Lib.hid kch
  have HER := Lib.hid her
  have HZ0 := Lib.hid hz0
  clear hz0 hsz kch hch her
  go_enter Try.func6, Try.ntmps6
  go_upto_region 1 with fail
  rw [← hW0]
  clear hW0 hP
  obtain ⟨W1, hW1⟩ : ∃ X, W0.alloc (.cells #[.int .i64 lo, .int .i64 hi] 29) = X := ⟨_, rfl⟩
  have hb1 : Below W0.heap.size W0 W1 := by rw [← hW1]; exact (Below.refl _ _).alloc (Nat.le_refl _) _
  have hq1 : W1.heap[P + 1]? = some (.cells #[.int .i64 lo, .int .i64 hi] 29) := by rw [← hW1, ← HSZ.out]; exact alloc_heap W0 _
  rw [hW1]
  clear d0 d1 d2 d3 hW1
  obtain ⟨d0, d1, d2, d3⟩ := four_cells (box_step (w0 := w) HR0.out hb1)
  have H1 := Lib.hid hb1
  have HQ1 := Lib.hid hq1
  clear hb1 hq1
  go_wp2_with fail
  refine (KL.out _ H1.out).mono ?_
  rintro e W2 ⟨⟨b, rfl⟩, hb2⟩
  have HX2 := Lib.hid hb2
  have H2 := Lib.hid (H1.out.trans (hb2.mono H1.out.size))
  clear d0 d1 d2 d3 KL hb2
  obtain ⟨d0, d1, d2, d3⟩ := four_cells (box_step (w0 := w) HR0.out H2.out)
  cases b with
  | true =>
    go_wp2_with fail
    refine (KA.out _).mono ?_
    rintro e Wz ⟨rfl, hbz⟩
    go_wp2
    go_ret
    exact ⟨rfl, HB.out.trans ((H2.out.trans (hbz.mono H2.out.size)).mono HB.out.size)⟩
  | false =>
    go_wp2_with fail
    refine (KCH.out _ H2.out).mono ?_
    rintro e W3 ⟨rfl, hb3⟩
    have HX3 := Lib.hid (HX2.out.trans (hb3.mono HX2.out.size))
    have H3 := Lib.hid (H2.out.trans (hb3.mono H2.out.size))
    clear d0 d1 d2 d3 KCH hb3
    obtain ⟨d0, d1, d2, d3⟩ := four_cells (box_step (w0 := w) HR0.out H3.out)
    by_cases he0 : er = 0
    · subst he0
      obtain ⟨hok, _, _, _⟩ := right_parts HER.out
      have ks := refStock_any ⟨cs, rs, ps, bs⟩ _ W3 (HZ0.out.below H3.out)
      rw [hok] at ks
      have KS := Lib.hid ks
      have hfr := rows_few hok
      have hfb := broken_few hok
      have hfp : ps.length ≤ 12 := by
        unfold stkOk at hok
        simp only [Bool.and_eq_true, decide_eq_true_eq] at hok
        exact hok.1.2.2.1
      have HOK := Lib.hid hok
      clear hok ks
      try simp only [] at hfr hfb
      go_wp2_with fail
      refine KS.out.mono ?_
      rintro e WB ⟨rfl, hb4⟩
      have HXB1 := Lib.hid (HX3.out.trans (hb4.mono HX3.out.size))
      have HWB := Lib.hid (H3.out.trans (hb4.mono H3.out.size))
      clear d0 d1 d2 d3 hb4
      obtain ⟨d0, d1, d2, d3⟩ := four_cells (box_step (w0 := w) HR0.out HWB.out)
      have hPs := (Array.getElem?_eq_some_iff.1 (box_step (w0 := w) HR0.out HWB.out)).1
      have hMs := (Array.getElem?_eq_some_iff.1 (box_step (w0 := w) HQ1.out HXB1.out)).1
      obtain ⟨X0, hX0⟩ : ∃ X, X = WB.alloc (.cells #[.slice ca cs.length cc, .slice ra rs.length rc, .slice pa ps.length pc, .slice ba bs.length bc] 27) := ⟨_, rfl⟩
      have hB0 : Below WB.heap.size WB X0 := by rw [hX0]; exact (Below.refl _ _).alloc (Nat.le_refl _) _
      have hRX : X0.heap[WB.heap.size]? = some (.cells #[.slice ca cs.length cc, .slice ra rs.length rc, .slice pa ps.length pc, .slice ba bs.length bc] 27) := by rw [hX0]; exact alloc_heap WB _
      have hzX : X0.heap.size = WB.heap.size + 1 := by rw [hX0]; simp
      obtain ⟨Xb, hXb⟩ : ∃ n, WB.heap.size = n := ⟨_, rfl⟩
      have HB0 := Lib.hid hB0
      rw [hXb] at hRX hzX hPs hMs
      have HXB := Lib.hid hXb
      clear hB0
      go_upto_region 7 with fail
      rw [← hX0]
      clear hX0 hXb d0 d1 d2 d3
      obtain ⟨c0, c1, c2, c3⟩ := four_cells hRX
      have tf : ∀ o, X0.frozen? ⟨Xb, o, none⟩ = false := fun o => by simp [World.frozen?, hRX]
      have r1 := heap_set hRX 1 (.slice none 0 0)
      have r2 := heap_set r1 3 (.slice none 0 0)
      have r3 := heap_set r2 2 (.slice none 0 0)
      have hbX : Below WB.heap.size WB (((X0.setCell ⟨Xb, 1, none⟩ (.slice none 0 0)).setCell ⟨Xb, 3, none⟩ (.slice none 0 0)).setCell ⟨Xb, 2, none⟩ (.slice none 0 0)) := ((HB0.out.setCell (by rw [HXB.out]; exact Nat.le_refl _) _).setCell (by rw [HXB.out]; exact Nat.le_refl _) _).setCell (by rw [HXB.out]; exact Nat.le_refl _) _
      obtain ⟨X1, hX1⟩ : ∃ X, X = (((X0.setCell ⟨Xb, 1, none⟩ (.slice none 0 0)).setCell ⟨Xb, 3, none⟩ (.slice none 0 0)).setCell ⟨Xb, 2, none⟩ (.slice none 0 0)) := ⟨_, rfl⟩
      have hR1 : X1.heap[Xb]? = some (.cells #[.slice ca cs.length cc, .slice none 0 0, .slice none 0 0, .slice none 0 0] 27 (0, 0)) := by rw [hX1]; simpa using r3
      rw [← hX1] at hbX
      have HR1 := Lib.hid hR1
      have HBX := Lib.hid hbX
      clear r1 r2 r3 hbX hR1
      go_upto_region 8 with fail
      rw [← hX1]
      clear hX1 c0 c1 c2 c3 tf hRX HB0 hzX
      go_wp2
      go_loopw [14] (fun i wr => ∃ j : Nat, j ≤ rs.length ∧ i = .int .i64 j ∧ At1 WB wr Xb (.slice ca cs.length cc) rs t j) (fun i _ => rs.length - (intOf i).toNat)
      case atStart => exact ⟨0, by omega, rfl, .slice none 0 0, HR1.out, by simpa [flatK] using World.ownsRow_nil X1 (Xb + 1) 42 4, HBX.out⟩
      case round =>
        obtain ⟨j, hj, rfl, v1, hx, hv, hbw⟩ := hrel
        have HBW := Lib.hid hbw
        have H5 := Lib.hid (HWB.out.trans (hbw.mono HWB.out.size))
        have hS1 := box_step (w0 := w) HR0.out H5.out
        have hxs := (Array.getElem?_eq_some_iff.1 hx).1
        obtain ⟨d0, d1, d2, d3⟩ := four_cells hS1
        by_cases hlt : j < rs.length
        · obtain ⟨rb, ro, e1, hrb, hrx⟩ := (hq0.out.below HWB.out).at (by omega)
          subst e1
          obtain ⟨m, hm⟩ : ∃ m, (j + t) % rs.length = m := ⟨_, rfl⟩
          have hml : m < rs.length := by rw [← hm]; exact mod_lt' hlt
          have htm := tmod_nat j t rs.length
          have hst := rot_step (t := t) hlt
          rw [hm] at htm hst
          obtain ⟨⟨x0, x1, x2, x3⟩, hxr⟩ : ∃ x : Row, rs.getD m default = x := ⟨_, rfl⟩
          have u0 := (hbw.cell (p := ⟨rb, ro + m * 4 + 0, none⟩) hrb).trans (hrx m hml 0 (by omega))
          have u1 := (hbw.cell (p := ⟨rb, ro + m * 4 + 1, none⟩) hrb).trans (hrx m hml 1 (by omega))
          have u2 := (hbw.cell (p := ⟨rb, ro + m * 4 + 2, none⟩) hrb).trans (hrx m hml 2 (by omega))
          have u3 := (hbw.cell (p := ⟨rb, ro + m * 4 + 3, none⟩) hrb).trans (hrx m hml 3 (by omega))
          rw [hxr] at u0 u1 u2 u3 hst
          simp only [Nat.add_zero, rowC] at u0 u1 u2 u3
          have hrb2 : rb < Xb := by rw [← HXB.out]; exact hrb
          have hfl := flat_snoc 4 rowC ((rotF rs t).take j) ⟨x0, x1, x2, x3⟩
          rw [← hst] at hfl
          have HFL := Lib.hid hfl
          have w1 : IntKind.i64.wrap ((j : Int) + (t : Int)) = (j : Int) + (t : Int) := IntWalk.i64_in _ (by omega)
          have w2 : IntKind.i64.wrap (t : Int) = (t : Int) := IntWalk.i64_in _ (by omega)
          have w3 : IntKind.i64.wrap (m : Int) = (m : Int) := IntWalk.i64_in _ (by omega)
          have ij1 : (j : Int) < (rs.length : Int) := by omega
          have im1 : (m : Int) < (rs.length : Int) := by omega
          have inz : ¬ rs = [] := fun e => by rw [e] at hlt; exact absurd hlt (Nat.not_lt_zero _)
          clear hrx hxr hst hfl hrb hbw hm
          have hS2 := hx
          go_upto_region 11 with fail
          clear d0 d1 d2 d3
          as_aux_lemma =>
            refine wp_region_last (fun w' => w'.heap[P]? = some (.cells #[.slice ca cs.length cc, .slice (some ⟨rb, ro, none⟩) rs.length rc, .slice pa ps.length pc, .slice ba bs.length bc] 27) ∧ w'.heap[Xb]? = some (.cells #[.slice ca cs.length cc, v1, .slice none 0 0, .slice none 0 0] 27 (0, 0)) ∧ w'.cell? ⟨rb, ro + m * 4, none⟩ = some (.int .i64 x0) ∧ w'.cell? ⟨rb, ro + m * 4 + 1, none⟩ = some (.int .i64 x1) ∧ w'.cell? ⟨rb, ro + m * 4 + 2, none⟩ = some (.int .i64 x2) ∧ w'.cell? ⟨rb, ro + m * 4 + 3, none⟩ = some (.int .i64 x3)) 17 (by kernel_rfl) ⟨hS1, hS2, u0, u1, u2, u3⟩ (fun hHeld => ?_)
            obtain ⟨Y0, hY0⟩ : ∃ X, X = wr.drew := ⟨_, rfl⟩
            have hbY : Below wr.heap.size wr Y0 := by rw [hY0]; exact (Below.refl _ _).drew
            rw [← hY0] at hHeld ⊢
            have hH := Lib.hid hHeld
            clear hY0 hHeld hS1 hS2 u0 u1 u2 u3
            refine wpLast_take (i := 0) (oi := _) (v := ?_) rfl (by kernel_rfl) (by kernel_rfl) (by decide) (by kernel_rfl) (by kernel_rfl) (fun _ _ _ h => h) (Or.inl ⟨by rfl, ?_⟩) hH.out ?_
            rotate_left
            · intro w1 hSw
              obtain ⟨s1, s2, u0, u1, u2, u3⟩ := hSw
              obtain ⟨d0, d1, d2, d3⟩ := four_cells s1
              obtain ⟨q0, q1, q2, q3⟩ := four_cells s2
              clear s1 s2
              go_simp; with_reducible rfl
            simp only [List.getElem_toArray, List.getElem_cons_succ, List.getElem_cons_zero, Act.put, List.setIfInBounds_toArray, List.set_cons_zero, List.set_cons_succ]
            refine wpLast_take (i := 1) (oi := _) (v := ?_) rfl (by kernel_rfl) (by kernel_rfl) (by decide) (by kernel_rfl) (by kernel_rfl) (fun _ _ _ h => h) (Or.inl ⟨by rfl, ?_⟩) hH.out ?_
            rotate_left
            · intro w1 hSw
              obtain ⟨s1, s2, u0, u1, u2, u3⟩ := hSw
              obtain ⟨d0, d1, d2, d3⟩ := four_cells s1
              obtain ⟨q0, q1, q2, q3⟩ := four_cells s2
              clear s1 s2
              go_simp; with_reducible rfl
            simp only [List.getElem_toArray, List.getElem_cons_succ, List.getElem_cons_zero, Act.put, List.setIfInBounds_toArray, List.set_cons_zero, List.set_cons_succ]
            refine wpLast_take (i := 2) (oi := _) (v := ?_) rfl (by kernel_rfl) (by kernel_rfl) (by decide) (by kernel_rfl) (by kernel_rfl) (fun _ _ _ h => h) (Or.inl ⟨by rfl, ?_⟩) hH.out ?_
            rotate_left
            · intro w1 hSw
              obtain ⟨s1, s2, u0, u1, u2, u3⟩ := hSw
              obtain ⟨d0, d1, d2, d3⟩ := four_cells s1
              obtain ⟨q0, q1, q2, q3⟩ := four_cells s2
              clear s1 s2
              go_simp; with_reducible rfl
            simp only [List.getElem_toArray, List.getElem_cons_succ, List.getElem_cons_zero, Act.put, List.setIfInBounds_toArray, List.set_cons_zero, List.set_cons_succ]
            refine wpLast_take (i := 3) (oi := _) (v := ?_) rfl (by kernel_rfl) (by kernel_rfl) (by decide) (by kernel_rfl) (by kernel_rfl) (fun _ _ _ h => h) (Or.inl ⟨by rfl, ?_⟩) hH.out ?_
            rotate_left
            · intro w1 hSw
              obtain ⟨s1, s2, u0, u1, u2, u3⟩ := hSw
              obtain ⟨d0, d1, d2, d3⟩ := four_cells s1
              obtain ⟨q0, q1, q2, q3⟩ := four_cells s2
              clear s1 s2
              go_simp; with_reducible rfl
            simp only [List.getElem_toArray, List.getElem_cons_succ, List.getElem_cons_zero, Act.put, List.setIfInBounds_toArray, List.set_cons_zero, List.set_cons_succ]
            refine wpLast_take (i := 4) (oi := _) (v := ?_) rfl (by kernel_rfl) (by kernel_rfl) (by decide) (by kernel_rfl) (by kernel_rfl) (fun _ _ _ h => h) (Or.inl ⟨by rfl, ?_⟩) hH.out ?_
            rotate_left
            · intro w1 hSw
              obtain ⟨s1, s2, u0, u1, u2, u3⟩ := hSw
              obtain ⟨d0, d1, d2, d3⟩ := four_cells s1
              obtain ⟨q0, q1, q2, q3⟩ := four_cells s2
              clear s1 s2
              go_simp; with_reducible rfl
            simp only [List.getElem_toArray, List.getElem_cons_succ, List.getElem_cons_zero, Act.put, List.setIfInBounds_toArray, List.set_cons_zero, List.set_cons_succ]
            refine wpLast_take (i := 5) (oi := _) (v := ?_) rfl (by kernel_rfl) (by kernel_rfl) (by decide) (by kernel_rfl) (by kernel_rfl) (fun _ _ _ h => h) (Or.inl ⟨by rfl, ?_⟩) hH.out ?_
            rotate_left
            · intro w1 hSw
              obtain ⟨s1, s2, u0, u1, u2, u3⟩ := hSw
              obtain ⟨d0, d1, d2, d3⟩ := four_cells s1
              obtain ⟨q0, q1, q2, q3⟩ := four_cells s2
              clear s1 s2
              go_simp; with_reducible rfl
            simp only [List.getElem_toArray, List.getElem_cons_succ, List.getElem_cons_zero, Act.put, List.setIfInBounds_toArray, List.set_cons_zero, List.set_cons_succ]
            refine wpLast_take (i := 6) (oi := _) (v := ?_) rfl (by kernel_rfl) (by kernel_rfl) (by decide) (by kernel_rfl) (by kernel_rfl) (fun _ _ _ h => h) (Or.inl ⟨by rfl, ?_⟩) hH.out ?_
            rotate_left
            · intro w1 hSw
              obtain ⟨s1, s2, u0, u1, u2, u3⟩ := hSw
              obtain ⟨d0, d1, d2, d3⟩ := four_cells s1
              obtain ⟨q0, q1, q2, q3⟩ := four_cells s2
              clear s1 s2
              go_simp; with_reducible rfl
            simp only [List.getElem_toArray, List.getElem_cons_succ, List.getElem_cons_zero, Act.put, List.setIfInBounds_toArray, List.set_cons_zero, List.set_cons_succ]
            refine wpLast_take (i := 7) (oi := _) (v := ?_) rfl (by kernel_rfl) (by kernel_rfl) (by decide) (by kernel_rfl) (by kernel_rfl) (fun _ _ _ h => h) (Or.inl ⟨by rfl, ?_⟩) hH.out ?_
            rotate_left
            · intro w1 hSw
              obtain ⟨s1, s2, u0, u1, u2, u3⟩ := hSw
              obtain ⟨d0, d1, d2, d3⟩ := four_cells s1
              obtain ⟨q0, q1, q2, q3⟩ := four_cells s2
              clear s1 s2
              go_simp; with_reducible rfl
            simp only [List.getElem_toArray, List.getElem_cons_succ, List.getElem_cons_zero, Act.put, List.setIfInBounds_toArray, List.set_cons_zero, List.set_cons_succ]
            refine wpLast_take (i := 8) (oi := _) (v := ?_) rfl (by kernel_rfl) (by kernel_rfl) (by decide) (by kernel_rfl) (by kernel_rfl) (fun _ _ _ h => h) (Or.inl ⟨by rfl, ?_⟩) hH.out ?_
            rotate_left
            · intro w1 hSw
              obtain ⟨s1, s2, u0, u1, u2, u3⟩ := hSw
              obtain ⟨d0, d1, d2, d3⟩ := four_cells s1
              obtain ⟨q0, q1, q2, q3⟩ := four_cells s2
              clear s1 s2
              go_simp; with_reducible rfl
            simp only [List.getElem_toArray, List.getElem_cons_succ, List.getElem_cons_zero, Act.put, List.setIfInBounds_toArray, List.set_cons_zero, List.set_cons_succ]
            refine wpLast_take (i := 9) (oi := _) (v := ?_) rfl (by kernel_rfl) (by kernel_rfl) (by decide) (by kernel_rfl) (by kernel_rfl) (fun _ _ _ h => h) (Or.inl ⟨by rfl, ?_⟩) hH.out ?_
            rotate_left
            · intro w1 hSw
              obtain ⟨s1, s2, u0, u1, u2, u3⟩ := hSw
              obtain ⟨d0, d1, d2, d3⟩ := four_cells s1
              obtain ⟨q0, q1, q2, q3⟩ := four_cells s2
              clear s1 s2
              go_simp; with_reducible rfl
            simp only [List.getElem_toArray, List.getElem_cons_succ, List.getElem_cons_zero, Act.put, List.setIfInBounds_toArray, List.set_cons_zero, List.set_cons_succ]
            refine wpLast_take (i := 10) (oi := _) (v := ?_) rfl (by kernel_rfl) (by kernel_rfl) (by decide) (by kernel_rfl) (by kernel_rfl) (fun _ _ _ h => h) (Or.inl ⟨by rfl, ?_⟩) hH.out ?_
            rotate_left
            · intro w1 hSw
              obtain ⟨s1, s2, u0, u1, u2, u3⟩ := hSw
              obtain ⟨d0, d1, d2, d3⟩ := four_cells s1
              obtain ⟨q0, q1, q2, q3⟩ := four_cells s2
              clear s1 s2
              go_simp; with_reducible rfl
            simp only [List.getElem_toArray, List.getElem_cons_succ, List.getElem_cons_zero, Act.put, List.setIfInBounds_toArray, List.set_cons_zero, List.set_cons_succ]
            refine wpLast_take (i := 11) (oi := _) (v := ?_) rfl (by kernel_rfl) (by kernel_rfl) (by decide) (by kernel_rfl) (by kernel_rfl) (fun _ _ _ h => h) (Or.inl ⟨by rfl, ?_⟩) hH.out ?_
            rotate_left
            · intro w1 hSw
              obtain ⟨s1, s2, u0, u1, u2, u3⟩ := hSw
              obtain ⟨d0, d1, d2, d3⟩ := four_cells s1
              obtain ⟨q0, q1, q2, q3⟩ := four_cells s2
              clear s1 s2
              go_simp; with_reducible rfl
            simp only [List.getElem_toArray, List.getElem_cons_succ, List.getElem_cons_zero, Act.put, List.setIfInBounds_toArray, List.set_cons_zero, List.set_cons_succ]
            refine wpLast_take (i := 12) (oi := _) (v := ?_) rfl (by kernel_rfl) (by kernel_rfl) (by decide) (by kernel_rfl) (by kernel_rfl) (fun _ _ _ h => h) (Or.inl ⟨by rfl, ?_⟩) hH.out ?_
            rotate_left
            · intro w1 hSw
              obtain ⟨s1, s2, u0, u1, u2, u3⟩ := hSw
              obtain ⟨d0, d1, d2, d3⟩ := four_cells s1
              obtain ⟨q0, q1, q2, q3⟩ := four_cells s2
              clear s1 s2
              go_simp; with_reducible rfl
            simp only [List.getElem_toArray, List.getElem_cons_succ, List.getElem_cons_zero, Act.put, List.setIfInBounds_toArray, List.set_cons_zero, List.set_cons_succ]
            refine wpLast_take (i := 13) (oi := _) (v := ?_) rfl (by kernel_rfl) (by kernel_rfl) (by decide) (by kernel_rfl) (by kernel_rfl) (fun _ _ _ h => h) (Or.inl ⟨by rfl, ?_⟩) hH.out ?_
            rotate_left
            · intro w1 hSw
              obtain ⟨s1, s2, u0, u1, u2, u3⟩ := hSw
              obtain ⟨d0, d1, d2, d3⟩ := four_cells s1
              obtain ⟨q0, q1, q2, q3⟩ := four_cells s2
              clear s1 s2
              go_simp; with_reducible rfl
            simp only [List.getElem_toArray, List.getElem_cons_succ, List.getElem_cons_zero, Act.put, List.setIfInBounds_toArray, List.set_cons_zero, List.set_cons_succ]
            refine wpLast_ready (rs := [14]) (by kernel_rfl) (by simp) ?_
            intro i hi; obtain rfl := List.mem_singleton.1 hi; clear hi
            refine wpOp_step rfl (fun K3 hK3 => ?_)
            have HK3 := Lib.hid hK3
            clear hK3
            rw [if_pos (by rfl)]
            go_simp
            obtain ⟨q, eq⟩ : ∃ g, g = Y0.heap.size := ⟨_, rfl⟩
            obtain ⟨Y1, eY⟩ : ∃ Y, Y = Y0.alloc (.cells #[.int .i64 x0, .int .i64 x1, .int .i64 x2, .int .i64 x3] 42) := ⟨_, rfl⟩
            have hXY : Below Y0.heap.size Y0 Y1 := by rw [eY]; exact (Below.refl _ _).alloc (Nat.le_refl _) _
            have hq : Y1.heap[q]? = some (.cells #[.int .i64 x0, .int .i64 x1, .int .i64 x2, .int .i64 x3] 42) := by rw [eY, eq]; exact alloc_heap Y0 _
            have hz0 : wr.heap.size ≤ Y0.heap.size := hbY.size
            have hz1 : Y0.heap.size ≤ Y1.heap.size := hXY.size
            have hqg : Y0.heap.size ≤ q := by omega
            rw [← eY, ← eq]
            clear eY eq
            have hw1 := own_below (own_below hv hbY) hXY
            replace hH := Lib.hid (And.intro ((hXY.block P (by omega)).trans hH.out.1) (And.intro ((hXY.block Xb (by omega)).trans hH.out.2.1) (And.intro ((hXY.cell (p := ⟨rb, ro + m * 4, none⟩) (by simp; omega)).trans (hH.out.2.2.1)) (And.intro ((hXY.cell (p := ⟨rb, ro + m * 4 + 1, none⟩) (by simp; omega)).trans (hH.out.2.2.2.1)) (And.intro ((hXY.cell (p := ⟨rb, ro + m * 4 + 2, none⟩) (by simp; omega)).trans (hH.out.2.2.2.2.1)) ((hXY.cell (p := ⟨rb, ro + m * 4 + 3, none⟩) (by simp; omega)).trans (hH.out.2.2.2.2.2)))))))
            replace hbY := hbY.trans (hXY.mono hbY.size)
            clear hXY
            refine HK3.out _ _ ⟨fun _ => hH.out, fun _ => ?_⟩
            clear HK3 K3
            try simp only [List.getElem_toArray, List.getElem_cons_succ, List.getElem_cons_zero, Act.put, List.setIfInBounds_toArray, List.set_cons_zero, List.set_cons_succ]
            refine wpLast_ready (rs := [15]) (by kernel_rfl) (by simp) ?_
            intro i hi; obtain rfl := List.mem_singleton.1 hi; clear hi
            refine wpOp_step rfl (fun K3 hK3 => ?_)
            have HK3 := Lib.hid hK3
            clear hK3
            rw [if_pos (by rfl)]
            have hg1' : ∀ q, v1.ownBlock = some q → Xb + 1 ≤ q ∧ q < Y1.heap.size := fun q hq => hw1.lt q hq
            simp only [List.getElem_toArray, List.getElem_cons_succ, List.getElem_cons_zero]
            refine wp_oneE (.tmp 71) (.tmp 84) 23 42 4 32 (.agg #[.int .i64 0, .int .i64 0, .int .i64 0, .int .i64 0]) Try.underlying23 Try.info42 rfl (by decide) (by decide) (by rfl) (Xb + 1) q (by rfl) hw1 [.int .i64 x0, .int .i64 x1, .int .i64 x2, .int .i64 x3] rfl (by rfl) hq (by intro u hu; simp at hu; rcases hu with rfl | rfl | rfl | rfl <;> rfl) (by omega) (by omega) ?_
            intro g2 cp2 Y2 hown2 hg2 hXY
            have hsrc : rb < Xb + 1 := by omega
            replace hH := Lib.hid (And.intro ((hXY.block P (by omega) (fun e => by have := hg1' P e.symm; omega)).trans hH.out.1) (And.intro ((hXY.block Xb (by omega) (fun e => by have := hg1' Xb e.symm; omega)).trans hH.out.2.1) (And.intro (hXY.cell (hH.out.2.2.1) (fun e => by have := hg1' _ e.symm; simp at this; omega)) (And.intro (hXY.cell (hH.out.2.2.2.1) (fun e => by have := hg1' _ e.symm; simp at this; omega)) (And.intro (hXY.cell (hH.out.2.2.2.2.1) (fun e => by have := hg1' _ e.symm; simp at this; omega)) (hXY.cell (hH.out.2.2.2.2.2) (fun e => by have := hg1' _ e.symm; simp at this; omega)))))))
            have hz2 : Y1.heap.size ≤ Y2.heap.size := hXY.size
            have hbW : Below WB.heap.size WB Y2 := ((HBW.out.trans (hbY.mono HBW.out.size))).grown hXY (by rw [HXB.out]; omega) (fun r hr => by rw [HXB.out]; have := hg1' r hr; omega)
            clear hXY
            refine HK3.out _ _ ⟨fun _ => hH.out, fun _ => ?_⟩
            clear HK3 K3
            try simp only [List.getElem_toArray, List.getElem_cons_succ, List.getElem_cons_zero, Act.put, List.setIfInBounds_toArray, List.set_cons_zero, List.set_cons_succ]
            refine wpLast_take (i := 16) (oi := _) (v := ?_) rfl (by kernel_rfl) (by kernel_rfl) (by decide) (by kernel_rfl) (by kernel_rfl) (fun _ _ _ h => h) (Or.inl ⟨by rfl, ?_⟩) hH.out ?_
            rotate_left
            · intro w1 hSw
              obtain ⟨s1, s2, u0, u1, u2, u3⟩ := hSw
              obtain ⟨d0, d1, d2, d3⟩ := four_cells s1
              obtain ⟨q0, q1, q2, q3⟩ := four_cells s2
              clear s1 s2
              go_simp; with_reducible rfl
            simp only [List.getElem_toArray, List.getElem_cons_succ, List.getElem_cons_zero, Act.put, List.setIfInBounds_toArray, List.set_cons_zero, List.set_cons_succ]
            have t0 := (four_cells hH.out.2.1).2.1
            have tf : Y2.frozen? ⟨Xb, 1, none⟩ = false := by have := hH.out.2.1; simp [World.frozen?, this]
            refine wpLast_ready (rs := [17]) (by kernel_rfl) (by simp) ?_
            intro i hi; obtain rfl := List.mem_singleton.1 hi; clear hi
            refine wpOp_step rfl (fun K3 hK3 => ?_)
            have HK3 := Lib.hid hK3
            clear hK3
            rw [if_pos (by rfl)]
            go_simp
            have hg3 := setCell_grown Y2 ⟨Xb, 1, none⟩ (.slice (some ⟨g2, 0, none⟩) (j + 1) cp2)
            have r3 := heap_set hH.out.2.1 1 (.slice (some ⟨g2, 0, none⟩) (j + 1) cp2)
            have r1 := (hg3.block P (by omega) (by simp; omega)).trans hH.out.1
            have hd3 := hown2.kept hg3 (Or.inr (by simp [Value.ownBlock]; omega))
            have hbZ : Below WB.heap.size WB (Y2.setCell ⟨Xb, 1, none⟩ (.slice (some ⟨g2, 0, none⟩) (j + 1) cp2)) := hbW.setCell (by rw [HXB.out]; exact Nat.le_refl _) _
            refine HK3.out _ _ ⟨fun h => absurd rfl h, fun _ => ?_⟩
            clear HK3 K3
            try simp only [List.getElem_toArray, List.getElem_cons_succ, List.getElem_cons_zero, Act.put, List.setIfInBounds_toArray, List.set_cons_zero, List.set_cons_succ]
            refine wpLast_done (by kernel_rfl) ?_ _
            go_wp2
            go_roundw
            case rel => exact ⟨j + 1, by omega, by go_num, _, by simpa using r3, by rw [HFL.out]; exact hd3, hbZ⟩
            case measure => simp [intOf]; omega
        · have hjl : j = rs.length := by omega
          have i1 : ¬ (j : Int) < (rs.length : Int) := by omega
          rw [hjl, show (rotF rs t).take rs.length = rotF rs t from List.take_of_length_le (by rw [rot_len]; exact Nat.le_refl _)] at hv
          obtain ⟨wo, hwo⟩ : ∃ wo : World, wo = wr := ⟨_, rfl⟩
          subst hwo
          have HV := Lib.hid hv
          have HXO := Lib.hid hx
          clear hjl hlt hj hv hx hbw hS1 hxs
          go_wp2
          clear d0 d1 d2 d3 i1
          go_loopw [15] (fun i wr => ∃ j : Nat, j ≤ bs.length ∧ i = .int .i64 j ∧ At2 WB wr Xb (.slice ca cs.length cc) v1 rs bs t j) (fun i _ => bs.length - (intOf i).toNat)
          case atStart => exact ⟨0, by omega, rfl, .slice none 0 0, HXO.out, by simpa [flatK] using World.ownsRow_nil wo (Xb + 1) 43 2, HV.out, HBW.out⟩
          clear HBW H5 HV HXO
          case round =>
            obtain ⟨j, hj, rfl, v3, hx, hv, hr1, hbw⟩ := hrel
            have HBW := Lib.hid hbw
            have H5 := Lib.hid (HWB.out.trans (hbw.mono HWB.out.size))
            have hS1 := box_step (w0 := w) HR0.out H5.out
            have hxs := (Array.getElem?_eq_some_iff.1 hx).1
            obtain ⟨d0, d1, d2, d3⟩ := four_cells hS1
            by_cases hlt : j < bs.length
            · obtain ⟨rb, ro, e1, hrb, hrx⟩ := (hs0.out.below HWB.out).at (by omega)
              subst e1
              obtain ⟨m, hm⟩ : ∃ m, (j + t) % bs.length = m := ⟨_, rfl⟩
              have hml : m < bs.length := by rw [← hm]; exact mod_lt' hlt
              have htm := tmod_nat j t bs.length
              have hst := rot_step (t := t) hlt
              rw [hm] at htm hst
              obtain ⟨⟨x0, x1⟩, hxr⟩ : ∃ x : Int × Int, bs.getD m default = x := ⟨_, rfl⟩
              have u0 := (hbw.cell (p := ⟨rb, ro + m * 2 + 0, none⟩) hrb).trans (hrx m hml 0 (by omega))
              have u1 := (hbw.cell (p := ⟨rb, ro + m * 2 + 1, none⟩) hrb).trans (hrx m hml 1 (by omega))
              rw [hxr] at u0 u1 hst
              simp only [Nat.add_zero, brkC] at u0 u1
              have hrb2 : rb < Xb := by rw [← HXB.out]; exact hrb
              have hfl := flat_snoc 2 brkC ((rotF bs t).take j) (x0, x1)
              rw [← hst] at hfl
              have HFL := Lib.hid hfl
              have w1 : IntKind.i64.wrap ((j : Int) + (t : Int)) = (j : Int) + (t : Int) := IntWalk.i64_in _ (by omega)
              have w2 : IntKind.i64.wrap (t : Int) = (t : Int) := IntWalk.i64_in _ (by omega)
              have w3 : IntKind.i64.wrap (m : Int) = (m : Int) := IntWalk.i64_in _ (by omega)
              have ij1 : (j : Int) < (bs.length : Int) := by omega
              have im1 : (m : Int) < (bs.length : Int) := by omega
              have inz : ¬ bs = [] := fun e => by rw [e] at hlt; exact absurd hlt (Nat.not_lt_zero _)
              clear hrx hxr hst hfl hrb hbw hm
              have hS2 := hx
              go_upto_region 15 with fail
              clear d0 d1 d2 d3
              as_aux_lemma =>
                refine wp_region_last (fun w' => w'.heap[P]? = some (.cells #[.slice ca cs.length cc, .slice ra rs.length rc, .slice pa ps.length pc, .slice (some ⟨rb, ro, none⟩) bs.length bc] 27) ∧ w'.heap[Xb]? = some (.cells #[.slice ca cs.length cc, v1, .slice none 0 0, v3] 27 (0, 0)) ∧ w'.cell? ⟨rb, ro + m * 2, none⟩ = some (.int .i64 x0) ∧ w'.cell? ⟨rb, ro + m * 2 + 1, none⟩ = some (.int .i64 x1)) 17 (by kernel_rfl) ⟨hS1, hS2, u0, u1⟩ (fun hHeld => ?_)
                obtain ⟨Y0, hY0⟩ : ∃ X, X = wr.drew := ⟨_, rfl⟩
                have hbY : Below wr.heap.size wr Y0 := by rw [hY0]; exact (Below.refl _ _).drew
                rw [← hY0] at hHeld ⊢
                have hH := Lib.hid hHeld
                clear hY0 hHeld hS1 hS2 u0 u1
                refine wpLast_take (i := 0) (oi := _) (v := ?_) rfl (by kernel_rfl) (by kernel_rfl) (by decide) (by kernel_rfl) (by kernel_rfl) (fun _ _ _ h => h) (Or.inl ⟨by rfl, ?_⟩) hH.out ?_
                rotate_left
                · intro w1 hSw
                  obtain ⟨s1, s2, u0, u1⟩ := hSw
                  obtain ⟨d0, d1, d2, d3⟩ := four_cells s1
                  obtain ⟨q0, q1, q2, q3⟩ := four_cells s2
                  clear s1 s2
                  go_simp; with_reducible rfl
                simp only [List.getElem_toArray, List.getElem_cons_succ, List.getElem_cons_zero, Act.put, List.setIfInBounds_toArray, List.set_cons_zero, List.set_cons_succ]
                refine wpLast_take (i := 1) (oi := _) (v := ?_) rfl (by kernel_rfl) (by kernel_rfl) (by decide) (by kernel_rfl) (by kernel_rfl) (fun _ _ _ h => h) (Or.inl ⟨by rfl, ?_⟩) hH.out ?_
                rotate_left
                · intro w1 hSw
                  obtain ⟨s1, s2, u0, u1⟩ := hSw
                  obtain ⟨d0, d1, d2, d3⟩ := four_cells s1
                  obtain ⟨q0, q1, q2, q3⟩ := four_cells s2
                  clear s1 s2
                  go_simp; with_reducible rfl
                simp only [List.getElem_toArray, List.getElem_cons_succ, List.getElem_cons_zero, Act.put, List.setIfInBounds_toArray, List.set_cons_zero, List.set_cons_succ]
                refine wpLast_take (i := 2) (oi := _) (v := ?_) rfl (by kernel_rfl) (by kernel_rfl) (by decide) (by kernel_rfl) (by kernel_rfl) (fun _ _ _ h => h) (Or.inl ⟨by rfl, ?_⟩) hH.out ?_
                rotate_left
                · intro w1 hSw
                  obtain ⟨s1, s2, u0, u1⟩ := hSw
                  obtain ⟨d0, d1, d2, d3⟩ := four_cells s1
                  obtain ⟨q0, q1, q2, q3⟩ := four_cells s2
                  clear s1 s2
                  go_simp; with_reducible rfl
                simp only [List.getElem_toArray, List.getElem_cons_succ, List.getElem_cons_zero, Act.put, List.setIfInBounds_toArray, List.set_cons_zero, List.set_cons_succ]
                refine wpLast_take (i := 3) (oi := _) (v := ?_) rfl (by kernel_rfl) (by kernel_rfl) (by decide) (by kernel_rfl) (by kernel_rfl) (fun _ _ _ h => h) (Or.inl ⟨by rfl, ?_⟩) hH.out ?_
                rotate_left
                · intro w1 hSw
                  obtain ⟨s1, s2, u0, u1⟩ := hSw
                  obtain ⟨d0, d1, d2, d3⟩ := four_cells s1
                  obtain ⟨q0, q1, q2, q3⟩ := four_cells s2
                  clear s1 s2
                  go_simp; with_reducible rfl
                simp only [List.getElem_toArray, List.getElem_cons_succ, List.getElem_cons_zero, Act.put, List.setIfInBounds_toArray, List.set_cons_zero, List.set_cons_succ]
                refine wpLast_take (i := 4) (oi := _) (v := ?_) rfl (by kernel_rfl) (by kernel_rfl) (by decide) (by kernel_rfl) (by kernel_rfl) (fun _ _ _ h => h) (Or.inl ⟨by rfl, ?_⟩) hH.out ?_
                rotate_left
                · intro w1 hSw
                  obtain ⟨s1, s2, u0, u1⟩ := hSw
                  obtain ⟨d0, d1, d2, d3⟩ := four_cells s1
                  obtain ⟨q0, q1, q2, q3⟩ := four_cells s2
                  clear s1 s2
                  go_simp; with_reducible rfl
                simp only [List.getElem_toArray, List.getElem_cons_succ, List.getElem_cons_zero, Act.put, List.setIfInBounds_toArray, List.set_cons_zero, List.set_cons_succ]
                refine wpLast_take (i := 5) (oi := _) (v := ?_) rfl (by kernel_rfl) (by kernel_rfl) (by decide) (by kernel_rfl) (by kernel_rfl) (fun _ _ _ h => h) (Or.inl ⟨by rfl, ?_⟩) hH.out ?_
                rotate_left
                · intro w1 hSw
                  obtain ⟨s1, s2, u0, u1⟩ := hSw
                  obtain ⟨d0, d1, d2, d3⟩ := four_cells s1
                  obtain ⟨q0, q1, q2, q3⟩ := four_cells s2
                  clear s1 s2
                  go_simp; with_reducible rfl
                simp only [List.getElem_toArray, List.getElem_cons_succ, List.getElem_cons_zero, Act.put, List.setIfInBounds_toArray, List.set_cons_zero, List.set_cons_succ]
                refine wpLast_take (i := 6) (oi := _) (v := ?_) rfl (by kernel_rfl) (by kernel_rfl) (by decide) (by kernel_rfl) (by kernel_rfl) (fun _ _ _ h => h) (Or.inl ⟨by rfl, ?_⟩) hH.out ?_
                rotate_left
                · intro w1 hSw
                  obtain ⟨s1, s2, u0, u1⟩ := hSw
                  obtain ⟨d0, d1, d2, d3⟩ := four_cells s1
                  obtain ⟨q0, q1, q2, q3⟩ := four_cells s2
                  clear s1 s2
                  go_simp; with_reducible rfl
                simp only [List.getElem_toArray, List.getElem_cons_succ, List.getElem_cons_zero, Act.put, List.setIfInBounds_toArray, List.set_cons_zero, List.set_cons_succ]
                refine wpLast_take (i := 7) (oi := _) (v := ?_) rfl (by kernel_rfl) (by kernel_rfl) (by decide) (by kernel_rfl) (by kernel_rfl) (fun _ _ _ h => h) (Or.inl ⟨by rfl, ?_⟩) hH.out ?_
                rotate_left
                · intro w1 hSw
                  obtain ⟨s1, s2, u0, u1⟩ := hSw
                  obtain ⟨d0, d1, d2, d3⟩ := four_cells s1
                  obtain ⟨q0, q1, q2, q3⟩ := four_cells s2
                  clear s1 s2
                  go_simp; with_reducible rfl
                simp only [List.getElem_toArray, List.getElem_cons_succ, List.getElem_cons_zero, Act.put, List.setIfInBounds_toArray, List.set_cons_zero, List.set_cons_succ]
                refine wpLast_take (i := 8) (oi := _) (v := ?_) rfl (by kernel_rfl) (by kernel_rfl) (by decide) (by kernel_rfl) (by kernel_rfl) (fun _ _ _ h => h) (Or.inl ⟨by rfl, ?_⟩) hH.out ?_
                rotate_left
                · intro w1 hSw
                  obtain ⟨s1, s2, u0, u1⟩ := hSw
                  obtain ⟨d0, d1, d2, d3⟩ := four_cells s1
                  obtain ⟨q0, q1, q2, q3⟩ := four_cells s2
                  clear s1 s2
                  go_simp; with_reducible rfl
                simp only [List.getElem_toArray, List.getElem_cons_succ, List.getElem_cons_zero, Act.put, List.setIfInBounds_toArray, List.set_cons_zero, List.set_cons_succ]
                refine wpLast_take (i := 9) (oi := _) (v := ?_) rfl (by kernel_rfl) (by kernel_rfl) (by decide) (by kernel_rfl) (by kernel_rfl) (fun _ _ _ h => h) (Or.inl ⟨by rfl, ?_⟩) hH.out ?_
                rotate_left
                · intro w1 hSw
                  obtain ⟨s1, s2, u0, u1⟩ := hSw
                  obtain ⟨d0, d1, d2, d3⟩ := four_cells s1
                  obtain ⟨q0, q1, q2, q3⟩ := four_cells s2
                  clear s1 s2
                  go_simp; with_reducible rfl
                simp only [List.getElem_toArray, List.getElem_cons_succ, List.getElem_cons_zero, Act.put, List.setIfInBounds_toArray, List.set_cons_zero, List.set_cons_succ]
                refine wpLast_take (i := 10) (oi := _) (v := ?_) rfl (by kernel_rfl) (by kernel_rfl) (by decide) (by kernel_rfl) (by kernel_rfl) (fun _ _ _ h => h) (Or.inl ⟨by rfl, ?_⟩) hH.out ?_
                rotate_left
                · intro w1 hSw
                  obtain ⟨s1, s2, u0, u1⟩ := hSw
                  obtain ⟨d0, d1, d2, d3⟩ := four_cells s1
                  obtain ⟨q0, q1, q2, q3⟩ := four_cells s2
                  clear s1 s2
                  go_simp; with_reducible rfl
                simp only [List.getElem_toArray, List.getElem_cons_succ, List.getElem_cons_zero, Act.put, List.setIfInBounds_toArray, List.set_cons_zero, List.set_cons_succ]
                refine wpLast_take (i := 11) (oi := _) (v := ?_) rfl (by kernel_rfl) (by kernel_rfl) (by decide) (by kernel_rfl) (by kernel_rfl) (fun _ _ _ h => h) (Or.inl ⟨by rfl, ?_⟩) hH.out ?_
                rotate_left
                · intro w1 hSw
                  obtain ⟨s1, s2, u0, u1⟩ := hSw
                  obtain ⟨d0, d1, d2, d3⟩ := four_cells s1
                  obtain ⟨q0, q1, q2, q3⟩ := four_cells s2
                  clear s1 s2
                  go_simp; with_reducible rfl
                simp only [List.getElem_toArray, List.getElem_cons_succ, List.getElem_cons_zero, Act.put, List.setIfInBounds_toArray, List.set_cons_zero, List.set_cons_succ]
                refine wpLast_take (i := 12) (oi := _) (v := ?_) rfl (by kernel_rfl) (by kernel_rfl) (by decide) (by kernel_rfl) (by kernel_rfl) (fun _ _ _ h => h) (Or.inl ⟨by rfl, ?_⟩) hH.out ?_
                rotate_left
                · intro w1 hSw
                  obtain ⟨s1, s2, u0, u1⟩ := hSw
                  obtain ⟨d0, d1, d2, d3⟩ := four_cells s1
                  obtain ⟨q0, q1, q2, q3⟩ := four_cells s2
                  clear s1 s2
                  go_simp; with_reducible rfl
                simp only [List.getElem_toArray, List.getElem_cons_succ, List.getElem_cons_zero, Act.put, List.setIfInBounds_toArray, List.set_cons_zero, List.set_cons_succ]
                refine wpLast_take (i := 13) (oi := _) (v := ?_) rfl (by kernel_rfl) (by kernel_rfl) (by decide) (by kernel_rfl) (by kernel_rfl) (fun _ _ _ h => h) (Or.inl ⟨by rfl, ?_⟩) hH.out ?_
                rotate_left
                · intro w1 hSw
                  obtain ⟨s1, s2, u0, u1⟩ := hSw
                  obtain ⟨d0, d1, d2, d3⟩ := four_cells s1
                  obtain ⟨q0, q1, q2, q3⟩ := four_cells s2
                  clear s1 s2
                  go_simp; with_reducible rfl
                simp only [List.getElem_toArray, List.getElem_cons_succ, List.getElem_cons_zero, Act.put, List.setIfInBounds_toArray, List.set_cons_zero, List.set_cons_succ]
                refine wpLast_ready (rs := [14]) (by kernel_rfl) (by simp) ?_
                intro i hi; obtain rfl := List.mem_singleton.1 hi; clear hi
                refine wpOp_step rfl (fun K3 hK3 => ?_)
                have HK3 := Lib.hid hK3
                clear hK3
                rw [if_pos (by rfl)]
                go_simp
                obtain ⟨q, eq⟩ : ∃ g, g = Y0.heap.size := ⟨_, rfl⟩
                obtain ⟨Y1, eY⟩ : ∃ Y, Y = Y0.alloc (.cells #[.int .i64 x0, .int .i64 x1] 43) := ⟨_, rfl⟩
                have hXY : Below Y0.heap.size Y0 Y1 := by rw [eY]; exact (Below.refl _ _).alloc (Nat.le_refl _) _
                have hq : Y1.heap[q]? = some (.cells #[.int .i64 x0, .int .i64 x1] 43) := by rw [eY, eq]; exact alloc_heap Y0 _
                have hz0 : wr.heap.size ≤ Y0.heap.size := hbY.size
                have hz1 : Y0.heap.size ≤ Y1.heap.size := hXY.size
                have hqg : Y0.heap.size ≤ q := by omega
                rw [← eY, ← eq]
                clear eY eq
                have hw1 := own_below (own_below hv hbY) hXY
                have k_hr1 := own_below (own_below hr1 hbY) hXY
                replace hH := Lib.hid (And.intro ((hXY.block P (by omega)).trans hH.out.1) (And.intro ((hXY.block Xb (by omega)).trans hH.out.2.1) (And.intro ((hXY.cell (p := ⟨rb, ro + m * 2, none⟩) (by simp; omega)).trans (hH.out.2.2.1)) ((hXY.cell (p := ⟨rb, ro + m * 2 + 1, none⟩) (by simp; omega)).trans (hH.out.2.2.2)))))
                replace hbY := hbY.trans (hXY.mono hbY.size)
                clear hXY
                refine HK3.out _ _ ⟨fun _ => hH.out, fun _ => ?_⟩
                clear HK3 K3
                try simp only [List.getElem_toArray, List.getElem_cons_succ, List.getElem_cons_zero, Act.put, List.setIfInBounds_toArray, List.set_cons_zero, List.set_cons_succ]
                refine wpLast_ready (rs := [15]) (by kernel_rfl) (by simp) ?_
                intro i hi; obtain rfl := List.mem_singleton.1 hi; clear hi
                refine wpOp_step rfl (fun K3 hK3 => ?_)
                have HK3 := Lib.hid hK3
                clear hK3
                rw [if_pos (by rfl)]
                have hg1' : ∀ q, v3.ownBlock = some q → Xb + 1 ≤ q ∧ q < Y1.heap.size := fun q hq => hw1.lt q hq
                simp only [List.getElem_toArray, List.getElem_cons_succ, List.getElem_cons_zero]
                refine wp_oneE (.tmp 95) (.tmp 108) 25 43 2 16 (.agg #[.int .i64 0, .int .i64 0]) Try.underlying25 Try.info43 rfl (by decide) (by decide) (by rfl) (Xb + 1) q (by rfl) hw1 [.int .i64 x0, .int .i64 x1] rfl (by rfl) hq (by intro u hu; simp at hu; rcases hu with rfl | rfl <;> rfl) (by omega) (by omega) ?_
                intro g2 cp2 Y2 hown2 hg2 hXY
                replace k_hr1 := k_hr1.kept hXY (own_apart k_hr1 hw1 (by decide))
                have hsrc : rb < Xb + 1 := by omega
                replace hH := Lib.hid (And.intro ((hXY.block P (by omega) (fun e => by have := hg1' P e.symm; omega)).trans hH.out.1) (And.intro ((hXY.block Xb (by omega) (fun e => by have := hg1' Xb e.symm; omega)).trans hH.out.2.1) (And.intro (hXY.cell (hH.out.2.2.1) (fun e => by have := hg1' _ e.symm; simp at this; omega)) (hXY.cell (hH.out.2.2.2) (fun e => by have := hg1' _ e.symm; simp at this; omega)))))
                have hz2 : Y1.heap.size ≤ Y2.heap.size := hXY.size
                have hbW : Below WB.heap.size WB Y2 := ((HBW.out.trans (hbY.mono HBW.out.size))).grown hXY (by rw [HXB.out]; omega) (fun r hr => by rw [HXB.out]; have := hg1' r hr; omega)
                clear hXY
                refine HK3.out _ _ ⟨fun _ => hH.out, fun _ => ?_⟩
                clear HK3 K3
                try simp only [List.getElem_toArray, List.getElem_cons_succ, List.getElem_cons_zero, Act.put, List.setIfInBounds_toArray, List.set_cons_zero, List.set_cons_succ]
                refine wpLast_take (i := 16) (oi := _) (v := ?_) rfl (by kernel_rfl) (by kernel_rfl) (by decide) (by kernel_rfl) (by kernel_rfl) (fun _ _ _ h => h) (Or.inl ⟨by rfl, ?_⟩) hH.out ?_
                rotate_left
                · intro w1 hSw
                  obtain ⟨s1, s2, u0, u1⟩ := hSw
                  obtain ⟨d0, d1, d2, d3⟩ := four_cells s1
                  obtain ⟨q0, q1, q2, q3⟩ := four_cells s2
                  clear s1 s2
                  go_simp; with_reducible rfl
                simp only [List.getElem_toArray, List.getElem_cons_succ, List.getElem_cons_zero, Act.put, List.setIfInBounds_toArray, List.set_cons_zero, List.set_cons_succ]
                have t0 := (four_cells hH.out.2.1).2.2.2
                have tf : Y2.frozen? ⟨Xb, 3, none⟩ = false := by have := hH.out.2.1; simp [World.frozen?, this]
                refine wpLast_ready (rs := [17]) (by kernel_rfl) (by simp) ?_
                intro i hi; obtain rfl := List.mem_singleton.1 hi; clear hi
                refine wpOp_step rfl (fun K3 hK3 => ?_)
                have HK3 := Lib.hid hK3
                clear hK3
                rw [if_pos (by rfl)]
                go_simp
                have hg3 := setCell_grown Y2 ⟨Xb, 3, none⟩ (.slice (some ⟨g2, 0, none⟩) (j + 1) cp2)
                have r3 := heap_set hH.out.2.1 3 (.slice (some ⟨g2, 0, none⟩) (j + 1) cp2)
                have r1 := (hg3.block P (by omega) (by simp; omega)).trans hH.out.1
                have hd3 := hown2.kept hg3 (Or.inr (by simp [Value.ownBlock]; omega))
                have k3_hr1 := k_hr1.kept hg3 (own_off k_hr1)
                have hbZ : Below WB.heap.size WB (Y2.setCell ⟨Xb, 3, none⟩ (.slice (some ⟨g2, 0, none⟩) (j + 1) cp2)) := hbW.setCell (by rw [HXB.out]; exact Nat.le_refl _) _
                refine HK3.out _ _ ⟨fun h => absurd rfl h, fun _ => ?_⟩
                clear HK3 K3
                try simp only [List.getElem_toArray, List.getElem_cons_succ, List.getElem_cons_zero, Act.put, List.setIfInBounds_toArray, List.set_cons_zero, List.set_cons_succ]
                refine wpLast_done (by kernel_rfl) ?_ _
                go_wp2
                go_roundw
                case rel => exact ⟨j + 1, by omega, by go_num, _, by simpa using r3, by rw [HFL.out]; exact hd3, k3_hr1, hbZ⟩
                case measure => simp [intOf]; omega
            · have hjl : j = bs.length := by omega
              have i1 : ¬ (j : Int) < (bs.length : Int) := by omega
              rw [hjl, show (rotF bs t).take bs.length = rotF bs t from List.take_of_length_le (by rw [rot_len]; exact Nat.le_refl _)] at hv
              obtain ⟨wo, hwo⟩ : ∃ wo : World, wo = wr := ⟨_, rfl⟩
              subst hwo
              have HV := Lib.hid hv
              have HV1 := Lib.hid hr1
              have HXO := Lib.hid hx
              clear hjl hlt hj hv hx hr1 hbw hS1 hxs
              go_wp2
              clear d0 d1 d2 d3 i1
              go_loopw [16, 17] (fun f i wr => ∃ (j : Nat) (b : Bool), j ≤ ps.length ∧ f = .bool b ∧ i = .int .i64 j ∧ Twice ps j b ∧ At3 WB wr Xb (.slice ca cs.length cc) v1 v3 rs bs ps t j) (fun _ i _ => ps.length - (intOf i).toNat)
              case atStart => exact ⟨0, false, by omega, rfl, rfl, by simp [Twice, twiceF], .slice none 0 0, [], HXO.out, by simpa using World.ownsRow_nil wo (Xb + 1) 52 4, ⟨by simp, fun i hi => by simp at hi⟩, HV1.out, HV.out, HBW.out⟩
              clear HBW H5 HV HV1 HXO
              case round =>
                obtain ⟨j, b, hj, rfl, rfl, htw, hat⟩ := hrel
                have HTW := Lib.hid htw
                have HAT := Lib.hid hat
                clear htw hat
                by_cases hlt : j < ps.length
                · obtain ⟨pb, po, e1, hpb, hpx⟩ := (hp0.out.below HWB.out).at (by omega)
                  subst e1
                  have HPX := Lib.hid hpx
                  have ij1 : (j : Int) < (ps.length : Int) := by omega
                  have hbw0 := HAT.out.below'
                  have H5 := Lib.hid (HWB.out.trans (hbw0.mono HWB.out.size))
                  obtain ⟨d0, d1, d2, d3⟩ := four_cells (box_step (w0 := w) HR0.out H5.out)
                  clear hbw0 hpx
                  go_wp2
                  clear d0 d1 d2 d3 H5
                  go_loopw [16, 18] (fun f i wr2 => ∃ (k : Nat) (c : Bool), k ≤ j ∧ f = .bool c ∧ i = .int .i64 k ∧ TwiceIn ps j b k c ∧ At3 WB wr2 Xb (.slice ca cs.length cc) v1 v3 rs bs ps t j) (fun _ i _ => j - (intOf i).toNat)
                  case atStart => exact ⟨0, b, by omega, rfl, rfl, by simp [TwiceIn], HAT.out⟩
                  clear HAT
                  case round =>
                    obtain ⟨k, c, hk, rfl, rfl, htin, hat⟩ := hrel
                    have HAT := Lib.hid hat
                    have hbw := hat.below'
                    have H5 := Lib.hid (HWB.out.trans (hbw.mono HWB.out.size))
                    have hS1 := box_step (w0 := w) HR0.out H5.out
                    obtain ⟨d0, d1, d2, d3⟩ := four_cells hS1
                    by_cases hkj : k < j
                    · obtain ⟨_, _, p1, _, _, _⟩ := HPX.out j hlt
                      obtain ⟨_, _, p2, _, _, _⟩ := HPX.out k (by omega)
                      have hj1 := getD_bang' ps hlt
                      have hk1 := getD_bang' ps (show k < ps.length by omega)
                      rw [hj1] at p1
                      rw [hk1] at p2
                      have u1 := (hbw.cell (p := ⟨pb, po + j * 4 + 1, none⟩) hpb).trans p1
                      have u2 := (hbw.cell (p := ⟨pb, po + k * 4 + 1, none⟩) hpb).trans p2
                      have hnx := twice_in htin
                      obtain ⟨a1, ha1⟩ : ∃ x, ps[j]!.day = x := ⟨_, rfl⟩
                      obtain ⟨a2, ha2⟩ : ∃ x, ps[k]!.day = x := ⟨_, rfl⟩
                      rw [ha1] at u1
                      rw [ha2] at u2
                      simp only [ha1, ha2] at hnx
                      have HNX := Lib.hid hnx
                      have kj1 : (k : Int) < (j : Int) := by omega
                      have kp1 : (k : Int) < (ps.length : Int) := by omega
                      clear p1 p2 hj1 hk1 ha1 ha2 hnx htin hat hbw hS1
                      cases c with
                      | true =>
                        go_upto_region 23 with fail
                        go_quiet (fail)
                        go_wp2
                        go_roundw
                        case rel => exact ⟨k + 1, true, by omega, rfl, by go_num, by simpa using HNX.out, HAT.out.drewN _⟩
                        case measure => simp [intOf]; omega
                      | false =>
                        go_upto_region 23 with fail
                        go_quiet (fail)
                        go_wp2
                        go_roundw
                        case rel => exact ⟨k + 1, (a1 == a2), by omega, rfl, by go_num, by simpa using HNX.out, HAT.out.drewN _⟩
                        case measure => simp [intOf]; omega
                    · have hkj2 : k = j := by omega
                      have kj1 : ¬ (k : Int) < (j : Int) := by omega
                      rw [hkj2] at htin
                      have HTW2 := Lib.hid (twice_out HTW.out htin)
                      obtain ⟨v2, F, hx, hv, hF, hr1, hr3, hbw2⟩ := hat
                      have HF := Lib.hid hF
                      have HBW := Lib.hid hbw
                      have hxs := (Array.getElem?_eq_some_iff.1 hx).1
                      obtain ⟨m, hm⟩ : ∃ m, (j + t) % ps.length = m := ⟨_, rfl⟩
                      have hml : m < ps.length := by rw [← hm]; exact mod_lt' hlt
                      have htm := tmod_nat j t ps.length
                      have hst := rot_step (t := t) hlt
                      rw [hm] at htm hst
                      obtain ⟨sv, p0, p1, p2, p3, p4⟩ := HPX.out m hml
                      obtain ⟨sa, sc, rfl⟩ := p4.shape
                      obtain ⟨⟨y0, y1, y2, y3⟩, hxr⟩ : ∃ x : Prf, ps.getD m default = x := ⟨_, rfl⟩
                      have u0 := (hbw.cell (p := ⟨pb, po + m * 4, none⟩) hpb).trans p0
                      have u1 := (hbw.cell (p := ⟨pb, po + m * 4 + 1, none⟩) hpb).trans p1
                      have u2 := (hbw.cell (p := ⟨pb, po + m * 4 + 2, none⟩) hpb).trans p2
                      have u3 := (hbw.cell (p := ⟨pb, po + m * 4 + 3, none⟩) hpb).trans p3
                      rw [hxr] at u0 u1 u2 u3 hst p4
                      simp only [] at u0 u1 u2 u3 p4
                      obtain ⟨y2n, hy2n⟩ : ∃ k, y2.length = k := ⟨_, rfl⟩
                      have hsn := PrfVals.snoc (p := ⟨y0, y1, y2, y3⟩) HF.out p4
                      rw [← hst] at hsn
                      rw [hy2n] at u2 hsn
                      have HSN := Lib.hid hsn
                      have hrb2 : pb < Xb := by rw [← HXB.out]; exact hpb
                      have w1 : IntKind.i64.wrap ((j : Int) + (t : Int)) = (j : Int) + (t : Int) := IntWalk.i64_in _ (by omega)
                      have w2 : IntKind.i64.wrap (t : Int) = (t : Int) := IntWalk.i64_in _ (by omega)
                      have w3 : IntKind.i64.wrap (m : Int) = (m : Int) := IntWalk.i64_in _ (by omega)
                      have im1 : (m : Int) < (ps.length : Int) := by omega
                      have inz : ¬ ps = [] := fun e => by rw [e] at hlt; exact absurd hlt (Nat.not_lt_zero _)
                      clear hxr hst hbw hbw2 hm p0 p1 p2 p3 p4 htin hkj hF hsn hy2n
                      have hS2 := hx
                      go_upto_region 24 with fail
                      clear d0 d1 d2 d3
                      as_aux_lemma =>
                        refine wp_region_last (fun w' => w'.heap[P]? = some (.cells #[.slice ca cs.length cc, .slice ra rs.length rc, .slice (some ⟨pb, po, none⟩) ps.length pc, .slice ba bs.length bc] 27) ∧ w'.heap[Xb]? = some (.cells #[.slice ca cs.length cc, v1, v2, v3] 27 (0, 0)) ∧ w'.cell? ⟨pb, po + m * 4, none⟩ = some (.int .i64 y0) ∧ w'.cell? ⟨pb, po + m * 4 + 1, none⟩ = some (.int .i64 y1) ∧ w'.cell? ⟨pb, po + m * 4 + 2, none⟩ = some (.slice sa y2n sc) ∧ w'.cell? ⟨pb, po + m * 4 + 3, none⟩ = some (.int .i64 y3)) 17 (by kernel_rfl) ⟨hS1, hS2, u0, u1, u2, u3⟩ (fun hHeld => ?_)
                        obtain ⟨Y0, hY0⟩ : ∃ X, X = wr.drew := ⟨_, rfl⟩
                        have hbY : Below wr.heap.size wr Y0 := by rw [hY0]; exact (Below.refl _ _).drew
                        rw [← hY0] at hHeld ⊢
                        have hH := Lib.hid hHeld
                        clear hY0 hHeld hS1 hS2 u0 u1 u2 u3
                        refine wpLast_take (i := 0) (oi := _) (v := ?_) rfl (by kernel_rfl) (by kernel_rfl) (by decide) (by kernel_rfl) (by kernel_rfl) (fun _ _ _ h => h) (Or.inl ⟨by rfl, ?_⟩) hH.out ?_
                        rotate_left
                        · intro w1 hSw
                          obtain ⟨s1, s2, u0, u1, u2, u3⟩ := hSw
                          obtain ⟨d0, d1, d2, d3⟩ := four_cells s1
                          obtain ⟨q0, q1, q2, q3⟩ := four_cells s2
                          clear s1 s2
                          go_simp; with_reducible rfl
                        simp only [List.getElem_toArray, List.getElem_cons_succ, List.getElem_cons_zero, Act.put, List.setIfInBounds_toArray, List.set_cons_zero, List.set_cons_succ]
                        refine wpLast_take (i := 1) (oi := _) (v := ?_) rfl (by kernel_rfl) (by kernel_rfl) (by decide) (by kernel_rfl) (by kernel_rfl) (fun _ _ _ h => h) (Or.inl ⟨by rfl, ?_⟩) hH.out ?_
                        rotate_left
                        · intro w1 hSw
                          obtain ⟨s1, s2, u0, u1, u2, u3⟩ := hSw
                          obtain ⟨d0, d1, d2, d3⟩ := four_cells s1
                          obtain ⟨q0, q1, q2, q3⟩ := four_cells s2
                          clear s1 s2
                          go_simp; with_reducible rfl
                        simp only [List.getElem_toArray, List.getElem_cons_succ, List.getElem_cons_zero, Act.put, List.setIfInBounds_toArray, List.set_cons_zero, List.set_cons_succ]
                        refine wpLast_take (i := 2) (oi := _) (v := ?_) rfl (by kernel_rfl) (by kernel_rfl) (by decide) (by kernel_rfl) (by kernel_rfl) (fun _ _ _ h => h) (Or.inl ⟨by rfl, ?_⟩) hH.out ?_
                        rotate_left
                        · intro w1 hSw
                          obtain ⟨s1, s2, u0, u1, u2, u3⟩ := hSw
                          obtain ⟨d0, d1, d2, d3⟩ := four_cells s1
                          obtain ⟨q0, q1, q2, q3⟩ := four_cells s2
                          clear s1 s2
                          go_simp; with_reducible rfl
                        simp only [List.getElem_toArray, List.getElem_cons_succ, List.getElem_cons_zero, Act.put, List.setIfInBounds_toArray, List.set_cons_zero, List.set_cons_succ]
                        refine wpLast_take (i := 3) (oi := _) (v := ?_) rfl (by kernel_rfl) (by kernel_rfl) (by decide) (by kernel_rfl) (by kernel_rfl) (fun _ _ _ h => h) (Or.inl ⟨by rfl, ?_⟩) hH.out ?_
                        rotate_left
                        · intro w1 hSw
                          obtain ⟨s1, s2, u0, u1, u2, u3⟩ := hSw
                          obtain ⟨d0, d1, d2, d3⟩ := four_cells s1
                          obtain ⟨q0, q1, q2, q3⟩ := four_cells s2
                          clear s1 s2
                          go_simp; with_reducible rfl
                        simp only [List.getElem_toArray, List.getElem_cons_succ, List.getElem_cons_zero, Act.put, List.setIfInBounds_toArray, List.set_cons_zero, List.set_cons_succ]
                        refine wpLast_take (i := 4) (oi := _) (v := ?_) rfl (by kernel_rfl) (by kernel_rfl) (by decide) (by kernel_rfl) (by kernel_rfl) (fun _ _ _ h => h) (Or.inl ⟨by rfl, ?_⟩) hH.out ?_
                        rotate_left
                        · intro w1 hSw
                          obtain ⟨s1, s2, u0, u1, u2, u3⟩ := hSw
                          obtain ⟨d0, d1, d2, d3⟩ := four_cells s1
                          obtain ⟨q0, q1, q2, q3⟩ := four_cells s2
                          clear s1 s2
                          go_simp; with_reducible rfl
                        simp only [List.getElem_toArray, List.getElem_cons_succ, List.getElem_cons_zero, Act.put, List.setIfInBounds_toArray, List.set_cons_zero, List.set_cons_succ]
                        refine wpLast_take (i := 5) (oi := _) (v := ?_) rfl (by kernel_rfl) (by kernel_rfl) (by decide) (by kernel_rfl) (by kernel_rfl) (fun _ _ _ h => h) (Or.inl ⟨by rfl, ?_⟩) hH.out ?_
                        rotate_left
                        · intro w1 hSw
                          obtain ⟨s1, s2, u0, u1, u2, u3⟩ := hSw
                          obtain ⟨d0, d1, d2, d3⟩ := four_cells s1
                          obtain ⟨q0, q1, q2, q3⟩ := four_cells s2
                          clear s1 s2
                          go_simp; with_reducible rfl
                        simp only [List.getElem_toArray, List.getElem_cons_succ, List.getElem_cons_zero, Act.put, List.setIfInBounds_toArray, List.set_cons_zero, List.set_cons_succ]
                        refine wpLast_take (i := 6) (oi := _) (v := ?_) rfl (by kernel_rfl) (by kernel_rfl) (by decide) (by kernel_rfl) (by kernel_rfl) (fun _ _ _ h => h) (Or.inl ⟨by rfl, ?_⟩) hH.out ?_
                        rotate_left
                        · intro w1 hSw
                          obtain ⟨s1, s2, u0, u1, u2, u3⟩ := hSw
                          obtain ⟨d0, d1, d2, d3⟩ := four_cells s1
                          obtain ⟨q0, q1, q2, q3⟩ := four_cells s2
                          clear s1 s2
                          go_simp; with_reducible rfl
                        simp only [List.getElem_toArray, List.getElem_cons_succ, List.getElem_cons_zero, Act.put, List.setIfInBounds_toArray, List.set_cons_zero, List.set_cons_succ]
                        refine wpLast_take (i := 7) (oi := _) (v := ?_) rfl (by kernel_rfl) (by kernel_rfl) (by decide) (by kernel_rfl) (by kernel_rfl) (fun _ _ _ h => h) (Or.inl ⟨by rfl, ?_⟩) hH.out ?_
                        rotate_left
                        · intro w1 hSw
                          obtain ⟨s1, s2, u0, u1, u2, u3⟩ := hSw
                          obtain ⟨d0, d1, d2, d3⟩ := four_cells s1
                          obtain ⟨q0, q1, q2, q3⟩ := four_cells s2
                          clear s1 s2
                          go_simp; with_reducible rfl
                        simp only [List.getElem_toArray, List.getElem_cons_succ, List.getElem_cons_zero, Act.put, List.setIfInBounds_toArray, List.set_cons_zero, List.set_cons_succ]
                        refine wpLast_take (i := 8) (oi := _) (v := ?_) rfl (by kernel_rfl) (by kernel_rfl) (by decide) (by kernel_rfl) (by kernel_rfl) (fun _ _ _ h => h) (Or.inl ⟨by rfl, ?_⟩) hH.out ?_
                        rotate_left
                        · intro w1 hSw
                          obtain ⟨s1, s2, u0, u1, u2, u3⟩ := hSw
                          obtain ⟨d0, d1, d2, d3⟩ := four_cells s1
                          obtain ⟨q0, q1, q2, q3⟩ := four_cells s2
                          clear s1 s2
                          go_simp; with_reducible rfl
                        simp only [List.getElem_toArray, List.getElem_cons_succ, List.getElem_cons_zero, Act.put, List.setIfInBounds_toArray, List.set_cons_zero, List.set_cons_succ]
                        refine wpLast_take (i := 9) (oi := _) (v := ?_) rfl (by kernel_rfl) (by kernel_rfl) (by decide) (by kernel_rfl) (by kernel_rfl) (fun _ _ _ h => h) (Or.inl ⟨by rfl, ?_⟩) hH.out ?_
                        rotate_left
                        · intro w1 hSw
                          obtain ⟨s1, s2, u0, u1, u2, u3⟩ := hSw
                          obtain ⟨d0, d1, d2, d3⟩ := four_cells s1
                          obtain ⟨q0, q1, q2, q3⟩ := four_cells s2
                          clear s1 s2
                          go_simp; with_reducible rfl
                        simp only [List.getElem_toArray, List.getElem_cons_succ, List.getElem_cons_zero, Act.put, List.setIfInBounds_toArray, List.set_cons_zero, List.set_cons_succ]
                        refine wpLast_take (i := 10) (oi := _) (v := ?_) rfl (by kernel_rfl) (by kernel_rfl) (by decide) (by kernel_rfl) (by kernel_rfl) (fun _ _ _ h => h) (Or.inl ⟨by rfl, ?_⟩) hH.out ?_
                        rotate_left
                        · intro w1 hSw
                          obtain ⟨s1, s2, u0, u1, u2, u3⟩ := hSw
                          obtain ⟨d0, d1, d2, d3⟩ := four_cells s1
                          obtain ⟨q0, q1, q2, q3⟩ := four_cells s2
                          clear s1 s2
                          go_simp; with_reducible rfl
                        simp only [List.getElem_toArray, List.getElem_cons_succ, List.getElem_cons_zero, Act.put, List.setIfInBounds_toArray, List.set_cons_zero, List.set_cons_succ]
                        refine wpLast_take (i := 11) (oi := _) (v := ?_) rfl (by kernel_rfl) (by kernel_rfl) (by decide) (by kernel_rfl) (by kernel_rfl) (fun _ _ _ h => h) (Or.inl ⟨by rfl, ?_⟩) hH.out ?_
                        rotate_left
                        · intro w1 hSw
                          obtain ⟨s1, s2, u0, u1, u2, u3⟩ := hSw
                          obtain ⟨d0, d1, d2, d3⟩ := four_cells s1
                          obtain ⟨q0, q1, q2, q3⟩ := four_cells s2
                          clear s1 s2
                          go_simp; with_reducible rfl
                        simp only [List.getElem_toArray, List.getElem_cons_succ, List.getElem_cons_zero, Act.put, List.setIfInBounds_toArray, List.set_cons_zero, List.set_cons_succ]
                        refine wpLast_take (i := 12) (oi := _) (v := ?_) rfl (by kernel_rfl) (by kernel_rfl) (by decide) (by kernel_rfl) (by kernel_rfl) (fun _ _ _ h => h) (Or.inl ⟨by rfl, ?_⟩) hH.out ?_
                        rotate_left
                        · intro w1 hSw
                          obtain ⟨s1, s2, u0, u1, u2, u3⟩ := hSw
                          obtain ⟨d0, d1, d2, d3⟩ := four_cells s1
                          obtain ⟨q0, q1, q2, q3⟩ := four_cells s2
                          clear s1 s2
                          go_simp; with_reducible rfl
                        simp only [List.getElem_toArray, List.getElem_cons_succ, List.getElem_cons_zero, Act.put, List.setIfInBounds_toArray, List.set_cons_zero, List.set_cons_succ]
                        refine wpLast_take (i := 13) (oi := _) (v := ?_) rfl (by kernel_rfl) (by kernel_rfl) (by decide) (by kernel_rfl) (by kernel_rfl) (fun _ _ _ h => h) (Or.inl ⟨by rfl, ?_⟩) hH.out ?_
                        rotate_left
                        · intro w1 hSw
                          obtain ⟨s1, s2, u0, u1, u2, u3⟩ := hSw
                          obtain ⟨d0, d1, d2, d3⟩ := four_cells s1
                          obtain ⟨q0, q1, q2, q3⟩ := four_cells s2
                          clear s1 s2
                          go_simp; with_reducible rfl
                        simp only [List.getElem_toArray, List.getElem_cons_succ, List.getElem_cons_zero, Act.put, List.setIfInBounds_toArray, List.set_cons_zero, List.set_cons_succ]
                        refine wpLast_ready (rs := [14]) (by kernel_rfl) (by simp) ?_
                        intro i hi; obtain rfl := List.mem_singleton.1 hi; clear hi
                        refine wpOp_step rfl (fun K3 hK3 => ?_)
                        have HK3 := Lib.hid hK3
                        clear hK3
                        rw [if_pos (by rfl)]
                        go_simp
                        obtain ⟨q, eq⟩ : ∃ g, g = Y0.heap.size := ⟨_, rfl⟩
                        obtain ⟨Y1, eY⟩ : ∃ Y, Y = Y0.alloc (.cells #[.int .i64 y0, .int .i64 y1, .slice sa y2n sc, .int .i64 y3] 52) := ⟨_, rfl⟩
                        have hXY : Below Y0.heap.size Y0 Y1 := by rw [eY]; exact (Below.refl _ _).alloc (Nat.le_refl _) _
                        have hq : Y1.heap[q]? = some (.cells #[.int .i64 y0, .int .i64 y1, .slice sa y2n sc, .int .i64 y3] 52) := by rw [eY, eq]; exact alloc_heap Y0 _
                        have hz0 : wr.heap.size ≤ Y0.heap.size := hbY.size
                        have hz1 : Y0.heap.size ≤ Y1.heap.size := hXY.size
                        have hqg : Y0.heap.size ≤ q := by omega
                        rw [← eY, ← eq]
                        clear eY eq
                        have hw1 := own_below (own_below hv hbY) hXY
                        have k_hr1 := own_below (own_below hr1 hbY) hXY
                        have k_hr3 := own_below (own_below hr3 hbY) hXY
                        replace hH := Lib.hid (And.intro ((hXY.block P (by omega)).trans hH.out.1) (And.intro ((hXY.block Xb (by omega)).trans hH.out.2.1) (And.intro ((hXY.cell (p := ⟨pb, po + m * 4, none⟩) (by simp; omega)).trans (hH.out.2.2.1)) (And.intro ((hXY.cell (p := ⟨pb, po + m * 4 + 1, none⟩) (by simp; omega)).trans (hH.out.2.2.2.1)) (And.intro ((hXY.cell (p := ⟨pb, po + m * 4 + 2, none⟩) (by simp; omega)).trans (hH.out.2.2.2.2.1)) ((hXY.cell (p := ⟨pb, po + m * 4 + 3, none⟩) (by simp; omega)).trans (hH.out.2.2.2.2.2)))))))
                        replace hbY := hbY.trans (hXY.mono hbY.size)
                        clear hXY
                        refine HK3.out _ _ ⟨fun _ => hH.out, fun _ => ?_⟩
                        clear HK3 K3
                        try simp only [List.getElem_toArray, List.getElem_cons_succ, List.getElem_cons_zero, Act.put, List.setIfInBounds_toArray, List.set_cons_zero, List.set_cons_succ]
                        refine wpLast_ready (rs := [15]) (by kernel_rfl) (by simp) ?_
                        intro i hi; obtain rfl := List.mem_singleton.1 hi; clear hi
                        refine wpOp_step rfl (fun K3 hK3 => ?_)
                        have HK3 := Lib.hid hK3
                        clear hK3
                        rw [if_pos (by rfl)]
                        have hg1' : ∀ q, v2.ownBlock = some q → Xb + 1 ≤ q ∧ q < Y1.heap.size := fun q hq => hw1.lt q hq
                        simp only [List.getElem_toArray, List.getElem_cons_succ, List.getElem_cons_zero]
                        refine wp_oneE (.tmp 140) (.tmp 153) 24 52 4 48 (.agg #[.int .i64 0, .int .i64 0, .slice none 0 0, .int .i64 0]) Try.underlying24 Try.info52 rfl (by decide) (by decide) (by rfl) (Xb + 1) q (by rfl) hw1 [.int .i64 y0, .int .i64 y1, .slice sa y2n sc, .int .i64 y3] rfl (by rfl) hq (by intro u hu; simp at hu; rcases hu with rfl | rfl | rfl | rfl <;> rfl) (by omega) (by omega) ?_
                        intro g2 cp2 Y2 hown2 hg2 hXY
                        replace k_hr1 := k_hr1.kept hXY (own_apart k_hr1 hw1 (by decide))
                        replace k_hr3 := k_hr3.kept hXY (own_apart k_hr3 hw1 (by decide))
                        have hsrc : pb < Xb + 1 := by omega
                        replace hH := Lib.hid (And.intro ((hXY.block P (by omega) (fun e => by have := hg1' P e.symm; omega)).trans hH.out.1) (And.intro ((hXY.block Xb (by omega) (fun e => by have := hg1' Xb e.symm; omega)).trans hH.out.2.1) (And.intro (hXY.cell (hH.out.2.2.1) (fun e => by have := hg1' _ e.symm; simp at this; omega)) (And.intro (hXY.cell (hH.out.2.2.2.1) (fun e => by have := hg1' _ e.symm; simp at this; omega)) (And.intro (hXY.cell (hH.out.2.2.2.2.1) (fun e => by have := hg1' _ e.symm; simp at this; omega)) (hXY.cell (hH.out.2.2.2.2.2) (fun e => by have := hg1' _ e.symm; simp at this; omega)))))))
                        have hz2 : Y1.heap.size ≤ Y2.heap.size := hXY.size
                        have hbW : Below WB.heap.size WB Y2 := ((HBW.out.trans (hbY.mono HBW.out.size))).grown hXY (by rw [HXB.out]; omega) (fun r hr => by rw [HXB.out]; have := hg1' r hr; omega)
                        clear hXY
                        refine HK3.out _ _ ⟨fun _ => hH.out, fun _ => ?_⟩
                        clear HK3 K3
                        try simp only [List.getElem_toArray, List.getElem_cons_succ, List.getElem_cons_zero, Act.put, List.setIfInBounds_toArray, List.set_cons_zero, List.set_cons_succ]
                        refine wpLast_take (i := 16) (oi := _) (v := ?_) rfl (by kernel_rfl) (by kernel_rfl) (by decide) (by kernel_rfl) (by kernel_rfl) (fun _ _ _ h => h) (Or.inl ⟨by rfl, ?_⟩) hH.out ?_
                        rotate_left
                        · intro w1 hSw
                          obtain ⟨s1, s2, u0, u1, u2, u3⟩ := hSw
                          obtain ⟨d0, d1, d2, d3⟩ := four_cells s1
                          obtain ⟨q0, q1, q2, q3⟩ := four_cells s2
                          clear s1 s2
                          go_simp; with_reducible rfl
                        simp only [List.getElem_toArray, List.getElem_cons_succ, List.getElem_cons_zero, Act.put, List.setIfInBounds_toArray, List.set_cons_zero, List.set_cons_succ]
                        have t0 := (four_cells hH.out.2.1).2.2.1
                        have tf : Y2.frozen? ⟨Xb, 2, none⟩ = false := by have := hH.out.2.1; simp [World.frozen?, this]
                        refine wpLast_ready (rs := [17]) (by kernel_rfl) (by simp) ?_
                        intro i hi; obtain rfl := List.mem_singleton.1 hi; clear hi
                        refine wpOp_step rfl (fun K3 hK3 => ?_)
                        have HK3 := Lib.hid hK3
                        clear hK3
                        rw [if_pos (by rfl)]
                        go_simp
                        have hg3 := setCell_grown Y2 ⟨Xb, 2, none⟩ (.slice (some ⟨g2, 0, none⟩) (j + 1) cp2)
                        have r3 := heap_set hH.out.2.1 2 (.slice (some ⟨g2, 0, none⟩) (j + 1) cp2)
                        have r1 := (hg3.block P (by omega) (by simp; omega)).trans hH.out.1
                        have hd3 := hown2.kept hg3 (Or.inr (by simp [Value.ownBlock]; omega))
                        have k3_hr1 := k_hr1.kept hg3 (own_off k_hr1)
                        have k3_hr3 := k_hr3.kept hg3 (own_off k_hr3)
                        have hbZ : Below WB.heap.size WB (Y2.setCell ⟨Xb, 2, none⟩ (.slice (some ⟨g2, 0, none⟩) (j + 1) cp2)) := hbW.setCell (by rw [HXB.out]; exact Nat.le_refl _) _
                        refine HK3.out _ _ ⟨fun h => absurd rfl h, fun _ => ?_⟩
                        clear HK3 K3
                        try simp only [List.getElem_toArray, List.getElem_cons_succ, List.getElem_cons_zero, Act.put, List.setIfInBounds_toArray, List.set_cons_zero, List.set_cons_succ]
                        refine wpLast_done (by kernel_rfl) ?_ _
                        go_wp2
                        go_roundw
                        case rel => exact ⟨j + 1, c, by omega, rfl, by go_num, HTW2.out, _, _, by simpa using r3, hd3, HSN.out, k3_hr1, k3_hr3, hbZ⟩
                        case measure => simp [intOf]; omega
                · have hjl : j = ps.length := by omega
                  have i1 : ¬ (j : Int) < (ps.length : Int) := by omega
                  obtain ⟨v2, F, hx, hv, hF, hr1, hr3, hbw⟩ := HAT.out
                  have htw := HTW.out
                  unfold Twice at htw
                  rw [hjl] at hv hF htw
                  rw [show (rotF ps t).take ps.length = rotF ps t from List.take_of_length_le (by rw [rot_len]; exact Nat.le_refl _)] at hF
                  have H5 := Lib.hid (HWB.out.trans (hbw.mono HWB.out.size))
                  have hS1 := box_step (w0 := w) HR0.out H5.out
                  obtain ⟨d0, d1, d2, d3⟩ := four_cells hS1
                  obtain ⟨wo, hwo⟩ : ∃ wo : World, wo = wr := ⟨_, rfl⟩
                  subst hwo
                  have hxs := (Array.getElem?_eq_some_iff.1 hx).1
                  have HBW := Lib.hid hbw
                  have HHV := Lib.hid hv
                  have HHF := Lib.hid hF
                  have HH1 := Lib.hid hr1
                  have HH3 := Lib.hid hr3
                  have HHX := Lib.hid hx
                  have HTWI := Lib.hid htw
                  clear hjl hlt hj hv hF hr1 hr3 hbw HAT HTW htw hS1
                  go_upto_if 156 with fail
                  go_cut [10] (fun r wc => r = .bool false ∧ ∃ R2, wc.heap[Xb]? = some (.cells #[.slice ca cs.length cc, v1, R2, v3] 27 (0, 0)) ∧ Prf3 WB wc Xb R2 (.slice pa ps.length pc) ps t ∧ wc.ownsRow (Xb + 1) 42 4 v1 rs.length (flatK 4 rowC (rotF rs t)) ∧ wc.ownsRow (Xb + 1) 43 2 v3 bs.length (flatK 2 brkC (rotF bs t)) ∧ Below WB.heap.size WB wc)
                  case first =>
                    as_aux_lemma =>
                      cases b with
                      | true =>
                        obtain ⟨c0, c1, c2, c3⟩ := four_cells hx
                        have tf : wo.frozen? ⟨Xb, 2, none⟩ = false := by simp [World.frozen?, hx]
                        have hg3 := setCell_grown wo ⟨Xb, 2, none⟩ (.slice pa ps.length pc)
                        have r3 := heap_set hx 2 (.slice pa ps.length pc)
                        have k1 := HH1.out.kept hg3 (own_off HH1.out)
                        have k3 := HH3.out.kept hg3 (own_off HH3.out)
                        have hbZ : Below WB.heap.size WB (wo.setCell ⟨Xb, 2, none⟩ (.slice pa ps.length pc)) := HBW.out.setCell (by rw [HXB.out]; exact Nat.le_refl _) _
                        have R3 := Lib.hid r3
                        have K1 := Lib.hid k1
                        have K3 := Lib.hid k3
                        have HBZ := Lib.hid hbZ
                        clear hg3 r3 k1 k3 hbZ
                        go_wp2_with fail
                        go_meet
                        case rel => exact ⟨rfl, _, by simpa using R3.out, .inl ⟨HTWI.out.symm, rfl⟩, K1.out, K3.out, HBZ.out⟩
                      | false =>
                        go_wp2_with fail
                        go_meet
                        case rel => exact ⟨rfl, _, HHX.out, .inr ⟨HTWI.out.symm, F, HHV.out, HHF.out⟩, HH1.out, HH3.out, HBW.out⟩
                  case rest =>
                    obtain ⟨rfl, R2, hx, hp3, hr1, hr3, hbw⟩ := hcut
                    obtain ⟨wm, hwm⟩ : ∃ wm : World, wm = wc := ⟨_, rfl⟩
                    subst hwm
                    have HBW := Lib.hid hbw
                    have H6 := Lib.hid (HWB.out.trans (hbw.mono HWB.out.size))
                    have HP3 := Lib.hid hp3
                    have HH1 := Lib.hid hr1
                    have HH3 := Lib.hid hr3
                    have hxs := (Array.getElem?_eq_some_iff.1 hx).1
                    obtain ⟨c0, c1, c2, c3⟩ := four_cells hx
                    have HHX := Lib.hid hx
                    obtain ⟨z1, zc, hz1⟩ := own_shape hr1
                    subst hz1
                    have hmem : Mem WB wm Xb (.slice ca cs.length cc) (.slice z1 rs.length zc) R2 v3 (.slice pa ps.length pc) (rotF rs t) rs.length bs ps t := ⟨hx, hr1, hp3, hr3, hbw⟩
                    have HMEM := Lib.hid hmem
                    have hLl := rot_len rs t
                    obtain ⟨L, hL⟩ : ∃ L, rotF rs t = L := ⟨_, rfl⟩
                    rw [hL] at HMEM hLl
                    have HL := Lib.hid hL
                    obtain ⟨nr, hnr⟩ : ∃ k, rs.length = k := ⟨_, rfl⟩
                    rw [hnr] at hLl HMEM hfr
                    have HNR := Lib.hid hnr
                    rw [hnr] at c1
                    clear hx hp3 hr1 hr3 hbw d0 d1 d2 d3 HHV HHF HTWI hxs i1 H5 hmem hL HHX HH1 HH3 HP3
                    go_upto_region 27 with fail
                    simp only [hnr]
                    clear hnr
                    go_cut [182] (fun v wc => v = .bool (cutB L) ∧ Below wm.heap.size wm wc)
                    case first =>
                      as_aux_lemma =>
                        cases L with
                        | nil =>
                          have hn0 : nr = 0 := hLl.symm
                          subst hn0
                          have i1 : ¬ (0 : Int) < ((0 : Nat) : Int) := by omega
                          go_quiet (fail)
                          go_wp2
                          go_meet
                          case rel => exact ⟨rfl, below_drewn (Below.refl _ _) _⟩
                        | cons r l =>
                          obtain ⟨x0, x1, x2, x3⟩ := r
                          have hn0 : nr = l.length + 1 := hLl.symm
                          have hro := HMEM.out.rows
                          rcases hro.2 with ⟨_, h0⟩ | ⟨g1, cp1, cur, e1, _⟩
                          · omega
                          · simp only [Value.slice.injEq, true_and] at e1
                            obtain ⟨e1, rfl⟩ := e1
                            subst e1
                            have e0 : wm.cell? ⟨g1, 0, none⟩ = some (.int .i64 x0) := (hro.cellAt 0 (by omega)).trans rfl
                            have e1 : wm.cell? ⟨g1, 1, none⟩ = some (.int .i64 x1) := (hro.cellAt 1 (by omega)).trans rfl
                            have i1 : (0 : Int) < (nr : Int) := by omega
                            have i1' : 0 < nr := by omega
                            clear hro
                            by_cases c24 : (nr : Int) < 24
                            · have c24' : nr < 24 := by omega
                              have hcb : cutB (⟨x0, x1, x2, x3⟩ :: l) = decide (x0 < x1) := by
                                rw [cutB_cons, decide_eq_true (show l.length + 1 < 24 by omega)]; rfl
                              have HCB := Lib.hid hcb
                              clear hcb hn0 hLl
                              go_quiet (fail)
                              go_wp2
                              go_meet
                              case rel => exact ⟨by rw [HCB.out], below_drewn (Below.refl _ _) _⟩
                            · have c24' : ¬ nr < 24 := by omega
                              have c24'' : 24 ≤ nr := by omega
                              have hcb : cutB (⟨x0, x1, x2, x3⟩ :: l) = false := by
                                rw [cutB_cons, decide_eq_false (show ¬ l.length + 1 < 24 by omega)]; rfl
                              have HCB := Lib.hid hcb
                              clear hcb hn0 hLl
                              go_quiet (fail)
                              go_wp2
                              go_meet
                              case rel => exact ⟨by rw [HCB.out], below_drewn (Below.refl _ _) _⟩
                    case rest =>
                      obtain ⟨rfl, hbc⟩ := hcut
                      obtain ⟨wn, hwn⟩ : ∃ wn : World, wn = wc := ⟨_, rfl⟩
                      subst hwn
                      have HMEM2 := Lib.hid (HMEM.out.below hbc)
                      have H7 := Lib.hid (H6.out.trans (hbc.mono H6.out.size))
                      clear hbc c0 c1 c2 c3 HMEM HBW H6
                      go_upto_if 182 with fail
                      go_cut [10] (fun r wc => r = .bool false ∧ ∃ R1, wc.heap[Xb]? = some (.cells #[.slice ca cs.length cc, R1, R2, v3] 27 (0, 0)) ∧ TabAt 4 rowC wc R1 (cutF L t) ∧ Prf3 WB wc Xb R2 (.slice pa ps.length pc) ps t ∧ wc.ownsRow (Xb + 1) 43 2 v3 bs.length (flatK 2 brkC (rotF bs t)) ∧ Below WB.heap.size WB wc)
                      case first =>
                        as_aux_lemma =>
                          obtain ⟨cb, hcb⟩ : ∃ b, cutB L = b := ⟨_, rfl⟩
                          rw [hcb]
                          cases cb with
                          | false =>
                            have hM := HMEM2.out
                            have ht1 := tab_of_own hM.rows hLl.symm (by rw [hLl]; unfold maxLen; omega)
                            rw [← cutB_false (t := t) hcb] at ht1
                            have HT1 := Lib.hid ht1
                            clear hM ht1 hcb
                            go_wp2_with fail
                            go_meet
                            case rel => exact ⟨rfl, _, HMEM2.out.box, HT1.out, HMEM2.out.prf, HMEM2.out.brk, HMEM2.out.bel⟩
                          | true =>
                            cases L with
                            | nil => cases hcb
                            | cons r l =>
                              obtain ⟨x0, x1, x2, x3⟩ := r
                              rw [cutB_cons, Bool.and_eq_true, decide_eq_true_eq, decide_eq_true_eq] at hcb
                              obtain ⟨h24, hlh⟩ := hcb
                              try simp only [] at hlh
                              have hall := all_perm (rot_perm rs t) (rows_all HOK.out)
                              rw [HL.out, List.all_cons, Bool.and_eq_true] at hall
                              have hb1 := hall.1
                              unfold rowOk at hb1
                              simp only [Bool.and_eq_true, inF_iff, decide_eq_true_eq] at hb1
                              have hn0 : nr = l.length + 1 := hLl.symm
                              have hro := HMEM2.out.rows
                              rcases hro.2 with ⟨_, h0⟩ | ⟨g1, cp1, cur, e1, _⟩
                              · omega
                              · simp only [Value.slice.injEq, true_and] at e1
                                obtain ⟨e1, rfl⟩ := e1
                                subst e1
                                obtain ⟨hgl, hgh⟩ := hro.lt g1 rfl
                                have e0 : wn.cell? ⟨g1, 0, none⟩ = some (.int .i64 x0) := (hro.cellAt 0 (by omega)).trans rfl
                                have e1 : wn.cell? ⟨g1, 1, none⟩ = some (.int .i64 x1) := (hro.cellAt 1 (by omega)).trans rfl
                                have e2 : wn.cell? ⟨g1, 2, none⟩ = some (.int .i64 x2) := (hro.cellAt 2 (by omega)).trans rfl
                                have e3 : wn.cell? ⟨g1, 3, none⟩ = some (.int .i64 x3) := (hro.cellAt 3 (by omega)).trans rfl
                                obtain ⟨c0, c1, c2, c3⟩ := four_cells HMEM2.out.box
                                obtain ⟨M, hM⟩ : ∃ z, (t : Int) % (x1 - x0) = z := ⟨_, rfl⟩
                                have hM0 : 0 ≤ M := by rw [← hM]; exact Int.emod_nonneg _ (by omega)
                                have hM1 : M < x1 - x0 := by rw [← hM]; exact Int.emod_lt_of_pos _ (by omega)
                                have htm : (t : Int).tmod (x1 - x0) = M := by rw [Int.tmod_eq_emod_of_nonneg (by omega)]; exact hM
                                obtain ⟨AT, hAT⟩ : ∃ z, x0 + M = z := ⟨_, rfl⟩
                                have w1 : IntKind.i64.wrap (x1 - x0) = x1 - x0 := IntWalk.i64_in _ (by omega)
                                have w2 : IntKind.i64.wrap (t : Int) = (t : Int) := IntWalk.i64_in _ (by omega)
                                have w3 : IntKind.i64.wrap M = M := IntWalk.i64_in _ (by omega)
                                have w4 : IntKind.i64.wrap (x0 + M) = AT := by rw [IntWalk.i64_in _ (by omega)]; exact hAT
                                have w5 : IntKind.i64.wrap (AT + 1) = AT + 1 := IntWalk.i64_in _ (by omega)
                                have inz1 : ¬ x1 - x0 = 0 := by omega
                                have inz2 : ¬ x1 = x0 := by omega
                                have i1 : (0 : Int) < (nr : Int) := by omega
                                have i1' : 0 < nr := by omega
                                have hcut : cutF (⟨x0, x1, x2, x3⟩ :: l) t = (⟨x0, AT, x2, x3⟩ :: l) ++ [⟨AT + 1, x1, x2, x3⟩] := by
                                  rw [cutF_cons, if_pos ⟨h24, hlh⟩]
                                  simp only [hM, hAT]
                                  rfl
                                have HCUT := Lib.hid hcut
                                have HWBX := Lib.hid HXB.out
                                have HN0 := Lib.hid hn0
                                clear hall hb1 hM hM0 hM1 hAT hcut h24 hro hn0
                                obtain ⟨Y1, hY1⟩ : ∃ X, X = wn.alloc (.cells #[.int .i64 x0, .int .i64 x1, .int .i64 x2, .int .i64 x3] 42) := ⟨_, rfl⟩
                                have hB1 : Below wn.heap.size wn Y1 := by rw [hY1]; exact (Below.refl _ _).alloc (Nat.le_refl _) _
                                have hR1 : Y1.heap[wn.heap.size]? = some (.cells #[.int .i64 x0, .int .i64 x1, .int .i64 x2, .int .i64 x3] 42 (0, 0)) := by rw [hY1]; exact alloc_heap wn _
                                have HM1 := Lib.hid (HMEM2.out.below hB1)
                                obtain ⟨Rb, hRb⟩ : ∃ R, wn.heap.size = R := ⟨_, rfl⟩
                                rw [hRb] at hR1 hgh
                                have HR1 := Lib.hid hR1
                                have hRbX : Xb < Rb := by omega
                                clear hB1 hR1
                                go_upto_region 29 with fail
                                rw [← hY1]
                                clear hY1 hRb c0 c1 c2 c3 e0 e1 e2 e3 HMEM2 H7
                                obtain ⟨q0, q1, q2, q3⟩ := four_cells HR1.out
                                go_quiet (fail)
                                have HM2 := Lib.hid (HM1.out.below (below_drewn (Below.refl Y1.heap.size Y1) nq))
                                have HR2 := Lib.hid (box_step (w0 := w) HR1.out (below_drewn (Below.refl Y1.heap.size Y1) nq))
                                obtain ⟨Y2, hY2⟩ : ∃ X, Y1.drewN nq = X := ⟨_, rfl⟩
                                rw [hY2] at HM2 HR2 ⊢
                                clear hY2 HM1 HR1 q0 q1 q2 q3
                                obtain ⟨c0, c1, c2, c3⟩ := four_cells HM2.out.box
                                have e1 : Y2.cell? ⟨g1, 1, none⟩ = some (.int .i64 x1) := (HM2.out.rows.cellAt 1 (by omega)).trans rfl
                                have tf : Y2.frozen? ⟨g1, 1, none⟩ = false := HM2.out.rows.frozenAt 1
                                have HM3 := Lib.hid (HM2.out.stored HWBX.out 1 (.int .i64 AT) (L' := ⟨x0, AT, x2, x3⟩ :: l) rfl)
                                have HR3 := Lib.hid (((setCell_grown Y2 ⟨g1, 1, none⟩ (.int .i64 AT)).block Rb (Array.getElem?_eq_some_iff.1 HR2.out).1 (by simp; omega)).trans HR2.out)
                                go_upto_region 31 with fail
                                obtain ⟨Y3, hY3⟩ : ∃ X, Y2.setCell ⟨g1, 1, none⟩ (.int .i64 AT) = X := ⟨_, rfl⟩
                                rw [hY3] at HM3 HR3 ⊢
                                clear hY3 HM2 HR2 c0 c1 c2 c3 e1 tf
                                obtain ⟨q0, q1, q2, q3⟩ := four_cells HR3.out
                                have tf : Y3.frozen? ⟨Rb, 0, none⟩ = false := by have := HR3.out; simp [World.frozen?, this]
                                have HM4 := Lib.hid (HM3.out.set HR3.out (by simp [Value.ownBlock]; omega) hRbX HWBX.out 0 (.int .i64 (AT + 1)))
                                have hR4 := heap_set HR3.out 0 (.int .i64 (AT + 1))
                                have HR4 := Lib.hid hR4
                                clear hR4
                                go_upto_region 32 with fail
                                obtain ⟨Y4, hY4⟩ : ∃ X, Y3.setCell ⟨Rb, 0, none⟩ (.int .i64 (AT + 1)) = X := ⟨_, rfl⟩
                                rw [hY4] at HM4 HR4 ⊢
                                clear hY4 HM3 HR3 q0 q1 q2 q3 tf
                                obtain ⟨q0, q1, q2, q3⟩ := four_cells (x := .int .i64 (AT + 1)) (y := .int .i64 x1) (z := .int .i64 x2) (u := .int .i64 x3) (by simpa using HR4.out)
                                obtain ⟨c0, c1, c2, c3⟩ := four_cells HM4.out.box
                                have hb5 : Below Y4.heap.size Y4 (Y4.alloc (.cells #[.int .i64 (AT + 1), .int .i64 x1, .int .i64 x2, .int .i64 x3] 42)) := (Below.refl _ _).alloc (Nat.le_refl _) _
                                have hq5 := alloc_heap Y4 (.cells #[.int .i64 (AT + 1), .int .i64 x1, .int .i64 x2, .int .i64 x3] 42)
                                have hm5 := HM4.out.below hb5
                                obtain ⟨g, cp, w5, hr5, hown5, hgb5, hgr5⟩ := run_oneE _ 23 42 23 4 32 (.agg #[.int .i64 0, .int .i64 0, .int .i64 0, .int .i64 0]) Try.underlying23 Try.info42 rfl (by decide) (by decide) (Xb + 1) Y4.heap.size hm5.rows [.int .i64 (AT + 1), .int .i64 x1, .int .i64 x2, .int .i64 x3] rfl hq5 (by intro u hu; simp at hu; rcases hu with rfl | rfl | rfl | rfl <;> rfl) (by omega) (by have := (Array.getElem?_eq_some_iff.1 hm5.box).1; omega)
                                have hx5 := (hgr5.block Xb (Array.getElem?_eq_some_iff.1 hm5.box).1 (by simp [Value.ownBlock]; omega)).trans hm5.box
                                have hp5 := hm5.prf.grown hgr5 (fun F hF => own_apart hF hm5.rows (by decide))
                                have hk5 := hm5.brk.kept hgr5 (own_apart hm5.brk hm5.rows (by decide))
                                have hbl5 : Below WB.heap.size WB w5 := hm5.bel.grown hgr5 hm5.bel.size (fun r hr => by simp [Value.ownBlock] at hr; rw [HWBX.out]; omega)
                                have t0 := (four_cells hx5).2.1
                                have tf : w5.frozen? ⟨Xb, 1, none⟩ = false := by simp [World.frozen?, hx5]
                                have hg6 := setCell_grown w5 ⟨Xb, 1, none⟩ (.slice (some ⟨g, 0, none⟩) (nr + 1) cp)
                                have r6 := heap_set hx5 1 (.slice (some ⟨g, 0, none⟩) (nr + 1) cp)
                                have o6 := hown5.kept hg6 (own_off hown5)
                                have p6 := hp5.grown hg6 (fun F hF => own_off hF)
                                have k6 := hk5.kept hg6 (own_off hk5)
                                have b6 : Below WB.heap.size WB (w5.setCell ⟨Xb, 1, none⟩ (.slice (some ⟨g, 0, none⟩) (nr + 1) cp)) := hbl5.setCell (by rw [HWBX.out]; exact Nat.le_refl _) _
                                have hfl := flat_snoc 4 rowC (⟨x0, AT, x2, x3⟩ :: l) ⟨AT + 1, x1, x2, x3⟩
                                rw [← HCUT.out] at hfl
                                have t6 := tab_of_own (L := cutF (⟨x0, x1, x2, x3⟩ :: l) t) (by rw [hfl]; exact o6) (by rw [HCUT.out]; have := HN0.out; simp; omega) (by rw [HCUT.out]; have := HN0.out; simp; unfold maxLen; omega)
                                have HR5 := Lib.hid hr5
                                have R6 := Lib.hid r6
                                have T6 := Lib.hid t6
                                have P6 := Lib.hid p6
                                have K6 := Lib.hid k6
                                have B6 := Lib.hid b6
                                clear hr5 r6 t6 p6 k6 b6 hb5 hq5 hm5 hown5 hgb5 hgr5 hx5 hp5 hk5 hbl5 hg6 o6 hfl
                                go_wp2_with (at_builtin; refine wpList_append_run rfl (.tmp 207) (.tmp 209) 23 rfl rfl rfl HR5.out ?_)
                                go_meet
                                case rel => exact ⟨rfl, _, by simpa using R6.out, T6.out, P6.out, K6.out, B6.out⟩
                      case rest =>
                        as_aux_lemma =>
                          obtain ⟨rfl, R1, hx, ht1, hp3, hr3, hbw⟩ := hcut
                          obtain ⟨wc0, hwc0⟩ : ∃ X : World, X = wc := ⟨_, rfl⟩
                          subst hwc0
                          have hprf : PrfAt wc0 R2 (if twiceF ps ps.length then ps else rotF ps t) := by
                            rcases hp3 with ⟨h1, rfl⟩ | ⟨h1, F, h2, h3⟩
                            · rw [h1]; exact (hp0.out.below HWB.out).below hbw
                            · have e : (if twiceF ps ps.length then ps else rotF ps t) = rotF ps t := by rw [h1]; rfl
                              rw [e]
                              exact prf_of_own h2 (rot_len ps t).symm (h3.below hbw) (by rw [rot_len]; unfold maxLen; omega)
                          have hbrk := tab_of_own hr3 (rot_len bs t).symm (by rw [rot_len]; unfold maxLen; omega)
                          rw [← HL.out] at ht1
                          have hzx : StkAt wc0 (.agg #[.slice ca cs.length cc, R1, R2, v3]) (xS ⟨cs, rs, ps, bs⟩ t) := ⟨_, _, _, _, rfl, (hc0.out.below HWB.out).below hbw, ht1, hprf, hbrk⟩
                          have ho := other_x (s := ⟨cs, rs, ps, bs⟩) HER.out t
                          have G1 := Lib.hid (HWB.out.trans (hbw.mono HWB.out.size))
                          have Q1 := Lib.hid (HXB1.out.trans (hbw.mono HXB1.out.size))
                          have HXC := Lib.hid hx
                          have ke := fun (X : World) (hX : Below W0.heap.size W0 X) => end_any ⟨cs, rs, ps, bs⟩ _ n X (HZ0.out.below hX)
                          have kx := fun (X : World) (hX : Below wc0.heap.size wc0 X) => end_any (xS ⟨cs, rs, ps, bs⟩ t) _ n X (hzx.below hX)
                          have kc := fun (X : World) (hX : Below W0.heap.size W0 X) => count_any ⟨cs, rs, ps, bs⟩ _ day X (HZ0.out.below hX)
                          have ky := fun (X : World) (hX : Below wc0.heap.size wc0 X) => count_any (xS ⟨cs, rs, ps, bs⟩ t) _ day X (hzx.below hX)
                          have kd := fun (X : World) (hX : Below W0.heap.size W0 X) => due_any ⟨cs, rs, ps, bs⟩ _ lo hi X (HZ0.out.below hX)
                          have kz := fun (X : World) (hX : Below wc0.heap.size wc0 X) => due_any (xS ⟨cs, rs, ps, bs⟩ t) _ lo hi X (hzx.below hX)
                          simp only [other_end HER.out ho] at kx
                          simp only [other_count HER.out ho] at ky
                          simp only [other_due HER.out ho] at kz
                          obtain ⟨⟨ea, eb, ec⟩, hen⟩ : ∃ x, endF ⟨cs, rs, ps, bs⟩ n = x := ⟨_, rfl⟩
                          obtain ⟨⟨L1, f1⟩, hcn⟩ : ∃ x, countF ⟨cs, rs, ps, bs⟩ day = x := ⟨_, rfl⟩
                          obtain ⟨⟨L2, f2⟩, hdu⟩ : ∃ x, dueF ⟨cs, rs, ps, bs⟩ lo hi = x := ⟨_, rfl⟩
                          simp only [hen] at ke kx
                          simp only [hcn] at kc ky
                          simp only [hdu] at kd kz
                          have KE := Lib.hid ke
                          have KX := Lib.hid kx
                          have KC := Lib.hid kc
                          have KY := Lib.hid ky
                          have KD := Lib.hid kd
                          have KZ := Lib.hid kz
                          have hnr := HNR.out
                          subst hnr
                          have HR00 := HR0
                          clear hx ht1 hp3 hr3 hbw hprf hbrk hzx ho ke kx kc ky kd kz hen hcn hdu HMEM2 H7
                          obtain ⟨d0, d1, d2, d3⟩ := four_cells (box_step (w0 := w) HR0.out G1.out)
                          go_wp2_with fail
                          refine (KE.out _ G1.out).mono ?_
                          rintro e V1 ⟨rfl, hb1⟩
                          have G2 := Lib.hid (G1.out.trans (hb1.mono G1.out.size))
                          have Q2 := Lib.hid (Q1.out.trans (hb1.mono Q1.out.size))
                          have M2 := Lib.hid hb1
                          clear hb1 d0 d1 d2 d3 KE
                          obtain ⟨c0, c1, c2, c3⟩ := four_cells (box_step (w0 := w) HXC.out M2.out)
                          go_wp2_with fail
                          refine (KX.out _ M2.out).mono ?_
                          rintro e V2 ⟨rfl, hb2⟩
                          have G3 := Lib.hid (G2.out.trans (hb2.mono G2.out.size))
                          have Q3 := Lib.hid (Q2.out.trans (hb2.mono Q2.out.size))
                          have M3 := Lib.hid (M2.out.trans (hb2.mono M2.out.size))
                          clear hb2 c0 c1 c2 c3 KX
                          obtain ⟨d0, d1, d2, d3⟩ := four_cells (box_step (w0 := w) HR0.out G3.out)
                          go_wp2_with fail
                          refine (KC.out _ G3.out).mono ?_
                          rintro e V3 ⟨a1, b1, rfl, ta1, _, hb3⟩
                          simp only [] at ta1 ⊢
                          have G4 := Lib.hid (G3.out.trans (hb3.mono G3.out.size))
                          have Q4 := Lib.hid (Q3.out.trans (hb3.mono Q3.out.size))
                          have M4 := Lib.hid (M3.out.trans (hb3.mono M3.out.size))
                          have TA1 := Lib.hid ta1
                          clear hb3 ta1 d0 d1 d2 d3 KC
                          obtain ⟨c0, c1, c2, c3⟩ := four_cells (box_step (w0 := w) HXC.out M4.out)
                          go_wp2_with fail
                          refine (KY.out _ M4.out).mono ?_
                          rintro e V4 ⟨a2, b2, rfl, ta2, _, hb4⟩
                          simp only [] at ta2 ⊢
                          have G5 := Lib.hid (G4.out.trans (hb4.mono G4.out.size))
                          have Q5 := Lib.hid (Q4.out.trans (hb4.mono Q4.out.size))
                          have M5 := Lib.hid (M4.out.trans (hb4.mono M4.out.size))
                          have TA1b := Lib.hid (TA1.out.below hb4)
                          have TA2 := Lib.hid ta2
                          clear hb4 ta2 c0 c1 c2 c3 KY
                          obtain ⟨d0, d1, d2, d3⟩ := four_cells (box_step (w0 := w) HR0.out G5.out)
                          obtain ⟨q0, q1⟩ := two_cells (box_step (w0 := w) HQ1.out Q5.out)
                          go_wp2_with fail
                          refine (KD.out _ G5.out).mono ?_
                          rintro e V5 ⟨a3, b3, rfl, ta3, _, hb5⟩
                          simp only [] at ta3 ⊢
                          have G6 := Lib.hid (G5.out.trans (hb5.mono G5.out.size))
                          have Q6 := Lib.hid (Q5.out.trans (hb5.mono Q5.out.size))
                          have M6 := Lib.hid (M5.out.trans (hb5.mono M5.out.size))
                          have TA1c := Lib.hid (TA1b.out.below hb5)
                          have TA2c := Lib.hid (TA2.out.below hb5)
                          have TA3 := Lib.hid ta3
                          clear hb5 ta3 d0 d1 d2 d3 q0 q1 KD
                          obtain ⟨c0, c1, c2, c3⟩ := four_cells (box_step (w0 := w) HXC.out M6.out)
                          obtain ⟨q0, q1⟩ := two_cells (box_step (w0 := w) HQ1.out Q6.out)
                          go_wp2_with fail
                          refine (KZ.out _ M6.out).mono ?_
                          rintro e V6 ⟨a4, b4, rfl, ta4, _, hb6⟩
                          simp only [] at ta4 ⊢
                          have G7 := Lib.hid (G6.out.trans (hb6.mono G6.out.size))
                          have i1 := ints_any L1 L1 _ _ V6 (TA1c.out.below hb6) (TA2c.out.below hb6)
                          have i2 := fun q => ints_any L2 L2 _ _ (V6.drewN q) ((TA3.out.below hb6).below (below_drewn (Below.refl V6.heap.size V6) q)) (ta4.below (below_drewn (Below.refl V6.heap.size V6) q))
                          simp only [decide_true] at i1 i2
                          have I1 := Lib.hid i1
                          have I2 := Lib.hid i2
                          clear hb6 ta4 c0 c1 c2 c3 q0 q1 KZ i1 i2
                          obtain ⟨l1, hl1⟩ : ∃ k, L1.length = k := ⟨_, rfl⟩
                          obtain ⟨l2, hl2⟩ : ∃ k, L2.length = k := ⟨_, rfl⟩
                          rw [hl1] at I1 ⊢
                          rw [hl2] at I2 ⊢
                          clear hl1 hl2
                          go_wp2_with fail
                          refine I1.out.mono ?_
                          rintro e V7 ⟨rfl, q7, rfl⟩
                          go_wp2_with fail
                          refine (I2.out _).mono ?_
                          rintro e V8 ⟨rfl, q8, rfl⟩
                          have G8 := Lib.hid (below_drewn G7.out (q7 + q8))
                          go_wp2_with fail
                          refine (KA.out _).mono ?_
                          rintro e Wz ⟨rfl, hbz⟩
                          go_wp2
                          go_ret
                          exact ⟨rfl, HB.out.trans ((G8.out.trans (hbz.mono G8.out.size)).mono HB.out.size)⟩
    · have e1 : (er != 0) = true := by simpa using he0
      go_wp2_with fail
      refine (KA.out _).mono ?_
      rintro e Wz ⟨rfl, hbz⟩
      go_wp2
      go_ret
      exact ⟨rfl, HB.out.trans ((H3.out.trans (hbz.mono H3.out.size)).mono HB.out.size)⟩
end Go.Proofs.Ytcmfplfnpjknlaa
