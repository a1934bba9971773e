/- Term: the records in memory; rowOf, stands. -/
import Derived.Test.YtcmfplfnpjknlaaA4
import Derived.Maps.OwnSet
import Derived.Maps.RangeWalk
import Derived.Lib.QuietBelow
namespace Go.Proofs.Ytcmfplfnpjknlaa
set_option linter.unusedSimpArgs false
set_option linter.unusedVariables false
open Go.RowKit Go.Maps

theorem row_below {base e size n : Nat} {w w' : World} {v : Value} {xs : List Value} (h : w.ownsRow base e size v n xs) (hb : Below w.heap.size w w') : w'.ownsRow base e size v n xs :=
  h.kept (row := none) ⟨hb.os, hb.tape, hb.output, hb.size, fun k hk _ => hb.block k hk⟩ (by cases hq : v.ownBlock <;> simp)
theorem key_law : Keyed Try.prog 3 := int_keyed Try.underlying3
theorem zeroE (w : World) : (zeroValue 3).run Try.prog w = .ok (.int .i64 0) w := by kernel_rfl
/-- block M is the map of the seals that are broken, with their days -/
def MapIs (w : World) (M : Nat) (bs : List (Int × Int)) : Prop := ∃ D : DataW Unit, w.ownsMap Try.prog 3 (plainElem Try.prog 3) M bs.length D ∧
  (∀ x, Maps.has D (.int .i64 x) = (brkDay bs x).isSome) ∧ (∀ x z, brkDay bs x = some z → ∀ zd, D.atKey (.int .i64 x) zd = .lit (.int .i64 z)) ∧ IsMap D
theorem MapIs.below {w w' : World} {M : Nat} {bs : List (Int × Int)} (h : MapIs w M bs) (hb : Below w.heap.size w w') : MapIs w' M bs := by
  obtain ⟨D, h1, h2⟩ := h
  have hlt := h1.lt
  obtain ⟨es, c, e1, e2⟩ := h1
  exact ⟨D, ⟨es, c, (hb.block M hlt).trans e1, e2⟩, h2⟩
theorem MapIs.kept {w w' : World} {M : Nat} {bs : List (Int × Int)} {row : Option Nat} (h : MapIs w M bs) (hg : w.grownBy w' row) (hne : some M ≠ row) : MapIs w' M bs := by
  obtain ⟨D, h1, h2⟩ := h; exact ⟨D, h1.kept hg hne, h2⟩
theorem MapIs.lt {w : World} {M : Nat} {bs : List (Int × Int)} (h : MapIs w M bs) : M < w.heap.size := by
  obtain ⟨D, h1, _⟩ := h; exact h1.lt
theorem brkDay_isSome (bs : List (Int × Int)) (x : Int) : (brkDay bs x).isSome = bs.any (fun b => b.1 == x) := by
  unfold brkDay
  rw [Option.isSome_map]
  induction bs with
  | nil => rfl
  | cons b bs ih => simp only [List.find?_cons, List.any_cons]; cases b.1 == x <;> simp [ih]
theorem brkDay_snoc {bs : List (Int × Int)} {x d y : Int} (h : bs.any (fun b => b.1 == x) = false) : brkDay (bs ++ [(x, d)]) y = if y = x then some d else brkDay bs y := by
  unfold brkDay
  rw [List.find?_append]
  by_cases e : y = x
  · subst e
    have : bs.find? (fun b => b.1 == y) = none := by
      rw [List.find?_eq_none]; intro b hb; rw [List.any_eq_false] at h; exact h b hb
    simp [this]
  · have e' : ¬ x = y := fun h => e h.symm
    simp [e, e']
theorem MapIs.store {w : World} {M : Nat} {bs : List (Int × Int)} (h : MapIs w M bs) {x d : Int} (hx : (Lit.int .i64 x).wf = true) (hd : (Lit.int .i64 d).wf = true) (hn : bs.length ≤ 1000) (hne : bs.any (fun b => b.1 == x) = false) :
    ∃ w', (Instr.mapUpdate 83 (.map (some M)) (.int .i64 x) (.int .i64 d)).run Try.prog w = .ok () w' ∧ MapIs w' M (bs ++ [(x, d)]) ∧ w.grownBy w' (some M) := by
  obtain ⟨D, ho, h1, h2, h3⟩ := h
  obtain ⟨w', hr, ho', hg⟩ := ho.update key_law Try.underlying83 (by unfold maxLen; omega) (keyOf_int_mk Try.underlying3 hx) (plainElem_int Try.underlying3 hd)
  refine ⟨w', hr, ⟨_, by simpa using ho', fun y => ?_, fun y z hz zd => ?_, ?_⟩, hg⟩
  · rw [brkDay_snoc hne]
    by_cases e : y = x
    · rw [if_pos e, e]; exact has_put_same h3 (show WideAt.IsKeyLit (.int .i64 x) from trivial) _
    · rw [if_neg e, has_put_other (fun e' => e (by injection e'))]; exact h1 y
  · rw [brkDay_snoc hne] at hz
    by_cases e : y = x
    · rw [if_pos e] at hz; cases hz
      rw [e]; exact atKey_put_same h3 (show WideAt.IsKeyLit (.int .i64 x) from trivial) _ _
    · rw [if_neg e] at hz
      rw [atKey_put_other (fun e' => e (by injection e'))]; exact h2 y z hz zd
  · exact ho'.isMap
theorem mapIs_made (w : World) : MapIs (w.alloc (.map #[] 0)) w.heap.size [] :=
  ⟨_, World.ownsMap_made w _ _ _, fun _ => rfl, fun x z h => by simp [brkDay] at h, ⟨[], rfl⟩⟩
theorem MapIs.look {w : World} {M : Nat} {bs : List (Int × Int)} (h : MapIs w M bs) {x : Int} (hx : (Lit.int .i64 x).wf = true) :
    (Instr.lookup 83 (.map (some M)) (.int .i64 x) true).run Try.prog w = .ok (.tuple #[.int .i64 ((brkDay bs x).getD 0), .bool (brkDay bs x).isSome]) w := by
  obtain ⟨D, ho, h1, h2, h3⟩ := h
  obtain ⟨v, ps, hrun, hv⟩ := ho.look_ok key_law Try.underlying83 (zeroE w) (plainElem_int (H := Unit) Try.underlying3 (a := 0) (by decide)) (keyOf_int_mk Try.underlying3 hx)
  obtain ⟨c, rfl, hc, hwc⟩ := plainElem_int_inv Try.underlying3 hv
  rw [h1] at hrun
  have hc' := congrArg Prod.fst hc
  simp only [] at hc'
  rw [hrun]
  cases hb : brkDay bs x with
  | none =>
    have hno : Maps.has D (.int .i64 x) = false := by rw [h1, hb]; rfl
    rw [atKey_of_not_has hno] at hc'
    cases hc'
    rfl
  | some d =>
    rw [h2 x d hb] at hc'
    cases hc'
    rfl
def ptrV (p : Nat) : Value := .pointer (some ⟨p, 0, none⟩)
/-- the records behind R: of rows L, each in a block of its own; of the broken seals bs -/
structure RecAt (B : Nat) (cv rv pv bv : Value) (R M : Nat) (w : World) (G : Value) (ps : List Nat) (L : List (Row × (Int × Int))) (bs : List (Int × Int)) : Prop where
  box : w.heap[R]? = some (.cells #[cv, rv, pv, bv, G, .map (some M)] 86 (0, 0))
  row : w.ownsRow B 75 1 G L.length (ps.map ptrV)
  len : ps.length = L.length
  seen : ∀ i, i < L.length → SeenAt w (ps.getD i 0) (L.getD i default).1 (L.getD i default).2
  few : L.length ≤ 24
  map : MapIs w M bs
  hR : B ≤ R
  hM : B ≤ M
  ge : ∀ p ∈ ps, B ≤ p
  nd : ps.Nodup
theorem RecAt.below {B : Nat} {cv rv pv bv : Value} {R M : Nat} {w w' : World} {G : Value} {ps : List Nat} {L : List (Row × (Int × Int))} {bs : List (Int × Int)} (h : RecAt B cv rv pv bv R M w G ps L bs) (hb : Below w.heap.size w w') : RecAt B cv rv pv bv R M w' G ps L bs :=
  ⟨box_step (w0 := w) h.box hb, row_below h.row hb, h.len, fun i hi => (h.seen i hi).below (B := 0) hb, h.few, h.map.below hb, h.hR, h.hM, h.ge, h.nd⟩
theorem RecAt.drewN {B : Nat} {cv rv pv bv : Value} {R M : Nat} {w : World} {G : Value} {ps : List Nat} {L : List (Row × (Int × Int))} {bs : List (Int × Int)} (h : RecAt B cv rv pv bv R M w G ps L bs) (q : Nat) : RecAt B cv rv pv bv R M (w.drewN q) G ps L bs := h.below (below_drewn (Below.refl _ _) q)
theorem RecAt.shape {B : Nat} {cv rv pv bv : Value} {R M : Nat} {w : World} {G : Value} {ps : List Nat} {L : List (Row × (Int × Int))} {bs : List (Int × Int)} (h : RecAt B cv rv pv bv R M w G ps L bs) : ∃ a c, G = .slice a L.length c := by
  rcases h.row.2 with ⟨rfl, hn⟩ | ⟨g, cap, cur, rfl, _⟩
  · exact ⟨_, _, by rw [hn]⟩
  · exact ⟨_, _, rfl⟩
/-- where the pointers lie -/
theorem RecAt.at {B : Nat} {cv rv pv bv : Value} {R M : Nat} {w : World} {a : Option Addr} {n c : Nat} {ps : List Nat} {L : List (Row × (Int × Int))} {bs : List (Int × Int)} (h : RecAt B cv rv pv bv R M w (.slice a n c) ps L bs) (hl : 0 < L.length) :
    ∃ g, a = some ⟨g, 0, none⟩ ∧ B ≤ g ∧ g < w.heap.size ∧ ∀ i, i < L.length → w.cell? ⟨g, i, none⟩ = some (.pointer (some ⟨ps.getD i 0, 0, none⟩)) := by
  rcases h.row.2 with ⟨e, hn⟩ | ⟨g, cap, cur, e, h2, h3, h4, h5, _⟩
  · omega
  · simp only [Value.slice.injEq] at e
    obtain ⟨e1, e2, e3⟩ := e
    refine ⟨g, e1, h2, (Array.getElem?_eq_some_iff.1 h3).1, fun i hi => ?_⟩
    have hrow := h.row
    rw [e1, e2] at hrow
    have := hrow.cellAt (g := g) (0 + i) (by omega)
    simp only [Nat.zero_add] at this
    rw [this]
    have hp : i < ps.length := by rw [h.len]; exact hi
    simp [ptrV, hp]
/-- the pointer that rowOf returns -/
def ixV (ps : List Nat) : Option Nat → Value
  | none => .pointer none
  | some i => .pointer (some ⟨ps.getD i 0, 0, none⟩)
theorem ix_next {L : List Row} {n : Int} {j : Nat} (hlt : j < L.length) (hx : hasF (L.getD j default) n = true) (h : rowIx (L.take j) n = none) : rowIx L n = some j := by
  unfold rowIx at h ⊢
  rw [List.findIdx?_eq_some_iff_getElem]
  rw [List.findIdx?_eq_none_iff] at h
  refine ⟨hlt, by simpa [List.getD, hlt] using hx, fun i hi => ?_⟩
  have := h L[i] (List.mem_take_iff_getElem.2 ⟨i, by omega, rfl⟩)
  simpa using this
theorem ix_step {L : List Row} {n : Int} {j : Nat} (hlt : j < L.length) (hx : hasF (L.getD j default) n = false) (h : rowIx (L.take j) n = none) : rowIx (L.take (j + 1)) n = none := by
  unfold rowIx at h ⊢
  rw [List.findIdx?_eq_none_iff] at h ⊢
  intro x hm
  rw [List.take_succ_eq_append_getElem hlt, List.mem_append] at hm
  rcases hm with hm | hm
  · exact h x hm
  · simp at hm; subst hm; simpa [List.getD, hlt] using hx
section
variable {B : Nat} {cv rv pv bv : Value} {R M : Nat} {w : World} {G : Value} {ps : List Nat} {L : List (Row × (Int × Int))} {bs : List (Int × Int)}
set_option maxHeartbeats 1600000 in
theorem rowOf_any (n : Int) (h : RecAt B cv rv pv bv R M w G ps L bs) : Calls Try.prog 32 #[.pointer (some ⟨R, 0, none⟩), .int .i64 n] w fun e w' => e = .returned (ixV ps (rowIx (L.map (·.1)) n)) ∧ ∃ q, w' = w.drewN q := by
  obtain ⟨ga, gc, rfl⟩ := h.shape
  obtain ⟨c0, c1, c2, c3, c4, c5⟩ := six_cells h.box
  have hl := h.few
  have HH := Lib.hid h
  clear c0 c1 c2 c3 c5 h
  obtain ⟨X, hX⟩ : ∃ X, ixV ps (rowIx (L.map (·.1)) n) = X := ⟨_, rfl⟩
  rw [hX]
  have HX := Lib.hid hX
  clear hX
  go_enter Try.func32, Try.ntmps32
  go_wp2_with fail
  go_loopw [12] (fun i wr => ∃ j : Nat, j ≤ L.length ∧ i = .int .i64 j ∧ (∃ q, wr = w.drewN q) ∧ rowIx ((L.map (·.1)).take j) n = none) (fun i _ => L.length - (intOf i).toNat)
  case atStart => exact ⟨0, by omega, rfl, ⟨0, rfl⟩, by simp [rowIx]⟩
  case round =>
    obtain ⟨j, hj, rfl, ⟨q, rfl⟩, hnone⟩ := hrel
    by_cases hlt : j < L.length
    · obtain ⟨g, e1, _, hgl, hc⟩ := (HH.out.drewN q).at (by omega)
      subst e1
      have d0 := hc j hlt
      have hsn := (HH.out.drewN q).seen j hlt
      obtain ⟨p, hp⟩ : ∃ p, ps.getD j 0 = p := ⟨_, rfl⟩
      obtain ⟨r, hr⟩ : ∃ r, L.getD j default = r := ⟨_, rfl⟩
      have hrr : (L.map (·.1)).getD j default = r.1 := by rw [← hr]; simp [List.getD, hlt]
      rw [hp] at d0 hsn
      rw [hr] at hsn
      have k1 := has_any p r.1 r.2 n (w.drewN q) hsn
      have ij1 : (j : Int) < (L.length : Int) := by omega
      cases hb : hasF r.1 n with
      | true =>
        rw [hb] at k1
        have hix := ix_next (L := L.map (·.1)) (by simpa using hlt) (by rw [hrr]; exact hb) hnone
        have hx := HX.out
        rw [hix] at hx
        simp only [ixV, hp] at hx
        have K1 := Lib.hid k1
        have HXX := Lib.hid hx
        clear k1 hc hsn hp hr hrr hb hix hx hnone
        go_wp2_with (go_at_call 47; (with_reducible refine K1.out.mono ?_); rintro e w2 ⟨rfl, q2, rfl⟩)
        go_ret
        exact ⟨by rw [← HXX.out]; rfl, _, rfl⟩
      | false =>
        rw [hb] at k1
        have hix := ix_step (L := L.map (·.1)) (by simpa using hlt) (by rw [hrr]; exact hb) hnone
        have K1 := Lib.hid k1
        have HIX := Lib.hid hix
        clear k1 hc hsn hp hr hrr hb hix hnone
        go_wp2_with (go_at_call 47; (with_reducible refine K1.out.mono ?_); rintro e w2 ⟨rfl, q2, rfl⟩)
        go_roundw
        case rel => exact ⟨j + 1, by omega, by go_num, ⟨_, rfl⟩, HIX.out⟩
        case measure => simp [intOf]; omega
    · have hjl : j = L.length := by omega
      have hx := HX.out
      rw [List.take_of_length_le (by simp; omega)] at hnone
      rw [hnone] at hx
      simp only [ixV] at hx
      have HXX := Lib.hid hx
      have i1 : ¬ (j : Int) < (L.length : Int) := by omega
      clear hjl hx hnone
      go_wp2
      go_ret
      exact ⟨by rw [← HXX.out]; rfl, _, rfl⟩
theorem stands_any (p : Nat) (r : Row) (t : Int × Int) (n day : Int) (h : RecAt B cv rv pv bv R M w G ps L bs) (hs : SeenAt w p r t) (hn : (Lit.int .i64 n).wf = true) : Calls Try.prog 33 #[.pointer (some ⟨R, 0, none⟩), .pointer (some ⟨p, 0, none⟩), .int .i64 n, .int .i64 day] w fun e w' => e = .returned (.int .i64 (sealStands bs r t.1 n day)) ∧ w = w' := by
  obtain ⟨c0, c1, c2, c3, c4, c5⟩ := six_cells h.box
  have hz := h.map.look hn
  have k1 := rstands_any p r t day w hs
  clear c0 c1 c2 c3 c4 h hs
  cases hb : brkDay bs n with
  | none =>
    rw [hb] at hz
    simp only [Option.isSome_none, Option.getD_none] at hz
    have H := Lib.hid (show sealStands bs r t.1 n day = standsF r t.1 day by simp [sealStands, brkBy, hb])
    have K1 := Lib.hid k1
    clear k1 hb
    go_enter Try.func33, Try.ntmps33
    go_wp2_with (go_at_call 41; (with_reducible refine K1.out.mono ?_); rintro e w2 ⟨rfl, rfl⟩)
    go_ret
    exact ⟨by rw [H.out]; rfl, rfl⟩
  | some d =>
    rw [hb] at hz
    simp only [Option.isSome_some, Option.getD_some] at hz
    by_cases h1 : d ≤ day
    · have H := Lib.hid (show sealStands bs r t.1 n day = 3 by simp [sealStands, brkBy, hb, h1])
      clear k1 hb
      go_enter Try.func33, Try.ntmps33
      go_wp2
      go_ret
      exact ⟨by rw [H.out]; rfl, rfl⟩
    · have H := Lib.hid (show sealStands bs r t.1 n day = standsF r t.1 day by simp [sealStands, brkBy, hb, h1])
      have K1 := Lib.hid k1
      clear k1 hb
      go_enter Try.func33, Try.ntmps33
      go_wp2_with (go_at_call 41; (with_reducible refine K1.out.mono ?_); rintro e w2 ⟨rfl, rfl⟩)
      go_ret
      exact ⟨by rw [H.out]; rfl, rfl⟩
end
end Go.Proofs.Ytcmfplfnpjknlaa
