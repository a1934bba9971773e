/- What Choose answers, in the terms of the other functions. -/
import Derived.Test.YtoiapnokgpeipaaS3
import Derived.Test.YtoiapnokgpeipaaE4
namespace Go.Proofs.Ytoiapnokgpeipaa
set_option linter.unusedSimpArgs false
open Go.RowKit Go.Maps

/-- an answer of Choose: a train, its wheels, an error -/
def RowOf (C : Int × Option Tri) (P : List (Int × Int)) (i nw ne : Int) : Prop :=
  match C with
  | (c, none) => P = [] ∧ i = 0 ∧ nw = 0 ∧ ne = c
  | (c, some u) => trainP u = P ∧ u.i = i ∧ (((usedL P i).length : Nat) : Int) = nw ∧ ne = c
theorem rowOf_any (C : Int × Option Tri) : ∃ P i nw ne, RowOf C P i nw ne := by
  obtain ⟨c, _ | u⟩ := C
  · exact ⟨_, _, _, _, rfl, rfl, rfl, rfl⟩
  · exact ⟨_, _, _, _, rfl, rfl, rfl, rfl⟩
/-- what is returned is a new slice, or an empty one -/
def FreshAt (w w' : World) (a : Option Addr) (P : List (Int × Int)) : Prop := P = [] ∨ ∃ b off, a = some ⟨b, off, none⟩ ∧ w.heap.size ≤ b ∧ b < w'.heap.size
def ChoseG (P : List (Int × Int)) (i nw ne : Int) (w : World) (e : Ending) (w' : World) : Prop :=
  ∃ a cap, e = .returned (.tuple #[.agg #[.slice a P.length cap, .int .i64 i], .int .i64 nw, .int .i64 ne]) ∧ w'.ownsRow w.heap.size 49 2 (.slice a P.length cap) P.length ((usedP P).map (Value.int .i64)) ∧ Below w.heap.size w w'
theorem chose_gen {S : List (Int × Int)} {t r p o : Int} {same : Bool} {P : List (Int × Int)} {i nw ne : Int} (h : RowOf (chooseC S t r p o same) P i nw ne) {sa : Option Addr} {sc : Nat} {w : World} (hW : WheelsAt w (.slice sa S.length sc) S) (hsa : ∀ b off, sa = some ⟨b, off, none⟩ → b < w.heap.size) :
    Calls Try.prog 17 #[.slice sa S.length sc, .agg #[.int .i64 t, .int .i64 r, .bool same, .int .i64 p, .int .i64 o]] w (ChoseG P i nw ne w) := by
  refine (choose_any S sa sc t r p o same w hW hsa).mono ?_
  revert h
  generalize chooseC S t r p o same = C
  obtain ⟨c, _ | u⟩ := C
  · rintro ⟨rfl, rfl, rfl, rfl⟩ e w' ⟨hb, h⟩
    exact ⟨none, 0, h, World.ownsRow_nil _ _ _ _, hb⟩
  · rintro ⟨hP, rfl, rfl, rfl⟩ e w' ⟨hb, x, rfl, h3, hx⟩
    rw [hP] at hx h3 ⊢
    obtain ⟨a, cap, rfl⟩ := ownsRow_shape hx
    exact ⟨a, cap, rfl, hx, hb⟩

/-- what is chosen can be built, and is exact -/
structure Chosen (S : List (Int × Int)) (t r p o : Int) (same : Bool) (P : List (Int × Int)) (i : Int) : Prop where
  valid : stockB S = true ∧ gearB t r p o = true
  able : ableC S p o same P i = 0
  exact : prodW (drns P) * r = prodW (drvs P) * t
  sorted : SortedP P
theorem choose_facts {S : List (Int × Int)} {t r p o : Int} {same : Bool} {P : List (Int × Int)} {i nw ne : Int} (h : RowOf (chooseC S t r p o same) P i nw ne) :
    (ne = 0 ∧ nw = wheelsN P i ∧ Chosen S t r p o same P i ∧ ∃ u, FirstBest t r (allP S (tlOf S) o same (p + 1).toNat) u ∧ IsCand S (tlOf S) o same P u ∧ u.i = i) ∨
    (P = [] ∧ i = 0 ∧ nw = 0 ∧ ((ne = 1 ∧ (stockB S && gearB t r p o) = false) ∨ (ne = 4 ∧ (stockB S && gearB t r p o) = true ∧ ∀ v ∈ allP S (tlOf S) o same (p + 1).toNat, v.exactP t r = false))) := by
  unfold chooseC at h
  cases hv : (stockB S && gearB t r p o) with
  | false =>
    rw [hv] at h
    obtain ⟨rfl, rfl, rfl, rfl⟩ := h
    exact .inr ⟨rfl, rfl, rfl, .inl ⟨rfl, rfl⟩⟩
  | true =>
    obtain ⟨hs, hg⟩ : stockB S = true ∧ gearB t r p o = true := by simpa using hv
    have hgi := gearB_iff.1 hg
    rw [hv] at h
    rcases bestP_first (S := S) (t := t) (o := o) (same := same) (show 1 ≤ r by omega) (show p ≤ 3 by omega) with ⟨ha, hb⟩ | ⟨u, hb, hf⟩
    · rw [hb] at h
      obtain ⟨rfl, rfl, rfl, rfl⟩ := h
      exact .inr ⟨rfl, rfl, rfl, .inr ⟨rfl, rfl, by rw [ha]; simp⟩⟩
    · rw [hb] at h
      have hm : u ∈ allP S (tlOf S) o same (p + 1).toNat := by obtain ⟨l1, l2, e, _⟩ := hf; rw [e]; simp
      have hpos := allP_pos (by omega) u hm
      cases hx : u.exactP t r with
      | true =>
        simp only [hx, if_true] at h
        obtain ⟨hP, rfl, hn, rfl⟩ := h
        obtain ⟨Q, hQ, hc⟩ := mem_allP (by omega) hm
        have e : Q = P := by rw [← hP]; exact hc.rep.tr.symm
        subst e
        refine .inl ⟨rfl, by rw [wheelsN_len, hn], ⟨⟨hs, hg⟩, cand_able hs hc (by omega), ?_, hc.good.sorted⟩, u, hf, hc, rfl⟩
        have := hx
        unfold Tri.exactP at this
        rw [hc.rep.dr, hc.rep.dn] at this
        have h2 : prodW (drvs Q) * t - prodW (drns Q) * r = 0 := by simpa using this
        omega
      | false =>
        simp only [hx, Bool.false_eq_true, if_false] at h
        obtain ⟨rfl, rfl, rfl, rfl⟩ := h
        refine .inr ⟨rfl, rfl, rfl, .inr ⟨rfl, rfl, fun v hv => ?_⟩⟩
        obtain ⟨l1, l2, e, h1, h2⟩ := hf
        have h3 := h2 v hv
        have hvp := allP_pos (by omega) v hv
        cases hvx : v.exactP t r with
        | false => rfl
        | true =>
          exfalso
          unfold nearer nearB at h3
          have e1 : v.d * t - v.n * r = 0 := by simpa [Tri.exactP] using hvx
          have e2 : u.d * t - u.n * r ≠ 0 := by simpa [Tri.exactP] using hx
          rw [e1] at h3
          have h3 := of_decide_eq_false h3
          have p1 : 0 < v.n * r := Int.mul_pos (by have := hvp.2.2.1; omega) (by omega)
          have p2 : 0 < distB (u.d * t - u.n * r) := by unfold distB; split <;> omega
          have p3 := Int.mul_pos p2 p1
          have e3 : distB 0 = 0 := by decide
          rw [e3, Int.zero_mul] at h3
          omega

theorem pairOk_all {P : List (Int × Int)} {p o : Int} (h : pairsErr P p o = 0) : P.all pairOk = true := by
  obtain ⟨_, hm⟩ := pairsErr_zero h
  rw [List.all_eq_true]
  intro x hx
  have := hm x hx
  simp [pairOk, teethB, this.1, this.2.1]
/-- the rounds of an exact train -/
theorem rounds_exact {P : List (Int × Int)} {t r k m : Int} (hp : P.all pairOk = true) (hl : P.length ≤ 3) (hd : 1 ≤ prodW (drvs P)) (hn : 1 ≤ prodW (drns P)) (hx : prodW (drns P) * r = prodW (drvs P) * t)
    (ht : 1 ≤ t ∧ t ≤ 1000) (hk : 0 ≤ k ∧ k ≤ 65536) (hm : 0 ≤ m ∧ m < t) :
    roundsC P (k * t) = (k * r, 0) ∧ ∃ b, roundsC P (k * t + m) = (b, 0) ∧ k * r ≤ b ∧ b ≤ k * r + r := by
  have b0 : 0 ≤ k * t ∧ k * t ≤ 65536 * 1000 := mul_bd hk.1 hk.2 (by omega) ht.2
  generalize hdd : prodW (drvs P) = d at *
  generalize hnn : prodW (drns P) = n at *
  have e1 : k * t * d = k * r * n := by rw [Int.mul_assoc, Int.mul_comm t d, ← hx, Int.mul_comm n r, ← Int.mul_assoc]
  have hmd : 0 ≤ m * d := Int.mul_nonneg hm.1 (by omega)
  have hmd2 : m * d ≤ r * n := by
    rw [Int.mul_comm r n, hx, Int.mul_comm d t]
    exact Int.mul_le_mul_of_nonneg_right (by omega) (by omega)
  constructor
  · unfold roundsC
    rw [if_neg (by omega), if_pos hp, hdd, hnn, e1, Int.mul_ediv_cancel _ (by omega)]
  · refine ⟨_, by unfold roundsC; rw [if_neg (by omega), if_pos hp, hdd, hnn], ?_, ?_⟩
    · rw [Int.add_mul, e1]
      exact (Int.le_ediv_iff_mul_le (by omega)).2 (by omega)
    · rw [Int.add_mul, e1]
      have h2 : (k * r + r) * n = k * r * n + r * n := Int.add_mul _ _ _
      exact Int.ediv_le_of_le_mul (by omega) (by omega)
end Go.Proofs.Ytoiapnokgpeipaa
