/- Ratios, aims, trials. -/
import Derived.Test.YtoiapnokgpeipaaA3
namespace Go.Proofs.Ytoiapnokgpeipaa
open Go.RowKit Go.Maps Go.Sort

theorem exact_any (t r a b : Int) (w : World) (ht : 1 ≤ t ∧ t ≤ 1000) (hr : 1 ≤ r ∧ r ≤ 1000) (ha : 1 ≤ a ∧ a ≤ 1000000) (hb : 1 ≤ b ∧ b ≤ 1000000) :
    Calls Try.prog 41 #[.agg #[.int .i64 t, .int .i64 r], .agg #[.int .i64 a, .int .i64 b]] w fun e w' => e = .returned (.bool (a * t - b * r == 0)) ∧ Below w.heap.size w w' := by
  go_enter Try.func41, Try.ntmps41
  go_wp2_with (go_at_call 58; refine (excess_any t r a b _ ht hr ha hb).mono ?_; rintro e w' ⟨rfl, hb1⟩)
  go_ret
  exact ⟨rfl, (((Below.refl _ _).alloc (Nat.le_refl _) _).alloc (by simp) _).trans (hb1.mono (by simp; omega))⟩

/-- how far from 0, crosswise: nearer? -/
def nearB (t r a b c d : Int) : Bool := decide (distB (a * t - b * r) * (d * r) < distB (c * t - d * r) * (b * r))
theorem distB_bd {x X : Int} (h0 : -X ≤ x) (h1 : x ≤ X) : 0 ≤ distB x ∧ distB x ≤ X := by unfold distB; split <;> omega

set_option maxRecDepth 100000 in
set_option maxHeartbeats 800000 in
theorem nearer_any (t r a b c d : Int) (w : World) (ht : 1 ≤ t ∧ t ≤ 1000) (hr : 1 ≤ r ∧ r ≤ 1000) (ha : 1 ≤ a ∧ a ≤ 1000000) (hb : 1 ≤ b ∧ b ≤ 1000000) (hc : 1 ≤ c ∧ c ≤ 1000000) (hd : 1 ≤ d ∧ d ≤ 1000000) :
    Calls Try.prog 49 #[.agg #[.int .i64 t, .int .i64 r], .agg #[.int .i64 a, .int .i64 b], .agg #[.int .i64 c, .int .i64 d]] w fun e w' => e = .returned (.bool (nearB t r a b c d)) ∧ Below w.heap.size w w' := by
  have p1 := mul_bd (x := a) (y := t) (by omega) ha.2 (by omega) ht.2
  have p2 := mul_bd (x := b) (y := r) (by omega) hb.2 (by omega) hr.2
  have p3 := mul_bd (x := c) (y := t) (by omega) hc.2 (by omega) ht.2
  have p4 := mul_bd (x := d) (y := r) (by omega) hd.2 (by omega) hr.2
  have e1 := distB_bd (x := a * t - b * r) (X := 1000000000) (by omega) (by omega)
  have e2 := distB_bd (x := c * t - d * r) (X := 1000000000) (by omega) (by omega)
  have q1 := mul_bd e1.1 e1.2 p4.1 p4.2
  have q2 := mul_bd e2.1 e2.2 p2.1 p2.2
  obtain ⟨x, hx⟩ : ∃ x, x = a * t - b * r := ⟨_, rfl⟩
  obtain ⟨y, hy⟩ : ∃ y, y = c * t - d * r := ⟨_, rfl⟩
  obtain ⟨u, hu⟩ : ∃ u, u = b * r := ⟨_, rfl⟩
  obtain ⟨v, hv⟩ : ∃ v, v = d * r := ⟨_, rfl⟩
  have E1 : ∀ W, Calls Try.prog 58 #[.agg #[.int .i64 t, .int .i64 r], .agg #[.int .i64 a, .int .i64 b]] W fun e w' => e = .returned (.tuple #[.int .i64 x, .int .i64 u]) ∧ Below W.heap.size W w' := by
    intro W; rw [hx, hu]; exact excess_any t r a b W ht hr ha hb
  have E2 : ∀ W, Calls Try.prog 58 #[.agg #[.int .i64 t, .int .i64 r], .agg #[.int .i64 c, .int .i64 d]] W fun e w' => e = .returned (.tuple #[.int .i64 y, .int .i64 v]) ∧ Below W.heap.size W w' := by
    intro W; rw [hy, hv]; exact excess_any t r c d W ht hr hc hd
  have hpost : nearB t r a b c d = decide (distB x * v < distB y * u) := by unfold nearB; rw [hx, hy, hu, hv]
  rw [← hx] at e1 q1
  rw [← hy] at e2 q2
  rw [← hu] at q2
  rw [← hv] at q1
  have hx1 : -1000000000 ≤ x ∧ x ≤ 1000000000 := by omega
  have hy1 : -1000000000 ≤ y ∧ y ≤ 1000000000 := by omega
  have HP := Lib.hid hpost
  clear hpost hx hy hu hv p1 p2 p3 p4 ht hr ha hb hc hd
  obtain ⟨dx, hdx⟩ : ∃ dx, dx = distB x := ⟨_, rfl⟩
  obtain ⟨dy, hdy⟩ : ∃ dy, dy = distB y := ⟨_, rfl⟩
  have D1 := distance_any x
  have D2 := distance_any y
  rw [← hdx] at D1 e1 q1
  rw [← hdy] at D2 e2 q2
  have Hdx := Lib.hid hdx
  have Hdy := Lib.hid hdy
  clear hdx hdy
  go_enter Try.func49, Try.ntmps49
  go_wp2_with fail
  refine (E1 _).mono ?_
  rintro e w1 ⟨rfl, hb1⟩
  have hs1 := hb1.size
  simp only [World.size_alloc] at hs1
  obtain ⟨g1, g1'⟩ := bcell hb1
  go_wp2_with fail
  refine (E2 _).mono ?_
  rintro e w2 ⟨rfl, hb2⟩
  clear g1 g1'
  have hs2 := hb2.size
  have hbw : Below w.heap.size w w2 := ((((Below.refl _ _).alloc (Nat.le_refl _) _).alloc (by simp) _).alloc (by simp; omega) _).trans ((hb1.mono (by simp; omega)).trans (hb2.mono (by omega)))
  clear hb1 hb2 hs1 E1 E2
  go_wp2_with fail
  refine (D1 _ (by omega) (by omega)).mono ?_
  rintro e w3 ⟨rfl, rfl⟩
  go_wp2_with fail
  refine Calls.mono (product_two dx v _ _ (by omega) (by omega) (by omega) (by omega) (by go_simp) (by go_simp)) ?_
  rintro e w3 ⟨rfl, rfl⟩
  go_wp2_with fail
  refine (D2 _ (by omega) (by omega)).mono ?_
  rintro e w3 ⟨rfl, rfl⟩
  go_wp2_with fail
  refine Calls.mono (product_two dy u _ _ (by omega) (by omega) (by omega) (by omega) (by go_simp) (by go_simp)) ?_
  rintro e w3 ⟨rfl, rfl⟩
  go_wp2
  go_ret
  exact ⟨by rw [HP.out, ← Hdx.out, ← Hdy.out]; rfl, (hbw.alloc hbw.size _).alloc (by have := hbw.size; simp; omega) _⟩

set_option maxRecDepth 100000 in
set_option maxHeartbeats 800000 in
theorem millionths_any (t r a b : Int) (w : World) (ht : 1 ≤ t ∧ t ≤ 1000) (hr : 1 ≤ r ∧ r ≤ 1000) (ha : 1 ≤ a ∧ a ≤ 1000000) (hb : 1 ≤ b ∧ b ≤ 1000000) :
    Calls Try.prog 52 #[.agg #[.int .i64 t, .int .i64 r], .agg #[.int .i64 a, .int .i64 b]] w fun e w' => e = .returned (.int .i64 ((a * t - b * r) * 1000000 / (b * r))) ∧ Below w.heap.size w w' := by
  have p1 := mul_bd (x := a) (y := t) (by omega) ha.2 (by omega) ht.2
  have p2 := mul_bd (x := b) (y := r) (by omega) hb.2 (by omega) hr.2
  have p3 : 0 < b * r := Int.mul_pos (by omega) (by omega)
  obtain ⟨x, hx⟩ : ∃ x, x = a * t - b * r := ⟨_, rfl⟩
  obtain ⟨u, hu⟩ : ∃ u, u = b * r := ⟨_, rfl⟩
  have E1 : ∀ W, Calls Try.prog 58 #[.agg #[.int .i64 t, .int .i64 r], .agg #[.int .i64 a, .int .i64 b]] W fun e w' => e = .returned (.tuple #[.int .i64 x, .int .i64 u]) ∧ Below W.heap.size W w' := by
    intro W; rw [hx, hu]; exact excess_any t r a b W ht hr ha hb
  have hx1 : -1000000000 ≤ x ∧ x ≤ 1000000000 := by omega
  rw [← hu] at p2 p3
  have Hx := Lib.hid hx
  have Hu := Lib.hid hu
  clear hx hu p1 ht hr ha hb
  go_enter Try.func52, Try.ntmps52
  go_wp2_with fail
  refine (E1 _).mono ?_
  rintro e w1 ⟨rfl, hb1⟩
  have hbw : Below w.heap.size w w1 := (((Below.refl _ _).alloc (Nat.le_refl _) _).alloc (by simp) _).trans (hb1.mono (by simp; omega))
  clear hb1 E1
  go_wp2_with fail
  refine Calls.mono (product_two x 1000000 _ _ (by omega) (by omega) (by omega) (by omega) (by go_simp) (by go_simp)) ?_
  rintro e w3 ⟨rfl, rfl⟩
  go_wp2_with fail
  refine (divideDown_any (x * 1000000) u _ (by omega) (by omega) (by omega) (by omega)).mono ?_
  rintro e w3 ⟨rfl, rfl⟩
  go_wp2
  go_ret
  exact ⟨by rw [← Hx.out, ← Hu.out]; rfl, hbw.alloc hbw.size _⟩

theorem aimOf_any (t r p o : Int) (same : Bool) (w : World) :
    Calls Try.prog 40 #[.agg #[.int .i64 t, .int .i64 r, .bool same, .int .i64 p, .int .i64 o]] w fun e w' => e = .returned (.agg #[.int .i64 t, .int .i64 r]) ∧ Below w.heap.size w w' := by
  go_enter Try.func40, Try.ntmps40
  go_wp2
  refine bodyPost_ret (v := .agg #[.int .i64 t, .int .i64 r]) (by simp [results, Try.results40, go_sem]) rfl ⟨rfl, ?_⟩
  repeat (first | exact Below.refl _ _ | refine Below.setCell ?_ (by simp) _ | refine Below.alloc ?_ (by simp; try omega) _)

end Go.Proofs.Ytoiapnokgpeipaa
