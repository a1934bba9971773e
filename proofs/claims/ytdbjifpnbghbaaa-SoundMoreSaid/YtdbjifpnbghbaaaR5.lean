/- Sound: the reference's Down. -/
import Derived.Test.YtdbjifpnbghbaaaR4
namespace Go.Proofs.Ytdbjifpnbghbaaa
set_option linter.unusedSimpArgs false
set_option linter.unusedVariables false
open Go.RowKit Go.Maps Go.BigFrame

theorem down_pos {n d : Int} (hd : 0 < d) : (n < n.tdiv d * d → downF n d = n.tdiv d - 1) ∧ (¬ n < n.tdiv d * d → downF n d = n.tdiv d) := by
  have h1 := Int.mul_tdiv_add_tmod n d
  rw [Int.mul_comm] at h1
  have hp : 0 ≤ n → 0 ≤ n.tmod d := fun h => Int.tmod_nonneg d h
  have hn : n < 0 → n.tmod d ≤ 0 := fun h => by
    have := Int.tmod_nonneg d (a := -n) (by omega)
    rw [Int.neg_tmod] at this
    omega
  by_cases hz : n.tmod d = 0
  · have := down_zero hz
    exact ⟨fun h => by omega, fun _ => this⟩
  · refine ⟨fun h => ?_, fun h => ?_⟩
    · exact down_less hz (by omega) (.inl ⟨by omega, by omega⟩)
    · exact down_same hz (by omega) (.inr ⟨by omega, by omega⟩)
theorem down_flip (n d : Int) : downF n d = downF (-n) (-d) := by unfold downF; rw [Int.neg_fdiv_neg]
theorem prod_in {n d : Int} (hd : 0 < d) : n - d ≤ n.tdiv d * d ∧ n.tdiv d * d ≤ n + d := by
  have h1 := Int.mul_tdiv_add_tmod n d
  rw [Int.mul_comm] at h1
  have h2 := Int.tmod_lt_of_pos n hd
  have h3 := Int.tmod_lt_of_pos (-n) hd
  rw [Int.neg_tmod] at h3
  omega
set_option maxRecDepth 100000 in
set_option maxHeartbeats 1600000 in
theorem rDown_any (n d : Int) (hn : -1000000000000000 ≤ n ∧ n ≤ 1000000000000000) (hd : -200000 ≤ d ∧ d ≤ 200000) (h0 : d ≠ 0) (w : World) : Calls Try.prog 45 #[.int .i64 n, .int .i64 d] w fun e w' => e = .returned (.int .i64 (downF n d)) ∧ w = w' := by
  by_cases hs : d < 0
  · have hf := down_flip n d
    obtain ⟨n1, hn1⟩ : ∃ x, -n = x := ⟨_, rfl⟩
    obtain ⟨d1, hd1⟩ : ∃ x, -d = x := ⟨_, rfl⟩
    rw [hn1, hd1] at hf
    obtain ⟨k1, k2⟩ := down_pos (n := n1) (d := d1) (by omega)
    have hpi := prod_in (n := n1) (d := d1) (by omega)
    have hqi := quo_in (n := n1) (d := d1) (by omega)
    obtain ⟨R, hR⟩ : ∃ R, downF n d = R := ⟨_, rfl⟩
    rw [hR] at hf ⊢
    rw [← hf] at k1 k2
    obtain ⟨q, hq⟩ : ∃ q, n1.tdiv d1 = q := ⟨_, rfl⟩
    rw [hq] at k1 k2 hpi hqi
    obtain ⟨p, hp⟩ : ∃ p, q * d1 = p := ⟨_, rfl⟩
    rw [hp] at k1 k2 hpi
    have w1 : IntKind.i64.wrap (-n) = n1 := by rw [hn1]; exact IntWalk.i64_in _ (by omega)
    have w2 : IntKind.i64.wrap (-d) = d1 := by rw [hd1]; exact IntWalk.i64_in _ (by omega)
    have w3 : IntKind.i64.wrap (n1.tdiv d1) = q := by rw [hq]; exact IntWalk.i64_in _ (by omega)
    have w4 : IntKind.i64.wrap (q * d1) = p := by rw [hp]; exact IntWalk.i64_in _ (by omega)
    have w5 : IntKind.i64.wrap (q - 1) = q - 1 := IntWalk.i64_in _ (by omega)
    have e0 : ¬ d1 = 0 := by omega
    have e1 : (d1 == 0) = false := by simp [e0]
    clear hf hn1 hd1 hR hq hp hpi hqi hn hd
    by_cases hc : n1 < p
    · have hk := Lib.hid (k1 hc)
      clear k1 k2
      go_enter Try.func45, Try.ntmps45
      go_wp2
      go_ret
      exact ⟨by rw [hk.out]; rfl, rfl⟩
    · have hk := Lib.hid (k2 hc)
      clear k1 k2
      go_enter Try.func45, Try.ntmps45
      go_wp2
      go_ret
      exact ⟨by rw [hk.out]; rfl, rfl⟩
  · obtain ⟨k1, k2⟩ := down_pos (n := n) (d := d) (by omega)
    have hpi := prod_in (n := n) (d := d) (by omega)
    have hqi := quo_in (n := n) (d := d) (by omega)
    obtain ⟨R, hR⟩ : ∃ R, downF n d = R := ⟨_, rfl⟩
    rw [hR] at k1 k2 ⊢
    obtain ⟨q, hq⟩ : ∃ q, n.tdiv d = q := ⟨_, rfl⟩
    rw [hq] at k1 k2 hpi hqi
    obtain ⟨p, hp⟩ : ∃ p, q * d = p := ⟨_, rfl⟩
    rw [hp] at k1 k2 hpi
    have w3 : IntKind.i64.wrap (n.tdiv d) = q := by rw [hq]; exact IntWalk.i64_in _ (by omega)
    have w4 : IntKind.i64.wrap (q * d) = p := by rw [hp]; exact IntWalk.i64_in _ (by omega)
    have w5 : IntKind.i64.wrap (q - 1) = q - 1 := IntWalk.i64_in _ (by omega)
    have e1 : (d == 0) = false := by simp [h0]
    clear hR hq hp hpi hqi hn hd
    by_cases hc : n < p
    · have hk := Lib.hid (k1 hc)
      clear k1 k2
      go_enter Try.func45, Try.ntmps45
      go_wp2
      go_ret
      exact ⟨by rw [hk.out]; rfl, rfl⟩
    · have hk := Lib.hid (k2 hc)
      clear k1 k2
      go_enter Try.func45, Try.ntmps45
      go_wp2
      go_ret
      exact ⟨by rw [hk.out]; rfl, rfl⟩
end Go.Proofs.Ytdbjifpnbghbaaa
