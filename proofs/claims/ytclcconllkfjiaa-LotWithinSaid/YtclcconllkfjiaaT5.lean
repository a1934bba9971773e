/- LotWithin: what it asks of Within and Ways holds. -/
import Derived.Test.YtclcconllkfjiaaT4
namespace Go.Proofs.Ytclcconllkfjiaa
open Go.RowKit

theorem within_law (n c f d ow bw : Int) (w : World) (v5 : 0 ≤ ow ∧ ow ≤ 255) (v6 : 0 ≤ bw ∧ bw ≤ 255) : Calls Try.prog 7 #[.int .i64 n, .int .i64 c, .int .i64 f, .int .i64 d, .int .u8 ow, .int .u8 bw] w fun e w' => e = .returned (.bool true) ∧ Below w.heap.size w w' := by
  by_cases h : inB n 1 50 = true ∧ inB c 0 n = true ∧ inB f 0 c = true ∧ inB d 0 1000 = true
  · obtain ⟨g1, g2, g3, g4⟩ := h
    have v1 := inB_iff.1 g1
    have v2 := inB_iff.1 g2
    have v3 := inB_iff.1 g3
    have v4 := inB_iff.1 g4
    obtain ⟨N, rfl⟩ : ∃ N : Nat, n = N := ⟨n.toNat, by omega⟩
    obtain ⟨C, rfl⟩ : ∃ C : Nat, c = C := ⟨c.toNat, by omega⟩
    have hk1 := Int.emod_nonneg ow (show ((N : Int) + 1) ≠ 0 by omega)
    have hk2 := Int.emod_lt_of_pos ow (show (0 : Int) < (N : Int) + 1 by omega)
    obtain ⟨K, hK⟩ : ∃ K : Nat, ow % ((N : Int) + 1) = K := ⟨(ow % ((N : Int) + 1)).toNat, by omega⟩
    rw [hK] at hk1 hk2
    have hkn : K ≤ N := by omega
    obtain ⟨lo, hi, er, hw⟩ : ∃ lo hi er, withinR N C f d = (lo, hi, er) := ⟨_, _, _, rfl⟩
    obtain ⟨lo2, hi2, er2, hw2⟩ : ∃ lo hi er, withinR N C f (min 1000 (d + bw)) = (lo, hi, er) := ⟨_, _, _, rfl⟩
    refine within_walk N C K f d ow bw lo hi er lo2 hi2 er2 (passN K (N - K) C f) (ch N C) (passN K (N - K) C (f - 1)) (lowB N C f d K) (highB N C f d K) w (by omega) (by omega) v3 v4 v5 v6 hK ?_ ?_ ?_ ?_ ?_ rfl rfl ?_ (ch_bd _ _ (by omega)) ?_ ?_
    · rw [within_valid g1 g2 g3 g4]; exact hw
    · rw [within_valid g1 g2 g3 (inB_iff.2 (by omega))]; exact hw2
    · rw [ways_val v1 (by omega) v2 v3, show ((N : Int) - (K : Int)).toNat = N - K by omega]; rfl
    · intro hf
      rw [ways_val v1 (by omega) v2 (by omega), show ((N : Int) - (K : Int)).toNat = N - K by omega]; rfl
    · intro hf
      obtain rfl : f = 0 := by omega
      rfl
    · have := passN_le K (N - K) C f
      exact Nat.le_trans this (ch_bd _ _ (by omega))
    · have := passN_le K (N - K) C (f - 1)
      rw [show K + (N - K) = N by omega] at this; exact this
    · cases h1 : firstP (canF N C f d) (N + 1) with
      | none =>
        have hn := within_none h1 K hkn
        rw [withinR_none h1] at hw
        obtain ⟨rfl, rfl, rfl⟩ : (0 : Int) = lo ∧ (0 : Int) = hi ∧ (4 : Int) = er := by simpa using hw
        refine .inl ⟨rfl, rfl, rfl, fun hl => ?_⟩
        rw [hl] at hn; simpa using hn
      | some l =>
        obtain ⟨r, hr, hrn, hlr, hcl, hcr, hup⟩ := within_some h1
        rw [withinR_some h1 hr] at hw
        obtain ⟨rfl, rfl, rfl⟩ : ((l : Nat) : Int) = lo ∧ ((N - r : Nat) : Int) = hi ∧ (0 : Int) = er := by simpa using hw
        obtain ⟨i1, i2, i3⟩ := within_is hlr hrn hcl hcr hup K hkn
        refine .inr ⟨rfl, by omega, by omega, by omega, ?_, fun h => i2 (by omega), fun h => i3 (by omega), ?_⟩
        · rw [i1]
          by_cases e : l ≤ K ∧ K ≤ N - r
          · rw [decide_eq_true e, decide_eq_true (by omega)]
          · rw [decide_eq_false e, decide_eq_false (by omega)]
        · cases h2 : firstP (canF N C f (min 1000 (d + bw))) (N + 1) with
          | none =>
            rw [withinR_none h2] at hw2
            obtain ⟨rfl, rfl, rfl⟩ : (0 : Int) = lo2 ∧ (0 : Int) = hi2 ∧ (4 : Int) = er2 := by simpa using hw2
            exact .inl rfl
          | some l2 =>
            obtain ⟨r2, hr2, hrn2, hlr2, hcl2, hcr2, _⟩ := within_some h2
            rw [withinR_some h2 hr2] at hw2
            obtain ⟨rfl, rfl, rfl⟩ : ((l2 : Nat) : Int) = lo2 ∧ ((N - r2 : Nat) : Int) = hi2 ∧ (0 : Int) = er2 := by simpa using hw2
            have a1 := hup l2 (by omega) (can_less (by omega) (by omega) hcl2)
            have a2 := hup (N - r2) (by omega) (can_less (by omega) (by omega) hcr2)
            exact .inr ⟨rfl, by omega, by omega⟩
  · exact within_bad n c f d ow bw w h
end Go.Proofs.Ytclcconllkfjiaa
