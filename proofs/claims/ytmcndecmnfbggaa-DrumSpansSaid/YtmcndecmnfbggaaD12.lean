/- Contracts: Pulses of the program and of the document. -/
import Derived.Test.YtmcndecmnfbggaaD11
import Derived.Outline
namespace Go.Proofs.Ytmcndecmnfbggaa
set_option linter.unusedSimpArgs false
open Go.RowKit

def pulsesErr (d s c : Int) (l : List Int) : Int := if runsErr d s l = 0 then (if 0 ≤ c ∧ c ≤ 9999 then 0 else 2) else runsErr d s l
def pulsesAll (d s c : Int) (l : List Int) : Int := if pulsesErr d s c l = 0 then (pulsesF s l c).all else 0
def pulsesBo (d s c : Int) (l : List Int) : Int := if pulsesErr d s c l = 0 then (pulsesF s l c).bounces else 0
set_option maxRecDepth 100000 in
set_option maxHeartbeats 6400000 in
theorem pulses_any (d s c : Int) (l : List Int) (v : Value) (w : World) (hl : IntsAt w v l) :
    Calls Try.prog 14 #[.agg #[.int .i64 d, .int .i64 s], v, .int .i64 c] w fun e w' => e = .returned (.tuple #[.int .i64 (pulsesAll d s c l - pulsesBo d s c l), .int .i64 (pulsesAll d s c l), .int .i64 (pulsesErr d s c l)]) ∧ Below w.heap.size w w' := by
  obtain ⟨a, cp, rfl⟩ := hl.shape
  obtain ⟨W0, hW0⟩ : ∃ X, X = w.alloc (.cells #[.int .i64 d, .int .i64 s] 23) := ⟨_, rfl⟩
  have hb0 : Below w.heap.size w W0 := by rw [hW0]; exact (Below.refl _ _).alloc (Nat.le_refl _) _
  have hr0 : W0.heap[w.heap.size]? = some (.cells #[.int .i64 d, .int .i64 s] 23 (0, 0)) := by rw [hW0]; exact (MapKept.heap_alloc w _).1
  have hz0' : W0.heap.size = w.heap.size + 1 := by rw [hW0]; simp
  obtain ⟨c0, c1⟩ := regcells hr0
  obtain ⟨A, hA⟩ : ∃ A, pulsesAll d s c l = A := ⟨_, rfl⟩
  obtain ⟨B, hB⟩ : ∃ B, pulsesBo d s c l = B := ⟨_, rfl⟩
  obtain ⟨F, hF⟩ : ∃ F, pulsesErr d s c l = F := ⟨_, rfl⟩
  obtain ⟨E, hE⟩ : ∃ E, runsErr d s l = E := ⟨_, rfl⟩
  have hr := runsError_any d s l (.slice a l.length cp) W0 (hl.below hb0)
  rw [hE] at hr
  rw [hA, hB, hF]
  have HA := Lib.hid hA
  have HB := Lib.hid hB
  have HF := Lib.hid hF
  have HE := Lib.hid hE
  have HRR := Lib.hid hr
  have HC := Lib.hid hr0
  have hz := Lib.hid hz0'
  clear hA hB hF hE hr hr0 hz0'
  go_enter Try.func14, Try.ntmps14
  go_wp2_with fail
  rw [← hW0]
  clear hW0
  go_wp2_with fail
  refine HRR.out.mono ?_
  rintro e w1 ⟨rfl, hb1⟩
  have hbw1 := hb0.trans (hb1.mono hb0.size)
  have hr1 := (hb1.block w.heap.size (by rw [hz.out]; omega)).trans HC.out
  clear c0 c1 hb1 HRR
  by_cases hE0 : E = 0
  rotate_left
  · have H0 := Lib.hid (show F = E by rw [← HF.out]; unfold pulsesErr; rw [HE.out, if_neg hE0])
    have H1 := Lib.hid (show A = 0 by rw [← HA.out]; unfold pulsesAll; rw [if_neg (by rw [HF.out, H0.out]; exact hE0)])
    have H2 := Lib.hid (show B = 0 by rw [← HB.out]; unfold pulsesBo; rw [if_neg (by rw [HF.out, H0.out]; exact hE0)])
    go_wp2
    go_ret3
    exact ⟨by rw [H0.out, H1.out, H2.out]; rfl, hbw1⟩
  obtain ⟨z1, z2, z3⟩ := runsErr_zero (HE.out.trans hE0)
  obtain ⟨hd, hs0, hs1, hs2⟩ := regB_bd z1
  subst hE0
  by_cases hc : 0 ≤ c ∧ c ≤ 9999
  rotate_left
  · have H0 := Lib.hid (show F = 2 by rw [← HF.out]; unfold pulsesErr; rw [HE.out, if_pos rfl, if_neg hc])
    have H1 := Lib.hid (show A = 0 by rw [← HA.out]; unfold pulsesAll; rw [if_neg (by rw [HF.out, H0.out]; decide)])
    have H2 := Lib.hid (show B = 0 by rw [← HB.out]; unfold pulsesBo; rw [if_neg (by rw [HF.out, H0.out]; decide)])
    clear z1 z2 z3 hd hs0 hs1 hs2
    by_cases hc0 : c < 0
    · clear hc
      go_wp2
      go_ret3
      exact ⟨by rw [H0.out, H1.out, H2.out]; rfl, hbw1⟩
    · have hc1 : 10000 ≤ c := by omega
      clear hc
      go_wp2
      go_ret3
      exact ⟨by rw [H0.out, H1.out, H2.out]; rfl, hbw1⟩
  · have H0 := Lib.hid (show F = 0 by rw [← HF.out]; unfold pulsesErr; rw [HE.out, if_pos rfl, if_pos hc])
    have H1 := Lib.hid (show A = (pulsesF s l c).all by rw [← HA.out]; unfold pulsesAll; rw [if_pos (by rw [HF.out, H0.out])])
    have H2 := Lib.hid (show B = (pulsesF s l c).bounces by rw [← HB.out]; unfold pulsesBo; rw [if_pos (by rw [HF.out, H0.out])])
    have hcn := count_any d s c l (.slice a l.length cp) w1 (hl.below hbw1) ⟨hs0, hs2⟩ z2 z3 hc
    have hbd := pulses_bd s c l z3 l.length (Nat.le_refl _)
    rw [List.take_length] at hbd
    obtain ⟨-, hbd1, hbd2⟩ := hbd
    rw [← H1.out] at hcn hbd1
    rw [← H2.out] at hcn hbd2
    obtain ⟨hc0, hc1⟩ := hc
    obtain ⟨hd1, hd2⟩ := hd
    have HCN := Lib.hid hcn
    obtain ⟨c0, c1⟩ := regcells hr1
    clear z1 z3 hcn hs0 hs1 hs2 hd1 hd2
    go_wp2_with fail
    refine HCN.out.mono ?_
    rintro e w2 ⟨rfl, hb2⟩
    have hbw2 := hbw1.trans (hb2.mono hbw1.size)
    clear hb2
    go_wp2
    go_ret3
    exact ⟨by rw [H0.out]; rfl, hbw2⟩
theorem many_any (a b c : Int) (w : World) (ha : -1000000000000000 ≤ a ∧ a ≤ 1000000000000000) (hb : -1000000000000000 ≤ b ∧ b ≤ 1000000000000000) (hc : 0 ≤ c ∧ c ≤ 9999) :
    Calls Try.prog 41 #[.int .i64 a, .int .i64 b, .int .i64 c] w fun e w' => e = .returned (.int .i64 (manyF a b c)) ∧ w = w' := by
  obtain ⟨K, hK⟩ : ∃ K, manyF a b c = K := ⟨_, rfl⟩
  rw [hK]
  have HK := Lib.hid hK
  clear hK
  obtain ⟨first, hle⟩ : ∃ x, a + 1 + (c - a - 1) % 10000 = x := ⟨_, rfl⟩
  have l0 := Int.emod_nonneg (c - a - 1) (show (10000 : Int) ≠ 0 by decide)
  have l1 := Int.emod_lt_of_pos (c - a - 1) (show (0 : Int) < 10000 by decide)
  by_cases g : b < first
  · have H := Lib.hid (show K = 0 by rw [← HK.out]; unfold manyF; rw [hle, if_pos g])
    go_enter Try.func41, Try.ntmps41
    go_wp2_with ((with_reducible refine (refModulo_any _ _ _ (by omega) (by omega)).mono ?_); rintro e w' ⟨rfl, rfl⟩)
    go_ret
    exact ⟨by rw [H.out]; rfl, rfl⟩
  · have H := Lib.hid (show K = 1 + (b - first) / 10000 by rw [← HK.out]; unfold manyF; rw [hle, if_neg g])
    have g0 : 0 ≤ b - first := by omega
    go_enter Try.func41, Try.ntmps41
    go_wp2_with ((with_reducible refine (refModulo_any _ _ _ (by omega) (by omega)).mono ?_); rintro e w' ⟨rfl, rfl⟩)
    go_ret
    exact ⟨by rw [H.out]; rfl, rfl⟩
end Go.Proofs.Ytmcndecmnfbggaa
