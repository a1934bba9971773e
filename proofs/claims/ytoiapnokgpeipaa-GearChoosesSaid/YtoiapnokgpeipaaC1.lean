/- Which stocks are valid, and what is wrong with pairs. -/
import Derived.Test.YtoiapnokgpeipaaA3
namespace Go.Proofs.Ytoiapnokgpeipaa
set_option linter.unusedSimpArgs false
open Go.RowKit

/-- is the kind at i as a stock asks, after the one before it? -/
def rowB (S : List (Int × Int)) (i : Nat) : Bool :=
  decide (6 ≤ (S.getD i (0, 0)).1 ∧ (S.getD i (0, 0)).1 ≤ 100 ∧ 0 ≤ (S.getD i (0, 0)).2 ∧ (S.getD i (0, 0)).2 ≤ 4 ∧ (i = 0 ∨ (S.getD (i - 1) (0, 0)).1 < (S.getD i (0, 0)).1))
def stockB (S : List (Int × Int)) : Bool := decide (S.length ≤ 8 ∧ ∀ i, i < S.length → rowB S i = true)

theorem stockB_long {S : List (Int × Int)} (h : 8 < S.length) : stockB S = false := by unfold stockB; exact decide_eq_false (fun hh => by omega)
theorem stockB_bad {S : List (Int × Int)} {k : Nat} (hk : k < S.length) (h : rowB S k = false) : stockB S = false := by
  unfold stockB; exact decide_eq_false (fun hh => by rw [hh.2 k hk] at h; exact absurd h (by decide))
theorem stockB_good {S : List (Int × Int)} {k : Nat} (hl : S.length ≤ 8) (hk : S.length ≤ k) (h : ∀ i, i < k → rowB S i = true) : stockB S = true := by
  unfold stockB; exact decide_eq_true ⟨hl, fun i hi => h i (by omega)⟩

theorem below_drewN' {B : Nat} {a w : World} (h : Below B a w) (n : Nat) : Below B a (w.drewN n) := ⟨h.os, h.tape, h.output, h.size, h.block⟩

set_option maxRecDepth 100000 in
set_option maxHeartbeats 1600000 in
theorem isStock_any (S : List (Int × Int)) (v : Value) (w : World) (hv : WheelsAt w v S) :
    Calls Try.prog 32 #[v] w fun e w' => e = .returned (.bool (stockB S)) ∧ Below w.heap.size w w' := by
  obtain ⟨hq, ⟨rfl, a, cap, rfl⟩ | ⟨b, off, cap, rfl, hlc, hcm, hb, hc⟩⟩ := hv
  · clear hq
    go_enter Try.func32, Try.ntmps32
    go_wp2
    go_loop [3, 4, 10] (fun _ _ i => i = .int .i64 0) (fun _ _ _ => 0)
    case atStart => rfl
    case round =>
      subst hrel
      go_wp2
      go_ret
      exact ⟨rfl, Below.refl _ _⟩
  · replace hcm : cap ≤ 9223372036854775807 := hcm
    clear hq
    have hSl : S.length ≤ 9223372036854775807 := by omega
    by_cases h8 : 8 < S.length
    · have H := Lib.hid (stockB_long h8)
      go_enter Try.func32, Try.ntmps32
      go_wp2
      go_ret
      exact ⟨ret_bool H.out.symm, Below.refl _ _⟩
    · go_enter Try.func32, Try.ntmps32
      go_wp2
      go_loopw [3, 4, 10] (fun _ _ i wr => ∃ k : Nat, k ≤ S.length ∧ i = .int .i64 k ∧ Below w.heap.size w wr ∧ (∀ j, j < k → rowB S j = true)) (fun _ _ i _ => S.length - (intOf i).toNat)
      case atStart => exact ⟨0, by omega, rfl, Below.refl _ _, fun j hj => by omega⟩
      case round =>
        obtain ⟨k, hk, rfl, hbel, hno⟩ := hrel
        by_cases hlt : k < S.length
        · obtain ⟨c0, c1⟩ := hc k hlt
          rw [← hbel.cell (p := ⟨b, _, none⟩) hb] at c0 c1
          obtain ⟨x, hx⟩ : ∃ x, x = (S.getD k (0, 0)).1 := ⟨_, rfl⟩
          obtain ⟨y, hy⟩ : ∃ y, y = (S.getD k (0, 0)).2 := ⟨_, rfl⟩
          rw [← hx] at c0
          rw [← hy] at c1
          have hs := hbel.size
          have hb' : b < wr.heap.size := by omega
          by_cases hbad : 6 ≤ x ∧ x ≤ 100 ∧ 0 ≤ y ∧ y ≤ 4
          · have ht : teethB x = true := by unfold teethB; exact decide_eq_true ⟨hbad.1, hbad.2.1⟩
            have hcal : (wr.alloc (.cells #[.int .i64 x, .int .i64 y] 58)).heap.size = wr.heap.size + 1 := by simp
            by_cases hk0 : k = 0
            · have H := Lib.hid (show rowB S k = true by unfold rowB; rw [← hx, ← hy]; exact decide_eq_true ⟨hbad.1, hbad.2.1, hbad.2.2.1, hbad.2.2.2, Or.inl hk0⟩)
              clear hx hy hc
              have HN := Lib.hid hno
              clear hno
              have hg : decide (0 < k) = false := by simp; omega
              have hn0 : ¬ 0 < k := by omega
              clear hk0
              go_wp2_with (go_at_call 36; refine Calls.mono (isTeeth_any _ _) ?_; rintro e w3 ⟨rfl, rfl⟩; rw [ht])
              go_quiet (fail)
              go_wp2
              go_roundw
              case rel => exact ⟨k + 1, by omega, by go_num, below_drewN' (hbel.alloc hbel.size _) _, fun j hj => by by_cases e : j = k; exact e ▸ H.out; exact HN.out j (by omega)⟩
              case measure => simp [intOf]; omega
            · obtain ⟨d0, d1⟩ := hc (k - 1) (by omega)
              rw [← hbel.cell (p := ⟨b, _, none⟩) hb] at d0 d1
              obtain ⟨z, hz⟩ : ∃ z, z = (S.getD (k - 1) (0, 0)).1 := ⟨_, rfl⟩
              rw [← hz] at d0
              clear d1
              have d2 := cell_al d0 (.cells #[.int .i64 x, .int .i64 y] 58)
              have ek : (k : Int) - 1 = ((k - 1 : Nat) : Int) := by omega
              have hg : decide (0 < k) = true := by simp; omega
              have hn0 : 0 < k := by omega
              by_cases hzx : z < x
              · have H := Lib.hid (show rowB S k = true by unfold rowB; rw [← hx, ← hy, ← hz]; exact decide_eq_true ⟨hbad.1, hbad.2.1, hbad.2.2.1, hbad.2.2.2, Or.inr hzx⟩)
                clear hx hy hc hz
                have HN := Lib.hid hno
                clear hno
                have hle : decide (x ≤ z) = false := by simp; omega
                go_wp2_with (go_at_call 36; refine Calls.mono (isTeeth_any _ _) ?_; rintro e w3 ⟨rfl, rfl⟩; rw [ht])
                go_quiet (fail)
                go_wp2
                go_roundw
                case rel => exact ⟨k + 1, by omega, by go_num, below_drewN' (hbel.alloc hbel.size _) _, fun j hj => by by_cases e : j = k; exact e ▸ H.out; exact HN.out j (by omega)⟩
                case measure => simp [intOf]; omega
              · have H := Lib.hid (stockB_bad hlt (show rowB S k = false by unfold rowB; rw [← hx, ← hy, ← hz]; exact decide_eq_false (fun hh => by omega)))
                clear hx hy hc hz hno
                have hle : decide (x ≤ z) = true := by simp; omega
                go_wp2_with (go_at_call 36; refine Calls.mono (isTeeth_any _ _) ?_; rintro e w3 ⟨rfl, rfl⟩; rw [ht])
                go_quiet (fail)
                go_wp2
                go_ret
                exact ⟨ret_bool H.out.symm, below_drewN' (hbel.alloc hbel.size _) _⟩
          · have H := Lib.hid (stockB_bad hlt (show rowB S k = false by unfold rowB; rw [← hx, ← hy]; exact decide_eq_false (fun hh => by omega)))
            clear hx hy hc hno
            by_cases ht : teethB x = true
            · have hxx : 6 ≤ x ∧ x ≤ 100 := of_decide_eq_true ht
              by_cases hy0 : y < 0
              · go_wp2_with (go_at_call 36; refine Calls.mono (isTeeth_any _ _) ?_; rintro e w3 ⟨rfl, rfl⟩; rw [ht])
                go_ret
                exact ⟨ret_bool H.out.symm, hbel.alloc hbel.size _⟩
              · have hy4 : 4 < y := by omega
                go_wp2_with (go_at_call 36; refine Calls.mono (isTeeth_any _ _) ?_; rintro e w3 ⟨rfl, rfl⟩; rw [ht])
                go_ret
                exact ⟨ret_bool H.out.symm, hbel.alloc hbel.size _⟩
            · replace ht : teethB x = false := by simpa using ht
              go_wp2_with (go_at_call 36; refine Calls.mono (isTeeth_any _ _) ?_; rintro e w3 ⟨rfl, rfl⟩; rw [ht])
              go_ret
              exact ⟨ret_bool H.out.symm, hbel.alloc hbel.size _⟩
        · go_wp2
          go_ret
          exact ⟨ret_bool (stockB_good (by omega) (by omega) hno).symm, hbel⟩
end Go.Proofs.Ytoiapnokgpeipaa
