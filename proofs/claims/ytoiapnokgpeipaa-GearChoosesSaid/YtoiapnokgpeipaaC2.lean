/- What is wrong with the pairs of a train. -/
import Derived.Test.YtoiapnokgpeipaaA3
namespace Go.Proofs.Ytoiapnokgpeipaa
set_option linter.unusedSimpArgs false
open Go.RowKit

def pairErr (o : Int) (x : Int × Int) : Int := if teethB x.1 && teethB x.2 then (if o < x.1 + x.2 then 9 else 0) else 2
def pairsErr (P : List (Int × Int)) (p o : Int) : Int := if p < P.length then 9 else ((P.find? (fun x => pairErr o x != 0)).map (pairErr o)).getD 0
theorem pairsErr_hit {P : List (Int × Int)} {p o : Int} {k : Nat} (hp : ¬ p < P.length) (hk : k < P.length) (hno : (P.take k).find? (fun x => pairErr o x != 0) = none) {e : Int} (he : pairErr o P[k] = e) (h0 : e ≠ 0) : pairsErr P p o = e := by
  have := find_hit hk hno (by rw [he]; simpa using h0)
  unfold pairsErr; rw [if_neg hp, this]; simp [he]

set_option maxRecDepth 100000 in
set_option maxHeartbeats 1600000 in
theorem pairsError_any (P : List (Int × Int)) (v : Value) (t r p o : Int) (same : Bool) (w : World) (hv : WheelsAt w v P) (hp : 0 ≤ p ∧ p ≤ 3) :
    Calls Try.prog 34 #[v, .agg #[.int .i64 t, .int .i64 r, .bool same, .int .i64 p, .int .i64 o]] w fun e w' => e = .returned (.int .i64 (pairsErr P p o)) ∧ Below w.heap.size w w' := by
  obtain ⟨hq, ⟨rfl, a, cap, rfl⟩ | ⟨b, off, cap, rfl, hlc, hcm, hb, hc⟩⟩ := hv
  · clear hq
    have H : pairsErr [] p o = 0 := by unfold pairsErr; rw [if_neg (by simp; omega)]; rfl
    rw [H]
    go_enter Try.func34, Try.ntmps34
    go_wp2
    go_loop [6, 14] (fun _ i => i = .int .i64 0) (fun _ _ => 0)
    case atStart => rfl
    case round =>
      subst hrel
      go_wp2
      go_ret
      exact ⟨rfl, (Below.refl _ _).alloc (Nat.le_refl _) _⟩
  · replace hcm : cap ≤ 9223372036854775807 := hcm
    clear hq
    have hSl : P.length ≤ 9223372036854775807 := by omega
    by_cases h8 : p < P.length
    · have H : pairsErr P p o = 9 := by unfold pairsErr; rw [if_pos h8]
      rw [H]
      clear H
      go_enter Try.func34, Try.ntmps34
      go_wp2
      go_ret
      exact ⟨rfl, (Below.refl _ _).alloc (Nat.le_refl _) _⟩
    · obtain ⟨W0, hW0⟩ : ∃ W0, W0 = w.alloc (.cells #[.int .i64 t, .int .i64 r, .bool same, .int .i64 p, .int .i64 o] 24) := ⟨_, rfl⟩
      have hg0 : Below w.heap.size w W0 := by rw [hW0]; exact (Below.refl _ _).alloc (Nat.le_refl _) _
      have hbx : W0.cell? ⟨w.heap.size, 4, none⟩ = some (.int .i64 o) := by rw [hW0]; go_simp
      have hsz : w.heap.size < W0.heap.size := by rw [hW0]; simp
      go_enter Try.func34, Try.ntmps34
      go_wp2
      rw [← hW0]
      clear hW0
      go_loopw [6, 14] (fun _ i wr => ∃ k : Nat, k ≤ P.length ∧ i = .int .i64 k ∧ Below W0.heap.size W0 wr ∧ (P.take k).find? (fun x => pairErr o x != 0) = none) (fun _ i _ => P.length - (intOf i).toNat)
      case atStart => exact ⟨0, by omega, rfl, Below.refl _ _, rfl⟩
      case round =>
        obtain ⟨k, hk, rfl, hbel, hno⟩ := hrel
        have hbx' : wr.cell? ⟨w.heap.size, 4, none⟩ = some (.int .i64 o) := (hbel.cell (p := ⟨_, _, none⟩) hsz).trans hbx
        have hb2 : Below w.heap.size w wr := hg0.trans (hbel.mono (by omega))
        have hs := hbel.size
        by_cases hlt : k < P.length
        · obtain ⟨c0, c1⟩ := hc k hlt
          rw [← hb2.cell (p := ⟨b, _, none⟩) hb] at c0 c1
          obtain ⟨x, hx⟩ : ∃ x, x = P[k].1 := ⟨_, rfl⟩
          obtain ⟨y, hy⟩ : ∃ y, y = P[k].2 := ⟨_, rfl⟩
          have hgd : P.getD k (0, 0) = P[k] := by simp [hlt]
          rw [hgd, ← hx] at c0
          rw [hgd, ← hy] at c1
          have hbx2 := cell_al hbx' (.cells #[.int .i64 x, .int .i64 y] 49)
          have hpe : pairErr o P[k] = if teethB x && teethB y then (if o < x + y then 9 else 0) else 2 := by rw [hx, hy]; rfl
          obtain ⟨tx, htx⟩ : ∃ tx, teethB x = tx := ⟨_, rfl⟩
          obtain ⟨ty, hty⟩ : ∃ ty, teethB y = ty := ⟨_, rfl⟩
          rw [htx, hty] at hpe
          clear hx hy hgd hc hbx
          cases tx with
          | false =>
            have hpe2 : pairErr o P[k] = 2 := by simpa using hpe
            have H := Lib.hid (pairsErr_hit (p := p) (by omega) hlt hno hpe2 (by decide))
            clear hpe hpe2 hno
            go_wp2_with (go_at_call 36; refine Calls.mono (isTeeth_any _ _) ?_; rintro e w3 ⟨rfl, rfl⟩; rw [htx])
            go_ret
            exact ⟨ret_int H.out.symm, hb2.alloc (by omega) _⟩
          | true =>
            have hxx : 6 ≤ x ∧ x ≤ 100 := of_decide_eq_true htx
            cases ty with
            | false =>
              have hpe2 : pairErr o P[k] = 2 := by simpa using hpe
              have H := Lib.hid (pairsErr_hit (p := p) (by omega) hlt hno hpe2 (by decide))
              clear hpe hpe2 hno
              go_wp2_with (go_at_call 36; refine Calls.mono (isTeeth_any _ _) ?_; rintro e w3 ⟨rfl, rfl⟩; first | rw [htx] | rw [hty])
              go_ret
              exact ⟨ret_int H.out.symm, hb2.alloc (by omega) _⟩
            | true =>
              have hyy : 6 ≤ y ∧ y ≤ 100 := of_decide_eq_true hty
              by_cases ho : o < x + y
              · have hpe2 : pairErr o P[k] = 9 := by simpa [ho] using hpe
                have H := Lib.hid (pairsErr_hit (p := p) (by omega) hlt hno hpe2 (by decide))
                clear hpe hpe2 hno
                go_wp2_with (go_at_call 36; refine Calls.mono (isTeeth_any _ _) ?_; rintro e w3 ⟨rfl, rfl⟩; first | rw [htx] | rw [hty])
                go_ret
                exact ⟨ret_int H.out.symm, hb2.alloc (by omega) _⟩
              · have hpe2 : pairErr o P[k] = 0 := by simpa [ho] using hpe
                have H := Lib.hid (find_miss hlt hno (by simp [hpe2]))
                clear hpe hpe2 hno
                go_wp2_with (go_at_call 36; refine Calls.mono (isTeeth_any _ _) ?_; rintro e w3 ⟨rfl, rfl⟩; first | rw [htx] | rw [hty])
                go_roundw
                case rel => exact ⟨k + 1, by omega, by go_num, hbel.alloc hbel.size _, H.out⟩
                case measure => simp [intOf]; omega
        · go_wp2
          go_ret
          rw [List.take_of_length_le (by omega)] at hno
          exact ⟨ret_int (by unfold pairsErr; rw [if_neg (by omega), hno]; rfl), hb2⟩
end Go.Proofs.Ytoiapnokgpeipaa
