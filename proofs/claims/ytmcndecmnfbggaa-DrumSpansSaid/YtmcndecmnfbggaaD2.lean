/- Contracts of runsError, totalAfter, and the document's own errors. -/
import Derived.Test.YtmcndecmnfbggaaD1
namespace Go.Proofs.Ytmcndecmnfbggaa
set_option linter.unusedSimpArgs false
open Go.RowKit

def IntsAt (w : World) (v : Value) (l : List Int) : Prop := l.length ≤ maxLen ∧ ((l = [] ∧ ∃ a cap, v = .slice a 0 cap) ∨ ∃ b off cap, v = .slice (some ⟨b, off, none⟩) l.length cap ∧ l.length ≤ cap ∧ cap ≤ maxLen ∧ b < w.heap.size ∧ ∀ i, i < l.length → w.cell? ⟨b, off + i, none⟩ = some (.int .i64 (l.getD i 0)))
theorem IntsAt.shape {w : World} {v : Value} {l : List Int} (h : IntsAt w v l) : ∃ a c, v = .slice a l.length c := by
  obtain ⟨_, ⟨rfl, a, c, rfl⟩ | ⟨b, off, cap, rfl, _⟩⟩ := h
  · exact ⟨a, c, rfl⟩
  · exact ⟨_, _, rfl⟩
theorem IntsAt.below {w w' : World} {v : Value} {l : List Int} (h : IntsAt w v l) (hb : Below w.heap.size w w') : IntsAt w' v l := by
  obtain ⟨hl, ⟨rfl, h⟩ | ⟨b, off, cap, rfl, h1, h2, h3, h4⟩⟩ := h
  · exact ⟨hl, .inl ⟨rfl, h⟩⟩
  · exact ⟨hl, .inr ⟨b, off, cap, rfl, h1, h2, Nat.lt_of_lt_of_le h3 hb.size, fun i hi => (hb.cell (p := ⟨b, _, none⟩) h3).trans (h4 i hi)⟩⟩
theorem IntsAt.at {w : World} {l : List Int} {a : Option Addr} {n c : Nat} (h : IntsAt w (.slice a n c) l) (hl : 0 < l.length) : ∃ b off, a = some ⟨b, off, none⟩ ∧ b < w.heap.size ∧ ∀ i, i < l.length → w.cell? ⟨b, off + i, none⟩ = some (.int .i64 (l.getD i 0)) := by
  obtain ⟨_, ⟨rfl, _⟩ | ⟨b, off, cap, e, _, _, h3, h4⟩⟩ := h
  · simp at hl
  · simp only [Value.slice.injEq] at e
    exact ⟨b, off, e.1, h3, h4⟩
def runBad (x : Int) : Bool := decide (x < -1099511627776) || decide (1099511627776 < x)
def runsErr (d s : Int) (l : List Int) : Int := if regB d s = false then 1 else if 32 < l.length then 3 else if l.any runBad = true then 2 else 0
set_option maxRecDepth 100000 in
set_option maxHeartbeats 1600000 in
theorem runsError_any (d s : Int) (l : List Int) (v : Value) (w : World) (hl : IntsAt w v l) : Calls Try.prog 34 #[.agg #[.int .i64 d, .int .i64 s], v] w fun e w' => e = .returned (.int .i64 (runsErr d s l)) ∧ Below w.heap.size w w' := by
  obtain ⟨a, c, rfl⟩ := hl.shape
  have hlm : l.length ≤ 9223372036854775807 := hl.1
  obtain ⟨W0, hW0⟩ : ∃ X, X = w.alloc (.cells #[.int .i64 d, .int .i64 s] 23) := ⟨_, rfl⟩
  have hb0 : Below w.heap.size w W0 := by rw [hW0]; exact (Below.refl _ _).alloc (Nat.le_refl _) _
  have hr := isRegister_any d s W0
  obtain ⟨R, hR⟩ : ∃ R, regB d s = R := ⟨_, rfl⟩
  obtain ⟨E, hE⟩ : ∃ E, runsErr d s l = E := ⟨_, rfl⟩
  rw [hR] at hr
  rw [hE]
  have HRR := Lib.hid hr
  have HR := Lib.hid hR
  have HE := Lib.hid hE
  clear hr hR hE
  go_enter Try.func34, Try.ntmps34
  go_wp2_with fail
  rw [← hW0]
  clear hW0
  refine HRR.out.mono ?_
  rintro e w1 ⟨rfl, hb1⟩
  have hbw : Below w.heap.size w w1 := hb0.trans (hb1.mono hb0.size)
  have hl1 := hl.below hbw
  clear hb0 hb1 HRR hl
  cases R with
  | false =>
    have H := Lib.hid (show E = 1 by rw [← HE.out]; unfold runsErr; rw [if_pos HR.out])
    go_wp2
    go_ret
    exact ⟨by rw [H.out]; rfl, hbw⟩
  | true =>
    by_cases h32 : 32 < l.length
    · have H := Lib.hid (show E = 3 by rw [← HE.out]; unfold runsErr; rw [if_neg (by rw [HR.out]; simp), if_pos h32])
      have h32' : (32 : Int) < (l.length : Int) := by omega
      go_wp2
      go_ret
      exact ⟨by rw [H.out]; rfl, hbw⟩
    · have h32' : ¬ (32 : Int) < (l.length : Int) := by omega
      have hE2 : E = if l.any runBad = true then 2 else 0 := by rw [← HE.out]; unfold runsErr; rw [if_neg (by rw [HR.out]; simp), if_neg h32]
      have HE2 := Lib.hid hE2
      clear hE2
      go_wp2
      go_loop [17] (fun c => ∃ k : Nat, k ≤ l.length ∧ c = .int .i64 k ∧ (l.take k).any runBad = false) (fun c => l.length - (intOf c).toNat)
      case atStart => exact ⟨0, by omega, rfl, rfl⟩
      case round =>
        obtain ⟨k, hk, rfl, hno⟩ := hrel
        have HNO := Lib.hid hno
        clear hno
        by_cases hlt : k < l.length
        · obtain ⟨b, off, e0, _, hc⟩ := hl1.at (by omega)
          subst e0
          have c0 := hc k hlt
          obtain ⟨x, hx⟩ : ∃ x, l.getD k 0 = x := ⟨_, rfl⟩
          rw [hx] at c0
          have hs : (l.take (k + 1)).any runBad = ((l.take k).any runBad || runBad x) := by
            rw [List.take_succ_eq_append_getElem hlt, List.any_append]
            simp [← hx, List.getD, hlt]
          have hmem : x ∈ l := by rw [← hx]; simp [List.getD, hlt]
          have HS := Lib.hid hs
          have HMEM := Lib.hid hmem
          have i0 : (0 : Int) ≤ (k : Int) := by omega
          have i1 : (k : Int) < (l.length : Int) := by omega
          clear hx hs hc hmem
          by_cases h1 : x < -1099511627776
          · have H := Lib.hid (show E = 2 by rw [HE2.out, if_pos (List.any_eq_true.2 ⟨x, HMEM.out, by simp [runBad, h1]⟩)])
            go_wp2
            go_ret
            exact ⟨by rw [H.out]; rfl, hbw⟩
          · by_cases h2 : 1099511627776 < x
            · have H := Lib.hid (show E = 2 by rw [HE2.out, if_pos (List.any_eq_true.2 ⟨x, HMEM.out, by simp [runBad, h2]⟩)])
              go_wp2
              go_ret
              exact ⟨by rw [H.out]; rfl, hbw⟩
            · have hbad := Lib.hid (show runBad x = false by simp [runBad]; omega)
              go_wp2
              go_round
              case rel => exact ⟨k + 1, by omega, by go_num, by rw [HS.out, HNO.out, hbad.out]; rfl⟩
              case measure => simp [intOf]; omega
        · have i1 : ¬ (k : Int) < (l.length : Int) := by omega
          have H := Lib.hid (show E = 0 by
            obtain rfl : k = l.length := by omega
            have := HNO.out
            rw [List.take_length] at this
            rw [HE2.out, if_neg (by rw [this]; simp)])
          go_wp2
          go_ret
          exact ⟨by rw [H.out]; rfl, hbw⟩
end Go.Proofs.Ytmcndecmnfbggaa
