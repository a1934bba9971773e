/- Sound: the reference all. -/
import Derived.Test.YtdbjifpnbghbaaaM2
namespace Go.Proofs.Ytdbjifpnbghbaaa
set_option linter.unusedSimpArgs false
set_option linter.unusedVariables false
open Go.RowKit Go.Maps Go.BigFrame

set_option maxRecDepth 100000 in
set_option maxHeartbeats 3200000 in
theorem rAll_any (l : List Pi) (hok : lineOk l = true) (v : Value) (hs : List He) (hho : hs.all (hearOk l) = true) (v2 : Value) (t : Int) (w : World) (hl : TabAt 3 piC w v l) (hh : TabAt 4 heC w v2 hs) : Calls Try.prog 50 #[v, v2, .int .i64 t] w fun e w' => e = .returned (.bool (allPF l hs t)) ∧ Below w.heap.size w w' := by
  obtain ⟨a, c, rfl⟩ := hl.shape
  obtain ⟨la, lc, rfl⟩ := hh.shape
  have ml : hs.length ≤ 9223372036854775807 := hh.1
  have HL := Lib.hid hl
  have HH := Lib.hid hh
  have HHO := Lib.hid (all_iff.1 hho)
  have KH := Lib.hid (fun h hX2 X hX => rAllows_any l hok (.slice a l.length c) h t hX2 X hX)
  have hall := all_iff (p := fun h => allowsF l h t) (l := hs)
  obtain ⟨R, hR⟩ : ∃ R, allPF l hs t = R := ⟨_, rfl⟩
  rw [show hs.all (fun h => allowsF l h t) = R from hR] at hall
  rw [hR]
  have hbadD : ∀ i, i < hs.length → allowsF l (hs.getD i default) t = false → R = false := fun i hi hp => by
    rw [← Bool.not_eq_true, hall]
    intro h
    rw [h i hi] at hp; cases hp
  have HBAD := Lib.hid hbadD
  have HGOOD := Lib.hid hall.2
  clear hall hbadD hR hl hh hho
  go_enter Try.func50, Try.ntmps50
  go_wp2_with fail
  go_loopw [7] (fun i wr => ∃ j : Nat, j ≤ hs.length ∧ i = .int .i64 j ∧ (∀ b, b < j → allowsF l (hs.getD b default) t = true) ∧ Below w.heap.size w wr) (fun i _ => hs.length - (intOf i).toNat)
  case atStart => exact ⟨0, by omega, rfl, fun b hb => absurd hb (Nat.not_lt_zero _), Below.refl _ _⟩
  case round =>
    obtain ⟨j, hj, rfl, hfo, hbw⟩ := hrel
    have HFO := Lib.hid hfo
    have HBW := Lib.hid hbw
    clear hfo
    by_cases hlt : j < hs.length
    · obtain ⟨lb, lo, e1, hlb, hlx⟩ := HH.out.at (by omega)
      subst e1
      have x0 := (hbw.cell (p := ⟨lb, lo + j * 4 + 0, none⟩) hlb).trans (hlx j hlt 0 (by omega))
      have x1 := (hbw.cell (p := ⟨lb, lo + j * 4 + 1, none⟩) hlb).trans (hlx j hlt 1 (by omega))
      have x2 := (hbw.cell (p := ⟨lb, lo + j * 4 + 2, none⟩) hlb).trans (hlx j hlt 2 (by omega))
      have x3 := (hbw.cell (p := ⟨lb, lo + j * 4 + 3, none⟩) hlb).trans (hlx j hlt 3 (by omega))
      have hbad := HBAD.out j hlt
      have hoj := HHO.out j hlt
      have hnx : allowsF l (hs.getD j default) t = true → ∀ b, b < j + 1 → allowsF l (hs.getD b default) t = true := fun h b hb => by
        by_cases e : b = j
        · rw [e]; exact h
        · exact HFO.out b (by omega)
      obtain ⟨⟨t0, t1, t2, t3⟩, hrow⟩ : ∃ x : He, hs.getD j default = x := ⟨_, rfl⟩
      rw [hrow] at x0 x1 x2 x3 hbad hnx hoj
      simp only [Nat.add_zero, heC] at x0 x1 x2 x3
      have kw := KH.out ⟨t0, t1, t2, t3⟩ hoj wr (HL.out.below hbw)
      unfold heV at kw
      simp only [] at kw
      obtain ⟨b, hb⟩ : ∃ b, allowsF l ⟨t0, t1, t2, t3⟩ t = b := ⟨_, rfl⟩
      rw [hb] at kw hbad hnx
      have KW := Lib.hid kw
      have HBA := Lib.hid hbad
      have HNX := Lib.hid hnx
      have ij1 : (j : Int) < (hs.length : Int) := Int.ofNat_lt.2 hlt
      have w1 : IntKind.i64.wrap ((j : Int) + 1) = (j : Int) + 1 := IntWalk.i64_in _ (by omega)
      clear hlx hrow hb kw hbad hnx hbw hlb hoj
      go_wp2_with (go_at_call 30; fail)
      refine KW.out.mono ?_
      rintro e w3 ⟨rfl, hb3⟩
      have HB3 := Lib.hid (HBW.out.trans (hb3.mono HBW.out.size))
      clear hb3 x0 x1 x2 x3
      cases b with
      | false =>
        have hrr := HBA.out rfl
        subst hrr
        go_wp2
        go_ret
        exact ⟨rfl, HB3.out⟩
      | true =>
        go_wp2
        go_roundw
        case rel => exact ⟨j + 1, by omega, by go_num, HNX.out (by simp), HB3.out⟩
        case measure => simp [intOf]; omega
    · have i1 : ¬ (j : Int) < (hs.length : Int) := by omega
      have hjl : j = hs.length := by omega
      have hR := HGOOD.out (by rw [← hjl]; exact HFO.out)
      subst hR
      go_wp2
      go_ret
      exact ⟨rfl, HBW.out⟩
end Go.Proofs.Ytdbjifpnbghbaaa
