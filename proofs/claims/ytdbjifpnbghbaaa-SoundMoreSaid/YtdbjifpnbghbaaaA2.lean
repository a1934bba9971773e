/- Sound: isValid, cut. -/
import Derived.Test.YtdbjifpnbghbaaaG0
namespace Go.Proofs.Ytdbjifpnbghbaaa
set_option linter.unusedSimpArgs false
set_option linter.unusedVariables false
open Go.RowKit Go.Maps Go.BigFrame

set_option maxRecDepth 100000 in
set_option maxHeartbeats 3200000 in
theorem isValid_any (l : List Pi) (v : Value) (w : World) (hl : TabAt 3 piC w v l) : Calls Try.prog 33 #[v] w fun e w' => e = .returned (.bool (lineOk l)) ∧ Below w.heap.size w w' := by
  obtain ⟨la, lc, rfl⟩ := hl.shape
  have ml : l.length ≤ 9223372036854775807 := hl.1
  have HL := Lib.hid hl
  have K1 := Lib.hid (fun X => isFrom_any (l.length : Int) 1 8 X)
  have hdef : lineOk l = (inF l.length 1 8 && l.all pipeOk) := rfl
  obtain ⟨b0, hb0⟩ : ∃ b, inF (l.length : Int) 1 8 = b := ⟨_, rfl⟩
  rw [hb0] at K1 hdef
  have hall := all_iff (p := pipeOk) (l := l)
  obtain ⟨R, hR⟩ : ∃ R, lineOk l = R := ⟨_, rfl⟩
  rw [hR] at hdef ⊢
  clear hR hb0 hl
  cases b0 with
  | false =>
    have hd : R = false := by simpa using hdef
    subst hd
    clear hdef hall
    go_enter Try.func33, Try.ntmps33
    go_wp2_with (go_at_call 53; (with_reducible refine (K1.out _).mono ?_); rintro e w2 ⟨rfl, rfl⟩)
    go_ret
    exact ⟨rfl, Below.refl _ _⟩
  | true =>
    have hd : R = l.all pipeOk := by simpa using hdef
    have hbadD : ∀ i, i < l.length → pipeOk (l.getD i default) = false → R = false := fun i hi hp => by
      rw [hd, ← Bool.not_eq_true, hall]
      intro h
      rw [h i hi] at hp; cases hp
    have HBAD := Lib.hid hbadD
    have HGOOD := Lib.hid (show (∀ i, i < l.length → pipeOk (l.getD i default) = true) → R = true from fun h => by rw [hd]; exact hall.2 h)
    clear hd hdef hall hbadD
    go_enter Try.func33, Try.ntmps33
    go_wp2_with (go_at_call 53; (with_reducible refine (K1.out _).mono ?_); rintro e w2 ⟨rfl, rfl⟩)
    go_loopw [11] (fun i wr => ∃ j : Nat, j ≤ l.length ∧ i = .int .i64 j ∧ (∀ a, a < j → pipeOk (l.getD a default) = true) ∧ Below w.heap.size w wr) (fun i _ => l.length - (intOf i).toNat)
    case atStart => exact ⟨0, by omega, rfl, fun a ha => absurd ha (Nat.not_lt_zero _), Below.refl _ _⟩
    case round =>
      obtain ⟨j, hj, rfl, hfo, hbw⟩ := hrel
      have HFO := Lib.hid hfo
      have HBW := Lib.hid hbw
      clear hfo
      by_cases hlt : j < l.length
      · obtain ⟨lb, lo, e1, hlb, hlx⟩ := HL.out.at (by omega)
        subst e1
        have x0 := (hbw.cell (p := ⟨lb, lo + j * 3 + 0, none⟩) hlb).trans (hlx j hlt 0 (by omega))
        have x1 := (hbw.cell (p := ⟨lb, lo + j * 3 + 1, none⟩) hlb).trans (hlx j hlt 1 (by omega))
        have x2 := (hbw.cell (p := ⟨lb, lo + j * 3 + 2, none⟩) hlb).trans (hlx j hlt 2 (by omega))
        have hbad := HBAD.out j hlt
        have hnx : pipeOk (l.getD j default) = true → ∀ a, a < j + 1 → pipeOk (l.getD a default) = true := fun h a ha => by
          by_cases e : a = j
          · rw [e]; exact h
          · exact HFO.out a (by omega)
        obtain ⟨⟨t0, t1, t2⟩, hrow⟩ : ∃ x : Pi, l.getD j default = x := ⟨_, rfl⟩
        rw [hrow] at x0 x1 x2 hbad hnx
        simp only [Nat.add_zero, piC] at x0 x1 x2
        have kf := fun X => isFrom_any t0 1 100000 X
        have kw := fun X => isWithin_any t1 t2 1 10000 X
        have hro : pipeOk ⟨t0, t1, t2⟩ = (inF t0 1 100000 && withinF (t1, t2) 1 10000) := rfl
        obtain ⟨b1, hb1⟩ : ∃ b, inF t0 1 100000 = b := ⟨_, rfl⟩
        obtain ⟨b2, hb2⟩ : ∃ b, withinF (t1, t2) 1 10000 = b := ⟨_, rfl⟩
        rw [hb1, hb2] at hro
        rw [hro] at hbad hnx
        simp only [hb1] at kf
        simp only [hb2] at kw
        have KF := Lib.hid kf
        have KW := Lib.hid kw
        have HBA := Lib.hid hbad
        have HNX := Lib.hid hnx
        have ij1 : (j : Int) < (l.length : Int) := Int.ofNat_lt.2 hlt
        obtain ⟨W1, hW1⟩ : ∃ X, X = wr.alloc (.cells #[.int .i64 t0, .int .i64 t1, .int .i64 t2] 59) := ⟨_, rfl⟩
        have hr1 : W1.heap[wr.heap.size]? = some (.cells #[.int .i64 t0, .int .i64 t1, .int .i64 t2] 59 (0, 0)) := by rw [hW1]; exact alloc_heap wr _
        have hbb : Below wr.heap.size wr W1 := by rw [hW1]; exact (Below.refl _ _).alloc (Nat.le_refl _) _
        have HB1 := Lib.hid (HBW.out.trans (hbb.mono hbw.size))
        obtain ⟨d0, d1, d2⟩ := three_cells hr1
        clear hlx hrow hb1 hb2 kf kw hbad hnx hr1 hbb hbw hlb hro
        go_upto_region 6 with fail
        rw [← hW1]
        obtain ⟨B, hB⟩ : ∃ B, wr.heap.size = B := ⟨_, rfl⟩
        rw [hB] at d0 d1 d2 ⊢
        clear hW1 hB x0 x1 x2
        have w1 : IntKind.i64.wrap ((j : Int) + 1) = (j : Int) + 1 := IntWalk.i64_in _ (by omega)
        cases b1 with
        | false =>
          have hrr := HBA.out rfl
          subst hrr
          go_wp2_with (go_at_call 53; (with_reducible refine (KF.out _).mono ?_); rintro e w2 ⟨rfl, rfl⟩)
          go_ret
          exact ⟨rfl, HB1.out⟩
        | true =>
          go_wp2_with (first | (go_at_call 53; (with_reducible refine (KF.out _).mono ?_); rintro e w2 ⟨rfl, rfl⟩) | (go_at_call 54; fail))
          refine (KW.out _).mono ?_
          rintro e w3 ⟨rfl, hb3⟩
          have HB3 := Lib.hid (HB1.out.trans (hb3.mono HB1.out.size))
          clear hb3 d0 d1 d2
          cases b2 with
          | false =>
            have hrr := HBA.out rfl
            subst hrr
            go_wp2
            go_ret
            exact ⟨rfl, HB3.out⟩
          | true =>
            go_wp2
            go_roundw
            case rel => exact ⟨j + 1, by omega, by go_num, HNX.out rfl, HB3.out⟩
            case measure => simp [intOf]; omega
      · have i1 : ¬ (j : Int) < (l.length : Int) := by omega
        have hjl : j = l.length := by omega
        have hR := HGOOD.out (by rw [← hjl]; exact HFO.out)
        subst hR
        go_wp2
        go_ret
        exact ⟨rfl, HBW.out⟩
theorem cutF_snoc (s : Int × Int) (os : List (Int × Int)) (o : Int × Int) : cutF s (os ++ [o]) = (max (cutF s os).1 o.1, min (cutF s os).2 o.2) := by
  unfold cutF; rw [List.foldl_append]; rfl
theorem take_next {α : Type} [Inhabited α] {l : List α} {j : Nat} (h : j < l.length) : l.take (j + 1) = l.take j ++ [l.getD j default] := by
  rw [List.take_add_one, List.getD, List.getElem?_eq_getElem h]; rfl
end Go.Proofs.Ytdbjifpnbghbaaa
