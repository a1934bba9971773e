/- Sound: the walk of SoundWheres. -/
import Derived.Test.YtdbjifpnbghbaaaR10
import Derived.Test.YtdbjifpnbghbaaaL7
import Derived.Test.YtdbjifpnbghbaaaL6
namespace Go.Proofs.Ytdbjifpnbghbaaa
set_option linter.unusedSimpArgs false
set_option linter.unusedVariables false
open Go.RowKit Go.Maps Go.BigFrame

theorem whereF_few (l : List Pi) (hs : List He) : (whereF l hs).1.length ≤ l.length := by
  unfold whereF
  split
  · split
    · split
      · simp only []
        split
        · simp
        · exact strUp_few l _ _
      · simp
    · simp
  · simp
set_option maxRecDepth 100000 in
set_option maxHeartbeats 6400000 in
theorem wheres_law (l : List Pi) (v : Value) (hs : List He) (v2 : Value) (w : World) (hl : TabAt 3 piC w v l) (hh : TabAt 4 heC w v2 hs) : Calls Try.prog 4 #[v, v2] w fun e w' => e = .returned (.bool true) ∧ Below w.heap.size w w' := by
  obtain ⟨a, c, rfl⟩ := hl.shape
  obtain ⟨la, lc, rfl⟩ := hh.shape
  have ml : hs.length ≤ 9223372036854775807 := hh.1
  have KW1 := Lib.hid (fun X hX hX2 => Where_any l (.slice a l.length c) hs (.slice la hs.length lc) X hX hX2)
  have KW2 := Lib.hid (fun X hX hX2 => rWhere_any l (.slice a l.length c) hs (.slice la hs.length lc) X hX hX2)
  have hfew := whereF_few l hs
  obtain ⟨⟨S2, re⟩, hR⟩ : ∃ r, whereF l hs = r := ⟨_, rfl⟩
  rw [hR] at KW1 KW2 hfew
  unfold WhereR at KW1 KW2
  simp only [] at KW1 KW2 hfew
  have KG := Lib.hid (great_any l (.slice a l.length c) 400 w hl)
  have KA := Lib.hid alive_any
  have hgf := fun h => great_few (l := l) (far := 400) h
  obtain ⟨gr, hgr⟩ : ∃ g, greatB l 400 = g := ⟨_, rfl⟩
  rw [hgr] at KG hgf
  have HL := Lib.hid hl
  have HH := Lib.hid hh
  have HF := Lib.hid hfew
  have HGF := Lib.hid hgf
  clear hl hh hgr hR hfew hgf
  go_enter Try.func4, Try.ntmps4
  go_wp2_with (go_at_call 11; fail)
  refine KG.out.mono ?_
  rintro e w2 ⟨rfl, hb2⟩
  have HB2 := Lib.hid hb2
  have HL2 := Lib.hid (HL.out.below hb2)
  have HH2 := Lib.hid (HH.out.below hb2)
  clear hb2 KG HL HH
  cases gr with
  | true =>
    go_wp2_with (go_at_call 12; fail)
    refine (KA.out _).mono ?_
    rintro e9 w3 ⟨rfl, hbz⟩
    go_wp2
    go_ret
    exact ⟨rfl, HB2.out.trans (hbz.mono HB2.out.size)⟩
  | false =>
    by_cases h12 : (12 : Int) < (hs.length : Int)
    · have g2 : decide (12 < hs.length) = true := decide_eq_true (by omega)
      go_wp2_with (go_at_call 12; fail)
      refine (KA.out _).mono ?_
      rintro e9 w3 ⟨rfl, hbz⟩
      go_wp2
      go_ret
      exact ⟨rfl, HB2.out.trans (hbz.mono HB2.out.size)⟩
    · have g2 : decide (12 < hs.length) = false := decide_eq_false (by omega)
      have hl12 := HGF.out rfl
      have HS := Lib.hid (show S2.length ≤ 1000 by have := HF.out; omega)
      clear hl12 HF HGF
      go_wp2_with (go_at_call 18; fail)
      refine (KW1.out _ HL2.out HH2.out).mono ?_
      rintro e w3 ⟨v3, rfl, ho3, hb3⟩
      have HT3 := Lib.hid (outT_tab ho3 HS.out)
      have HL3 := Lib.hid (HL2.out.below hb3)
      have HH3 := Lib.hid (HH2.out.below hb3)
      have HB3 := Lib.hid (HB2.out.trans (hb3.mono HB2.out.size))
      clear ho3 hb3 HL2 HH2 HB2 KW1
      go_wp2_with (go_at_call 19; fail)
      refine (KW2.out _ HL3.out HH3.out).mono ?_
      rintro e w4 ⟨v4, rfl, ho4, hb4⟩
      have HT4 := Lib.hid (outT_tab ho4 HS.out)
      have HT34 := Lib.hid (HT3.out.below hb4)
      have HB4 := Lib.hid (HB3.out.trans (hb4.mono HB3.out.size))
      clear ho4 hb4 HT3 HL3 HH3 HB3 KW2
      have hkk := Stretches_any S2 S2 v3 v4 w4 HT34.out HT4.out
      rw [decide_eq_true (rfl : S2 = S2)] at hkk
      have KS := Lib.hid hkk
      clear hkk
      go_wp2_with (go_at_call 20; fail)
      refine KS.out.mono ?_
      rintro e w9 ⟨rfl, hb9⟩
      have HB9 := Lib.hid (HB4.out.trans (hb9.mono HB4.out.size))
      clear hb9
      go_wp2_with (go_at_call 12; fail)
      refine (KA.out _).mono ?_
      rintro e9 w10 ⟨rfl, hbz⟩
      go_wp2
      go_ret
      exact ⟨rfl, HB9.out.trans (hbz.mono HB9.out.size)⟩
end Go.Proofs.Ytdbjifpnbghbaaa
