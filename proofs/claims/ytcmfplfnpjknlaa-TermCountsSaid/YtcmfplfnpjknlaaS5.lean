/- Term: the walk of TermCounts. -/
import Derived.Test.YtcmfplfnpjknlaaC8
import Derived.Test.YtcmfplfnpjknlaaA26
import Derived.Test.YtcmfplfnpjknlaaA21
import Derived.Test.YtcmfplfnpjknlaaA22
import Derived.Test.YtcmfplfnpjknlaaA23
namespace Go.Proofs.Ytcmfplfnpjknlaa
set_option linter.unusedSimpArgs false
set_option linter.unusedVariables false
open Go.RowKit Go.Maps

theorem below_drewN' {n : Nat} {w w' : World} (h : Below n w w') (q : Nat) : Below n w (w'.drewN q) := below_drewn h q
set_option maxRecDepth 100000 in
set_option maxHeartbeats 12800000 in
theorem counts_law (s : Stk) (day lo hi : Int) (v : Value) (w : World) (hs : StkAt w v s) : Calls Try.prog 3 #[v, .int .i64 day, .agg #[.int .i64 lo, .int .i64 hi]] w fun e w' => e = .returned (.bool true) ∧ Below w.heap.size w w' := by
  obtain ⟨cv, rv, pv, bv, rfl, hc, hr, hp, hb⟩ := hs
  obtain ⟨cs, rs, ps, bs⟩ := s
  simp only [] at hc hr hp hb
  obtain ⟨ca, cc, rfl⟩ := hc.shape
  obtain ⟨ra, rc, rfl⟩ := hr.shape
  obtain ⟨pa, pc, rfl⟩ := hp.shape
  obtain ⟨ba, bc, rfl⟩ := hb.shape
  have m1 : cs.length ≤ 9223372036854775807 := hc.1
  have m2 : rs.length ≤ 9223372036854775807 := hr.1
  have m3 : ps.length ≤ 9223372036854775807 := hp.1
  have m4 : bs.length ≤ 9223372036854775807 := hb.1
  obtain ⟨W0, hW0⟩ : ∃ X, X = w.alloc (.cells #[.slice ca cs.length cc, .slice ra rs.length rc, .slice pa ps.length pc, .slice ba bs.length bc] 27) := ⟨_, rfl⟩
  have hb0 : Below w.heap.size w W0 := by rw [hW0]; exact (Below.refl _ _).alloc (Nat.le_refl _) _
  have hr0 : W0.heap[w.heap.size]? = some (.cells #[.slice ca cs.length cc, .slice ra rs.length rc, .slice pa ps.length pc, .slice ba bs.length bc] 27 (0, 0)) := by rw [hW0]; exact alloc_heap w _
  have hc0 := Lib.hid (hc.below hb0)
  have hq0 := Lib.hid (hr.below hb0)
  have hp0 := Lib.hid (hp.below hb0)
  have hs0 := Lib.hid (hb.below hb0)
  obtain ⟨P, hP⟩ : ∃ P, w.heap.size = P := ⟨_, rfl⟩
  rw [hP] at hr0
  obtain ⟨d0, d1, d2, d3⟩ := four_cells hr0
  have HB := Lib.hid hb0
  have HR0 := Lib.hid hr0
  clear hr0 hb0 hc hr hp hb
  have hz0 : StkAt W0 (.agg #[.slice ca cs.length cc, .slice ra rs.length rc, .slice pa ps.length pc, .slice ba bs.length bc]) ⟨cs, rs, ps, bs⟩ := ⟨_, _, _, _, rfl, hc0.out, hq0.out, hp0.out, hs0.out⟩
  have hsz : W0.heap.size = P + 1 := by rw [hW0, ← hP]; simp
  have HSZ := Lib.hid hsz
  obtain ⟨W1, hW1⟩ : ∃ X, X = W0.alloc (.cells #[.int .i64 lo, .int .i64 hi] 29) := ⟨_, rfl⟩
  have hb1 : Below W0.heap.size W0 W1 := by rw [hW1]; exact (Below.refl _ _).alloc (Nat.le_refl _) _
  have hq1 : W1.heap[P + 1]? = some (.cells #[.int .i64 lo, .int .i64 hi] 29 (0, 0)) := by rw [hW1, ← HSZ.out]; exact alloc_heap W0 _
  have hz1 := hz0.below hb1
  have kl := fun (X : World) (hX : Below W1.heap.size W1 X) => large_any ⟨cs, rs, ps, bs⟩ 3000 _ X (hz1.below hX)
  have ka := fun (X : World) => awake_any X
  have kc := fun (X : World) (hX : Below W1.heap.size W1 X) => count_any ⟨cs, rs, ps, bs⟩ _ day X (hz1.below hX)
  have kr := fun (X : World) (hX : Below W1.heap.size W1 X) => refCount_any ⟨cs, rs, ps, bs⟩ _ day X (hz1.below hX)
  have kd := fun (X : World) (hX : Below W1.heap.size W1 X) => due_any ⟨cs, rs, ps, bs⟩ _ lo hi X (hz1.below hX)
  have ke := fun (X : World) (hX : Below W1.heap.size W1 X) => refDue_any ⟨cs, rs, ps, bs⟩ _ lo hi X (hz1.below hX)
  obtain ⟨⟨L, E⟩, hL⟩ : ∃ x, countF ⟨cs, rs, ps, bs⟩ day = x := ⟨_, rfl⟩
  obtain ⟨⟨M, F⟩, hM⟩ : ∃ x, dueF ⟨cs, rs, ps, bs⟩ lo hi = x := ⟨_, rfl⟩
  simp only [hL] at kc kr
  simp only [hM] at kd ke
  have KL := Lib.hid kl
  have KA := Lib.hid ka
  have KC := Lib.hid kc
  have KR := Lib.hid kr
  have KD := Lib.hid kd
  have KE := Lib.hid ke
  have H1 := Lib.hid hb1
  have HR1 := Lib.hid (box_step (w0 := w) HR0.out hb1)
  have HQ1 := Lib.hid hq1
  have H0 := Lib.hid (HB.out.trans (hb1.mono HB.out.size))
  clear hz0 hz1 kl ka kc kr kd ke hb1 hq1 hsz hL hM d0 d1 d2 d3
  obtain ⟨d0, d1, d2, d3⟩ := four_cells HR1.out
  go_enter Try.func3, Try.ntmps3
  go_upto_region 1 with fail
  rw [← hW0, ← hW1]
  clear hW0 hP hW1
  go_wp2_with fail
  refine (KL.out _ (Below.refl _ _)).mono ?_
  rintro e w1 ⟨⟨b, rfl⟩, hb1⟩
  have HB1 := Lib.hid hb1
  clear hb1 d0 d1 d2 d3
  cases b with
  | true =>
    go_wp2_with fail
    refine (KA.out _).mono ?_
    rintro e w2 ⟨rfl, hb2⟩
    go_wp2
    go_ret
    exact ⟨rfl, H0.out.trans ((HB1.out.trans (hb2.mono HB1.out.size)).mono H0.out.size)⟩
  | false =>
    obtain ⟨d0, d1, d2, d3⟩ := four_cells (box_step (w0 := w) HR1.out HB1.out)
    go_wp2_with fail
    refine (KC.out _ HB1.out).mono ?_
    rintro e w2 ⟨a1, c1, rfl, hl1, _, hb2⟩
    have HL1 := Lib.hid hl1
    have HB2 := Lib.hid (HB1.out.trans (hb2.mono HB1.out.size))
    clear hl1 hb2 d0 d1 d2 d3
    obtain ⟨d0, d1, d2, d3⟩ := four_cells (box_step (w0 := w) HR1.out HB2.out)
    go_wp2_with fail
    refine (KR.out _ HB2.out).mono ?_
    rintro e w3 ⟨a2, c2, rfl, hl2, _, hb3⟩
    have HL1b := Lib.hid (HL1.out.below hb3)
    have HL2 := Lib.hid hl2
    have HB3 := Lib.hid (HB2.out.trans (hb3.mono HB2.out.size))
    clear hl2 hb3 d0 d1 d2 d3
    obtain ⟨d0, d1, d2, d3⟩ := four_cells (box_step (w0 := w) HR1.out HB3.out)
    obtain ⟨x0, x1⟩ := two_cells (box_step (w0 := w) HQ1.out HB3.out)
    go_wp2_with fail
    refine (KD.out _ HB3.out).mono ?_
    rintro e w4 ⟨a3, c3, rfl, hl3, _, hb4⟩
    have HL1c := Lib.hid (HL1b.out.below hb4)
    have HL2b := Lib.hid (HL2.out.below hb4)
    have HL3 := Lib.hid hl3
    have HB4 := Lib.hid (HB3.out.trans (hb4.mono HB3.out.size))
    clear hl3 hb4 d0 d1 d2 d3 x0 x1
    obtain ⟨d0, d1, d2, d3⟩ := four_cells (box_step (w0 := w) HR1.out HB4.out)
    obtain ⟨x0, x1⟩ := two_cells (box_step (w0 := w) HQ1.out HB4.out)
    go_wp2_with fail
    refine (KE.out _ HB4.out).mono ?_
    rintro e w5 ⟨a4, c4, rfl, hl4, _, hb5⟩
    have HL1d := Lib.hid (HL1c.out.below hb5)
    have HL2c := Lib.hid (HL2b.out.below hb5)
    have HL3b := Lib.hid (HL3.out.below hb5)
    have HL4 := Lib.hid hl4
    have HB5 := Lib.hid (HB4.out.trans (hb5.mono HB4.out.size))
    clear hl4 hb5 d0 d1 d2 d3 x0 x1
    have k1 := ints_any L L _ _ w5 HL1d.out HL2c.out
    rw [decide_eq_true rfl] at k1
    have K1 := Lib.hid k1
    clear k1
    go_wp2_with fail
    refine K1.out.mono ?_
    rintro e w6 ⟨rfl, q6, rfl⟩
    have HB6 := Lib.hid (below_drewn HB5.out q6)
    have k2 := ints_any M M _ _ (w5.drewN q6) (HL3b.out.below (below_drewn (Below.refl _ _) q6)) (HL4.out.below (below_drewn (Below.refl _ _) q6))
    rw [decide_eq_true rfl] at k2
    have K2 := Lib.hid k2
    clear k2
    go_wp2_with fail
    refine K2.out.mono ?_
    rintro e w7 ⟨rfl, q7, rfl⟩
    have HB7 := Lib.hid (below_drewn HB5.out (q6 + q7))
    go_wp2_with fail
    refine (KA.out _).mono ?_
    rintro e w8 ⟨rfl, hb8⟩
    go_wp2
    go_ret
    exact ⟨rfl, H0.out.trans ((HB7.out.trans (hb8.mono HB7.out.size)).mono H0.out.size)⟩
end Go.Proofs.Ytcmfplfnpjknlaa
