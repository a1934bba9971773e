/- Term: contract of Count. -/
import Derived.Test.YtcmfplfnpjknlaaA19
namespace Go.Proofs.Ytcmfplfnpjknlaa
set_option linter.unusedSimpArgs false
set_option linter.unusedVariables false
open Go.RowKit

theorem firstErr_zero {f : Nat → Int} : ∀ (n i : Nat), (firstErr f n i).2 = 0 → ∀ j, j < n → f (i + j) = 0
  | 0, _, _, j, hj => by omega
  | n + 1, i, h, j, hj => by
    unfold firstErr at h
    by_cases h1 : f i = 0
    · rw [if_pos h1] at h
      cases j with
      | zero => exact h1
      | succ j =>
        have := firstErr_zero n (i + 1) h j (by omega)
        rwa [show i + 1 + j = i + (j + 1) by omega] at this
    · rw [if_neg h1] at h; exact absurd h h1
theorem bs_nodup {s : Stk} (h : (bsErr s).2 = 0) : (s.bs.map (·.1)).Nodup := by
  have hz := firstErr_zero _ _ h
  rw [List.Nodup, List.pairwise_iff_getElem]
  intro i j hi hj hij e
  simp only [List.length_map] at hi hj
  simp only [List.getElem_map] at e
  have := hz j hj
  rw [Nat.zero_add] at this
  unfold brkErr at this
  have hany : (s.bs.take j).any (fun b => b.1 == s.bs[j]!.1) = true := by
    rw [List.any_eq_true]
    exact ⟨s.bs[i], List.mem_take_iff_getElem.2 ⟨i, by omega, rfl⟩, by rw [getElem!_pos s.bs j hj]; simp [e]⟩
  rw [hany] at this
  cases hx : rowIx s.rs s.bs[j]!.1 with
  | none => rw [hx] at this; simp at this
  | some k => rw [hx] at this; simp at this
theorem terms_parts {s : Stk} (hok : stkOk s = true) (h : (termsF s).2.1 = 0) : (rowsErr s).2 = 0 ∧ (bsErr s).2 = 0 := by
  by_cases h1 : (rowsErr s).2 = 0
  · by_cases h2 : (bsErr s).2 = 0
    · exact ⟨h1, h2⟩
    · rw [terms_bs hok h1 h2] at h; exact absurd h h2
  · rw [terms_rows hok h1] at h; exact absurd h h1
/-- a list of numbers, and an error -/
def ListRes (w : World) (r : List Int × Int) (e : Ending) (w' : World) : Prop := ∃ a c, e = .returned (.tuple #[.slice a r.1.length c, .int .i64 r.2]) ∧ TabAt 1 numC w' (.slice a r.1.length c) r.1 ∧ (∀ b off, a = some ⟨b, off, none⟩ → w.heap.size ≤ b) ∧ Below w.heap.size w w'
theorem tab_nil (w : World) : TabAt 1 numC w (.slice none 0 0) [] := ⟨by simp [maxLen], .inl ⟨rfl, _, _, rfl⟩⟩
theorem tab_four {w : World} {b : Nat} {x y z u : Int} {T : TypeId} (h : w.heap[b]? = some (.cells #[.int .i64 x, .int .i64 y, .int .i64 z, .int .i64 u] T (0, 0))) : TabAt 1 numC w (.slice (some ⟨b, 0, none⟩) 4 4) [x, y, z, u] := by
  refine ⟨by simp [maxLen], .inr ⟨b, 0, 4, rfl, by simp, by simp [maxLen], (Array.getElem?_eq_some_iff.1 h).1, fun i hi j hj => ?_⟩⟩
  obtain ⟨h0, h1, h2, h3⟩ := four_cells h
  have hj0 : j = 0 := by omega
  subst hj0
  simp only [List.length_cons, List.length_nil] at hi
  have : i = 0 ∨ i = 1 ∨ i = 2 ∨ i = 3 := by omega
  rcases this with rfl | rfl | rfl | rfl
  · exact h0
  · exact h1
  · exact h2
  · exact h3
set_option maxRecDepth 100000 in
set_option maxHeartbeats 3200000 in
theorem count_any (s : Stk) (v : Value) (day : Int) (w : World) (hs : StkAt w v s) : Calls Try.prog 10 #[v, .int .i64 day] w (ListRes w (countF s day)) := by
  obtain ⟨ca, cc, ra, rc, pa, pc, ba, bc, rfl⟩ := stk_cells hs
  obtain ⟨W0, hW0⟩ : ∃ X, X = w.alloc (.cells #[.slice ca s.cs.length cc, .slice ra s.rs.length rc, .slice pa s.ps.length pc, .slice ba s.bs.length bc] 27) := ⟨_, rfl⟩
  have hb0 : Below w.heap.size w W0 := by rw [hW0]; exact (Below.refl _ _).alloc (Nat.le_refl _) _
  have hr0 : W0.heap[w.heap.size]? = some (.cells #[.slice ca s.cs.length cc, .slice ra s.rs.length rc, .slice pa s.ps.length pc, .slice ba s.bs.length bc] 27 (0, 0)) := by rw [hW0]; exact alloc_heap w _
  have k1 := recordsOf_any s _ W0 (hs.below hb0)
  obtain ⟨P, hP⟩ : ∃ P, w.heap.size = P := ⟨_, rfl⟩
  rw [hP] at hr0
  obtain ⟨d0, d1, d2, d3⟩ := four_cells hr0
  have K1 := Lib.hid k1
  have HB := Lib.hid hb0
  clear k1 hb0 hr0 hs
  go_enter Try.func10, Try.ntmps10
  go_upto_region 1 with fail
  rw [← hW0]
  clear hW0 hP
  go_wp2_with fail
  refine K1.out.mono ?_
  rintro e w1 ⟨hb1, ⟨hne, rfl⟩ | ⟨h0, hok, ca2, cc2, rv, pv, bv, R, M, G, ptrs, rfl, hrec⟩⟩
  · have hen := count_bad (day := day) hne
    obtain ⟨ec, hec⟩ : ∃ e, (termsF s).2.1 = e := ⟨_, rfl⟩
    rw [hec] at hne hen ⊢
    have HEN := Lib.hid hen
    have e1 : (ec != 0) = true := by simpa using hne
    clear hne hec hen
    go_wp2
    go_ret2
    exact ⟨none, 0, by rw [HEN.out]; rfl, by rw [HEN.out]; exact tab_nil _, (fun b off e => by cases e), HB.out.trans (hb1.mono HB.out.size)⟩
  · have hen := count_good (day := day) h0
    have hts := terms_tsOk hok h0
    have hnd := bs_nodup (terms_parts hok h0).2
    have kc := fun q => rcount_any s (termsF s).2.2 day hok hnd hts.1 (hrec.drewN q)
    have kc0 := rcount_any s (termsF s).2.2 day hok hnd hts.1 hrec
    have HBB := Lib.hid (HB.out.trans (hb1.mono HB.out.size))
    have hda := fun X => isDay_any day X
    obtain ⟨b, hb⟩ : ∃ b, inF day 0 131072 = b := ⟨_, rfl⟩
    obtain ⟨⟨ta, tb, tc, td⟩, htl⟩ : ∃ b, tallyAll s (termsF s).2.2 day = b := ⟨_, rfl⟩
    rw [hb] at hda hen
    rw [htl] at kc0 hen
    simp only [] at kc0 hen
    have HEN := Lib.hid hen
    have KC := Lib.hid kc0
    have HDA := Lib.hid hda
    clear hen hts hnd kc kc0 hrec h0 hok hb1 hda hb htl
    cases b with
    | false =>
      have hen := HEN.out
      simp only [if_true] at hen
      have HE2 := Lib.hid hen
      clear hen HEN
      go_wp2_with (go_at_call 25; (with_reducible refine (HDA.out _).mono ?_); rintro e w2 ⟨rfl, rfl⟩)
      go_ret2
      exact ⟨none, 0, by rw [HE2.out]; rfl, by rw [HE2.out]; exact tab_nil _, (fun b off e => by cases e), HBB.out⟩
    | true =>
      have hen := HEN.out
      simp only [Bool.true_eq_false, if_false] at hen
      have HE2 := Lib.hid hen
      clear hen HEN
      go_wp2_with (first | (go_at_call 25; (with_reducible refine (HDA.out _).mono ?_); rintro e w2 ⟨rfl, rfl⟩) | (go_at_call 26; (with_reducible refine KC.out.mono ?_); rintro e w2 ⟨rfl, hb2⟩))
      have hbb2 := HBB.out.trans (hb2.mono HBB.out.size)
      go_ret2
      refine ⟨some ⟨w2.heap.size, 0, none⟩, 4, by rw [HE2.out]; rfl, by rw [HE2.out]; exact tab_four (alloc_heap w2 _), (fun b off e => by cases e; exact hbb2.size), hbb2.alloc hbb2.size _⟩
end Go.Proofs.Ytcmfplfnpjknlaa
