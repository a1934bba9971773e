/- Sound: what is heard in a truth, by remainders. -/
import Derived.Test.YtdbjifpnbghbaaaT4
import Derived.Test.YtdbjifpnbghbaaaT3
namespace Go.Proofs.Ytdbjifpnbghbaaa
set_option linter.unusedSimpArgs false
set_option linter.unusedVariables false

/-- one ear of hearing j -/
def earT (l : List Pi) (tk : List Nat) (i : Nat) (f : Int) : Int := ((tk.getD i 0 : Nat) : Int) * f % (endF l + 1)
def hearB (l : List Pi) (sl : List Int) (T : Int) (A B : Int) (wide : Nat) : He :=
  let n := lagT l sl (min A B) (max A B) T l.length
  ⟨min A B, max A B, n - (wide : Int) % 256, n + (wide : Int) / 256⟩
def hearT (l : List Pi) (tk : List Nat) (sl : List Int) (T : Int) (j : Nat) : He := hearB l sl T (earT l tk (3 * j) 37) (earT l tk (3 * j + 1) 41) (tk.getD (3 * j + 2) 0)
def hearsT (l : List Pi) (tk : List Nat) (sl : List Int) (T : Int) (k : Nat) : List He := (List.range k).map (hearT l tk sl T)
theorem hearsT_len (l : List Pi) (tk : List Nat) (sl : List Int) (T : Int) (k : Nat) : (hearsT l tk sl T k).length = k := by simp [hearsT]
theorem hearsT_snoc (l : List Pi) (tk : List Nat) (sl : List Int) (T : Int) (k : Nat) : hearsT l tk sl T (k + 1) = hearsT l tk sl T k ++ [hearT l tk sl T k] := by simp [hearsT, List.range_succ]
theorem hearsT_mem {l : List Pi} {tk : List Nat} {sl : List Int} {T : Int} {k : Nat} {h : He} (hm : h ∈ hearsT l tk sl T k) : ∃ j, j < k ∧ h = hearT l tk sl T j := by
  unfold hearsT at hm
  rw [List.mem_map] at hm
  obtain ⟨j, hj, rfl⟩ := hm
  exact ⟨j, List.mem_range.1 hj, rfl⟩
theorem ear_in {l : List Pi} (hok : lineOk l = true) (tk : List Nat) (i : Nat) (f : Int) : 0 ≤ earT l tk i f ∧ earT l tk i f ≤ endF l := by
  have hE := end_in hok
  have h0 := Int.emod_nonneg (((tk.getD i 0 : Nat) : Int) * f) (b := endF l + 1) (by omega)
  have h1 := Int.emod_lt_of_pos (((tk.getD i 0 : Nat) : Int) * f) (b := endF l + 1) (by omega)
  unfold earT
  omega
theorem hearB_facts {l : List Pi} (hok : lineOk l = true) {sl : List Int} (hs : ∀ i, i < l.length → 1 ≤ sl.getD i default ∧ sl.getD i default ≤ 10000) (T : Int) {A B : Int} (hA : 0 ≤ A ∧ A ≤ endF l) (hB : 0 ≤ B ∧ B ≤ endF l) (wide : Nat) (hw : wide < 65536) :
    hearOk l (hearB l sl T A B wide) = true ∧ (hearB l sl T A B wide).lo ≤ lagT l sl (min A B) (max A B) T l.length ∧ lagT l sl (min A B) (max A B) T l.length ≤ (hearB l sl T A B wide).hi := by
  have hL := lagT_in hok hs (min A B) (max A B) T l.length (Nat.le_refl _)
  have h8 := line_few hok
  obtain ⟨n, hn⟩ : ∃ n, lagT l sl (min A B) (max A B) T l.length = n := ⟨_, rfl⟩
  unfold hearB hearOk
  simp only [Bool.and_eq_true, earsF_iff, withinF_iff]
  rw [hn] at hL ⊢
  omega
theorem hearsT_ok {l : List Pi} (hok : lineOk l = true) {tk : List Nat} (htk : ∀ i, tk.getD i 0 < 65536) {sl : List Int} (hts : TrueS l sl) (hs : ∀ i, i < l.length → 1 ≤ sl.getD i default ∧ sl.getD i default ≤ 10000) {T : Int} (k : Nat) :
    ∀ h ∈ hearsT l tk sl T k, hearOk l h = true ∧ allowsF l h T = true := by
  intro h hm
  obtain ⟨j, _, rfl⟩ := hearsT_mem hm
  have := hearB_facts hok hs T (ear_in hok tk (3 * j) 37) (ear_in hok tk (3 * j + 1) 41) (tk.getD (3 * j + 2) 0) (htk _)
  exact ⟨this.1, allows_true hts _ T this.2.1 this.2.2⟩
theorem slows_true {l : List Pi} (hok : lineOk l = true) (tk : List Nat) : TrueS l (slowsT l tk l.length) := fun i hi => by
  rw [slowsT_at l tk hi]
  exact slowT_in hok tk hi
theorem true_bnd {l : List Pi} (hok : lineOk l = true) {sl : List Int} (hts : TrueS l sl) : ∀ i, i < l.length → 1 ≤ sl.getD i default ∧ sl.getD i default ≤ 10000 := fun i hi => by
  have := hts i hi
  have := pipe_in hok hi
  omega
/-- what Tune answers about a true hearing -/
theorem tuneR_true {l : List Pi} (hok : lineOk l = true) {sl : List Int} (hts : TrueS l sl) {h : He} {T : Int} (hT : 0 ≤ T ∧ T ≤ endF l) (hh : hearOk l h = true) (h1 : h.lo ≤ lagT l sl h.a h.b T l.length) (h2 : lagT l sl h.a h.b T l.length ≤ h.hi) :
    ∃ S, tuneR l T h = (S, 0) ∧ S.length = l.length ∧ ∀ i, i < l.length → ((S.getD i default).1 ≤ sl.getD i default ∧ sl.getD i default ≤ (S.getD i default).2) ∧ (l.getD i default).lo ≤ (S.getD i default).1 ∧ (S.getD i default).2 ≤ (l.getD i default).hi := by
  have ha := allows_true hts h T h1 h2
  obtain ⟨a, b, lo, hi⟩ := h
  rw [tuneR_ref hok, if_pos (by rw [inF_iff]; exact hT), if_pos hh, if_pos ha]
  refine ⟨_, rfl, rows_len .., fun i hi' => ?_⟩
  have hg : (rowsT l a b T lo hi l.length).getD i default = rowT l a b T lo hi i := by simp [rowsT, List.getD, hi']
  rw [hg]
  exact tune_true hts a b T lo hi h1 h2 hi'
theorem lagR_true {l : List Pi} (hok : lineOk l = true) {sl : List Int} (hts : TrueS l sl) {h : He} {T : Int} (hT : 0 ≤ T ∧ T ≤ endF l) (hh : hearOk l h = true) : ∃ g q, lagR l h.a h.b T = ((g, q), 0) ∧ g ≤ lagT l sl h.a h.b T l.length ∧ lagT l sl h.a h.b T l.length ≤ q := by
  have := lagT_lags hts h.a h.b T
  unfold hearOk at hh
  rw [Bool.and_eq_true] at hh
  refine ⟨(lagsF l h.a h.b T).1, (lagsF l h.a h.b T).2, ?_, this.1, this.2⟩
  unfold lagR
  rw [if_pos hok, if_pos (by rw [Bool.and_eq_true]; exact ⟨by unfold placeF; rw [inF_iff]; exact hT, hh.1⟩)]
end Go.Proofs.Ytdbjifpnbghbaaa
