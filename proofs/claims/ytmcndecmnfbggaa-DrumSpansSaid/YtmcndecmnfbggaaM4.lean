/- Plain: what DrumTrue and DrumSpans ask of canonical lists of spans. -/
import Derived.Test.YtmcndecmnfbggaaD35
namespace Go.Proofs.Ytmcndecmnfbggaa
set_option linter.unusedSimpArgs false
set_option linter.unusedVariables false

theorem within_mono {p f w w' : Int} (h : withinP p f w = true) (hw : w ≤ w') : withinP p f w' = true := by
  unfold withinP at *
  simp only [Bool.or_eq_true, Bool.and_eq_true, decide_eq_true_eq] at *
  omega
theorem fitP_mono {figs : List Int} {w w' t : Int} (h : FitP figs w t) (hw : w ≤ w') : FitP figs w' t :=
  ⟨h.1, h.2.1, fun k hk => within_mono (h.2.2 k hk) hw⟩
theorem fig_within (p : Int) (h : 0 ≤ p ∧ p ≤ 9999) : withinP p (figP p) 500 = true := by
  unfold withinP figP
  simp only [Bool.or_eq_true, Bool.and_eq_true, decide_eq_true_eq]
  omega
theorem figs_fit (t : Int) (d : Nat) : fitsB (figsL t d) t 500 = true := by
  rw [fitsB_iff]
  intro k hk
  rw [figsL_len] at hk
  have : (figsL t d).getD k 0 = figP (plc t k) := by unfold figsL; simp [List.getD, hk]
  rw [this]
  exact fig_within _ (plc_bd t k)
/-- two spans of a canonical list are the same, or apart -/
theorem canon_sep {P : Int → Prop} {L : List (Int × Int)} (h : Canon P L) {s s' : Int × Int} (hs : s ∈ L) (hs' : s' ∈ L) : s = s' ∨ s.2 + 1 < s'.1 ∨ s'.2 + 1 < s.1 := by
  obtain ⟨i, hi, rfl⟩ := List.getElem_of_mem hs
  obtain ⟨j, hj, rfl⟩ := List.getElem_of_mem hs'
  have hp := List.pairwise_iff_getElem.1 h.2.1
  rcases Nat.lt_trichotomy i j with e | e | e
  · exact .inr (.inl (hp i j hi hj e))
  · subst e; exact .inl rfl
  · exact .inr (.inr (hp j i hj hi e))
theorem canon_ends {P : Int → Prop} {L : List (Int × Int)} (h : Canon P L) {s : Int × Int} (hs : s ∈ L) : s.1 ≤ s.2 ∧ (∀ t, s.1 ≤ t → t ≤ s.2 → P t) ∧ ¬ P (s.1 - 1) ∧ ¬ P (s.2 + 1) := by
  have hl := h.1 s hs
  refine ⟨hl, fun t h1 h2 => (h.2.2 t).1 ⟨s, hs, h1, h2⟩, ?_, ?_⟩
  · intro hp
    obtain ⟨s', hs', h1, h2⟩ := (h.2.2 _).2 hp
    have := h.1 s' hs'
    rcases canon_sep h hs hs' with rfl | e | e <;> omega
  · intro hp
    obtain ⟨s', hs', h1, h2⟩ := (h.2.2 _).2 hp
    have := h.1 s' hs'
    rcases canon_sep h hs hs' with rfl | e | e <;> omega
theorem canon_in {P Q : Int → Prop} {L M : List (Int × Int)} (h : Canon P L) (h' : Canon Q M) (hpq : ∀ t, P t → Q t) {s : Int × Int} (hs : s ∈ L) : ∃ m ∈ M, m.1 ≤ s.1 ∧ s.2 ≤ m.2 := by
  obtain ⟨hl, hin, _, _⟩ := canon_ends h hs
  obtain ⟨m, hm, h1, h2⟩ := (h'.2.2 s.1).2 (hpq _ (hin _ (Int.le_refl _) hl))
  refine ⟨m, hm, h1, ?_⟩
  by_cases e : s.2 ≤ m.2
  · exact e
  · exact absurd (hpq _ (hin (m.2 + 1) (by omega) (by omega))) (canon_ends h' hm).2.2.2
theorem canon_next {P : Int → Prop} {L : List (Int × Int)} (h : Canon P L) (k : Nat) (hk : k + 1 < L.length) : (L.getD k (0, 0)).2 + 1 < (L.getD (k + 1) (0, 0)).1 := by
  have := List.pairwise_iff_getElem.1 h.2.1 k (k + 1) (by omega) hk (by omega)
  simpa [List.getD, hk, show k < L.length by omega] using this
/-- whether a number is in one of the spans -/
def inAny (L : List (Int × Int)) (t : Int) : Bool := L.any fun s => decide (s.1 ≤ t) && decide (t ≤ s.2)
theorem inAny_iff {P : Int → Prop} {L : List (Int × Int)} (h : Canon P L) (t : Int) : inAny L t = true ↔ P t := by
  rw [← h.2.2 t]
  unfold inAny inS
  simp only [List.any_eq_true, Bool.and_eq_true, decide_eq_true_eq]
theorem inAny_snoc (L : List (Int × Int)) (t : Int) (k : Nat) (hk : k < L.length) : inAny (L.take (k + 1)) t = (inAny (L.take k) t || (decide ((L.getD k (0, 0)).1 ≤ t) && decide (t ≤ (L.getD k (0, 0)).2))) := by
  unfold inAny
  rw [List.take_succ_eq_append_getElem hk, List.any_append]
  simp [List.getD, hk]
/-- whether one of the spans holds all of another one -/
def covers (M : List (Int × Int)) (s : Int × Int) : Bool := M.any fun m => decide (m.1 ≤ s.1) && decide (s.2 ≤ m.2)
theorem covers_snoc (L : List (Int × Int)) (s : Int × Int) (k : Nat) (hk : k < L.length) : covers (L.take (k + 1)) s = (covers (L.take k) s || (decide ((L.getD k (0, 0)).1 ≤ s.1) && decide (s.2 ≤ (L.getD k (0, 0)).2))) := by
  unfold covers
  rw [List.take_succ_eq_append_getElem hk, List.any_append]
  simp [List.getD, hk]
theorem covers_all {P Q : Int → Prop} {L M : List (Int × Int)} (h : Canon P L) (h' : Canon Q M) (hpq : ∀ t, P t → Q t) {s : Int × Int} (hs : s ∈ L) : covers M s = true := by
  unfold covers
  simp only [List.any_eq_true, Bool.and_eq_true, decide_eq_true_eq]
  exact canon_in h h' hpq hs
theorem getD_mem {L : List (Int × Int)} {k : Nat} (hk : k < L.length) : L.getD k (0, 0) ∈ L := by
  simp [List.getD, hk]
/-- what is read of a drum: its figure that is just before its place, or the one after it -/
def nextF (p : Int) (b : Bool) : Int := if b then (p / 1000 + 1) % 10 else p / 1000
theorem nextF_bd (p : Int) (b : Bool) (h : 0 ≤ p ∧ p ≤ 9999) : 0 ≤ nextF p b ∧ nextF p b ≤ 9 := by
  unfold nextF; split <;> omega
def readL (t : Int) (B : Nat → Bool) (d : Nat) : List Int := (List.range d).map fun k => nextF (plc t k) (B k)
theorem readL_len (t : Int) (B : Nat → Bool) (d : Nat) : (readL t B d).length = d := by simp [readL]
theorem readL_succ (t : Int) (B : Nat → Bool) (d : Nat) : readL t B (d + 1) = readL t B d ++ [nextF (plc t d) (B d)] := by unfold readL; rw [List.range_succ, List.map_append]; rfl
theorem readL_get (t : Int) (B : Nat → Bool) (d k : Nat) (h : k < d) : (readL t B d).getD k 0 = nextF (plc t k) (B k) := by
  unfold readL; simp [List.getD, h]
theorem readL_figs (t : Int) (B : Nat → Bool) (d : Nat) (h : 1 ≤ d ∧ d ≤ 6) : figsB (readL t B d) = true := by
  unfold figsB
  rw [readL_len]
  simp only [Bool.and_eq_true, decide_eq_true_eq, List.all_eq_true]
  refine ⟨h, fun x hx => ?_⟩
  unfold readL at hx
  obtain ⟨k, -, rfl⟩ := List.mem_map.1 hx
  have := nextF_bd (plc t k) (B k) (plc_bd t k)
  omega
/-- whether all drums of the first k stand near enough to what was read -/
def nearAll (t : Int) (B : Nat → Bool) (w : Int) (k : Nat) : Bool := (List.range k).all fun j => withinP (plc t j) (nextF (plc t j) (B j)) w
theorem nearAll_succ (t : Int) (B : Nat → Bool) (w : Int) (k : Nat) : nearAll t B w (k + 1) = (nearAll t B w k && withinP (plc t k) (nextF (plc t k) (B k)) w) := by
  unfold nearAll; rw [List.range_succ, List.all_append]; simp
theorem nearAll_fits (t : Int) (B : Nat → Bool) (w : Int) (d : Nat) : nearAll t B w d = true ↔ FitsP (readL t B d) t w := by
  unfold nearAll FitsP
  simp only [List.all_eq_true, List.mem_range, readL_len]
  exact ⟨fun h k hk => by rw [readL_get t B d k hk]; exact h k hk, fun h k hk => by have := h k hk; rwa [readL_get t B d k hk] at this⟩
theorem true_found {t w : Int} {B : Nat → Bool} {d : Nat} {L : List (Int × Int)} (hd : 1 ≤ d ∧ d ≤ 6) (hw : 0 ≤ w ∧ w ≤ 999) (ht : 0 ≤ t ∧ t < turnP d) (h : Canon (fun x => fitOk (readL t B d) w ∧ FitP (readL t B d) w x) L) : inAny L t = nearAll t B w d := by
  rw [Bool.eq_iff_iff, inAny_iff h, nearAll_fits]
  refine ⟨fun h => h.2.2.2, fun hf => ⟨⟨readL_figs t B d hd, hw⟩, ht.1, by rw [readL_len]; exact ht.2, hf⟩⟩
end Go.Proofs.Ytmcndecmnfbggaa
