/- Plain: closings of a contact, pulses of runs. -/
namespace Go.Proofs.Ytmcndecmnfbggaa
structure Cl where
  count : Int
  first : Int
  last : Int
/-- as the program counts -/
def closP (a b c : Int) : Cl :=
  let low := if b < a then b else a + 1
  let high := if b < a then a - 1 else b
  let least := low + (c - low) % 10000
  let most := high - (high - c) % 10000
  if least > most then ⟨0, 0, 0⟩ else
  if b < a then ⟨(most - least) / 10000 + 1, most, least⟩ else ⟨(most - least) / 10000 + 1, least, most⟩
/-- as the document counts -/
def manyF (above most c : Int) : Int := if above + 1 + (c - above - 1) % 10000 > most then 0 else 1 + (most - (above + 1 + (c - above - 1) % 10000)) / 10000
theorem many_clos (a b c : Int) : manyF (if b < a then b - 1 else a) (if b < a then a - 1 else b) c = (closP a b c).count := by
  unfold manyF closP
  by_cases h : b < a <;> simp only [h, if_true, if_false] <;> split <;> split <;> simp only [] <;> omega
theorem clos_least (a b c : Int) (h : manyF (if b < a then b - 1 else a) (if b < a then a - 1 else b) c ≠ 0) :
    (closP a b c).first = (if b < a then ((if b < a then b - 1 else a) + 1 + (c - (if b < a then b - 1 else a) - 1) % 10000) + 10000 * (manyF (if b < a then b - 1 else a) (if b < a then a - 1 else b) c - 1) else (if b < a then b - 1 else a) + 1 + (c - (if b < a then b - 1 else a) - 1) % 10000) ∧
    (closP a b c).last = (if b < a then (if b < a then b - 1 else a) + 1 + (c - (if b < a then b - 1 else a) - 1) % 10000 else ((if b < a then b - 1 else a) + 1 + (c - (if b < a then b - 1 else a) - 1) % 10000) + 10000 * (manyF (if b < a then b - 1 else a) (if b < a then a - 1 else b) c - 1)) := by
  revert h
  unfold manyF closP
  by_cases h : b < a <;> simp only [h, if_true, if_false] <;> split <;> split <;> simp only [] <;> intro h' <;> omega
structure PS where
  stand : Int
  last : Int
  all : Int
  bounces : Int
def pstep (c : Int) (s : PS) (run : Int) : PS :=
  let k := closP s.stand (s.stand + run) c
  if k.count = 0 then ⟨s.stand + run, s.last, s.all, s.bounces⟩ else
  ⟨s.stand + run, k.last, s.all + k.count, if 0 < s.all ∧ k.first = s.last then s.bounces + 1 else s.bounces⟩
def pulsesF (start : Int) (l : List Int) (c : Int) : PS := l.foldl (pstep c) ⟨start, 0, 0, 0⟩
theorem pulses_snoc (start : Int) (l : List Int) (x c : Int) : pulsesF start (l ++ [x]) c = pstep c (pulsesF start l c) x := by
  unfold pulsesF; rw [List.foldl_append]; rfl
theorem clos_q (a b c : Int) : closP a b c = if b < a then (if (a - 1 - c) / 10000 ≤ (b - 1 - c) / 10000 then ⟨0, 0, 0⟩ else ⟨(a - 1 - c) / 10000 - (b - 1 - c) / 10000, c + 10000 * ((a - 1 - c) / 10000), c + 10000 * ((b - 1 - c) / 10000 + 1)⟩) else (if (b - c) / 10000 ≤ (a - c) / 10000 then ⟨0, 0, 0⟩ else ⟨(b - c) / 10000 - (a - c) / 10000, c + 10000 * ((a - c) / 10000 + 1), c + 10000 * ((b - c) / 10000)⟩) := by
  have e3 : ∀ x : Int, x + (c - x) % 10000 = c + 10000 * ((x - 1 - c) / 10000 + 1) := fun x => by omega
  have e4 : ∀ x : Int, x - (x - c) % 10000 = c + 10000 * ((x - c) / 10000) := fun x => by omega
  unfold closP
  have e5 : a + 1 - 1 - c = a - c := by omega
  have e6 : ∀ p q : Int, (c + 10000 * p - (c + 10000 * q)) / 10000 = p - q := fun p q => by
    rw [show c + 10000 * p - (c + 10000 * q) = 10000 * (p - q) by omega, Int.mul_ediv_cancel_left _ (by omega)]
  by_cases h : b < a
  · simp only [h, if_true, e3, e4, e6]
    obtain ⟨p, hp⟩ : ∃ p, (a - 1 - c) / 10000 = p := ⟨_, rfl⟩
    obtain ⟨q, hq⟩ : ∃ q, (b - 1 - c) / 10000 = q := ⟨_, rfl⟩
    rw [hp, hq]
    by_cases g : p ≤ q
    · rw [if_pos (by omega), if_pos g]
    · rw [if_neg (by omega), if_neg g]; simp only [Cl.mk.injEq, and_true]; omega
  · simp only [h, if_false, e3, e4, e6, e5]
    obtain ⟨p, hp⟩ : ∃ p, (b - c) / 10000 = p := ⟨_, rfl⟩
    obtain ⟨q, hq⟩ : ∃ q, (a - c) / 10000 = q := ⟨_, rfl⟩
    rw [hp, hq]
    by_cases g : p ≤ q
    · rw [if_pos (by omega), if_pos g]
    · rw [if_neg (by omega), if_neg g]; simp only [Cl.mk.injEq, and_true]; omega
theorem clos_count (a b c : Int) : 0 ≤ (closP a b c).count ∧ ((closP a b c).count ≠ 0 → (a < b → a < (closP a b c).first ∧ (closP a b c).last ≤ b) ∧ (b < a → (closP a b c).first < a ∧ b ≤ (closP a b c).last)) ∧ (a = b → (closP a b c).count = 0) := by
  rw [clos_q]
  by_cases h : b < a
  · rw [if_pos h]
    by_cases g : (a - 1 - c) / 10000 ≤ (b - 1 - c) / 10000
    · rw [if_pos g]; simp
    · rw [if_neg g]; refine ⟨?_, fun _ => ⟨fun _ => ?_, fun _ => ?_⟩, fun _ => ?_⟩ <;> simp only [] <;> omega
  · rw [if_neg h]
    by_cases g : (b - c) / 10000 ≤ (a - c) / 10000
    · rw [if_pos g]; simp
    · rw [if_neg g]; refine ⟨?_, fun _ => ⟨fun _ => ?_, fun _ => ?_⟩, fun e => ?_⟩ <;> (try subst e) <;> simp only [] <;> omega
theorem clos_up (a b c : Int) (h : a ≤ b) : (closP a b c).count = (b - c) / 10000 - (a - c) / 10000 := by
  have h' : ¬ b < a := by omega
  have e4 : (a - c) / 10000 ≤ (b - c) / 10000 := Int.ediv_le_ediv (by omega) (by omega)
  rw [clos_q, if_neg h']
  by_cases g : (b - c) / 10000 ≤ (a - c) / 10000
  · rw [if_pos g]; simp only []; omega
  · rw [if_neg g]
theorem clos_down (a b c : Int) (h : b < a) : (closP a b c).count = (a - 1 - c) / 10000 - (b - 1 - c) / 10000 := by
  have e4 : (b - 1 - c) / 10000 ≤ (a - 1 - c) / 10000 := Int.ediv_le_ediv (by omega) (by omega)
  rw [clos_q, if_pos h]
  by_cases g : (a - 1 - c) / 10000 ≤ (b - 1 - c) / 10000
  · rw [if_pos g]; simp only []; omega
  · rw [if_neg g]
/-- law's own numbers -/
structure TS where
  up : Bool
  turns : Int
  last : Int
def tstep (s : TS) (run : Int) : TS :=
  ⟨s.up && decide (run ≥ 0), if run ≠ 0 ∧ s.last ≠ 0 ∧ ¬ (s.last > 0 ↔ run > 0) then s.turns + 1 else s.turns, if run ≠ 0 then run else s.last⟩
def turnsF (l : List Int) : TS := l.foldl tstep ⟨true, 0, 0⟩
theorem turns_snoc (l : List Int) (x : Int) : turnsF (l ++ [x]) = tstep (turnsF l) x := by
  unfold turnsF; rw [List.foldl_append]; rfl
def Inv (start c : Int) (p : PS) (t : TS) : Prop :=
  0 ≤ p.bounces ∧ p.bounces ≤ p.all ∧ p.bounces ≤ t.turns ∧ (t.last = 0 → p.all = 0) ∧
  (0 < p.all → t.last > 0 → p.last > p.stand → p.bounces + 1 ≤ t.turns) ∧ (0 < p.all → t.last < 0 → p.last < p.stand → p.bounces + 1 ≤ t.turns) ∧
  (t.up = true → t.last ≥ 0 ∧ t.turns = 0 ∧ start ≤ p.stand ∧ p.all = (p.stand - c) / 10000 - (start - c) / 10000) ∧ 0 ≤ t.turns
theorem inv_step (start c : Int) (p : PS) (t : TS) (x : Int) (h : Inv start c p t) : Inv start c (pstep c p x) (tstep t x) := by
  obtain ⟨h1, h2, h3, h4, h5, h6, h7, h8⟩ := h
  have k1 := clos_count p.stand (p.stand + x) c
  have k2 := clos_up p.stand (p.stand + x) c
  obtain ⟨k, hk⟩ : ∃ k, closP p.stand (p.stand + x) c = k := ⟨_, rfl⟩
  unfold Inv pstep tstep
  rw [hk] at k1 k2 ⊢
  obtain ⟨ka, kb, kc⟩ := k1
  simp only [Bool.and_eq_true, decide_eq_true_eq]
  by_cases h0 : k.count = 0
  · simp only [h0, if_true]
    refine ⟨h1, h2, ?_, ?_, ?_, ?_, ?_, ?_⟩
    · split <;> omega
    · split <;> omega
    · by_cases e : x = 0
      · subst e; simpa using h5
      · simp only [ne_eq, e, not_false_eq_true, if_true, true_and]
        intro a b d; split
        · omega
        · have := h5 a (by omega) (by omega); omega
    · by_cases e : x = 0
      · subst e; simpa using h6
      · simp only [ne_eq, e, not_false_eq_true, if_true, true_and]
        intro a b d; split
        · omega
        · have := h6 a (by omega) (by omega); omega
    · rintro ⟨a, b⟩
      obtain ⟨u1, u2, u3, u4⟩ := h7 a
      have := k2 (by omega)
      refine ⟨?_, ?_, by omega, by omega⟩
      · split <;> omega
      · split <;> omega
    · split <;> omega
  · simp only [h0, if_false]
    have hx : x ≠ 0 := fun e => h0 (kc (by omega))
    obtain ⟨kb1, kb2⟩ := kb h0
    simp only [ne_eq, hx, not_false_eq_true, if_true, true_and]
    have hb : ∀ B : Prop, [Decidable B] → (B → p.bounces + 1 ≤ (if t.last ≠ 0 ∧ ¬ (t.last > 0 ↔ x > 0) then t.turns + 1 else t.turns)) → (if B then p.bounces + 1 else p.bounces) ≤ (if t.last ≠ 0 ∧ ¬ (t.last > 0 ↔ x > 0) then t.turns + 1 else t.turns) := by
      intro B _ hB
      by_cases hBB : B
      · rw [if_pos hBB]; exact hB hBB
      · rw [if_neg hBB]; split <;> omega
    refine ⟨?_, ?_, ?_, fun e => absurd e (by simp), ?_, ?_, ?_, ?_⟩
    · split <;> omega
    · split <;> omega
    · refine hb _ ?_
      rintro ⟨b1, b2⟩
      have h40 : t.last ≠ 0 := fun e => by have := h4 e; omega
      split
      · omega
      · by_cases hp : x > 0
        · have := h5 b1 (by omega) (by have := kb1 (by omega); omega); omega
        · have := h6 b1 (by omega) (by have := kb2 (by omega); omega); omega
    · intro a b d; have := kb1 (by omega); omega
    · intro a b d; have := kb2 (by omega); omega
    · rintro ⟨a, b⟩
      obtain ⟨u1, u2, u3, u4⟩ := h7 a
      have := k2 (by omega)
      refine ⟨by omega, ?_, by omega, ?_⟩
      · rw [if_neg (by omega)]; exact u2
      · rw [u4, this]; omega
    · split <;> omega
theorem inv_all (start c : Int) (l : List Int) : Inv start c (pulsesF start l c) (turnsF l) := by
  have : ∀ (l : List Int) (p : PS) (t : TS), Inv start c p t → Inv start c (l.foldl (pstep c) p) (l.foldl tstep t) := by
    intro l
    induction l with
    | nil => intro p t h; exact h
    | cons x l ih => intro p t h; exact ih _ _ (inv_step start c p t x h)
  refine this l _ _ ?_
  unfold Inv
  simp
theorem pulses_end (start : Int) (l : List Int) (c : Int) : (pulsesF start l c).stand = start + l.sum := by
  have : ∀ (l : List Int) (p : PS), (l.foldl (pstep c) p).stand = p.stand + l.sum := by
    intro l
    induction l with
    | nil => intro p; simp
    | cons x l ih =>
      intro p
      rw [List.foldl_cons, ih, List.sum_cons]
      have : (pstep c p x).stand = p.stand + x := by unfold pstep; simp only []; split <;> rfl
      omega
  exact this l _
theorem pulses_more (start : Int) (l : List Int) (x c : Int) : (pulsesF start l c).all - (pulsesF start l c).bounces ≤ (pulsesF start (l ++ [x]) c).all - (pulsesF start (l ++ [x]) c).bounces := by
  rw [pulses_snoc]
  obtain ⟨p, hp⟩ : ∃ p, pulsesF start l c = p := ⟨_, rfl⟩
  rw [hp]
  have := (clos_count p.stand (p.stand + x) c).1
  unfold pstep
  simp only []
  split
  · simp only []; omega
  · simp only []; split <;> omega
theorem pulses_last (start : Int) (l : List Int) (x c : Int) : (pulsesF start (l ++ [x]) c).all - (pulsesF start l c).all = (closP (pulsesF start l c).stand ((pulsesF start l c).stand + x) c).count := by
  rw [pulses_snoc]
  unfold pstep
  simp only []
  split
  · simp only []; omega
  · simp only []; omega
theorem clos_and_back (a g c : Int) (h : 0 < g) : -1 ≤ (closP (a + g) a c).count - (closP a (a + g) c).count ∧ (closP (a + g) a c).count - (closP a (a + g) c).count ≤ 1 := by
  rw [clos_up a (a + g) c (by omega), clos_down (a + g) a c (by omega)]
  omega
end Go.Proofs.Ytmcndecmnfbggaa
