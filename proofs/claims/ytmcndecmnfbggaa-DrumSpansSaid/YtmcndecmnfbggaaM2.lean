/- Plain: what a reading can stand for. -/
import Derived.Test.YtmcndecmnfbggaaM1
namespace Go.Proofs.Ytmcndecmnfbggaa
def inS (t : Int) (s : Int × Int) : Prop := s.1 ≤ t ∧ t ≤ s.2
/-- spans that rise, none next to another one, and just the numbers that P holds of -/
def Canon (P : Int → Prop) (L : List (Int × Int)) : Prop := (∀ s ∈ L, s.1 ≤ s.2) ∧ L.Pairwise (fun a b => a.2 + 1 < b.1) ∧ ∀ t, (∃ s ∈ L, inS t s) ↔ P t
theorem canon_tail {P : Int → Prop} {a : Int × Int} {L : List (Int × Int)} (h : Canon P (a :: L)) : Canon (fun t => P t ∧ a.2 < t) L := by
  obtain ⟨h1, h2, h3⟩ := h
  rw [List.pairwise_cons] at h2
  refine ⟨fun s hs => h1 s (List.mem_cons_of_mem _ hs), h2.2, fun t => ⟨?_, ?_⟩⟩
  · rintro ⟨s, hs, hi⟩
    have := h2.1 s hs
    exact ⟨(h3 t).1 ⟨s, List.mem_cons_of_mem _ hs, hi⟩, by unfold inS at hi; omega⟩
  · rintro ⟨hp, hl⟩
    obtain ⟨s, hs, hi⟩ := (h3 t).2 hp
    rcases List.mem_cons.1 hs with rfl | hs
    · unfold inS at hi; omega
    · exact ⟨s, hs, hi⟩
theorem canon_head {P : Int → Prop} {a : Int × Int} {L : List (Int × Int)} (h : Canon P (a :: L)) : P a.1 ∧ P a.2 ∧ ¬ P (a.2 + 1) ∧ (∀ t, P t → a.1 ≤ t) ∧ (∀ t, a.1 ≤ t → t ≤ a.2 → P t) ∧ a.1 ≤ a.2 := by
  obtain ⟨h1, h2, h3⟩ := h
  rw [List.pairwise_cons] at h2
  have ha := h1 a (List.mem_cons_self ..)
  refine ⟨(h3 _).1 ⟨a, List.mem_cons_self .., by unfold inS; omega⟩, (h3 _).1 ⟨a, List.mem_cons_self .., by unfold inS; omega⟩, ?_, ?_, fun t h4 h5 => (h3 _).1 ⟨a, List.mem_cons_self .., by unfold inS; omega⟩, ha⟩
  · intro hp
    obtain ⟨s, hs, hi⟩ := (h3 _).2 hp
    unfold inS at hi
    rcases List.mem_cons.1 hs with rfl | hs
    · omega
    · have := h2.1 s hs; omega
  · intro t hp
    obtain ⟨s, hs, hi⟩ := (h3 _).2 hp
    unfold inS at hi
    rcases List.mem_cons.1 hs with rfl | hs
    · omega
    · have := h2.1 s hs; omega
theorem canon_nil {P : Int → Prop} {L : List (Int × Int)} (h : Canon P L) (hn : ∀ t, ¬ P t) : L = [] := by
  cases L with
  | nil => rfl
  | cons a L => exact absurd (canon_head h).1 (hn _)
theorem canon_unique : ∀ {L M : List (Int × Int)} {P : Int → Prop}, Canon P L → Canon P M → L = M
  | [], M, P, hL, hM => (canon_nil hM (fun t hp => by obtain ⟨s, hs, _⟩ := (hL.2.2 t).2 hp; cases hs)).symm
  | a :: L, [], P, hL, hM => by obtain ⟨s, hs, _⟩ := (hM.2.2 a.1).2 (canon_head hL).1; cases hs
  | a :: L, b :: M, P, hL, hM => by
    obtain ⟨a1, a2, a3, a4, a5, a6⟩ := canon_head hL
    obtain ⟨b1, b2, b3, b4, b5, b6⟩ := canon_head hM
    have e1 : a.1 = b.1 := by have := a4 _ b1; have := b4 _ a1; omega
    have e2 : a.2 = b.2 := by
      rcases Int.lt_trichotomy a.2 b.2 with h | h | h
      · exact absurd (b5 (a.2 + 1) (by omega) (by omega)) a3
      · exact h
      · exact absurd (a5 (b.2 + 1) (by omega) (by omega)) b3
    have e : a = b := Prod.ext e1 e2
    subst e
    rw [canon_unique (canon_tail hL) (canon_tail hM)]
theorem canon_congr {P Q : Int → Prop} {L : List (Int × Int)} (h : Canon P L) (hpq : ∀ t, P t ↔ Q t) : Canon Q L := ⟨h.1, h.2.1, fun t => (h.2.2 t).trans (hpq t)⟩

/-- what the program does with one span more -/
def joinS (out : List (Int × Int)) (x : Int × Int) : List (Int × Int) :=
  match out.getLast? with
  | none => [x]
  | some l => if l.2 + 1 = x.1 then out.dropLast ++ [(l.1, x.2)] else out ++ [x]
theorem canon_snoc {P : Int → Prop} {o : List (Int × Int)} {x : Int × Int} (h : Canon P o) (hx : x.1 ≤ x.2) (ho : ∀ s ∈ o, s.2 + 1 < x.1) : Canon (fun t => P t ∨ inS t x) (o ++ [x]) := by
  obtain ⟨h1, h2, h3⟩ := h
  refine ⟨?_, ?_, ?_⟩
  · intro s hs
    rcases List.mem_append.1 hs with hs | hs
    · exact h1 s hs
    · rw [List.mem_singleton] at hs; subst hs; exact hx
  · rw [List.pairwise_append]
    refine ⟨h2, List.pairwise_singleton _ _, fun a ha b hb => ?_⟩
    rw [List.mem_singleton] at hb; subst hb; exact ho a ha
  · intro t
    constructor
    · rintro ⟨s, hs, hi⟩
      rcases List.mem_append.1 hs with hs | hs
      · exact .inl ((h3 t).1 ⟨s, hs, hi⟩)
      · rw [List.mem_singleton] at hs; subst hs; exact .inr hi
    · rintro (hp | hi)
      · obtain ⟨s, hs, hi⟩ := (h3 t).2 hp
        exact ⟨s, List.mem_append.2 (.inl hs), hi⟩
      · exact ⟨x, List.mem_append.2 (.inr (List.mem_singleton.2 rfl)), hi⟩
theorem canon_init {P : Int → Prop} {o : List (Int × Int)} {l : Int × Int} (h : Canon P (o ++ [l])) : Canon (fun t => P t ∧ t < l.1) o ∧ (∀ s ∈ o, s.2 + 1 < l.1) ∧ l.1 ≤ l.2 := by
  obtain ⟨h1, h2, h3⟩ := h
  rw [List.pairwise_append] at h2
  have ho : ∀ s ∈ o, s.2 + 1 < l.1 := fun s hs => h2.2.2 s hs l (List.mem_singleton.2 rfl)
  refine ⟨⟨fun s hs => h1 s (List.mem_append.2 (.inl hs)), h2.1, fun t => ⟨?_, ?_⟩⟩, ho, h1 l (List.mem_append.2 (.inr (List.mem_singleton.2 rfl)))⟩
  · rintro ⟨s, hs, hi⟩
    have := ho s hs
    exact ⟨(h3 t).1 ⟨s, List.mem_append.2 (.inl hs), hi⟩, by unfold inS at hi; omega⟩
  · rintro ⟨hp, hl⟩
    obtain ⟨s, hs, hi⟩ := (h3 t).2 hp
    rcases List.mem_append.1 hs with hs | hs
    · exact ⟨s, hs, hi⟩
    · rw [List.mem_singleton] at hs; subst hs; unfold inS at hi; omega
theorem joinS_canon {P : Int → Prop} {o : List (Int × Int)} {x : Int × Int} (h : Canon P o) (hx : x.1 ≤ x.2) (ho : ∀ s ∈ o, s.2 < x.1) : Canon (fun t => P t ∨ inS t x) (joinS o x) ∧ ∀ s ∈ joinS o x, s.2 ≤ x.2 := by
  unfold joinS
  rcases List.eq_nil_or_concat o with rfl | ⟨o', l, rfl⟩
  · simp only [List.getLast?_nil]
    exact ⟨canon_snoc h hx (fun s hs => by cases hs), fun s hs => by rw [List.mem_singleton] at hs; subst hs; exact Int.le_refl _⟩
  · rw [List.concat_eq_append] at h ho ⊢
    simp only [List.getLast?_append, List.getLast?_singleton, Option.some_or, List.dropLast_concat]
    have hl := ho l (List.mem_append.2 (.inr (List.mem_singleton.2 rfl)))
    obtain ⟨c1, c2, c3⟩ := canon_init h
    split
    · rename_i e
      refine ⟨canon_congr (canon_snoc (x := (l.1, x.2)) c1 (by simp only []; omega) c2) (fun t => ?_), ?_⟩
      · have hin : ∀ t, inS t l → P t := fun t hi => (h.2.2 t).1 ⟨l, List.mem_append.2 (.inr (List.mem_singleton.2 rfl)), hi⟩
        have hup : ∀ t, P t → t ≤ l.2 := fun t hp => by
          obtain ⟨s, hs, hi⟩ := (h.2.2 t).2 hp
          unfold inS at hi
          rcases List.mem_append.1 hs with hs | hs
          · have := c2 s hs; omega
          · rw [List.mem_singleton] at hs; subst hs; omega
        constructor
        · rintro (⟨hp, _⟩ | hi)
          · exact .inl hp
          · unfold inS at hi ⊢
            simp only [] at hi
            by_cases ht : t ≤ l.2
            · exact .inl (hin t (by unfold inS; omega))
            · exact .inr (by omega)
        · rintro (hp | hi)
          · by_cases ht : t < l.1
            · exact .inl ⟨hp, ht⟩
            · have := hup t hp
              exact .inr (by unfold inS; simp only []; omega)
          · exact .inr (by unfold inS at hi ⊢; simp only []; omega)
      · intro s hs
        rcases List.mem_append.1 hs with hs | hs
        · have := c2 s hs; omega
        · rw [List.mem_singleton] at hs; subst hs; exact Int.le_refl _
    · rename_i e
      refine ⟨canon_snoc h hx (fun s hs => ?_), fun s hs => ?_⟩
      · rcases List.mem_append.1 hs with hs | hs
        · have := c2 s hs; omega
        · rw [List.mem_singleton] at hs; subst hs; omega
      · rcases List.mem_append.1 hs with hs | hs
        · have := ho s hs; omega
        · rw [List.mem_singleton] at hs; subst hs; exact Int.le_refl _
theorem join_canon : ∀ (L : List (Int × Int)) {P : Int → Prop} {o : List (Int × Int)}, Canon P o → (∀ x ∈ L, x.1 ≤ x.2) → L.Pairwise (fun a b => a.2 < b.1) → (∀ s ∈ o, ∀ x ∈ L, s.2 < x.1) →
    Canon (fun t => P t ∨ ∃ x ∈ L, inS t x) (L.foldl joinS o)
  | [], P, o, h, _, _, _ => canon_congr h (fun t => by simp)
  | x :: L, P, o, h, h1, h2, h3 => by
    rw [List.pairwise_cons] at h2
    obtain ⟨j1, j2⟩ := joinS_canon h (h1 x (List.mem_cons_self ..)) (fun s hs => h3 s hs x (List.mem_cons_self ..))
    refine canon_congr (join_canon L j1 (fun y hy => h1 y (List.mem_cons_of_mem _ hy)) h2.2 (fun s hs y hy => ?_)) (fun t => ?_)
    · have := j2 s hs; have := h2.1 y hy; omega
    · simp only [List.mem_cons, exists_eq_or_imp]
      exact or_assoc
theorem canon_empty : Canon (fun _ => False) [] := ⟨(fun s hs => by cases hs), List.Pairwise.nil, (fun t => by simp)⟩

/-- a drum at a place, and a figure that was read -/
def withinP (p f w : Int) : Bool := (decide (-w ≤ p - 1000 * f) && decide (p - 1000 * f ≤ w)) || (decide (-w ≤ p - 1000 * f - 10000) && decide (p - 1000 * f - 10000 ≤ w))
def partP (lo hi just w : Int) : Int × Int := (max lo (just - w), min hi (just + w))
def nearP (w lo hi f : Int) : Option (Int × Int) :=
  if (partP lo hi (f * 1000) w).1 ≤ (partP lo hi (f * 1000) w).2 then some (partP lo hi (f * 1000) w) else
  if (partP lo hi (f * 1000 + 10000) w).1 ≤ (partP lo hi (f * 1000 + 10000) w).2 then some (partP lo hi (f * 1000 + 10000) w) else none
theorem near_spec (w lo hi f : Int) (hw : 0 ≤ w ∧ w ≤ 999) (h0 : hi ≤ lo + 999) :
    match nearP w lo hi f with
    | none => ∀ p, lo ≤ p → p ≤ hi → withinP p f w = false
    | some (a, b) => a ≤ b ∧ lo ≤ a ∧ b ≤ hi ∧ ∀ p, lo ≤ p → p ≤ hi → (withinP p f w = true ↔ a ≤ p ∧ p ≤ b) := by
  unfold nearP partP
  simp only []
  split
  · rename_i h
    split at h
    · cases h
    · split at h
      · cases h
      · intro p h1 h2
        simp only [withinP, Bool.or_eq_false_iff, Bool.and_eq_false_iff, decide_eq_false_iff_not]
        omega
  · rename_i a b h
    split at h
    · simp only [Option.some.injEq, Prod.mk.injEq] at h
      refine ⟨by omega, by omega, by omega, fun p h1 h2 => ?_⟩
      simp only [withinP, Bool.or_eq_true, Bool.and_eq_true, decide_eq_true_eq]
      omega
    · split at h
      · simp only [Option.some.injEq, Prod.mk.injEq] at h
        refine ⟨by omega, by omega, by omega, fun p h1 h2 => ?_⟩
        simp only [withinP, Bool.or_eq_true, Bool.and_eq_true, decide_eq_true_eq]
        omega
      · cases h
structure St where
  drum : Int
  size : Int
  digits : Int
  lo : Int
  hi : Int
  moves : Bool
def withS (w : Int) (s : St) (d f : Int) : Option St :=
  match nearP w ((if s.moves then s.lo else 0) + d * 1000) ((if s.moves then s.hi else 0) + d * 1000) f with
  | none => none
  | some (a, b) => some ⟨s.drum + 1, s.size * 10, s.digits + d * s.size, if s.moves then a + -d * 1000 else s.lo, if s.moves then b + -d * 1000 else s.hi, s.moves && decide (d = 9)⟩
def totalsP (w : Int) : List Int → St → List (Int × Int)
  | [], s => [(s.lo + s.digits, s.hi + s.digits)]
  | f :: fs, s => (List.range 10).flatMap fun d : Nat => match withS w s d f with | none => [] | some s' => totalsP w fs s'
def fitsQ (w : Int) : List Int → Bool → Int → Int → Prop
  | [], _, _, q => q = 0
  | f :: fs, m, b, q => withinP (1000 * (q % 10) + (if m then b else 0)) f w = true ∧ fitsQ w fs (m && decide (q % 10 = 9)) b (q / 10)
theorem totals_spec (w : Int) (hw : 0 ≤ w ∧ w ≤ 999) : ∀ (fs : List Int) (s : St), 0 ≤ s.lo → s.lo ≤ s.hi → s.hi ≤ 999 → ∀ t,
    (∃ x ∈ totalsP w fs s, inS t x) ↔ ∃ b q, 0 ≤ q ∧ s.lo ≤ b ∧ b ≤ s.hi ∧ t = s.digits + b + s.size * q ∧ fitsQ w fs s.moves b q
  | [], s, h1, h2, h3, t => by
    unfold totalsP fitsQ inS
    constructor
    · rintro ⟨x, hx, hi⟩
      rw [List.mem_singleton] at hx; subst hx
      simp only [] at hi
      exact ⟨t - s.digits, 0, by omega, by omega, by omega, by simp; omega, rfl⟩
    · rintro ⟨b, q, _, h4, h5, h6, rfl⟩
      refine ⟨_, List.mem_singleton.2 rfl, ?_⟩
      simp only []
      simp at h6; omega
  | f :: fs, s, h1, h2, h3, t => by
    unfold totalsP
    have key : ∀ d : Int, 0 ≤ d → d < 10 → ((∃ s', withS w s d f = some s' ∧ ∃ x ∈ totalsP w fs s', inS t x) ↔ ∃ b q, 0 ≤ q ∧ q % 10 = d ∧ s.lo ≤ b ∧ b ≤ s.hi ∧ t = s.digits + b + s.size * q ∧ fitsQ w (f :: fs) s.moves b q) := by
      intro d hd0 hd1
      have hn := near_spec w ((if s.moves then s.lo else 0) + d * 1000) ((if s.moves then s.hi else 0) + d * 1000) f hw (by split <;> omega)
      unfold withS
      cases hnp : nearP w ((if s.moves then s.lo else 0) + d * 1000) ((if s.moves then s.hi else 0) + d * 1000) f with
      | none =>
        rw [hnp] at hn
        simp only [] at hn
        constructor
        · rintro ⟨s', h, _⟩; cases h
        · rintro ⟨b, q, _, hq, hb1, hb2, _, hf⟩
          unfold fitsQ at hf
          have := hn (1000 * (q % 10) + (if s.moves then b else 0)) (by rw [hq]; split <;> omega) (by rw [hq]; split <;> omega)
          rw [hf.1] at this; cases this
      | some ab =>
        obtain ⟨a, b'⟩ := ab
        rw [hnp] at hn
        simp only [] at hn
        obtain ⟨n1, n2, n3, n4⟩ := hn
        have ih := totals_spec w hw fs ⟨s.drum + 1, s.size * 10, s.digits + d * s.size, if s.moves then a + -d * 1000 else s.lo, if s.moves then b' + -d * 1000 else s.hi, s.moves && decide (d = 9)⟩
          (by simp only []; cases hm : s.moves <;> rw [hm] at n2 n3 <;> simp only [if_true, Bool.false_eq_true, if_false] at n2 n3 ⊢ <;> omega)
          (by simp only []; cases hm : s.moves <;> simp only [if_true, Bool.false_eq_true, if_false] <;> omega)
          (by simp only []; cases hm : s.moves <;> rw [hm] at n2 n3 <;> simp only [if_true, Bool.false_eq_true, if_false] at n2 n3 ⊢ <;> omega) t
        simp only [Option.some.injEq, exists_eq_left', ih]
        constructor
        · rintro ⟨b, q, hq, h4, h5, h6, h7⟩
          have e1 : (d + 10 * q) % 10 = d := by omega
          have e2 : (d + 10 * q) / 10 = q := by omega
          have hb : s.lo ≤ b ∧ b ≤ s.hi := by
            cases hm : s.moves <;> rw [hm] at n2 n3 h4 h5 <;> simp only [if_true, Bool.false_eq_true, if_false] at n2 n3 h4 h5 <;> omega
          refine ⟨b, d + 10 * q, by omega, e1, hb.1, hb.2, ?_, ?_⟩
          · rw [h6, Int.mul_add, show s.size * (10 * q) = s.size * 10 * q by rw [Int.mul_assoc], Int.mul_comm d s.size]; omega
          · unfold fitsQ
            rw [e1, e2]
            refine ⟨(n4 _ ?_ ?_).2 ?_, h7⟩
            · split <;> omega
            · split <;> omega
            · cases hm : s.moves <;> rw [hm] at n2 n3 h4 h5 n4 <;> simp only [if_true, Bool.false_eq_true, if_false] at n2 n3 h4 h5 n4 ⊢ <;> omega
        · rintro ⟨b, q, hq0, hq, h4, h5, h6, h7⟩
          unfold fitsQ at h7
          obtain ⟨h7, h8⟩ := h7
          rw [hq] at h7 h8
          have hn5 := (n4 _ (by split <;> omega) (by split <;> omega)).1 h7
          refine ⟨b, q / 10, by omega, ?_, ?_, ?_, h8⟩
          · cases hm : s.moves <;> rw [hm] at hn5 <;> simp only [if_true, Bool.false_eq_true, if_false] at hn5 ⊢ <;> omega
          · cases hm : s.moves <;> rw [hm] at hn5 <;> simp only [if_true, Bool.false_eq_true, if_false] at hn5 ⊢ <;> omega
          · rw [h6, show s.size * 10 * (q / 10) = s.size * (10 * (q / 10)) by rw [Int.mul_assoc], Int.mul_comm d s.size]
            have : s.size * q = s.size * d + s.size * (10 * (q / 10)) := by rw [← Int.mul_add]; congr 1; omega
            omega
    constructor
    · rintro ⟨x, hx, hi⟩
      rw [List.mem_flatMap] at hx
      obtain ⟨d, hd, hx⟩ := hx
      rw [List.mem_range] at hd
      have := (key d (by omega) (by omega)).1 (by
        cases hws : withS w s d f with
        | none => rw [hws] at hx; cases hx
        | some s' => rw [hws] at hx; exact ⟨s', rfl, x, hx, hi⟩)
      obtain ⟨b, q, h0, _, h⟩ := this
      exact ⟨b, q, h0, h⟩
    · rintro ⟨b, q, h0, h⟩
      obtain ⟨d, hd⟩ : ∃ d : Nat, (d : Int) = q % 10 := ⟨(q % 10).toNat, by omega⟩
      obtain ⟨s', hs, x, hx, hi⟩ := (key d (by omega) (by omega)).2 ⟨b, q, h0, hd.symm, h⟩
      refine ⟨x, List.mem_flatMap.2 ⟨d, List.mem_range.2 (by omega), ?_⟩, hi⟩
      rw [hs]; exact hx
theorem totals_form (w : Int) (hw : 0 ≤ w ∧ w ≤ 999) : ∀ (fs : List Int) (s : St), 0 ≤ s.lo → s.lo ≤ s.hi → s.hi ≤ 999 →
    (∀ x ∈ totalsP w fs s, x.1 ≤ x.2 ∧ ∃ q, 0 ≤ q ∧ s.digits + s.size * q ≤ x.1 ∧ x.2 ≤ s.digits + s.size * q + 999) ∧
    (1000 ≤ s.size → (totalsP w fs s).Pairwise (fun a b => a.2 < b.1 ∨ b.2 < a.1))
  | [], s, h1, h2, h3 => by
    unfold totalsP
    refine ⟨fun x hx => ?_, fun _ => List.pairwise_singleton _ _⟩
    rw [List.mem_singleton] at hx; subst hx
    exact ⟨by simp only []; omega, 0, by omega, by simp; omega, by simp; omega⟩
  | f :: fs, s, h1, h2, h3 => by
    unfold totalsP
    have key : ∀ d : Int, 0 ≤ d → d < 10 → ∀ s', withS w s d f = some s' → (∀ x ∈ totalsP w fs s', x.1 ≤ x.2 ∧ ∃ q, 0 ≤ q ∧ q % 10 = d ∧ s.digits + s.size * q ≤ x.1 ∧ x.2 ≤ s.digits + s.size * q + 999) ∧ (1000 ≤ s.size → (totalsP w fs s').Pairwise (fun a b => a.2 < b.1 ∨ b.2 < a.1)) := by
      intro d hd0 hd1 s' hs
      have hn := near_spec w ((if s.moves then s.lo else 0) + d * 1000) ((if s.moves then s.hi else 0) + d * 1000) f hw (by split <;> omega)
      unfold withS at hs
      cases hnp : nearP w ((if s.moves then s.lo else 0) + d * 1000) ((if s.moves then s.hi else 0) + d * 1000) f with
      | none => rw [hnp] at hs; cases hs
      | some ab =>
        obtain ⟨a, b'⟩ := ab
        rw [hnp] at hn hs
        simp only [] at hn hs
        obtain ⟨n1, n2, n3, n4⟩ := hn
        simp only [Option.some.injEq] at hs
        subst hs
        have ih := totals_form w hw fs ⟨s.drum + 1, s.size * 10, s.digits + d * s.size, if s.moves then a + -d * 1000 else s.lo, if s.moves then b' + -d * 1000 else s.hi, s.moves && decide (d = 9)⟩
          (by simp only []; cases hm : s.moves <;> rw [hm] at n2 n3 <;> simp only [if_true, Bool.false_eq_true, if_false] at n2 n3 ⊢ <;> omega)
          (by simp only []; cases hm : s.moves <;> simp only [if_true, Bool.false_eq_true, if_false] <;> omega)
          (by simp only []; cases hm : s.moves <;> rw [hm] at n2 n3 <;> simp only [if_true, Bool.false_eq_true, if_false] at n2 n3 ⊢ <;> omega)
        refine ⟨fun x hx => ?_, fun hz => ih.2 (by simp only []; omega)⟩
        obtain ⟨i1, q, i2, i3, i4⟩ := ih.1 x hx
        simp only [] at i3 i4
        have e : s.size * (d + 10 * q) = d * s.size + s.size * 10 * q := by rw [Int.mul_add, Int.mul_comm d, Int.mul_assoc]
        exact ⟨i1, d + 10 * q, by omega, by omega, by rw [e]; omega, by rw [e]; omega⟩
    refine ⟨fun x hx => ?_, fun hz => ?_⟩
    · rw [List.mem_flatMap] at hx
      obtain ⟨d, hd, hx⟩ := hx
      rw [List.mem_range] at hd
      cases hws : withS w s d f with
      | none => rw [hws] at hx; cases hx
      | some s' =>
        rw [hws] at hx
        obtain ⟨i1, q, i2, _, i3⟩ := (key d (by omega) (by omega) s' hws).1 x hx
        exact ⟨i1, q, i2, i3⟩
    · rw [List.pairwise_flatMap]
      refine ⟨fun d hd => ?_, ?_⟩
      · rw [List.mem_range] at hd
        cases hws : withS w s d f with
        | none => exact List.Pairwise.nil
        | some s' => exact (key d (by omega) (by omega) s' hws).2 hz
      · refine List.Pairwise.imp_of_mem ?_ (List.pairwise_lt_range (n := 10))
        intro d e hd he hde x hx y hy
        rw [List.mem_range] at hd he
        cases hws : withS w s d f with
        | none => rw [hws] at hx; cases hx
        | some s' =>
          cases hwt : withS w s e f with
          | none => rw [hwt] at hy; cases hy
          | some t' =>
            rw [hws] at hx
            rw [hwt] at hy
            obtain ⟨i1, q, i2, i3, i4, i5⟩ := (key d (by omega) (by omega) s' hws).1 x hx
            obtain ⟨j1, r, j2, j3, j4, j5⟩ := (key e (by omega) (by omega) t' hwt).1 y hy
            rcases Int.lt_trichotomy q r with h | h | h
            · have : s.size * (q + 1) ≤ s.size * r := Int.mul_le_mul_of_nonneg_left (by omega) (by omega)
              rw [Int.mul_add] at this; omega
            · omega
            · have : s.size * (r + 1) ≤ s.size * q := Int.mul_le_mul_of_nonneg_left (by omega) (by omega)
              rw [Int.mul_add] at this; omega
end Go.Proofs.Ytmcndecmnfbggaa
