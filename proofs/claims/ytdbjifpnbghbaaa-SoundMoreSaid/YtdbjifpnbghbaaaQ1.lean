/- Sound: what SoundMore stands on: with more that is known there are no more places, the order of hearings, narrower hearings, the spans of Tune, how the lag grows; the closure of the law; rows of the call's own. -/
import Derived.Test.YtdbjifpnbghbaaaM4
import Derived.Laws.AppendOwn
namespace Go.Proofs.Ytdbjifpnbghbaaa
set_option linter.unusedSimpArgs false
set_option linter.unusedVariables false
/-- one line is another one with narrower numbers -/
def NarL (l m : List Pi) : Prop := m.length = l.length ∧ ∀ i, i < l.length → (m.getD i default).len = (l.getD i default).len ∧ (l.getD i default).lo ≤ (m.getD i default).lo ∧ (m.getD i default).lo ≤ (m.getD i default).hi ∧ (m.getD i default).hi ≤ (l.getD i default).hi
theorem nar_refl {l : List Pi} (hok : lineOk l = true) : NarL l l := ⟨rfl, fun i hi => by have := pipe_in hok hi; omega⟩
theorem nar_ok {l m : List Pi} (hok : lineOk l = true) (h : NarL l m) : lineOk m = true := by
  rw [lineOk_iff]
  have h8 := line_few hok
  obtain ⟨h1, h2⟩ := h
  refine ⟨by omega, fun i hi => ?_⟩
  have := h2 i (by omega)
  have hp := pipe_in hok (i := i) (by omega)
  rw [pipeOk_iff]
  omega
theorem nar_pos {l m : List Pi} (h : NarL l m) : ∀ i : Nat, i ≤ l.length → posF m i = posF l i
  | 0, _ => rfl
  | i + 1, hi => by
    have ih := nar_pos h i (by omega)
    simp only [posF]
    rw [ih, (h.2 i (by omega)).1]
theorem nar_end {l m : List Pi} (h : NarL l m) : endF m = endF l := by
  unfold endF
  rw [h.1]
  exact nar_pos h _ (Nat.le_refl _)
theorem nar_share {l m : List Pi} (h : NarL l m) (a b t : Int) {i : Nat} (hi : i < l.length) : shareF m a b t i = shareF l a b t i := by
  unfold shareF
  rw [nar_pos h i (by omega), nar_pos h (i + 1) (by omega)]
theorem of_nar {n lo hi lo' hi' : Int} (h1 : lo ≤ lo') (h2 : lo' ≤ hi') (h3 : hi' ≤ hi) : ofF false n lo hi ≤ ofF false n lo' hi' ∧ ofF true n lo' hi' ≤ ofF true n lo hi := by
  have a := mul_mid (n := n) (lo := lo) (s := lo') (hi := hi) h1 (by omega)
  have b := mul_mid (n := n) (lo := lo) (s := hi') (hi := hi) (by omega) h3
  unfold ofF at *
  simp only [Bool.false_eq_true, if_false, if_true] at *
  omega
theorem lag_nar {l m : List Pi} (h : NarL l m) (a b t : Int) : ∀ k : Nat, k ≤ l.length → lagUp false l a b t k ≤ lagUp false m a b t k ∧ lagUp true m a b t k ≤ lagUp true l a b t k
  | 0, _ => ⟨Int.le_refl _, Int.le_refl _⟩
  | k + 1, hk => by
    have ih := lag_nar h a b t k (by omega)
    have hi := h.2 k (by omega)
    have ho := of_nar (n := shareF l a b t k) hi.2.1 hi.2.2.1 hi.2.2.2
    simp only [lagUp]
    rw [nar_share h a b t (show k < l.length by omega)]
    omega
theorem allows_nar {l m : List Pi} (h : NarL l m) (x : He) (t : Int) (ha : allowsF m x t = true) : allowsF l x t = true := by
  have hn := lag_nar h x.a x.b (nearF (x.a, x.b) t) l.length (Nat.le_refl _)
  have h1 := h.1
  unfold allowsF lagsF lagF at *
  rw [h1] at ha
  simp only [Bool.and_eq_true, decide_eq_true_eq] at *
  omega
theorem hear_nar {l m : List Pi} (h : NarL l m) (x : He) : hearOk m x = hearOk l x := by
  unfold hearOk earsF placeF
  rw [nar_end h]
theorem strUp_nar {l m : List Pi} (h : NarL l m) (s : Int × Int) : ∀ k : Nat, k ≤ l.length → strUp m s k = strUp l s k
  | 0, _ => rfl
  | k + 1, hk => by
    have ih := strUp_nar h s k (by omega)
    unfold strUp
    rw [ih, nar_pos h k (by omega), nar_pos h (k + 1) (by omega)]
/-- places that are on a stretch are places of the span -/
theorem on_span {l : List Pi} (s : Int × Int) : ∀ (k : Nat) (t : Int), onF l (strUp l s k) t = true → s.1 ≤ t ∧ t ≤ s.2
  | 0, t, h => by simp [onF, strUp] at h
  | k + 1, t, h => by
    have hdef : strUp l s (k + 1) = if emptyF (cutF s [(posF l k, posF l (k + 1))]) then strUp l s k else strUp l s k ++ [⟨k, (cutF s [(posF l k, posF l (k + 1))]).1 - posF l k, (cutF s [(posF l k, posF l (k + 1))]).2 - posF l k⟩] := rfl
    rw [hdef] at h
    have ih := on_span (l := l) s k t
    split at h
    · exact ih h
    · unfold onF at h ih
      rw [List.any_append, Bool.or_eq_true] at h
      rcases h with h | h
      · exact ih h
      · rw [(cutF_one _ _).1, (cutF_one _ _).2] at h
        simp only [List.any_cons, List.any_nil, Bool.or_false, Bool.and_eq_true, decide_eq_true_eq, Int.toNat_natCast] at h
        omega
theorem on_row {l : List Pi} (hok : lineOk l = true) (s : Int × Int) : ∀ (k : Nat), k ≤ l.length → ∀ (x : St), x ∈ strUp l s k → 0 ≤ posF l x.p.toNat + x.a ∧ posF l x.p.toNat + x.a ≤ endF l ∧ x.a ≤ x.b
  | 0, _, x, h => by simp [strUp] at h
  | k + 1, hk, x, h => by
    have hdef : strUp l s (k + 1) = if emptyF (cutF s [(posF l k, posF l (k + 1))]) then strUp l s k else strUp l s k ++ [⟨k, (cutF s [(posF l k, posF l (k + 1))]).1 - posF l k, (cutF s [(posF l k, posF l (k + 1))]).2 - posF l k⟩] := rfl
    rw [hdef] at h
    have ih := fun h => on_row hok s k (by omega) x h
    have hp0 := pos_small hok (i := k) (by omega)
    have hp1 := pos_mono hok (i := k + 1) (j := l.length) hk (Nat.le_refl _)
    split at h
    · exact ih h
    · rename_i he
      unfold emptyF at he
      rw [(cutF_one _ _).1, (cutF_one _ _).2, decide_eq_true_eq] at he
      rw [(cutF_one _ _).1, (cutF_one _ _).2] at h
      rcases List.mem_append.1 h with h | h
      · exact ih h
      · rw [List.mem_singleton] at h
        subst h
        dsimp only at he ⊢
        rw [Int.toNat_natCast]
        unfold endF
        omega
/-- what Where answers of a line with narrower numbers and of hearings that allow no more -/
def LessW (l : List Pi) (S : List St) (e : Int) (X : List St) (f : Int) : Prop := (f = 0 ∨ f = 4 ∨ f = 2) ∧ (f = 0 → e = 0 ∧ (∀ t, 0 ≤ t → t ≤ endF l → onF l X t = true → onF l S t = true)) ∧ StOk l X ∧ X.length ≤ l.length
theorem less_none (l : List Pi) (S : List St) (e : Int) {f : Int} (hf : f = 4 ∨ f = 2) : LessW l S e [] f :=
  ⟨.inr hf, fun h => by omega, fun i hi => absurd hi (Nat.not_lt_zero _), Nat.zero_le _⟩
theorem where_less {l m : List Pi} (hok : lineOk l = true) (hn : NarL l m) {hs gs : List He} (h8 : hs.length ≤ 8) (g8 : gs.length ≤ 8) (hh : ∀ h ∈ hs, hearOk l h = true) (hall : ∀ t, 0 ≤ t → t ≤ endF l → allPF m gs t = true → allPF l hs t = true) :
    LessW l (whereF l hs).1 (whereF l hs).2 (whereF m gs).1 (whereF m gs).2 := by
  have hmok := nar_ok hok hn
  have hw : ∀ (l : List Pi) (hs : List He), whereF l hs = if lineOk l then (if hs.length ≤ 8 then (if hs.all (hearOk l) then
    (if strUp l (spanF l hs) l.length = [] then ([], 4) else (strUp l (spanF l hs) l.length, 0)) else ([], 2)) else ([], 3)) else ([], 1) := fun _ _ => rfl
  have hhs : hs.all (hearOk l) = true := by rw [List.all_eq_true]; exact hh
  rw [hw l hs, hw m gs, if_pos hok, if_pos hmok, if_pos h8, if_pos g8, if_pos hhs]
  have hst := strUp_nar hn (spanF m gs) l.length (Nat.le_refl _)
  by_cases hg : gs.all (hearOk m) = true
  · rw [if_pos hg, hn.1, hst]
    by_cases he : strUp l (spanF m gs) l.length = []
    · rw [if_pos he]
      exact less_none l _ _ (.inl rfl)
    · rw [if_neg he]
      have hsub : ∀ t, 0 ≤ t → t ≤ endF l → onF l (strUp l (spanF m gs) l.length) t = true → onF l (strUp l (spanF l hs) l.length) t = true ∧ strUp l (spanF l hs) l.length ≠ [] := fun t h0 h1 h => by
        have hs1 := on_span _ _ t h
        have h2 := hall t h0 h1 ((allP_iff hmok gs h0 (by rw [nar_end hn]; exact h1)).2 hs1)
        have h3 := (allP_iff hok hs h0 h1).1 h2
        have h4 := on_str hok (spanF l hs) h0 h1 h3.1 h3.2
        exact ⟨h4.2, h4.1⟩
      have hne : strUp l (spanF l hs) l.length ≠ [] := by
        obtain ⟨x, hx⟩ := List.exists_mem_of_ne_nil _ he
        have hr := str_rows hok (spanF m gs) l.length (Nat.le_refl _) x hx
        obtain ⟨q, hq⟩ : ∃ q : Nat, x.p = q := ⟨x.p.toNat, by omega⟩
        have hpx := on_row hok (spanF m gs) l.length (Nat.le_refl _) x hx
        exact (hsub (posF l x.p.toNat + x.a) hpx.1 hpx.2.1 (by
          unfold onF
          rw [List.any_eq_true]
          exact ⟨x, hx, by simp only [Bool.and_eq_true, decide_eq_true_eq]; omega⟩)).2
      rw [if_neg hne]
      exact ⟨.inl rfl, fun _ => ⟨rfl, fun t h0 h1 h => (hsub t h0 h1 h).1⟩, stOk_of (str_rows hok _ _ (Nat.le_refl _)), strUp_few _ _ _⟩
  · rw [if_neg hg]
    exact less_none l _ _ (.inr rfl)
def rotH (hs : List He) (turn k : Nat) : List He := (List.range k).map (fun i => hs.getD ((i + turn) % hs.length) default)
theorem rot_snoc (hs : List He) (turn k : Nat) : rotH hs turn (k + 1) = rotH hs turn k ++ [hs.getD ((k + turn) % hs.length) default] := by simp [rotH, List.range_succ]
theorem rot_len (hs : List He) (turn k : Nat) : (rotH hs turn k).length = k := by simp [rotH]
theorem rot_all (hs : List He) (turn : Nat) (f : He → Bool) : (rotH hs turn hs.length).all f = hs.all f := by
  rw [Bool.eq_iff_iff, all_iff, all_iff, rot_len]
  have hg : ∀ i, i < hs.length → (rotH hs turn hs.length).getD i default = hs.getD ((i + turn) % hs.length) default := fun i hi => by simp [rotH, List.getD, hi]
  constructor
  · intro h j hj
    obtain ⟨r, hr⟩ : ∃ r, turn % hs.length = r := ⟨_, rfl⟩
    have hrl : r < hs.length := by rw [← hr]; exact Nat.mod_lt _ (by omega)
    have hmod : ∀ i, (i + turn) % hs.length = (i + r) % hs.length := fun i => by rw [← hr, Nat.add_mod_mod]
    by_cases hc : r ≤ j
    · have := h (j - r) (by omega)
      rw [hg _ (by omega), hmod, show j - r + r = j by omega, Nat.mod_eq_of_lt hj] at this
      exact this
    · have := h (j + hs.length - r) (by omega)
      rw [hg _ (by omega), hmod, show j + hs.length - r + r = j + hs.length by omega, Nat.add_mod_right, Nat.mod_eq_of_lt hj] at this
      exact this
  · intro h i hi
    rw [hg i hi]
    exact h _ (Nat.mod_lt _ (by omega))
theorem fl_same {l : List Pi} {hs gs : List He} (h : ∀ p, allPF l hs p = allPF l gs p) (i : Nat) : ∀ n : Nat, flUp l hs i n = flUp l gs i n
  | 0 => rfl
  | n + 1 => by
    have ih := fl_same h i n
    simp only [flUp]
    rw [ih, h]
theorem rstr_same {l : List Pi} {hs gs : List He} (h : ∀ p, allPF l hs p = allPF l gs p) : ∀ k : Nat, rStrUp l hs k = rStrUp l gs k
  | 0 => rfl
  | k + 1 => by
    have ih := rstr_same h k
    simp only [rStrUp]
    rw [ih, fl_same h]
theorem where_rot (l : List Pi) (hs : List He) (turn : Nat) : whereF l (rotH hs turn hs.length) = whereF l hs := by
  have hw : ∀ (l : List Pi) (hs : List He), whereF l hs = if lineOk l then (if hs.length ≤ 8 then (if hs.all (hearOk l) then
    (if strUp l (spanF l hs) l.length = [] then ([], 4) else (strUp l (spanF l hs) l.length, 0)) else ([], 2)) else ([], 3)) else ([], 1) := fun _ _ => rfl
  rw [hw, hw, rot_len, rot_all]
  cases hok : lineOk l with
  | false => rfl
  | true =>
    have hst : strUp l (spanF l (rotH hs turn hs.length)) l.length = strUp l (spanF l hs) l.length := by
      rw [← rStr_eq hok _ _ (Nat.le_refl _), ← rStr_eq hok _ _ (Nat.le_refl _)]
      exact rstr_same (fun p => rot_all hs turn _) _
    rw [hst]
/-- a narrower hearing -/
def tightH (by' : Int) (h : He) : He := ⟨h.a, h.b, min h.hi (h.lo + by'), h.hi⟩
theorem tight_ok {l : List Pi} {by' : Int} (hb : 0 ≤ by') (h : He) (hh : hearOk l h = true) : hearOk l (tightH by' h) = true := by
  unfold hearOk tightH at *
  simp only [Bool.and_eq_true, earsF_iff, withinF_iff] at *
  omega
theorem tight_allows {l : List Pi} {by' : Int} (hb : 0 ≤ by') (h : He) (hh : hearOk l h = true) (t : Int) (ha : allowsF l (tightH by' h) t = true) : allowsF l h t = true := by
  unfold hearOk at hh
  unfold allowsF tightH at *
  simp only [Bool.and_eq_true, earsF_iff, withinF_iff, decide_eq_true_eq] at *
  omega
theorem tight_all {l : List Pi} {by' : Int} (hb : 0 ≤ by') {hs : List He} (hh : ∀ h ∈ hs, hearOk l h = true) (t : Int) (ha : allPF l (hs.map (tightH by')) t = true) : allPF l hs t = true := by
  unfold allPF at *
  rw [List.all_eq_true] at *
  intro h hm
  exact tight_allows hb h (hh h hm) t (ha _ (List.mem_map_of_mem hm))
theorem more_all {l : List Pi} {hs : List He} (m : He) (t : Int) (ha : allPF l (hs ++ [m]) t = true) : allPF l hs t = true := by
  unfold allPF at *
  rw [List.all_append, Bool.and_eq_true] at ha
  exact ha.1
theorem nar_all {l m : List Pi} (h : NarL l m) {hs : List He} (t : Int) (ha : allPF m hs t = true) : allPF l hs t = true := by
  unfold allPF at *
  rw [List.all_eq_true] at *
  exact fun x hx => allows_nar h x t (ha x hx)
/-- how wide the lags are -/
theorem lag_wide {l : List Pi} (a b t : Int) : ∀ k i : Nat, i < k → let n := shareF l a b t i; let p := l.getD i default
    ofF true n p.lo p.hi - ofF false n p.lo p.hi ≤ lagUp true l a b t k - lagUp false l a b t k
  | 0, i, h => by omega
  | k + 1, i, h => by
    have hle := lagUp_le l a b t k
    have hof : ∀ n lo hi, ofF false n lo hi ≤ ofF true n lo hi := fun n lo hi => by unfold ofF; simp only [Bool.false_eq_true, if_false, if_true]; omega
    have h2 := hof (shareF l a b t k) (l.getD k default).lo (l.getD k default).hi
    simp only [lagUp]
    by_cases e : i = k
    · subst e; omega
    · have := lag_wide (l := l) a b t k i (by omega)
      simp only [] at this
      omega
theorem fdiv_up {a b d : Int} (hd : 0 < d) (h : a ≤ b) : downF a d ≤ upF b d := by
  have h1 : downF a d ≤ downF b d := by
    unfold downF
    rw [Int.fdiv_eq_ediv_of_nonneg _ (by omega), Int.fdiv_eq_ediv_of_nonneg _ (by omega)]
    exact Int.ediv_le_ediv hd h
  have h2 : downF b d ≤ upF b d := le_up (by omega) (fun _ => by
    unfold downF
    rw [Int.fdiv_eq_ediv_of_nonneg _ (by omega)]
    exact Int.mul_ediv_self_le (by omega)) (fun h => by omega)
  omega
theorem tuned_nar {l : List Pi} (hok : lineOk l = true) (a b t lo hi : Int) (hlh : lo ≤ hi) (h1 : (lagsF l a b t).1 ≤ hi) (h2 : lo ≤ (lagsF l a b t).2) : NarL l (tunedF l a b t lo hi) := by
  refine ⟨by simp [tunedF], fun i hi' => ?_⟩
  have hg : (tunedF l a b t lo hi).getD i default = tuneP l a b t lo hi i := by simp [tunedF, List.getD, hi']
  rw [hg]
  have hp := pipe_in hok hi'
  have hwd := lag_wide (l := l) a b (nearF (a, b) t) l.length i hi'
  have hlg : lagsF l a b t = (lagUp false l a b (nearF (a, b) t) l.length, lagUp true l a b (nearF (a, b) t) l.length) := rfl
  unfold tuneP
  rw [hlg] at h1 h2 ⊢
  simp only [] at hwd h1 h2 ⊢
  obtain ⟨n, hn⟩ : ∃ n, shareF l a b (nearF (a, b) t) i = n := ⟨_, rfl⟩
  rw [hn] at hwd ⊢
  obtain ⟨⟨len, pl, ph⟩, hpe⟩ : ∃ p, l.getD i default = p := ⟨_, rfl⟩
  rw [hpe] at hwd hp ⊢
  obtain ⟨g, hge⟩ : ∃ g, lagUp false l a b (nearF (a, b) t) l.length = g := ⟨_, rfl⟩
  obtain ⟨q, hqe⟩ : ∃ g, lagUp true l a b (nearF (a, b) t) l.length = g := ⟨_, rfl⟩
  rw [hge, hqe] at hwd ⊢
  rw [hge] at h1
  rw [hqe] at h2
  dsimp only at hp hwd ⊢
  by_cases h0 : n = 0
  · rw [if_pos h0]
    dsimp only
    omega
  · rw [if_neg h0]
    simp only [(cutF_one _ _).1, (cutF_one _ _).2]
    unfold byF
    by_cases hneg : n < 0
    · have m := Int.mul_le_mul_of_nonpos_left (a := n) (by omega) hp.2.2.2.1
      have hf : ofF false n pl ph = n * ph := by unfold ofF; simp only [Bool.false_eq_true, if_false]; omega
      have ht : ofF true n pl ph = n * pl := by unfold ofF; simp only [if_true]; omega
      rw [hf, ht] at hwd ⊢
      rw [if_pos hneg]
      dsimp only
      have a1 := le_up (n := lo - (q - n * pl)) (d := n) (s := pl) h0 (fun h => by omega) (fun _ => by omega)
      have a2 := down_le (n := hi - (g - n * ph)) (d := n) (s := ph) h0 (fun h => by omega) (fun _ => by omega)
      have a3 := fdiv_up (a := -(hi - (g - n * ph))) (b := -(lo - (q - n * pl))) (d := -n) (by omega) (by omega)
      have e1 : downF (-(hi - (g - n * ph))) (-n) = downF (hi - (g - n * ph)) n := by unfold downF; rw [Int.neg_fdiv_neg]
      have e2 : upF (-(lo - (q - n * pl))) (-n) = upF (lo - (q - n * pl)) n := by unfold upF downF; rw [Int.neg_fdiv_neg]
      rw [e1, e2] at a3
      refine ⟨by trivial, ?_⟩
      omega
    · have m := Int.mul_le_mul_of_nonneg_left hp.2.2.2.1 (show 0 ≤ n by omega)
      have hf : ofF false n pl ph = n * pl := by unfold ofF; simp only [Bool.false_eq_true, if_false]; omega
      have ht : ofF true n pl ph = n * ph := by unfold ofF; simp only [if_true]; omega
      rw [hf, ht] at hwd ⊢
      rw [if_neg hneg]
      dsimp only
      have a1 := le_up (n := hi - (g - n * pl)) (d := n) (s := pl) h0 (fun h => by omega) (fun h => by omega)
      have a2 := down_le (n := lo - (q - n * ph)) (d := n) (s := ph) h0 (fun h => by omega) (fun h => by omega)
      have a3 := fdiv_up (a := lo - (q - n * ph)) (b := hi - (g - n * pl)) (d := n) (by omega) (by omega)
      refine ⟨by trivial, ?_⟩
      omega
theorem of_two (e : Bool) {n lo hi : Int} (h : lo ≤ hi) : ofF e n lo hi + 2 * lo ≤ ofF e (n + 2) lo hi := by
  have a : (n + 2) * lo = n * lo + 2 * lo := Int.add_mul _ _ _
  have b : (n + 2) * hi = n * hi + 2 * hi := Int.add_mul _ _ _
  unfold ofF
  rw [a, b]
  split <;> omega
/-- one decimetre farther on -/
theorem lag_grow {l : List Pi} (hok : lineOk l = true) (e : Bool) {t : Int} (h0 : 0 ≤ t) {j : Nat} (hj : j < l.length) (h1 : posF l j ≤ t) (h2 : t + 1 ≤ posF l (j + 1)) : lagF e l 0 (endF l) t + 2 * (l.getD j default).lo ≤ lagF e l 0 (endF l) (t + 1) := by
  have hE := end_in hok
  have hjE := pos_mono hok (i := j + 1) (j := l.length) (by omega) (Nat.le_refl _)
  have hn1 : nearF (0, endF l) t = t := by unfold nearF endF; simp only []; omega
  have hn2 : nearF (0, endF l) (t + 1) = t + 1 := by unfold nearF endF; simp only []; omega
  unfold lagF
  rw [hn1, hn2]
  have hup : ∀ k : Nat, k ≤ l.length → (k ≤ j → lagUp e l 0 (endF l) t k ≤ lagUp e l 0 (endF l) (t + 1) k) ∧ (j < k → lagUp e l 0 (endF l) t k + 2 * (l.getD j default).lo ≤ lagUp e l 0 (endF l) (t + 1) k) := by
    intro k
    induction k with
    | zero => intro _; exact ⟨fun _ => Int.le_refl _, fun h => by omega⟩
    | succ k ih =>
      intro hk
      obtain ⟨i1, i2⟩ := ih (by omega)
      have hp := pipe_in hok (i := k) (by omega)
      have hm := of_mono e (share_mono l 0 (endF l) (show t ≤ t + 1 by omega) k) (lo := (l.getD k default).lo) (hi := (l.getD k default).hi) (by omega) (by omega)
      simp only [lagUp]
      refine ⟨fun h => ?_, fun h => ?_⟩
      · have := i1 (by omega); omega
      · by_cases ek : k = j
        · subst ek
          have hs : shareF l 0 (endF l) (t + 1) k = shareF l 0 (endF l) t k + 2 := by unfold shareF nearF; simp only []; omega
          have h3 := of_two e (n := shareF l 0 (endF l) t k) hp.2.2.2.1
          have := i1 (by omega)
          rw [hs]
          omega
        · have := i2 (by omega); omega
  exact (hup l.length (Nat.le_refl _)).2 hj
open Go.RowKit Go.Maps Go.BigFrame
set_option maxRecDepth 100000 in
set_option maxHeartbeats 6400000 in
theorem no_any (l : List Pi) (hok : lineOk l = true) (S : List St) (hS : StOk l S) (re : Int) (m : List Pi) (gs : List He) (v1 v2 : Value) (hless : LessW l S re (whereF m gs).1 (whereF m gs).2) (PE PL PS Pe : Nat) (a : Option Addr) (c : Nat) (vs : Value) (w : World) (hm : TabAt 3 piC w v1 m) (hg : TabAt 4 heC w v2 gs) (hl : TabAt 3 piC w (.slice a l.length c) l) (hs : TabAt 3 stC w vs S)
    (hPE : w.heap[PE]? = some (.cells #[.int .i64 (endF l)] 3 (0, 0))) (hPL : w.heap[PL]? = some (.cells #[.slice a l.length c] 22 (0, 0))) (hPS : w.heap[PS]? = some (.cells #[vs] 38 (0, 0))) (hPe : w.heap[Pe]? = some (.cells #[.int .i64 re] 29 (0, 0))) :
    Calls Try.prog 32 #[v1, v2, .pointer (some ⟨PE, 0, none⟩), .pointer (some ⟨PL, 0, none⟩), .pointer (some ⟨PS, 0, none⟩), .pointer (some ⟨Pe, 0, none⟩)] w fun e w' => e = .returned (.bool true) ∧ Below w.heap.size w w' := by
  have hE := end_in hok
  have h8 := line_few hok
  obtain ⟨E, hEe⟩ : ∃ E, endF l = E := ⟨_, rfl⟩
  have KW := Where_any m v1 gs v2 w hm hg
  obtain ⟨⟨X, f⟩, hX⟩ : ∃ r, whereF m gs = r := ⟨_, rfl⟩
  rw [hX] at KW hless
  unfold WhereR at KW
  simp only [] at KW hless
  obtain ⟨hf, hsub, hXo, hXl⟩ := hless
  rw [hEe] at hPE hE hsub
  obtain ⟨as1, cs1, rfl⟩ := hs.shape
  have KWW := Lib.hid KW
  have KON := Lib.hid (fun v t X' hX1 hX2 => on_any l hok (.slice a l.length c) X hXo v t X' hX1 hX2)
  have KOS := Lib.hid (fun t X' hX1 hX2 => on_any l hok (.slice a l.length c) S hS (.slice as1 S.length cs1) t X' hX1 hX2)
  have HSUB := Lib.hid hsub
  have HF := Lib.hid hf
  have HP := Lib.hid (And.intro hPE (And.intro hPL (And.intro hPS hPe)))
  have HLS := Lib.hid (And.intro hl hs)
  have HXL := Lib.hid (show X.length ≤ 1000 by omega)
  have HE := Lib.hid hE
  clear KW hX hf hsub hXo hXl hm hg hl hs hPE hPL hPS hPe hEe h8 hE
  go_enter Try.func32, Try.ntmps32
  go_wp2_with (go_at_call 18; fail)
  refine KWW.out.mono ?_
  rintro e w2 ⟨vx, rfl, ho2, hb2⟩
  have ht2 := outT_tab ho2 HXL.out
  obtain ⟨ax, cx, rfl⟩ := ht2.shape
  have HTX := Lib.hid ht2
  have HP2 := Lib.hid (And.intro (box_step (w0 := w) HP.out.1 hb2) (And.intro (box_step (w0 := w) HP.out.2.1 hb2) (And.intro (box_step (w0 := w) HP.out.2.2.1 hb2) (box_step (w0 := w) HP.out.2.2.2 hb2))))
  have HLS2 := Lib.hid (And.intro (HLS.out.1.below hb2) (HLS.out.2.below hb2))
  have HB2 := Lib.hid hb2
  clear ho2 ht2 hb2 KWW HP HLS
  go_wp2_with fail
  go_loopw [11] (fun i wr => ∃ p : Nat, (p : Int) ≤ E + 7 ∧ i = .int .i64 p ∧ Below w2.heap.size w2 wr) (fun i _ => (E + 8 - intOf i).toNat)
  case atStart => exact ⟨0, by have := HE.out; omega, rfl, Below.refl _ _⟩
  case round =>
    obtain ⟨p, hp, rfl, hbw⟩ := hrel
    have hE := HE.out
    obtain ⟨hp1, hp2, hp3, hp4⟩ := HP2.out
    have y0 := one_cell (box_step (w0 := w) hp1 hbw)
    have y1 := one_cell (box_step (w0 := w) hp2 hbw)
    have y2 := one_cell (box_step (w0 := w) hp3 hbw)
    have y3 := one_cell (box_step (w0 := w) hp4 hbw)
    have HBW := Lib.hid hbw
    have hexit : f = 4 ∨ f = 2 ∨ (f = 0 ∧ re = 0) := by
      rcases HF.out with h | h | h
      · exact .inr (.inr ⟨h, (HSUB.out h).1⟩)
      · exact .inl h
      · exact .inr (.inl h)
    by_cases hc : (p : Int) ≤ E ∧ f = 0
    · obtain ⟨hc1, rfl⟩ := hc
      have v1 : IntKind.i64.wrap ((p : Int) + 7) = ((p + 7 : Nat) : Int) := by rw [IntWalk.i64_in _ (by omega)]; omega
      have hsu := (HSUB.out rfl).2 (p : Int) (by omega) hc1
      have kon := KON.out (.slice ax X.length cx) (p : Int) wr (HLS2.out.1.below hbw) (HTX.out.below hbw)
      obtain ⟨b, hb⟩ : ∃ b, onF l X (p : Int) = b := ⟨_, rfl⟩
      rw [hb] at kon hsu
      have KO := Lib.hid kon
      have HSU := Lib.hid hsu
      clear kon hsu hb hbw hexit hp1 hp2 hp3 hp4
      go_wp2_with (go_at_call 28; fail)
      refine KO.out.mono ?_
      rintro e w3 ⟨rfl, hb3⟩
      have hb30 := HBW.out.trans (hb3.mono HBW.out.size)
      have HB3 := Lib.hid hb30
      clear y0 y1 y2 y3 hb3 KO
      cases b with
      | false =>
        clear hb30
        go_wp2
        go_roundw
        case rel => exact ⟨p + 7, by omega, rfl, HB3.out⟩
        case measure => simp [intOf]; omega
      | true =>
        have kos := KOS.out (p : Int) w3 (HLS2.out.1.below hb30) (HLS2.out.2.below hb30)
        rw [HSU.out rfl] at kos
        have KO2 := Lib.hid kos
        obtain ⟨hp1, hp2, hp3, hp4⟩ := HP2.out
        have y1 := one_cell (box_step (w0 := w) hp2 hb30)
        have y2 := one_cell (box_step (w0 := w) hp3 hb30)
        clear kos hb30 hp1 hp2 hp3 hp4
        go_wp2_with (go_at_call 28; fail)
        refine KO2.out.mono ?_
        rintro e w4 ⟨rfl, hb4⟩
        have HB4 := Lib.hid (HB3.out.trans (hb4.mono HB3.out.size))
        clear y1 y2 hb4
        go_wp2
        go_roundw
        case rel => exact ⟨p + 7, by omega, rfl, HB4.out⟩
        case measure => simp [intOf]; omega
    · have HC := Lib.hid hc
      clear hbw hp1 hp2 hp3 hp4
      by_cases hc1 : (p : Int) ≤ E
      · have hf0 : ¬ f = 0 := fun h => hc ⟨hc1, h⟩
        have hf1 : (f == 0) = false := by simp [hf0]
        rcases hexit with rfl | rfl | ⟨h, _⟩
        · clear hc
          go_wp2
          go_ret
          exact ⟨rfl, HB2.out.trans (HBW.out.mono HB2.out.size)⟩
        · clear hc
          go_wp2
          go_ret
          exact ⟨rfl, HB2.out.trans (HBW.out.mono HB2.out.size)⟩
        · exact absurd h hf0
      · rcases hexit with rfl | rfl | ⟨rfl, rfl⟩
        · clear hc
          go_wp2
          go_ret
          exact ⟨rfl, HB2.out.trans (HBW.out.mono HB2.out.size)⟩
        · clear hc
          go_wp2
          go_ret
          exact ⟨rfl, HB2.out.trans (HBW.out.mono HB2.out.size)⟩
        · clear hc
          go_wp2
          go_ret
          exact ⟨rfl, HB2.out.trans (HBW.out.mono HB2.out.size)⟩
open Go.ChangeShapes Go.WideShapes Go.ChangeAt
/-- two rows are not one -/
def Apart (v1 v2 : Value) : Prop := ∀ g, v1.ownBlock = some g → v2.ownBlock = some g → False
theorem wp_copyT {α : Type} [Inhabited α] {o : Oper} {a : Act} {w : World} {K : Act → World → Prop} {Q : Exit → Act → World → Prop} (s x : Operand) (t e : TypeId) (k bytes : Nat) (z : Value) (fc : α → Nat → Int) (ht : Try.prog.underlying t = some (.slice e)) (hinfo : (Try.prog.info? e).map (fun i => (i.zero, i.size, i.bytes)) = some (some z, k, bytes))
    (hzs : z.cells.size = k) (hk : 0 < k) (hby : bytes ≤ 64) (ho : o.op = .call { callee := .builtin .append, args := #[s, x], argTypes := #[t, t] })
    (base g : Nat) (hs : a.eval s = .slice (some ⟨g, 0, none⟩) 0 0) (hown : w.ownsRow base e k (.slice (some ⟨g, 0, none⟩) 0 0) 0 []) {v : Value} {L : List α} (hx : a.eval x = v) (hv : TabAt k fc w v L) (hn : NilOk v) (hl : L.length ≤ 1000) (hbase : base ≤ w.heap.size)
    (h : ∀ v' w', w'.ownsRow base e k v' L.length (flatK k fc L) → w.grownBy w' (some g) → K (a.put o.dst v') w') : o.wp Try.prog a w K Q := by
  obtain ⟨i0, hi, hz0, hz1, hz2⟩ := info_parts hinfo
  have hb : L.length * bytes ≤ 140737488355328 := by
    have : L.length * bytes ≤ 1000 * 64 := Nat.mul_le_mul hl hby
    omega
  have main : ∃ v' w', (Builtin.append_ #[t, t] o.type #[.slice (some ⟨g, 0, none⟩) 0 0, v]).run Try.prog w = .ok v' w' ∧ w'.ownsRow base e k v' L.length (flatK k fc L) ∧ w.grownBy w' (some g) := by
    obtain ⟨_, ⟨rfl, a', cap, rfl⟩ | ⟨b, off, cap, rfl, hlc, hcm, hbl, hc⟩⟩ := hv
    · cases a' with
      | none =>
        obtain ⟨_, rfl⟩ := hn 0 cap rfl
        exact ⟨_, _, run_append_owned_none (P := Try.prog) (w := w) base t o.type e i0 k ht hi _ 0 [] hown, hown, World.grownBy.refl _ _⟩
      | some ad =>
        obtain ⟨v', w', hr, h2, h3, _, h5⟩ := run_append_own_at (P := Try.prog) w base t o.type e i0 z k bytes ht hi hz0 hz1 hz2 hzs hk _ 0 [] hown ad 0 cap [] (by simp) (by simp) (by simp) (by unfold maxLen; omega) (by simp) hbase
        exact ⟨v', w', hr, h2, h3⟩
    · obtain ⟨v', w', hr, h2, h3, _, h5⟩ := run_append_own_at (P := Try.prog) w base t o.type e i0 z k bytes ht hi hz0 hz1 hz2 hzs hk _ 0 [] hown ⟨b, off, none⟩ L.length cap (flatK k fc L) (flat_len k fc L) (flat_at hk hc) flat_one (by unfold maxLen; omega) (by rw [Nat.zero_add]; exact hb) hbase
      exact ⟨v', w', hr, by simpa using h2, h3⟩
  obtain ⟨v', w', hr, h2, h3⟩ := main
  unfold Oper.wp execOp
  simp only [ho, resolve, invoke, builtin, Sem.run_bind, Sem.run_pure, Result.andThen_ok, List.map_toArray, List.map_cons, List.map_nil, hs, hx, hr]
  exact h v' w' h2 h3
theorem cell_four_at {w : World} {q : Nat} {x y z u : Value} {t : TypeId} (hq : w.heap[q]? = some (.cells #[x, y, z, u] t (0, 0))) : ∀ j v, [x, y, z, u][j]? = some v → w.cell? ((⟨q, 0, none⟩ : Addr).add j) = some v := by
  intro j v hj
  rw [Addr.add_lit, Nat.zero_add]
  simp [World.cell?, hq, hj]
/-- a row of hearings grows by one; where the new row lies -/
theorem run_four {w : World} (base q : Nat) {v : Value} {n : Nat} {F : List Value} (hown : w.ownsRow base 26 4 v n F) (x y z u : Int) (hq : w.heap[q]? = some (.cells #[.int .i64 x, .int .i64 y, .int .i64 z, .int .i64 u] 26 (0, 0))) (hl : n ≤ 1000) (hbase : base ≤ w.heap.size) :
    ∃ g cp w', (Builtin.append_ #[37, 37] 37 #[v, .slice (some ⟨q, 0, none⟩) 1 1]).run Try.prog w = .ok (.slice (some ⟨g, 0, none⟩) (n + 1) cp) w' ∧ w'.ownsRow base 26 4 (.slice (some ⟨g, 0, none⟩) (n + 1) cp) (n + 1) (F ++ [.int .i64 x, .int .i64 y, .int .i64 z, .int .i64 u]) ∧ w.grownBy w' v.ownBlock ∧ (v.ownBlock = some g ∨ g = w.heap.size) := by
  obtain ⟨i0, hi, hz0, hz1, hz2⟩ := info_parts Try.info26
  obtain ⟨v', w', hr, ha, hg, _, hloc⟩ := run_append_own_at (P := Try.prog) (w := w) base 37 37 26 i0 (.agg #[.int .i64 0, .int .i64 0, .int .i64 0, .int .i64 0]) 4 32 Try.underlying37 hi hz0 hz1 hz2 rfl (by decide) v n F hown ⟨q, 0, none⟩ 1 1 [.int .i64 x, .int .i64 y, .int .i64 z, .int .i64 u] rfl (cell_four_at hq) (ints_oneCell .i64 [x, y, z, u]) (by unfold maxLen; omega) (by omega) hbase
  have ha' := ha
  rcases ha.2 with ⟨_, h0⟩ | ⟨g, cap, cur, rfl, hbg, _⟩
  · omega
  · refine ⟨g, cap, w', hr, ha', hg, ?_⟩
    rcases hloc with h | h
    · exact .inl h.symm
    · exact .inr (Option.some.inj h)
/-- one number of a list of structs in memory is changed -/
theorem tab_set {w : World} {g c k : Nat} {cur : Array Value} {ty : TypeId} {L : List Pi} {z : Int} (hg : w.heap[g]? = some (.cells cur ty (0, 0))) (h : TabAt 3 piC w (.slice (some ⟨g, 0, none⟩) L.length c) L) (hk : k < L.length) : TabAt 3 piC (w.setCell ⟨g, k * 3 + 2, none⟩ (.int .i64 z)) (.slice (some ⟨g, 0, none⟩) L.length c) (L.set k ⟨(L.getD k default).len, (L.getD k default).lo, z⟩) := by
  obtain ⟨hl, ⟨rfl, _⟩ | ⟨b', off', cap, e, h1, h2, h3, h4⟩⟩ := h
  · simp at hk
  · simp only [Value.slice.injEq, Option.some.injEq, Addr.mk.injEq, and_true, true_and] at e
    obtain ⟨⟨rfl, rfl⟩, rfl⟩ := e
    have hs := heap_setCell_same w g (k * 3 + 2) _ ty (.int .i64 z) hg
    refine ⟨by rw [List.length_set]; exact hl, .inr ⟨g, 0, c, by rw [List.length_set], by rw [List.length_set]; exact h1, h2, (Array.getElem?_eq_some_iff.1 hs).1, fun i hi j hj => ?_⟩⟩
    rw [List.length_set] at hi
    have h5 := h4 i hi j hj
    rw [Nat.zero_add] at h5 ⊢
    have hgd : (L.set k ⟨(L.getD k default).len, (L.getD k default).lo, z⟩).getD i default = if k = i then ⟨(L.getD k default).len, (L.getD k default).lo, z⟩ else L.getD i default := by
      rw [List.getD, List.getD, List.getElem?_set]
      by_cases e : k = i
      · subst e; simp [hk]
      · simp [e]
    rw [hgd]
    have h6 : cur[i * 3 + j]? = some (.int .i64 (piC (L.getD i default) j)) := by simpa [World.cell?, hg] using h5
    have hlt : i * 3 + j < cur.size := (Array.getElem?_eq_some_iff.1 h6).1
    show World.cell? _ _ = _
    unfold World.cell?
    rw [hs]
    by_cases e : k * 3 + 2 = i * 3 + j
    · have e1 : k = i := by omega
      have e2 : j = 2 := by omega
      subst e1; subst e2
      rw [if_pos rfl]
      simp [hlt, piC]
    · have h7 : piC (if k = i then (⟨(L.getD k default).len, (L.getD k default).lo, z⟩ : Pi) else L.getD i default) j = piC (L.getD i default) j := by
        by_cases e1 : k = i
        · subst e1
          rw [if_pos rfl]
          match j, hj, e with
          | 0, _, _ => rfl
          | 1, _, _ => rfl
          | 2, _, e => omega
        · rw [if_neg e1]
      rw [h7]
      simp [e, h6]
theorem take_nx {α : Type} [Inhabited α] (L : List α) {k : Nat} (h : k < L.length) : L.take (k + 1) = L.take k ++ [L.getD k default] := by
  rw [List.take_succ_eq_append_getElem h, List.getD, List.getElem?_eq_getElem h]; rfl
theorem row_setX {base e size n P o : Nat} {w : World} {v u : Value} {xs : List Value} (h : w.ownsRow base e size v n xs) (hne : ∀ t, v.ownBlock = some t → t ≠ P) : (w.setCell ⟨P, o, none⟩ u).ownsRow base e size v n xs := by
  refine ⟨h.1, ?_⟩
  rcases h.2 with h | ⟨g, cap, cur, e1, h1, h2, h3⟩
  · exact .inl h
  · exact .inr ⟨g, cap, cur, e1, h1, (set_other w P o g u (fun e => hne g (by rw [e1]; rfl) e)).trans h2, h3⟩
theorem two_hears (W : World) (base X : Nat) {v1 v2 : Value} {n : Nat} {F1 F2 : List Value} (h1 : W.ownsRow base 26 4 v1 n F1) (h2 : W.ownsRow base 26 4 v2 n F2) (hap : Apart v1 v2) {p q lo hi : Int} (hX : W.heap[X]? = some (.cells #[.int .i64 p, .int .i64 q, .int .i64 lo, .int .i64 hi] 26 (0, 0))) (hX1 : ∀ g, v1.ownBlock = some g → g ≠ X) (hX2 : ∀ g, v2.ownBlock = some g → g ≠ X) (hXb : base ≤ X) (z0 z1 z2 z3 mn : Int) (hl : n ≤ 1000) (hbase : base ≤ W.heap.size) :
    ∃ g1 c1 Wb g2 c2 Wd, (Builtin.append_ #[37, 37] 37 #[v1, .slice (some ⟨W.heap.size, 0, none⟩) 1 1]).run Try.prog (W.alloc (.cells #[.int .i64 z0, .int .i64 z1, .int .i64 z2, .int .i64 z3] 26)) = .ok (.slice (some ⟨g1, 0, none⟩) (n + 1) c1) Wb ∧
      Wb.heap[X]? = some (.cells #[.int .i64 p, .int .i64 q, .int .i64 lo, .int .i64 hi] 26 (0, 0)) ∧
      (Wb.setCell ⟨X, 2, none⟩ (.int .i64 mn)).heap[X]? = some (.cells #[.int .i64 p, .int .i64 q, .int .i64 mn, .int .i64 hi] 26 (0, 0)) ∧
      (Builtin.append_ #[37, 37] 37 #[v2, .slice (some ⟨(Wb.setCell ⟨X, 2, none⟩ (.int .i64 mn)).heap.size, 0, none⟩) 1 1]).run Try.prog ((Wb.setCell ⟨X, 2, none⟩ (.int .i64 mn)).alloc (.cells #[.int .i64 p, .int .i64 q, .int .i64 mn, .int .i64 hi] 26)) = .ok (.slice (some ⟨g2, 0, none⟩) (n + 1) c2) Wd ∧
      Wd.ownsRow base 26 4 (.slice (some ⟨g1, 0, none⟩) (n + 1) c1) (n + 1) (F1 ++ [.int .i64 z0, .int .i64 z1, .int .i64 z2, .int .i64 z3]) ∧ Wd.ownsRow base 26 4 (.slice (some ⟨g2, 0, none⟩) (n + 1) c2) (n + 1) (F2 ++ [.int .i64 p, .int .i64 q, .int .i64 mn, .int .i64 hi]) ∧
      Apart (.slice (some ⟨g1, 0, none⟩) (n + 1) c1) (.slice (some ⟨g2, 0, none⟩) (n + 1) c2) ∧ Below base W Wd := by
  have hXl : X < W.heap.size := (Array.getElem?_eq_some_iff.1 hX).1
  obtain ⟨WA, hWA⟩ : ∃ X, X = W.alloc (.cells #[.int .i64 z0, .int .i64 z1, .int .i64 z2, .int .i64 z3] 26) := ⟨_, rfl⟩
  have hbA : Below W.heap.size W WA := by rw [hWA]; exact (Below.refl _ _).alloc (Nat.le_refl _) _
  have hqA : WA.heap[W.heap.size]? = some (.cells #[.int .i64 z0, .int .i64 z1, .int .i64 z2, .int .i64 z3] 26 (0, 0)) := by rw [hWA]; exact alloc_heap W _
  have hsA : WA.heap.size = W.heap.size + 1 := by rw [hWA]; simp
  obtain ⟨g1, c1, Wb, r1, o1, gr1, loc1⟩ := run_four base W.heap.size (row_below h1 hbA) z0 z1 z2 z3 hqA hl (Nat.le_trans hbase hbA.size)
  have hap2 : v2.ownBlock = none ∨ v2.ownBlock ≠ v1.ownBlock := by
    cases e : v2.ownBlock with
    | none => exact .inl rfl
    | some g => exact .inr (fun e2 => hap g e2.symm e)
  have h2b := (row_below h2 hbA).kept gr1 hap2
  have hXb2 : Wb.heap[X]? = some (.cells #[.int .i64 p, .int .i64 q, .int .i64 lo, .int .i64 hi] 26 (0, 0)) := (gr1.block X (by omega) (fun e => hX1 X e.symm rfl)).trans (box_step (w0 := W) hX hbA)
  have hsb : WA.heap.size ≤ Wb.heap.size := gr1.size
  have hg1b : g1 < Wb.heap.size := (o1.lt g1 rfl).2
  have hg1X : g1 ≠ X := by
    rcases loc1 with h | h
    · exact hX1 g1 h
    · omega
  obtain ⟨Wm, hWm⟩ : ∃ Z, Z = Wb.setCell ⟨X, 2, none⟩ (.int .i64 mn) := ⟨_, rfl⟩
  have hXm : Wm.heap[X]? = some (.cells #[.int .i64 p, .int .i64 q, .int .i64 mn, .int .i64 hi] 26 (0, 0)) := by rw [hWm]; simpa using heap_setCell_same Wb X 2 _ 26 (.int .i64 mn) hXb2
  have o1m : Wm.ownsRow base 26 4 (.slice (some ⟨g1, 0, none⟩) (n + 1) c1) (n + 1) (F1 ++ [.int .i64 z0, .int .i64 z1, .int .i64 z2, .int .i64 z3]) := by rw [hWm]; exact row_setX o1 (fun t ht => by have e := Option.some.inj ht; rw [← e]; exact hg1X)
  have h2m : Wm.ownsRow base 26 4 v2 n F2 := by rw [hWm]; exact row_setX h2b hX2
  have hsm : Wm.heap.size = Wb.heap.size := by rw [hWm]; simp
  obtain ⟨WC, hWC⟩ : ∃ Z, Z = Wm.alloc (.cells #[.int .i64 p, .int .i64 q, .int .i64 mn, .int .i64 hi] 26) := ⟨_, rfl⟩
  have hbC : Below Wm.heap.size Wm WC := by rw [hWC]; exact (Below.refl _ _).alloc (Nat.le_refl _) _
  have hqC : WC.heap[Wm.heap.size]? = some (.cells #[.int .i64 p, .int .i64 q, .int .i64 mn, .int .i64 hi] 26 (0, 0)) := by rw [hWC]; exact alloc_heap Wm _
  obtain ⟨g2, c2, Wd, r2, o2, gr2, loc2⟩ := run_four base Wm.heap.size (row_below h2m hbC) p q mn hi hqC hl (by have := hbA.size; have := hbC.size; omega)
  have hap3 : ∀ g, v2.ownBlock = some g → g1 ≠ g := fun g e e2 => by
    subst e2
    rcases loc1 with h | h
    · exact hap g1 h e
    · have := (h2.lt g1 e).2
      omega
  have hap4 : (Value.slice (some ⟨g1, 0, none⟩) (n + 1) c1).ownBlock = none ∨ (Value.slice (some ⟨g1, 0, none⟩) (n + 1) c1).ownBlock ≠ v2.ownBlock := .inr (fun e => hap3 g1 e.symm rfl)
  refine ⟨g1, c1, Wb, g2, c2, Wd, by rw [← hWA]; exact r1, hXb2, by rw [← hWm]; exact hXm, by rw [← hWm, ← hWC]; exact r2, (row_below o1m hbC).kept gr2 hap4, o2, ?_, ?_⟩
  · intro g e1 e2
    have e1' : g1 = g := Option.some.inj e1
    have e2' : g2 = g := Option.some.inj e2
    rcases loc2 with h | h
    · exact hap3 g2 h (by rw [e1', e2'])
    · have := hbC.size
      omega
  · have hB1 : Below base W Wb := (hbA.mono hbase).grown gr1 (Nat.le_trans hbase hbA.size) (fun t ht => (h1.lt t ht).1)
    have hbb : base ≤ Wb.heap.size := Nat.le_trans hbase hB1.size
    have hBm : Below base W Wm := by rw [hWm]; exact hB1.setCell (p := ⟨X, 2, none⟩) hXb _
    exact (hBm.trans (hbC.mono (by omega))).grown gr2 (by have := hbC.size; omega) (fun t ht => (h2.lt t ht).1)
/-- one number of a list of structs in memory is changed -/
theorem tab_set1 {w : World} {g c k : Nat} {cur : Array Value} {ty : TypeId} {L : List Pi} {z : Int} (hg : w.heap[g]? = some (.cells cur ty (0, 0))) (h : TabAt 3 piC w (.slice (some ⟨g, 0, none⟩) L.length c) L) (hk : k < L.length) : TabAt 3 piC (w.setCell ⟨g, k * 3 + 1, none⟩ (.int .i64 z)) (.slice (some ⟨g, 0, none⟩) L.length c) (L.set k ⟨(L.getD k default).len, z, (L.getD k default).hi⟩) := by
  obtain ⟨hl, ⟨rfl, _⟩ | ⟨b', off', cap, e, h1, h2, h3, h4⟩⟩ := h
  · simp at hk
  · simp only [Value.slice.injEq, Option.some.injEq, Addr.mk.injEq, and_true, true_and] at e
    obtain ⟨⟨rfl, rfl⟩, rfl⟩ := e
    have hs := heap_setCell_same w g (k * 3 + 1) _ ty (.int .i64 z) hg
    refine ⟨by rw [List.length_set]; exact hl, .inr ⟨g, 0, c, by rw [List.length_set], by rw [List.length_set]; exact h1, h2, (Array.getElem?_eq_some_iff.1 hs).1, fun i hi j hj => ?_⟩⟩
    rw [List.length_set] at hi
    have h5 := h4 i hi j hj
    rw [Nat.zero_add] at h5 ⊢
    have hgd : (L.set k ⟨(L.getD k default).len, z, (L.getD k default).hi⟩).getD i default = if k = i then ⟨(L.getD k default).len, z, (L.getD k default).hi⟩ else L.getD i default := by
      rw [List.getD, List.getD, List.getElem?_set]
      by_cases e : k = i
      · subst e; simp [hk]
      · simp [e]
    rw [hgd]
    have h6 : cur[i * 3 + j]? = some (.int .i64 (piC (L.getD i default) j)) := by simpa [World.cell?, hg] using h5
    have hlt : i * 3 + j < cur.size := (Array.getElem?_eq_some_iff.1 h6).1
    show World.cell? _ _ = _
    unfold World.cell?
    rw [hs]
    by_cases e : k * 3 + 1 = i * 3 + j
    · have e1 : k = i := by omega
      have e2 : j = 1 := by omega
      subst e1; subst e2
      rw [if_pos rfl]
      simp [hlt, piC]
    · have h7 : piC (if k = i then (⟨(L.getD k default).len, z, (L.getD k default).hi⟩ : Pi) else L.getD i default) j = piC (L.getD i default) j := by
        by_cases e1 : k = i
        · subst e1
          rw [if_pos rfl]
          match j, hj, e with
          | 0, _, _ => rfl
          | 1, _, e => omega
          | 2, _, _ => rfl
        · rw [if_neg e1]
      rw [h7]
      simp [e, h6]
theorem set_at {α : Type} [Inhabited α] (L : List α) {k : Nat} (hk : k < L.length) (z : α) (i : Nat) : (L.set k z).getD i default = if k = i then z else L.getD i default := by
  rw [List.getD, List.getD, List.getElem?_set]
  by_cases e : k = i
  · subst e; simp [hk]
  · simp [e]
theorem tab_set2 {w : World} {g c k : Nat} {cur : Array Value} {ty : TypeId} {L : List Pi} {y z : Int} (hg : w.heap[g]? = some (.cells cur ty (0, 0))) (h : TabAt 3 piC w (.slice (some ⟨g, 0, none⟩) L.length c) L) (hk : k < L.length) : TabAt 3 piC ((w.setCell ⟨g, k * 3 + 1, none⟩ (.int .i64 y)).setCell ⟨g, k * 3 + 2, none⟩ (.int .i64 z)) (.slice (some ⟨g, 0, none⟩) L.length c) (L.set k ⟨(L.getD k default).len, y, z⟩) := by
  have h1 := tab_set1 (z := y) hg h hk
  have hl : (L.set k ⟨(L.getD k default).len, y, (L.getD k default).hi⟩).length = L.length := List.length_set
  have hg1 := heap_setCell_same w g (k * 3 + 1) _ ty (.int .i64 y) hg
  rw [← hl] at h1
  have h2 := tab_set (z := z) hg1 h1 (by rw [hl]; exact hk)
  rw [hl, set_at L hk, if_pos rfl, List.set_set] at h2
  exact h2
end Go.Proofs.Ytdbjifpnbghbaaa
