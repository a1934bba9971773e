/- Term: what a row's term is after all proofs (the mathematics of TermStands). -/
import Derived.Test.YtcmfplfnpjknlaaA18
namespace Go.Proofs.Ytcmfplfnpjknlaa
set_option linter.unusedSimpArgs false
set_option linter.unusedVariables false
open Go.RowKit

theorem firstErr_all {f : Nat → Int} : ∀ (n i : Nat), (firstErr f n i).2 = 0 → ∀ j, j < n → f (i + j) = 0
  | 0, _, _, _, hj => by omega
  | n + 1, i, h, j, hj => by
    unfold firstErr at h
    split at h
    · rename_i h1
      match j with
      | 0 => exact h1
      | j + 1 => have := firstErr_all n (i + 1) h j (by omega); rwa [show i + 1 + j = i + (j + 1) by omega] at this
    · rename_i h1; exact absurd h h1
theorem right_parts {s : Stk} (h0 : (termsF s).2.1 = 0) : stkOk s = true ∧ (rowsErr s).2 = 0 ∧ (bsErr s).2 = 0 ∧ termsF s = prfR s := by
  cases hok : stkOk s with
  | false => rw [terms_bad hok] at h0; simp at h0
  | true =>
    by_cases h1 : (rowsErr s).2 = 0
    · by_cases h2 : (bsErr s).2 = 0
      · exact ⟨rfl, h1, h2, terms_ps hok h1 h2⟩
      · rw [terms_bs hok h1 h2] at h0; exact absurd h0 h2
    · rw [terms_rows hok h1] at h0; exact absurd h0 h1
/-- what a proof makes of one row -/
def evoF (s : Stk) (r : Row) (t : Int × Int) (p : Prf) : Int × Int := stepF s.cs[p.cls.toNat]! p r t
theorem run_evo {s : Stk} : ∀ (o : List Nat) (ts : List (Int × Int)), ts.length = s.rs.length → (runF s o ts).2.1 = 0 → (runF s o ts).2.2.length = s.rs.length ∧ ∀ k, k < s.rs.length → (runF s o ts).2.2[k]! = o.foldl (fun t i => evoF s s.rs[k]! t s.ps[i]!) ts[k]!
  | [], ts, hl, _ => ⟨hl, fun k hk => rfl⟩
  | i :: o, ts, hl, h => by
    unfold runF at h ⊢
    split
    · rename_i h1; rw [if_pos h1] at h
      obtain ⟨h2, h3⟩ := run_evo o _ (afterF_len hl _) h
      refine ⟨h2, fun k hk => ?_⟩
      rw [h3 k hk, afterF_get hl _ hk]
      rfl
    · rename_i h1; rw [if_neg h1] at h; exact absurd h h1
theorem putF_perm (ps : List Prf) (i : Nat) : ∀ o : List Nat, List.Perm (putF ps i o) (i :: o)
  | [] => List.Perm.refl _
  | j :: o => by
    unfold putF
    split
    · exact ((putF_perm ps i o).cons j).trans (List.Perm.swap i j o)
    · exact List.Perm.refl _
theorem ordR_perm (ps : List Prf) : ∀ n, List.Perm (ordR ps n) (List.range n)
  | 0 => List.Perm.refl _
  | n + 1 => by
    rw [List.range_succ]
    refine (putF_perm ps n _).trans (((ordR_perm ps n).cons n).trans ?_)
    exact (List.perm_append_singleton n (List.range n)).symm
theorem orderF_perm (ps : List Prf) (n : Nat) : List.Perm (orderF ps n) (List.range n) := (List.reverse_perm _).trans (ordR_perm ps n)
theorem range_get {α : Type} [Inhabited α] (l : List α) : (List.range l.length).map (fun i => l[i]!) = l := by
  apply List.ext_getElem
  · simp
  · intro i h1 h2
    rw [List.getElem_map, List.getElem_range, getElem!_pos l i h2]
theorem order_count (ps : List Prf) (f : Prf → Bool) : (orderF ps ps.length).countP (fun i => f ps[i]!) = ps.countP f := by
  rw [(orderF_perm ps ps.length).countP_eq]
  have := congrArg (List.countP f) (range_get ps)
  rw [List.countP_map] at this
  exact this
/-- a proof of the row's class that comes while the row is on, and passes -/
def passP (r : Row) (fail : Int) (p : Prf) : Bool := decide (p.cls = r.cls) && (decide (r.day ≤ p.day) && decide (failsF p ≤ fail))
def endsP (more e : Int) (p : Prf) (n : Nat) : Bool := (List.range n).any (fun m => decide (e = p.day + 1 + m * more))
def failP (r : Row) (fail more : Int) (t : Int × Int) (p : Prf) : Bool := decide (p.cls = r.cls) && (decide (r.day ≤ p.day) && (!decide (failsF p ≤ fail) && endsP more t.1 p (t.2.toNat + 1)))
structure EvoOk (s : Stk) (r : Row) (c : Cls) (seen : List Nat) (t : Int × Int) : Prop where
  lo : 0 ≤ t.2
  hi : t.2 ≤ c.times
  few : t.2 ≤ (seen.countP (fun i => passP r c.fail s.ps[i]!) : Nat)
  end_ : (∃ i ∈ seen, s.ps[i]!.cls = r.cls ∧ r.day ≤ s.ps[i]!.day ∧ ¬ failsF s.ps[i]! ≤ c.fail ∧ ∃ m : Nat, (m : Int) ≤ t.2 ∧ t.1 = s.ps[i]!.day + 1 + m * c.more) ∨ t.1 = r.day + c.term + t.2 * c.more
  late : r.day < t.1
theorem stands_one {r : Row} {e day : Int} (h : standsF r e day = 1) : r.day ≤ day ∧ day < e := by
  unfold standsF at h
  split at h
  · omega
  · split at h
    · omega
    · omega
theorem evo_step {s : Stk} {r : Row} {c : Cls} {seen : List Nat} {t : Int × Int} (hm : 0 ≤ c.more) (h : EvoOk s r c seen t) {i : Nat} (hc : s.ps[i]!.cls = r.cls → s.cs[s.ps[i]!.cls.toNat]! = c) : EvoOk s r c (seen ++ [i]) (evoF s r t s.ps[i]!) := by
  obtain ⟨h1, h2, h3, h4, h5⟩ := h
  have hcnt : (seen ++ [i]).countP (fun i => passP r c.fail s.ps[i]!) = seen.countP (fun i => passP r c.fail s.ps[i]!) + (if passP r c.fail s.ps[i]! then 1 else 0) := by
    rw [List.countP_append]; simp [List.countP_cons]
  have hkeep : EvoOk s r c (seen ++ [i]) t := by
    refine ⟨h1, h2, ?_, ?_, h5⟩
    · have hle : seen.countP (fun i => passP r c.fail s.ps[i]!) ≤ (seen ++ [i]).countP (fun i => passP r c.fail s.ps[i]!) := by rw [hcnt]; exact Nat.le_add_right _ _
      clear hcnt h4; omega
    · rcases h4 with ⟨j, hj, h⟩ | h
      · exact .inl ⟨j, List.mem_append_left _ hj, h⟩
      · exact .inr h
  have hin : i ∈ seen ++ [i] := List.mem_append_right _ (List.mem_singleton.2 rfl)
  have hC : passP r c.fail s.ps[i]! = true → (seen ++ [i]).countP (fun i => passP r c.fail s.ps[i]!) = seen.countP (fun i => passP r c.fail s.ps[i]!) + 1 := fun hp => by rw [hcnt, if_pos hp]
  clear hcnt
  have hE : ∀ e : Int, s.ps[i]!.cls = r.cls → r.day ≤ s.ps[i]!.day → ¬ failsF s.ps[i]! ≤ c.fail → e = s.ps[i]!.day + 1 → EvoOk s r c (seen ++ [i]) (e, t.2) := fun e e1 e2 e3 e4 =>
    ⟨h1, h2, hkeep.few, .inl ⟨i, hin, e1, e2, e3, 0, h1, by rw [e4]; simp⟩, by show r.day < e; rw [e4]; exact Int.lt_add_one_of_le e2⟩
  obtain ⟨p, hp⟩ : ∃ p, s.ps[i]! = p := ⟨_, rfl⟩
  rw [hp] at hc hE hC ⊢
  unfold evoF stepF
  split
  · rename_i he
    have hce := hc he.symm
    rw [hce]
    unfold provF
    split
    · exact hkeep
    · rename_i hst
      obtain ⟨hd1, hd2⟩ := stands_one (Decidable.not_not.1 hst)
      split
      · rename_i hf
        exact hE _ he.symm hd1 (Int.not_le.2 hf) rfl
      · rename_i hf
        split
        · rename_i ht
          have hpp : passP r c.fail p = true := by
            unfold passP; simp only [Bool.and_eq_true, decide_eq_true_eq]
            exact ⟨he.symm, hd1, Int.not_lt.1 hf⟩
          refine ⟨Int.add_nonneg h1 (by decide), Int.add_one_le_of_lt ht, ?_, ?_, Int.lt_of_lt_of_le h5 (Int.le_add_of_nonneg_right hm)⟩
          · rw [hC hpp]; show t.2 + 1 ≤ _; push_cast; exact Int.add_le_add_right h3 1
          · rcases h4 with ⟨j, hj, g1, g2, g3, m, g4, g5⟩ | h
            · refine .inl ⟨j, List.mem_append_left _ hj, g1, g2, g3, m + 1, by show _ ≤ t.2 + 1; push_cast; exact Int.add_le_add_right g4 1, ?_⟩
              show t.1 + c.more = _
              rw [g5]; push_cast; rw [Int.add_mul]; omega
            · refine .inr ?_
              show t.1 + c.more = r.day + c.term + (t.2 + 1) * c.more
              rw [h, Int.add_mul]; omega
        · exact hkeep
  · exact hkeep
theorem evo_all {s : Stk} {r : Row} {c : Cls} (hm : 0 ≤ c.more) : ∀ (o seen : List Nat) (t : Int × Int), EvoOk s r c seen t → (∀ i ∈ o, s.ps[i]!.cls = r.cls → s.cs[s.ps[i]!.cls.toNat]! = c) → EvoOk s r c (seen ++ o) (o.foldl (fun t i => evoF s r t s.ps[i]!) t)
  | [], seen, t, h, _ => by simpa using h
  | i :: o, seen, t, h, hc => by
    have := evo_all hm o (seen ++ [i]) _ (evo_step hm h (hc i (by simp))) (fun j hj => hc j (by simp [hj]))
    simpa [List.append_assoc] using this
theorem begin_get {s : Stk} {i : Nat} (hi : i < s.rs.length) : (beginF s)[i]! = (s.rs[i]!.day + s.cs[s.rs[i]!.cls.toNat]!.term, 0) := by
  rw [getElem!_pos _ i (by simpa [beginF] using hi)]
  unfold beginF
  rw [List.getElem_map, ← getElem!_pos s.rs i hi]
/-- TermStands: what is said of the term of a row -/
theorem stands_math {s : Stk} (h0 : (termsF s).2.1 = 0) {k : Nat} (hk : k < s.rs.length) :
    let t := (termsF s).2.2[k]!
    let r := s.rs[k]!
    let c := s.cs[r.cls.toNat]!
    0 ≤ t.2 ∧ t.2 ≤ c.times ∧ t.2 ≤ (s.ps.countP (passP r c.fail) : Nat) ∧ (s.ps.any (failP r c.fail c.more t) = true ∨ t.1 = r.day + c.term + t.2 * c.more) ∧ r.day < t.1 := by
  intro t r c
  obtain ⟨hok, h1, h2, h3⟩ := right_parts h0
  obtain ⟨cl, hcl, hcl2, q1, q2, q3, q4, q5, q6, q7⟩ := rowOk_of hok hk
  obtain ⟨p1, p2, p3, p4, p5, p6, p7, p8⟩ := clsOk_of hok hcl2
  have hcc : s.rs[k]!.cls.toNat = cl := by rw [hcl, Int.toNat_natCast]
  have hbl : (beginF s).length = s.rs.length := by simp [beginF]
  rw [h3] at h0
  have ht : t = (orderF s.ps s.ps.length).foldl (fun t i => evoF s r t s.ps[i]!) (beginF s)[k]! := by
    show (termsF s).2.2[k]! = _
    rw [h3]
    exact (run_evo _ _ hbl h0).2 k hk
  have hb0 : EvoOk s r c [] (beginF s)[k]! := by
    rw [begin_get hk]
    refine ⟨by simp, ?_, by simp, .inr (by simp [r, c]), ?_⟩
    · show (0 : Int) ≤ s.cs[s.rs[k]!.cls.toNat]!.times; rw [hcc]; exact p5
    · show s.rs[k]!.day < s.rs[k]!.day + s.cs[s.rs[k]!.cls.toNat]!.term; rw [hcc]; omega
  have hall := evo_all (s := s) (r := r) (c := c) (by show (0 : Int) ≤ s.cs[s.rs[k]!.cls.toNat]!.more; rw [hcc]; omega) (orderF s.ps s.ps.length) [] _ hb0 (fun i _ he => by show s.cs[_]! = s.cs[s.rs[k]!.cls.toNat]!; rw [he])
  rw [← ht, List.nil_append] at hall
  refine ⟨hall.lo, hall.hi, ?_, ?_, hall.late⟩
  · have := hall.few
    rwa [order_count s.ps (passP r c.fail)] at this
  · rcases hall.end_ with ⟨i, hi, g1, g2, g3, m, g4, g5⟩ | h
    · left
      rw [List.any_eq_true]
      have hil := orderF_lt s.ps s.ps.length i hi
      refine ⟨s.ps[i]!, by rw [getElem!_pos s.ps i hil]; exact List.getElem_mem hil, ?_⟩
      unfold failP endsP
      simp only [Bool.and_eq_true, decide_eq_true_eq, Bool.not_eq_true', decide_eq_false_iff_not, List.any_eq_true, List.mem_range]
      exact ⟨g1, g2, g3, m, by have := hall.lo; omega, g5⟩
    · exact .inr h
theorem brk_at {s : Stk} (h0 : (termsF s).2.1 = 0) {i : Nat} (hi : i < s.bs.length) : ∃ k, rowIx s.rs s.bs[i]!.1 = some k ∧ s.rs[k]!.day ≤ s.bs[i]!.2 ∧ (s.bs.take i).any (fun b => b.1 == s.bs[i]!.1) = false := by
  obtain ⟨hok, h1, h2, h3⟩ := right_parts h0
  have h := firstErr_all _ _ h2 i hi
  rw [Nat.zero_add] at h
  unfold brkErr at h
  split at h
  · omega
  · rename_i k hk
    refine ⟨k, hk, ?_⟩
    split at h
    · omega
    · rename_i hn
      split at h
      · omega
      · exact ⟨by omega, by cases hx : (s.bs.take i).any (fun b => b.1 == s.bs[i]!.1) with | true => exact absurd hx hn | false => rfl⟩
theorem brkDay_at {bs : List (Int × Int)} {n d : Int} (h : brkDay bs n = some d) : ∃ i, i < bs.length ∧ bs[i]! = (n, d) := by
  unfold brkDay at h
  rw [Option.map_eq_some_iff] at h
  obtain ⟨⟨a, b⟩, h, rfl⟩ := h
  have hm := List.mem_of_find?_eq_some h
  have hp := List.find?_some h
  simp only [beq_iff_eq] at hp
  obtain ⟨i, hi, he⟩ := List.getElem_of_mem hm
  refine ⟨i, hi, ?_⟩
  rw [getElem!_pos bs i hi, he, hp]
theorem brk_late {s : Stk} (h0 : (termsF s).2.1 = 0) {n day : Int} {k : Nat} (hk : rowIx s.rs n = some k) (hb : brkBy s.bs n day = true) : s.rs[k]!.day ≤ day := by
  unfold brkBy at hb
  split at hb
  · rename_i d hd
    obtain ⟨i, hi, he⟩ := brkDay_at hd
    obtain ⟨k', hk', hd', _⟩ := brk_at h0 hi
    rw [he] at hk' hd'
    simp only [] at hk' hd'
    rw [hk] at hk'
    cases hk'
    simp at hb
    omega
  · simp at hb
end Go.Proofs.Ytcmfplfnpjknlaa
