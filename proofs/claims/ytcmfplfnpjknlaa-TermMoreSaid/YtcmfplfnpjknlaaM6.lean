/- Term: a proof more, after all others (the mathematics of TermMore). -/
import Derived.Test.YtcmfplfnpjknlaaM4
namespace Go.Proofs.Ytcmfplfnpjknlaa
set_option linter.unusedSimpArgs false
set_option linter.unusedVariables false
open Go.RowKit

theorem bang_app {ps : List Prf} {p : Prf} {i : Nat} (hi : i < ps.length) : (ps ++ [p])[i]! = ps[i]! := by
  rw [getElem!_pos _ i (by simp; omega), getElem!_pos _ i hi, List.getElem_append_left hi]
theorem bang_last {ps : List Prf} {p : Prf} : (ps ++ [p])[ps.length]! = p := by
  rw [getElem!_pos _ ps.length (by simp)]; simp
theorem putF_app {ps : List Prf} {p : Prf} {i : Nat} (hi : i < ps.length) : ∀ o : List Nat, (∀ j ∈ o, j < ps.length) → putF (ps ++ [p]) i o = putF ps i o
  | [], _ => rfl
  | j :: o, h => by
    unfold putF
    rw [bang_app hi, bang_app (h j (by simp)), putF_app hi o (fun k hk => h k (by simp [hk]))]
theorem ordR_app {ps : List Prf} {p : Prf} : ∀ n, n ≤ ps.length → ordR (ps ++ [p]) n = ordR ps n
  | 0, _ => rfl
  | n + 1, h => by
    unfold ordR
    rw [ordR_app n (by omega), putF_app (by omega) _ (fun j hj => by have := ordR_lt ps n j hj; omega)]
theorem order_app {ps : List Prf} {p : Prf} (hd : ∀ i, i < ps.length → ps[i]!.day ≤ p.day) : orderF (ps ++ [p]) (ps ++ [p]).length = orderF ps ps.length ++ [ps.length] := by
  rw [List.length_append, List.length_singleton]
  unfold orderF
  have h : ordR (ps ++ [p]) (ps.length + 1) = ps.length :: ordR ps ps.length := by
    show putF (ps ++ [p]) ps.length (ordR (ps ++ [p]) ps.length) = _
    rw [ordR_app ps.length (Nat.le_refl _)]
    cases ho : ordR ps ps.length with
    | nil => rfl
    | cons j o =>
      have hj : j < ps.length := ordR_lt ps ps.length j (by rw [ho]; simp)
      unfold putF
      rw [bang_last, bang_app hj, if_neg (by have := hd j hj; omega)]
  rw [h, List.reverse_cons]
theorem run_snoc {s : Stk} (i : Nat) : ∀ (o : List Nat) (ts : List (Int × Int)), (runF s (o ++ [i]) ts).2.1 = 0 → (runF s o ts).2.1 = 0 ∧ prfErr s (runF s o ts).2.2 s.ps[i]! = 0 ∧ (runF s (o ++ [i]) ts).2.2 = afterF s (runF s o ts).2.2 s.ps[i]!
  | [], ts, h => by
    rw [List.nil_append] at h ⊢
    by_cases hp : prfErr s ts s.ps[i]! = 0
    · refine ⟨rfl, hp, ?_⟩
      show (runF s [i] ts).2.2 = afterF s ts s.ps[i]!
      unfold runF
      rw [if_pos hp]
      rfl
    · unfold runF at h
      rw [if_neg hp] at h
      exact absurd h hp
  | j :: o, ts, h => by
    rw [List.cons_append] at h ⊢
    unfold runF at h ⊢
    by_cases hp : prfErr s ts s.ps[j]! = 0
    · rw [if_pos hp] at h ⊢
      rw [if_pos hp]
      exact run_snoc i o _ h
    · rw [if_neg hp] at h
      exact absurd h hp
def moreS (s : Stk) (p : Prf) : Stk := ⟨s.cs, s.rs, s.ps ++ [p], s.bs⟩
theorem run_more {s : Stk} {p : Prf} : ∀ (o : List Nat) (ts : List (Int × Int)), (∀ i ∈ o, i < s.ps.length) → runF (moreS s p) o ts = runF s o ts
  | [], _, _ => rfl
  | i :: o, ts, h => by
    have e : (moreS s p).ps[i]! = s.ps[i]! := bang_app (h i (by simp))
    unfold runF
    rw [e, run_more o _ (fun j hj => h j (by simp [hj]))]
    rfl
theorem stkOk_less {s : Stk} {p : Prf} (h : stkOk (moreS s p) = true) : stkOk s = true := by
  unfold stkOk moreS at *
  simp only [Bool.and_eq_true, decide_eq_true_eq, List.length_append, List.length_singleton, List.all_append] at h ⊢
  obtain ⟨⟨a, b, c, d⟩, e, f, ⟨g, _⟩, i⟩ := h
  exact ⟨⟨a, b, by omega, d⟩, e, f, g, i⟩
theorem more_right {s : Stk} {p : Prf} (hd : ∀ i, i < s.ps.length → s.ps[i]!.day ≤ p.day) (h : (termsF (moreS s p)).2.1 = 0) : (termsF s).2.1 = 0 ∧ (termsF (moreS s p)).2.2 = afterF s (termsF s).2.2 p := by
  obtain ⟨hok, h1, h2, h3⟩ := right_parts h
  have hok2 := stkOk_less hok
  have e : termsF s = prfR s := terms_ps hok2 h1 h2
  rw [h3] at h ⊢
  rw [e]
  unfold prfR at h ⊢
  have ho : orderF (moreS s p).ps (moreS s p).ps.length = orderF s.ps s.ps.length ++ [s.ps.length] := order_app hd
  rw [ho] at h ⊢
  obtain ⟨g1, _, g3⟩ := run_snoc _ _ _ h
  rw [run_more _ _ (orderF_lt s.ps s.ps.length)] at g1 g3
  have hl : (moreS s p).ps[s.ps.length]! = p := bang_last
  rw [hl] at g3
  exact ⟨g1, g3⟩
/-- TermMore: the two ends -/
theorem more_end {s : Stk} {p : Prf} {n : Int} (hd : ∀ i, i < s.ps.length → s.ps[i]!.day ≤ p.day) {b m : Int} (h : endF (moreS s p) n = (b, m, 0)) :
    ∃ k a t, rowIx s.rs n = some k ∧ k < s.rs.length ∧ stkOk (moreS s p) = true ∧ endF s n = (a, t, 0) ∧ 0 ≤ t ∧ t ≤ 4 ∧ 0 ≤ m ∧ m ≤ 5 ∧
      (b, m) = stepF s.cs[p.cls.toNat]! p s.rs[k]! (a, t) := by
  by_cases h0 : (termsF (moreS s p)).2.1 = 0
  · rw [end_good h0] at h
    cases hk : rowIx s.rs n with
    | none =>
      have hk' : rowIx (moreS s p).rs n = none := hk
      rw [hk'] at h
      simp at h
    | some k =>
      have hk' : rowIx (moreS s p).rs n = some k := hk
      rw [hk'] at h
      simp only [Prod.mk.injEq, and_true] at h
      obtain ⟨h1, h2⟩ := h
      obtain ⟨g0, g1⟩ := more_right hd h0
      obtain ⟨hok, _⟩ := right_parts h0
      obtain ⟨hok2, _⟩ := right_parts g0
      have hl := terms_tsOk hok2 g0
      obtain ⟨hkl, _⟩ := rowIx_lt hk
      have hts := hl.2 k hkl
      have hts2 := (terms_tsOk hok h0).2 k hkl
      rw [g1, afterF_get hl.1 p hkl] at h1 h2
      refine ⟨k, (termsF s).2.2[k]!.1, (termsF s).2.2[k]!.2, rfl, hkl, hok, ?_, hts.2.2.1, hts.2.2.2, ?_, ?_, ?_⟩
      · rw [end_good g0, hk]
      · rw [g1, afterF_get hl.1 p hkl, h2] at hts2; exact hts2.2.2.1
      · rw [g1, afterF_get hl.1 p hkl, h2] at hts2; omega
      · rw [← h1, ← h2]
  · rw [end_bad h0] at h
    simp only [Prod.mk.injEq, true_and] at h
    exact absurd h.2.2 h0
theorem more_other {s : Stk} {p : Prf} {r : Row} {a t b m : Int} {c : Cls} (h : (b, m) = stepF c p r (a, t)) (hc : ¬ r.cls = p.cls) : b = a ∧ m = t := by
  unfold stepF at h
  rw [if_neg hc] at h
  simp only [Prod.mk.injEq] at h
  exact h
theorem more_pass {p : Prf} {r : Row} {a t b m : Int} {c : Cls} (h : (b, m) = stepF c p r (a, t)) (hm : 0 ≤ c.more) (hp : failsF p ≤ c.fail) : a ≤ b ∧ t ≤ m ∧ m ≤ t + 1 := by
  have hn : ¬ c.fail < failsF p := Int.not_lt.2 hp
  unfold stepF at h
  split at h
  · unfold provF at h
    split at h
    · simp only [Prod.mk.injEq] at h; omega
    · split at h
      · simp only [Prod.mk.injEq] at h
        clear hn hp; omega
      · simp only [Prod.mk.injEq] at h
        clear hn hp; omega
  · simp only [Prod.mk.injEq] at h
    clear hn hp; omega
theorem more_fail {p : Prf} {r : Row} {a t b m : Int} {c : Cls} (h : (b, m) = stepF c p r (a, t)) (hp : ¬ failsF p ≤ c.fail) : b ≤ a ∧ m = t := by
  have hn : c.fail < failsF p := Int.not_le.1 hp
  unfold stepF at h
  split at h
  · unfold provF at h
    split at h
    · simp only [Prod.mk.injEq] at h; clear hn hp; omega
    · rename_i hst
      obtain ⟨h1, h2⟩ := stands_one (Decidable.not_not.1 hst)
      simp only [Prod.mk.injEq] at h
      simp only [] at h2
      clear hn hp hst; omega
  · simp only [Prod.mk.injEq] at h
    clear hn hp; omega
end Go.Proofs.Ytcmfplfnpjknlaa
