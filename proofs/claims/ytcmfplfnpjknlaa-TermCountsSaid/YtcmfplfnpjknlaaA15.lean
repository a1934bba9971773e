/- Term: contract of enterProofs. -/
import Derived.Test.YtcmfplfnpjknlaaA14
namespace Go.Proofs.Ytcmfplfnpjknlaa
set_option linter.unusedSimpArgs false
set_option linter.unusedVariables false
open Go.RowKit Go.Shelf
attribute [local go_sem] Oper.semAt_some

def foldT (s : Stk) (ts : List (Int × Int)) (pre : List Nat) : List (Int × Int) := pre.foldl (fun ts x => afterF s ts s.ps[cl s.ps x]!) ts
def tsF (s : Stk) (pre : List Nat) : List (Int × Int) := foldT s (beginF s) pre
theorem foldT_snoc (s : Stk) (ts : List (Int × Int)) (pre : List Nat) (x : Nat) : foldT s ts (pre ++ [x]) = afterF s (foldT s ts pre) s.ps[cl s.ps x]! := by simp [foldT]
def okF (s : Stk) (ts : List (Int × Int)) (pre : List Nat) : Prop := ∀ k, k < pre.length → prfErr s (foldT s ts (pre.take k)) s.ps[cl s.ps pre[k]!]! = 0
theorem okF_nil (s : Stk) (ts : List (Int × Int)) : okF s ts [] := fun k hk => by simp at hk
theorem okF_snoc {s : Stk} {ts : List (Int × Int)} {pre : List Nat} {x : Nat} (h : okF s ts pre) (h1 : prfErr s (foldT s ts pre) s.ps[cl s.ps x]! = 0) : okF s ts (pre ++ [x]) := fun k hk => by
  rw [List.length_append, List.length_singleton] at hk
  by_cases e : k = pre.length
  · subst e
    have e1 : (pre ++ [x])[pre.length]! = x := by rw [getElem!_pos (pre ++ [x]) pre.length (by simp)]; simp
    rw [e1, List.take_left' rfl]; exact h1
  · have hk2 : k < pre.length := by omega
    have := h k hk2
    rw [getElem!_pos pre k hk2] at this
    rw [List.take_append_of_le_length (by omega), getElem!_pos _ k (by simp; omega), List.getElem_append_left hk2]
    exact this
theorem okF_cons {s : Stk} {ts : List (Int × Int)} {pre : List Nat} {x : Nat} (h : okF s ts (x :: pre)) : prfErr s ts s.ps[cl s.ps x]! = 0 ∧ okF s (afterF s ts s.ps[cl s.ps x]!) pre :=
  ⟨by simpa [foldT] using h 0 (by simp), fun k hk => by simpa [foldT] using h (k + 1) (by simpa using hk)⟩
theorem cl_same {ps : List Prf} {x : Nat} (h : x < ps.length) : cl ps x = x := by unfold cl; omega
theorem run_ok {s : Stk} : ∀ (xs : List Nat) (ts : List (Int × Int)), (∀ x ∈ xs, x < s.ps.length) → okF s ts xs → runF s xs ts = (0, 0, foldT s ts xs)
  | [], ts, _, _ => rfl
  | x :: xs, ts, hl, h => by
    obtain ⟨h1, h2⟩ := okF_cons h
    have hx := cl_same (hl x (by simp))
    rw [hx] at h1 h2
    rw [runF, if_pos h1, run_ok xs _ (fun y hy => hl y (by simp [hy])) h2]
    simp [foldT, hx]
theorem run_stop {s : Stk} : ∀ (xs : List Nat) (x : Nat) (r : List Nat) (ts : List (Int × Int)), (∀ y ∈ xs ++ x :: r, y < s.ps.length) → okF s ts xs → prfErr s (foldT s ts xs) s.ps[cl s.ps x]! ≠ 0 → runF s (xs ++ x :: r) ts = (x, prfErr s (foldT s ts xs) s.ps[cl s.ps x]!, [])
  | [], x, r, ts, hl, _, h => by
    have hx := cl_same (hl x (by simp))
    rw [hx] at h ⊢
    rw [List.nil_append, runF, if_neg (by simpa [foldT] using h)]
    simp [foldT]
  | y :: xs, x, r, ts, hl, ho, h => by
    obtain ⟨h1, h2⟩ := okF_cons ho
    have hy := cl_same (hl y (by simp))
    rw [List.cons_append, runF, if_pos (by rw [hy] at h1; exact h1)]
    have h3 : foldT s ts (y :: xs) = foldT s (afterF s ts s.ps[y]!) xs := by simp [foldT, hy]
    rw [h3] at h ⊢
    rw [hy] at h2
    exact run_stop xs x r _ (fun z hz => hl z (by rw [List.cons_append]; exact List.mem_cons_of_mem _ hz)) h2 h
/-- terms that can be -/
def TsOk (s : Stk) (ts : List (Int × Int)) : Prop := ts.length = s.rs.length ∧ ∀ i, i < s.rs.length → 0 ≤ ts[i]!.1 ∧ ts[i]!.1 ≤ 142000 + 10000 * ts[i]!.2 ∧ 0 ≤ ts[i]!.2 ∧ ts[i]!.2 ≤ 4
theorem clsOk_of {s : Stk} (h : stkOk s = true) {c : Nat} (hc : c < s.cs.length) : 1 ≤ s.cs[c]!.term ∧ s.cs[c]!.term ≤ 10000 ∧ 1 ≤ s.cs[c]!.more ∧ s.cs[c]!.more ≤ 10000 ∧ 0 ≤ s.cs[c]!.times ∧ s.cs[c]!.times ≤ 4 ∧ 0 ≤ s.cs[c]!.fail ∧ s.cs[c]!.fail ≤ 20 := by
  unfold stkOk at h
  simp only [Bool.and_eq_true, List.all_eq_true] at h
  have h4 := h.2.1 s.cs[c]! (by rw [getElem!_pos s.cs _ hc]; exact List.getElem_mem hc)
  unfold clsOk at h4
  simp only [Bool.and_eq_true, inF_iff] at h4
  omega
theorem prfOk_of {s : Stk} (h : stkOk s = true) {k : Nat} (hk : k < s.ps.length) : ∃ c : Nat, s.ps[k]!.cls = c ∧ c < s.cs.length ∧ 0 ≤ s.ps[k]!.day ∧ s.ps[k]!.day ≤ 131072 ∧ 0 ≤ s.ps[k]!.failed ∧ s.ps[k]!.failed < 1048576 ∧ ∀ x ∈ s.ps[k]!.seals, 1 ≤ x ∧ x ≤ 1000000 := by
  unfold stkOk at h
  simp only [Bool.and_eq_true, List.all_eq_true] at h
  have h3 := h.2.2.2.1 s.ps[k]! (by rw [getElem!_pos s.ps k hk]; exact List.getElem_mem hk)
  unfold prfOk at h3
  simp only [Bool.and_eq_true, inF_iff, List.all_eq_true] at h3
  obtain ⟨a, b, c, d, e⟩ := h3
  have hp : (2 : Int) ^ s.ps[k]!.seals.length ≤ 2 ^ 20 := by
    have := Nat.pow_le_pow_right (n := 2) (by omega) (show s.ps[k]!.seals.length ≤ 20 by omega)
    exact_mod_cast this
  exact ⟨s.ps[k]!.cls.toNat, by omega, by omega, d.1, d.2, e.1, by omega, b⟩
theorem tsOk_begin {s : Stk} (h : stkOk s = true) : TsOk s (beginF s) := by
  refine ⟨by simp [beginF], fun i hi => ?_⟩
  obtain ⟨c, hc, hcl, h1, h2, h3, h4, h5, h6, h7⟩ := rowOk_of h hi
  have : (beginF s)[i]! = (s.rs[i]!.day + s.cs[c]!.term, 0) := by
    rw [getElem!_pos _ i (by simpa [beginF] using hi)]
    unfold beginF
    rw [List.getElem_map, ← getElem!_pos s.rs i hi, hc, Int.toNat_natCast]
  rw [this]
  simp only []
  omega
theorem tsOk_after {s : Stk} (h : stkOk s = true) {ts : List (Int × Int)} (ht : TsOk s ts) {k : Nat} (hk : k < s.ps.length) : TsOk s (afterF s ts s.ps[k]!) := by
  obtain ⟨hl, hb⟩ := ht
  refine ⟨afterF_len hl _, fun i hi => ?_⟩
  obtain ⟨c, hc, hcl, h1, h2, _⟩ := prfOk_of h hk
  obtain ⟨c1, c2, c3, c4, c5, c6, c7, c8⟩ := clsOk_of h hcl
  rw [afterF_get hl _ hi, hc, Int.toNat_natCast]
  have hbi := hb i hi
  unfold stepF
  split
  · unfold provF
    split
    · exact hbi
    · split
      · simp only []; omega
      · split
        · simp only []; omega
        · exact hbi
  · exact hbi
theorem tsOk_fold {s : Stk} (h : stkOk s = true) (hn : 0 < s.ps.length) : ∀ (pre : List Nat) (ts : List (Int × Int)), TsOk s ts → TsOk s (foldT s ts pre)
  | [], ts, ht => ht
  | x :: pre, ts, ht => by
    have : foldT s ts (x :: pre) = foldT s (afterF s ts s.ps[cl s.ps x]!) pre := by simp [foldT]
    rw [this]
    exact tsOk_fold h hn pre _ (tsOk_after h ht (by unfold cl; omega))
def prfR (s : Stk) : Nat × Int × List (Int × Int) := runF s (orderF s.ps s.ps.length) (beginF s)
def ProofsEntered (w0 w : World) (s : Stk) (cv rv pv bv : Value) (R M : Nat) (G : Value) (ptrs : List Nat) (e : Ending) (w' : World) : Prop :=
  e = .returned (.tuple #[.int .i64 (prfR s).1, .int .i64 (prfR s).2.1]) ∧ Below w0.heap.size w0 w' ∧ K87 w w' ∧ ((prfR s).2.1 = 0 → RecAt w0.heap.size cv rv pv bv R M w' G ptrs (rowsT s (prfR s).2.2) s.bs)
theorem happ_any (R : Nat) (w : World) : Calls Try.prog 53 #[.pointer (some ⟨R, 0, none⟩)] w fun e w' => e = .returned (.func (.func 57) #[] #[.pointer (some ⟨w.heap.size, 0, none⟩)]) ∧ w' = w.alloc (.cells #[.pointer (some ⟨R, 0, none⟩)] 59) := by
  go_enter Try.func53, Try.ntmps53
  go_wp2
  go_ret
  exact ⟨rfl, rfl⟩
def epAct (R H x Bq : Nat) (pvv : Value) : Act :=
  { tmps := #[.pointer (some ⟨R, 0, none⟩), .pointer (some ⟨H, 0, none⟩), .pointer (some ⟨H + 1, 0, none⟩), .pointer (some ⟨H + 1 + 1, 0, none⟩), .int .i64 ((x : Nat) : Int), .pointer (some ⟨Bq, 0, none⟩), undef, undef, undef, .pointer (some ⟨R, 0, none⟩),
      .func (.func 57) #[] #[.pointer (some ⟨H + 3, 0, none⟩)], .int .i64 ((x : Nat) : Int), pvv, undef, undef, undef, undef, undef, undef, undef, undef, undef, undef, undef, undef, undef, undef, undef, undef, undef, undef, undef, undef, undef, undef, undef, undef, undef, undef, undef, undef, undef, undef, undef, undef, undef, undef, undef, undef, undef], defers := [] }
end Go.Proofs.Ytcmfplfnpjknlaa
