/- Term: a stock in another order, a row cut in two (the mathematics of TermOrder). -/
import Derived.Test.YtcmfplfnpjknlaaM5
namespace Go.Proofs.Ytcmfplfnpjknlaa
set_option linter.unusedSimpArgs false
set_option linter.unusedVariables false
open Go.RowKit

/-- class and day of a row: all that its term hangs on -/
abbrev CD := Int × Int
def cdOf (r : Row) : CD := (r.cls, r.day)
def stepC (cs : List Cls) (r : CD) (t : Int × Int) (p : Prf) : Int × Int :=
  if r.1 = p.cls then
    (if (if p.day < r.2 then (0 : Int) else if p.day < t.1 then 1 else 2) ≠ 1 then t else if cs[p.cls.toNat]!.fail < failsF p then (p.day + 1, t.2) else if t.2 < cs[p.cls.toNat]!.times then (t.1 + cs[p.cls.toNat]!.more, t.2 + 1) else t)
  else t
theorem stepC_eq (s : Stk) (r : Row) (t : Int × Int) (p : Prf) : evoF s r t p = stepC s.cs (cdOf r) t p := rfl
def begC (cs : List Cls) (r : CD) : Int × Int := (r.2 + cs[r.1.toNat]!.term, 0)
/-- the term of a row after some proofs -/
def termC (cs : List Cls) (done : List Prf) (r : CD) : Int × Int := done.foldl (stepC cs r) (begC cs r)
theorem termC_snoc (cs : List Cls) (done : List Prf) (p : Prf) (r : CD) : termC cs (done ++ [p]) r = stepC cs r (termC cs done r) p := by
  unfold termC; rw [List.foldl_append]; rfl
/-- the row of a seal -/
def viewF (rs : List Row) (n : Int) : Option CD := (rowIx rs n).map (fun k => cdOf rs[k]!)
def standC (bs : List (Int × Int)) (r : CD) (e n day : Int) : Int := if brkBy bs n day then 3 else (if day < r.2 then 0 else if day < e then 1 else 2)
def sealErrC (cs : List Cls) (V : Int → Option CD) (bs : List (Int × Int)) (done : List Prf) (p : Prf) (i : Nat) : Int :=
  match V p.seals[i]! with
  | none => 4
  | some r => if r.1 ≠ p.cls then 11 else if (p.seals.take i).contains p.seals[i]! then 5 else if standC bs r (termC cs done r).1 p.seals[i]! p.day ≠ 1 then 6 else 0
def prfErrC (cs : List Cls) (V : Int → Option CD) (bs : List (Int × Int)) (done : List Prf) (p : Prf) : Int := (firstErr (sealErrC cs V bs done p) p.seals.length 0).2
/-- all proofs are right, one after the other -/
def allC (cs : List Cls) (V : Int → Option CD) (bs : List (Int × Int)) : List Prf → List Prf → Prop
  | _, [] => True
  | done, p :: l => prfErrC cs V bs done p = 0 ∧ allC cs V bs (done ++ [p]) l
def tsC (s : Stk) (done : List Prf) : List (Int × Int) := s.rs.map (fun r => termC s.cs done (cdOf r))
theorem tsC_nil (s : Stk) : tsC s [] = beginF s := rfl
theorem tsC_len (s : Stk) (done : List Prf) : (tsC s done).length = s.rs.length := by simp [tsC]
theorem tsC_get (s : Stk) (done : List Prf) {k : Nat} (hk : k < s.rs.length) : (tsC s done)[k]! = termC s.cs done (cdOf s.rs[k]!) := by
  rw [getElem!_pos _ k (by rw [tsC_len]; exact hk), getElem!_pos s.rs k hk]
  simp [tsC]
theorem tsC_after (s : Stk) (done : List Prf) (p : Prf) : afterF s (tsC s done) p = tsC s (done ++ [p]) := by
  apply List.ext_getElem
  · rw [afterF_len (tsC_len s done), tsC_len]
  · intro i h1 h2
    have hi : i < s.rs.length := by rw [tsC_len] at h2; exact h2
    have e1 := afterF_get (tsC_len s done) p hi
    have e2 := tsC_get s (done ++ [p]) hi
    rw [getElem!_pos _ i h1] at e1
    rw [getElem!_pos _ i h2] at e2
    rw [e1, e2, tsC_get s done hi, termC_snoc]
    exact stepC_eq s _ _ p
theorem sealErr_view (s : Stk) (done : List Prf) (p : Prf) (i : Nat) : sealErr s (tsC s done) p i = sealErrC s.cs (viewF s.rs) s.bs done p i := by
  unfold sealErr sealErrC viewF
  cases hk : rowIx s.rs p.seals[i]! with
  | none => rfl
  | some k =>
    have hl := (rowIx_lt hk).1
    show (if s.rs[k]!.cls ≠ p.cls then (11 : Int) else _) = (if (cdOf s.rs[k]!).1 ≠ p.cls then 11 else _)
    rw [tsC_get s done hl]
    rfl
theorem prfErr_view (s : Stk) (done : List Prf) (p : Prf) : prfErr s (tsC s done) p = prfErrC s.cs (viewF s.rs) s.bs done p := by
  unfold prfErr prfErrC
  rw [show sealErr s (tsC s done) p = sealErrC s.cs (viewF s.rs) s.bs done p from funext (sealErr_view s done p)]
theorem run_view (s : Stk) : ∀ (o : List Nat) (done : List Prf), ((runF s o (tsC s done)).2.1 = 0 ↔ allC s.cs (viewF s.rs) s.bs done (o.map (fun i => s.ps[i]!))) ∧ (allC s.cs (viewF s.rs) s.bs done (o.map (fun i => s.ps[i]!)) → (runF s o (tsC s done)).2.2 = tsC s (done ++ o.map (fun i => s.ps[i]!)))
  | [], done => by simp [runF, allC]
  | i :: o, done => by
    obtain ⟨h1, h2⟩ := run_view s o (done ++ [s.ps[i]!])
    have e : runF s (i :: o) (tsC s done) = if prfErrC s.cs (viewF s.rs) s.bs done s.ps[i]! = 0 then runF s o (tsC s (done ++ [s.ps[i]!])) else (i, prfErrC s.cs (viewF s.rs) s.bs done s.ps[i]!, []) := by
      conv => lhs; unfold runF
      rw [prfErr_view, tsC_after]
    rw [e]
    by_cases hp : prfErrC s.cs (viewF s.rs) s.bs done s.ps[i]! = 0
    · rw [if_pos hp]
      refine ⟨?_, fun h => ?_⟩
      · rw [h1]; exact ⟨fun h => ⟨hp, h⟩, fun h => h.2⟩
      · rw [h2 h.2]; simp
    · rw [if_neg hp]
      exact ⟨⟨fun h => absurd h hp, fun h => absurd h.1 hp⟩, fun h => absurd h.1 hp⟩
/-- the proofs as they come -/
def comeF (s : Stk) : List Prf := (orderF s.ps s.ps.length).map (fun i => s.ps[i]!)
def brkAll (V : Int → Option CD) (bs : List (Int × Int)) : Prop := (bs.map (fun b : Int × Int => b.1)).Nodup ∧ ∀ b ∈ bs, ∃ r, V b.1 = some r ∧ r.2 ≤ b.2
def apart (rs : List Row) : Prop := rs.Pairwise (fun a b => meetsF a b = false)
theorem rows_apart_iff (s : Stk) : (rowsErr s).2 = 0 ↔ apart s.rs := by
  unfold apart
  rw [List.pairwise_iff_getElem]
  constructor
  · intro h i j hi hj hij
    have h1 := firstErr_all _ _ h j hj
    rw [Nat.zero_add] at h1
    split at h1
    · omega
    · rename_i hb
      unfold rowBad at hb
      have hb2 : (s.rs.take j).any (fun r => meetsF r s.rs[j]!) = false := by
        cases hx : (s.rs.take j).any (fun r => meetsF r s.rs[j]!) with
        | true => exact absurd hx hb
        | false => rfl
      rw [List.any_eq_false] at hb2
      have hm : s.rs[i] ∈ s.rs.take j := by
        rw [List.mem_take_iff_getElem]
        exact ⟨i, by omega, rfl⟩
      have := hb2 _ hm
      rw [getElem!_pos s.rs j hj] at this
      simpa using this
  · intro h
    unfold rowsErr
    rw [firstErr_ok s.rs.length 0 (fun j hj => ?_)]
    rw [Nat.zero_add, if_neg]
    unfold rowBad
    rw [List.any_eq_true]
    rintro ⟨r, hr, hm⟩
    rw [List.mem_take_iff_getElem] at hr
    obtain ⟨i, hi, rfl⟩ := hr
    have := h i j (by omega) hj (by omega)
    rw [getElem!_pos s.rs j hj, this] at hm
    cases hm
theorem brk_iff (s : Stk) : (bsErr s).2 = 0 ↔ brkAll (viewF s.rs) s.bs := by
  constructor
  · intro h
    have h1 := fun i hi => firstErr_all _ _ h i hi
    have h2 : ∀ i, i < s.bs.length → ∃ k, rowIx s.rs s.bs[i]!.1 = some k ∧ s.rs[k]!.day ≤ s.bs[i]!.2 ∧ (s.bs.take i).any (fun b => b.1 == s.bs[i]!.1) = false := by
      intro i hi
      have h := h1 i hi
      rw [Nat.zero_add] at h
      unfold brkErr at h
      split at h
      · omega
      · rename_i k hk
        refine ⟨k, hk, ?_⟩
        split at h
        · omega
        · rename_i hn
          split at h
          · omega
          · exact ⟨by omega, by cases hx : (s.bs.take i).any (fun b => b.1 == s.bs[i]!.1) with | true => exact absurd hx hn | false => rfl⟩
    refine ⟨nodup_of_takes s.bs (fun i hi => (h2 i hi).choose_spec.2.2), fun b hb => ?_⟩
    obtain ⟨i, hi, rfl⟩ := List.getElem_of_mem hb
    obtain ⟨k, hk, hd, _⟩ := h2 i hi
    rw [getElem!_pos s.bs i hi] at hk hd
    exact ⟨cdOf s.rs[k]!, by unfold viewF; rw [hk]; rfl, hd⟩
  · rintro ⟨hn, hb⟩
    unfold bsErr
    rw [firstErr_ok s.bs.length 0 (fun j hj => ?_)]
    rw [Nat.zero_add]
    have hm : s.bs[j]! ∈ s.bs := by rw [getElem!_pos s.bs j hj]; exact List.getElem_mem hj
    obtain ⟨r, hr, hd⟩ := hb _ hm
    unfold viewF at hr
    unfold brkErr
    cases hk : rowIx s.rs s.bs[j]!.1 with
    | none => rw [hk] at hr; simp at hr
    | some k =>
      rw [hk] at hr
      simp only [Option.map_some, Option.some.injEq] at hr
      subst hr
      have hx : (s.bs.take j).any (fun b => b.1 == s.bs[j]!.1) = false := by
        rw [List.any_eq_false]
        intro b hb2
        rw [List.mem_take_iff_getElem] at hb2
        obtain ⟨i, hi, rfl⟩ := hb2
        rw [List.nodup_iff_pairwise_ne, List.pairwise_iff_getElem] at hn
        have := hn i j (by simp; omega) (by simp; omega) (by omega)
        rw [List.getElem_map, List.getElem_map] at this
        rw [getElem!_pos s.bs j hj]
        simpa using this
      show (if (s.bs.take j).any (fun b => b.1 == s.bs[j]!.1) = true then (5 : Int) else _) = 0
      rw [hx]
      simp only [Bool.false_eq_true, if_false]
      rw [if_neg]
      have : s.rs[k]!.day ≤ s.bs[j]!.2 := hd
      omega
/-- when a stock is right -/
theorem right_iff (s : Stk) : (termsF s).2.1 = 0 ↔ stkOk s = true ∧ apart s.rs ∧ brkAll (viewF s.rs) s.bs ∧ allC s.cs (viewF s.rs) s.bs [] (comeF s) := by
  constructor
  · intro h
    obtain ⟨h1, h2, h3, h4⟩ := right_parts h
    refine ⟨h1, (rows_apart_iff s).1 h2, (brk_iff s).1 h3, ?_⟩
    rw [h4] at h
    exact (run_view s (orderF s.ps s.ps.length) []).1.1 h
  · rintro ⟨h1, h2, h3, h4⟩
    rw [terms_ps h1 ((rows_apart_iff s).2 h2) ((brk_iff s).2 h3)]
    exact (run_view s (orderF s.ps s.ps.length) []).1.2 h4
theorem right_ts {s : Stk} (h : (termsF s).2.1 = 0) : (termsF s).2.2 = tsC s (comeF s) := by
  obtain ⟨h1, h2, h3, h4⟩ := right_parts h
  rw [h4] at h ⊢
  have := run_view s (orderF s.ps s.ps.length) []
  exact this.2 (this.1.1 h)

/-- which row has a seal, said without places -/
theorem viewF_iff {rs : List Row} (ha : apart rs) {n : Int} {r : CD} : viewF rs n = some r ↔ ∃ x ∈ rs, hasF x n = true ∧ cdOf x = r := by
  unfold viewF
  constructor
  · intro h
    rw [Option.map_eq_some_iff] at h
    obtain ⟨k, hk, rfl⟩ := h
    obtain ⟨hl, hh⟩ := rowIx_lt hk
    exact ⟨rs[k]!, by rw [getElem!_pos rs k hl]; exact List.getElem_mem hl, hh, rfl⟩
  · rintro ⟨x, hx, hh, rfl⟩
    obtain ⟨i, hi, rfl⟩ := List.getElem_of_mem hx
    cases hk : rowIx rs n with
    | none =>
      unfold rowIx at hk
      rw [List.findIdx?_eq_none_iff] at hk
      have := hk rs[i] hx
      rw [hh] at this; cases this
    | some k =>
      obtain ⟨hl, hh2⟩ := rowIx_lt hk
      have e : k = i := by
        unfold apart at ha
        rw [List.pairwise_iff_getElem] at ha
        rw [getElem!_pos rs k hl] at hh2
        unfold hasF at hh hh2
        rw [inF_iff] at hh hh2
        rcases Nat.lt_trichotomy k i with h1 | h1 | h1
        · have := ha k i hl hi h1
          unfold meetsF at this
          simp only [Bool.and_eq_false_iff, decide_eq_false_iff_not] at this
          omega
        · exact h1
        · have := ha i k hi hl h1
          unfold meetsF at this
          simp only [Bool.and_eq_false_iff, decide_eq_false_iff_not] at this
          omega
      subst e
      rw [Option.map_some, getElem!_pos rs k hi]
theorem viewF_same {rs rs' : List Row} (ha : apart rs) (ha' : apart rs') (h : ∀ n r, (∃ x ∈ rs, hasF x n = true ∧ cdOf x = r) ↔ ∃ x ∈ rs', hasF x n = true ∧ cdOf x = r) : viewF rs' = viewF rs := by
  funext n
  apply Option.ext
  intro r
  rw [viewF_iff ha', viewF_iff ha, h n r]
theorem meets_comm (a b : Row) : meetsF a b = meetsF b a := by unfold meetsF; rw [Bool.and_comm]
theorem apart_perm {rs rs' : List Row} (h : List.Perm rs rs') : apart rs → apart rs' := fun ha =>
  h.pairwise ha (fun {a b} hab => by rw [meets_comm]; exact hab)
theorem brkDay_iff {bs : List (Int × Int)} (hn : (bs.map (fun b : Int × Int => b.1)).Nodup) {n d : Int} : brkDay bs n = some d ↔ (n, d) ∈ bs := by
  constructor
  · intro h
    obtain ⟨i, hi, he⟩ := brkDay_at h
    rw [getElem!_pos bs i hi] at he
    rw [← he]; exact List.getElem_mem hi
  · intro h
    cases hd : brkDay bs n with
    | none =>
      unfold brkDay at hd
      rw [Option.map_eq_none_iff, List.find?_eq_none] at hd
      have := hd _ h
      simp at this
    | some d' =>
      obtain ⟨i, hi, he⟩ := brkDay_at hd
      obtain ⟨j, hj, he2⟩ := List.getElem_of_mem h
      rw [getElem!_pos bs i hi] at he
      rw [List.nodup_iff_pairwise_ne, List.pairwise_iff_getElem] at hn
      have e : i = j := by
        rcases Nat.lt_trichotomy i j with h1 | h1 | h1
        · have := hn i j (by simpa using hi) (by simpa using hj) h1
          rw [List.getElem_map, List.getElem_map, he, he2] at this
          exact absurd rfl this
        · exact h1
        · have := hn j i (by simpa using hj) (by simpa using hi) h1
          rw [List.getElem_map, List.getElem_map, he, he2] at this
          exact absurd rfl this
      subst e
      rw [he] at he2
      simp only [Prod.mk.injEq, true_and] at he2
      rw [he2]
theorem brkBy_perm {bs bs' : List (Int × Int)} (hn : (bs.map (fun b : Int × Int => b.1)).Nodup) (h : List.Perm bs bs') : brkBy bs' = brkBy bs := by
  have hn' : (bs'.map (fun b : Int × Int => b.1)).Nodup := (h.map _).nodup_iff.1 hn
  funext n day
  have e : brkDay bs' n = brkDay bs n := by
    apply Option.ext
    intro d
    rw [brkDay_iff hn', brkDay_iff hn]
    exact h.mem_iff.symm
  unfold brkBy
  rw [e]
theorem allC_brk {cs : List Cls} {V : Int → Option CD} {bs bs' : List (Int × Int)} (h : brkBy bs' = brkBy bs) : ∀ (l done : List Prf), allC cs V bs' done l ↔ allC cs V bs done l
  | [], _ => Iff.rfl
  | p :: l, done => by
    have e : prfErrC cs V bs' done p = prfErrC cs V bs done p := by
      unfold prfErrC
      have e2 : sealErrC cs V bs' done p = sealErrC cs V bs done p := by
        funext i
        unfold sealErrC standC
        rw [h]
      rw [e2]
    unfold allC
    rw [e, allC_brk h l (done ++ [p])]
/-- sorted by days -/
theorem putF_sorted (ps : List Prf) (i : Nat) : ∀ o : List Nat, o.Pairwise (fun a b => ps[b]!.day ≤ ps[a]!.day) → (putF ps i o).Pairwise (fun a b => ps[b]!.day ≤ ps[a]!.day)
  | [], _ => by simp [putF]
  | j :: o, h => by
    rw [List.pairwise_cons] at h
    unfold putF
    split
    · rename_i hlt
      rw [List.pairwise_cons]
      refine ⟨fun k hk => ?_, putF_sorted ps i o h.2⟩
      rcases List.mem_cons.1 ((putF_perm ps i o).mem_iff.1 hk) with rfl | hk
      · omega
      · exact h.1 k hk
    · rename_i hlt
      rw [List.pairwise_cons]
      refine ⟨fun k hk => ?_, List.pairwise_cons.2 h⟩
      rcases List.mem_cons.1 hk with rfl | hk
      · omega
      · have := h.1 k hk; omega
theorem ordR_sorted (ps : List Prf) : ∀ n, (ordR ps n).Pairwise (fun a b => ps[b]!.day ≤ ps[a]!.day)
  | 0 => List.Pairwise.nil
  | n + 1 => putF_sorted ps n _ (ordR_sorted ps n)
theorem come_sorted (s : Stk) : (comeF s).Pairwise (fun a b => a.day ≤ b.day) := by
  unfold comeF orderF
  rw [List.pairwise_map, List.pairwise_reverse]
  exact ordR_sorted s.ps s.ps.length
theorem come_perm (s : Stk) : List.Perm (comeF s) s.ps := by
  unfold comeF
  refine ((orderF_perm s.ps s.ps.length).map _).trans ?_
  rw [range_get]
theorem sorted_unique : ∀ (l l' : List Prf), List.Perm l l' → (l.map (fun p : Prf => p.day)).Nodup → l.Pairwise (fun a b => a.day ≤ b.day) → l'.Pairwise (fun a b => a.day ≤ b.day) → l = l'
  | [], l', h, _, _, _ => by rw [List.nil_perm.1 h]
  | a :: l, [], h, _, _, _ => absurd h.length_eq (by simp)
  | a :: l, b :: l', h, hn, h1, h2 => by
    have e : a = b := by
      have ha : a ∈ b :: l' := h.mem_iff.1 (by simp)
      have hb : b ∈ a :: l := h.mem_iff.2 (by simp)
      rcases List.mem_cons.1 ha with e | ha
      · exact e
      · rcases List.mem_cons.1 hb with e | hb
        · exact e.symm
        · have q1 := (List.pairwise_cons.1 h1).1 b hb
          have q2 := (List.pairwise_cons.1 h2).1 a ha
          rw [List.map_cons, List.nodup_cons] at hn
          exact absurd (List.mem_map.2 ⟨b, hb, by omega⟩) hn.1
    subst e
    rw [List.map_cons, List.nodup_cons] at hn
    rw [sorted_unique l l' (List.Perm.cons_inv h) hn.2 (List.pairwise_cons.1 h1).2 (List.pairwise_cons.1 h2).2]
theorem come_same {s x : Stk} (h : List.Perm s.ps x.ps) (hn : (s.ps.map (fun p : Prf => p.day)).Nodup) : comeF x = comeF s := by
  have hp : List.Perm (comeF x) (comeF s) := (come_perm x).trans (h.symm.trans (come_perm s).symm)
  refine sorted_unique _ _ hp ?_ (come_sorted x) (come_sorted s)
  have h2 : List.Perm (comeF x) s.ps := (come_perm x).trans h.symm
  exact (h2.map _).nodup_iff.2 hn
/-- the rows with their terms -/
theorem rows_ts {s : Stk} (h : (termsF s).2.1 = 0) : rowsT s (termsF s).2.2 = s.rs.map (fun r => (r, termC s.cs (comeF s) (cdOf r))) := by
  rw [right_ts h]
  unfold rowsT tsC
  apply List.ext_getElem
  · simp
  · intro i h1 h2
    simp
/-- one list of rows instead of another one: the same, or some are cut in two -/
structure SameRows (rs rs' : List Row) : Prop where
  ap : apart rs'
  view : ∀ n r, (∃ x ∈ rs, hasF x n = true ∧ cdOf x = r) ↔ ∃ x ∈ rs', hasF x n = true ∧ cdOf x = r
  sums : ∀ (bs : List (Int × Int)) (d : CD → Int) (f : CD → Int → Int → Int), (∀ c a b a' b', f c (a + a') (b + b') = f c a b + f c a' b') →
    sumF (fun r => f (cdOf r) (sizeF r) (goneF bs r (d (cdOf r)) : Int)) rs' = sumF (fun r => f (cdOf r) (sizeF r) (goneF bs r (d (cdOf r)) : Int)) rs
theorem sumF_perm {α : Type} {f : α → Int} {l l' : List α} (h : List.Perm l l') : sumF f l' = sumF f l := by
  induction h with
  | nil => rfl
  | cons x _ ih => rw [sumF_cons, sumF_cons, ih]
  | swap x y l => simp only [sumF_cons]; omega
  | trans _ _ h1 h2 => rw [h2, h1]
theorem SameRows.perm {rs rs' : List Row} (ha : apart rs) (h : List.Perm rs rs') : SameRows rs rs' :=
  ⟨apart_perm h ha, fun n r => ⟨fun ⟨x, hx, e⟩ => ⟨x, h.mem_iff.1 hx, e⟩, fun ⟨x, hx, e⟩ => ⟨x, h.mem_iff.2 hx, e⟩⟩, fun bs d f _ => sumF_perm h⟩
theorem SameRows.trans {a b c : List Row} (h : SameRows a b) (k : SameRows b c) : SameRows a c :=
  ⟨k.ap, fun n r => (h.view n r).trans (k.view n r), fun bs d f hf => (k.sums bs d f hf).trans (h.sums bs d f hf)⟩
theorem has_cut {r : Row} {m : Int} (h1 : r.lo ≤ m) (h2 : m < r.hi) (n : Int) : hasF r n = (hasF ⟨r.lo, m, r.cls, r.day⟩ n || hasF ⟨m + 1, r.hi, r.cls, r.day⟩ n) := by
  unfold hasF inF
  by_cases a : r.lo ≤ n <;> by_cases b : n ≤ r.hi <;> by_cases c : n ≤ m <;> simp [a, b, c] <;> omega
theorem gone_cut {r : Row} {m : Int} (h1 : r.lo ≤ m) (h2 : m < r.hi) (d : Int) : ∀ bs : List (Int × Int), goneF bs r d = goneF bs ⟨r.lo, m, r.cls, r.day⟩ d + goneF bs ⟨m + 1, r.hi, r.cls, r.day⟩ d
  | [] => rfl
  | b :: bs => by
    have ih := gone_cut h1 h2 d bs
    unfold goneF at *
    rw [List.countP_cons, List.countP_cons, List.countP_cons, ih, has_cut h1 h2 b.1]
    have hx : ¬ (hasF ⟨r.lo, m, r.cls, r.day⟩ b.1 = true ∧ hasF ⟨m + 1, r.hi, r.cls, r.day⟩ b.1 = true) := by
      unfold hasF
      rw [inF_iff, inF_iff]
      simp only []
      omega
    cases e1 : hasF ⟨r.lo, m, r.cls, r.day⟩ b.1 <;> cases e2 : hasF ⟨m + 1, r.hi, r.cls, r.day⟩ b.1
    · simp
    · simp; omega
    · simp; omega
    · exact absurd ⟨e1, e2⟩ hx
theorem SameRows.cut {r : Row} {l : List Row} {m : Int} (ha : apart (r :: l)) (h1 : r.lo ≤ m) (h2 : m < r.hi) : SameRows (r :: l) (⟨r.lo, m, r.cls, r.day⟩ :: (l ++ [⟨m + 1, r.hi, r.cls, r.day⟩])) := by
  have hm : ∀ x : Row, meetsF r x = false → meetsF ⟨r.lo, m, r.cls, r.day⟩ x = false ∧ meetsF x ⟨m + 1, r.hi, r.cls, r.day⟩ = false := by
    intro x hx
    unfold meetsF at *
    simp only [Bool.and_eq_false_iff, decide_eq_false_iff_not] at *
    omega
  refine ⟨?_, fun n q => ?_, fun bs d f hf => ?_⟩
  · unfold apart at *
    rw [List.pairwise_cons] at ha ⊢
    refine ⟨fun x hx => ?_, ?_⟩
    · rcases List.mem_append.1 hx with hx | hx
      · exact (hm x (ha.1 x hx)).1
      · rw [List.mem_singleton.1 hx]
        unfold meetsF
        simp only [Bool.and_eq_false_iff, decide_eq_false_iff_not]
        omega
    · rw [List.pairwise_append]
      refine ⟨ha.2, by simp, fun x hx y hy => ?_⟩
      rw [List.mem_singleton.1 hy]
      exact (hm x (ha.1 x hx)).2
  · constructor
    · rintro ⟨x, hx, hh, hc⟩
      rcases List.mem_cons.1 hx with rfl | hx
      · rw [has_cut h1 h2, Bool.or_eq_true] at hh
        rcases hh with hh | hh
        · exact ⟨_, List.mem_cons_self, hh, hc⟩
        · exact ⟨_, List.mem_cons_of_mem _ (List.mem_append_right _ (List.mem_singleton.2 rfl)), hh, hc⟩
      · exact ⟨x, List.mem_cons_of_mem _ (List.mem_append_left _ hx), hh, hc⟩
    · rintro ⟨x, hx, hh, hc⟩
      rcases List.mem_cons.1 hx with rfl | hx
      · exact ⟨r, List.mem_cons_self, by rw [has_cut h1 h2, hh]; rfl, hc⟩
      · rcases List.mem_append.1 hx with hx | hx
        · exact ⟨x, List.mem_cons_of_mem _ hx, hh, hc⟩
        · have e := List.mem_singleton.1 hx
          subst e
          exact ⟨r, List.mem_cons_self, by rw [has_cut h1 h2, hh]; simp, hc⟩
  · rw [sumF_cons, sumF_cons]
    have hp : sumF (fun r => f (cdOf r) (sizeF r) (goneF bs r (d (cdOf r)) : Int)) (l ++ [⟨m + 1, r.hi, r.cls, r.day⟩]) = sumF (fun r => f (cdOf r) (sizeF r) (goneF bs r (d (cdOf r)) : Int)) l + f (cdOf r) (sizeF ⟨m + 1, r.hi, r.cls, r.day⟩) (goneF bs ⟨m + 1, r.hi, r.cls, r.day⟩ (d (cdOf r)) : Int) := by
      unfold sumF
      rw [List.map_append, List.sum_append]
      simp [cdOf]
    rw [hp]
    have hs : sizeF r = sizeF ⟨r.lo, m, r.cls, r.day⟩ + sizeF ⟨m + 1, r.hi, r.cls, r.day⟩ := by unfold sizeF; simp only []; omega
    have hg : (goneF bs r (d (cdOf r)) : Int) = (goneF bs ⟨r.lo, m, r.cls, r.day⟩ (d (cdOf r)) : Int) + (goneF bs ⟨m + 1, r.hi, r.cls, r.day⟩ (d (cdOf r)) : Int) := by rw [gone_cut h1 h2]; push_cast; rfl
    have hc : cdOf ⟨r.lo, m, r.cls, r.day⟩ = cdOf r := rfl
    rw [hs, hg, hf, hc]
    omega
/-- the document's order: what may differ between two stocks -/
structure Other (s x : Stk) : Prop where
  cs : x.cs = s.cs
  ok : stkOk x = true
  rows : SameRows s.rs x.rs
  bs : List.Perm s.bs x.bs
  come : comeF x = comeF s
theorem other_view {s x : Stk} (h0 : (termsF s).2.1 = 0) (h : Other s x) : viewF x.rs = viewF s.rs :=
  viewF_same ((rows_apart_iff s).1 (right_parts h0).2.1) h.rows.ap h.rows.view
theorem other_brk {s x : Stk} (h0 : (termsF s).2.1 = 0) (h : Other s x) : brkBy x.bs = brkBy s.bs :=
  brkBy_perm ((brk_iff s).1 (right_parts h0).2.2.1).1 h.bs
theorem other_right {s x : Stk} (h0 : (termsF s).2.1 = 0) (h : Other s x) : (termsF x).2.1 = 0 := by
  obtain ⟨_, _, hb, hc⟩ := (right_iff s).1 h0
  rw [right_iff]
  refine ⟨h.ok, h.rows.ap, ?_, ?_⟩
  · rw [other_view h0 h]
    exact ⟨(h.bs.map _).nodup_iff.1 hb.1, fun b hbm => hb.2 b (h.bs.mem_iff.2 hbm)⟩
  · rw [h.come, other_view h0 h, h.cs, allC_brk (other_brk h0 h)]
    exact hc
theorem end_view {s : Stk} (h0 : (termsF s).2.1 = 0) (n : Int) : endF s n = match viewF s.rs n with | none => (0, 0, 4) | some r => ((termC s.cs (comeF s) r).1, (termC s.cs (comeF s) r).2, 0) := by
  rw [end_good h0, right_ts h0]
  unfold viewF
  cases hk : rowIx s.rs n with
  | none => rfl
  | some k =>
    show ((tsC s (comeF s))[k]!.1, (tsC s (comeF s))[k]!.2, (0 : Int)) = _
    rw [tsC_get s _ (rowIx_lt hk).1]
    rfl
theorem other_end {s x : Stk} (h0 : (termsF s).2.1 = 0) (h : Other s x) (n : Int) : endF x n = endF s n := by
  rw [end_view h0, end_view (other_right h0 h), other_view h0 h, h.cs, h.come]

theorem sumF_map {α β : Type} (h : α → β) (g : β → Int) : ∀ l : List α, sumF g (l.map h) = sumF (fun a => g (h a)) l
  | [] => rfl
  | a :: l => by rw [List.map_cons, sumF_cons, sumF_cons, sumF_map h g l]
theorem gone_perm {bs bs' : List (Int × Int)} (h : List.Perm bs bs') (r : Row) (d : Int) : goneF bs' r d = goneF bs r d := by
  unfold goneF; exact h.symm.countP_eq _
/-- sums over the rows with their terms are the same -/
theorem other_sum {s x : Stk} (h0 : (termsF s).2.1 = 0) (h : Other s x) (d : CD → Int) (f : CD → Int → Int → Int) (hf : ∀ c a b a' b', f c (a + a') (b + b') = f c a b + f c a' b') (g : RT → Int) (g' : RT → Int)
    (hg : ∀ r, g (r, termC s.cs (comeF s) (cdOf r)) = f (cdOf r) (sizeF r) (goneF s.bs r (d (cdOf r)) : Int)) (hg' : ∀ r, g' (r, termC s.cs (comeF s) (cdOf r)) = f (cdOf r) (sizeF r) (goneF x.bs r (d (cdOf r)) : Int)) :
    sumF g' (rowsT x (termsF x).2.2) = sumF g (rowsT s (termsF s).2.2) := by
  rw [rows_ts h0, rows_ts (other_right h0 h), sumF_map, sumF_map, h.cs, h.come]
  rw [sumF_congr (fun r _ => hg r), sumF_congr (fun r _ => hg' r), ← h.rows.sums s.bs d f hf]
  apply sumF_congr
  intro r _
  rw [gone_perm h.bs]
theorem standsF_cd (r : Row) (e day : Int) : standsF r e day = (if day < (cdOf r).2 then 0 else if day < e then 1 else 2) := rfl
theorem other_tally {s x : Stk} (h0 : (termsF s).2.1 = 0) (h : Other s x) (day : Int) : tallyAll x (termsF x).2.2 day = tallyAll s (termsF s).2.2 day := by
  unfold tallyAll
  rw [tally_sum, tally_sum]
  have hn : ∀ k : Int, sumF (fun y : RT => if standsF y.1 y.2.1 day = k then wholeF x.bs y.1 day else 0) (rowsT x (termsF x).2.2) = sumF (fun y : RT => if standsF y.1 y.2.1 day = k then wholeF s.bs y.1 day else 0) (rowsT s (termsF s).2.2) := fun k =>
    other_sum h0 h (fun _ => day) (fun c a b => if (if day < c.2 then (0 : Int) else if day < (termC s.cs (comeF s) c).1 then 1 else 2) = k then a - b else 0) (fun c a b a' b' => by
      by_cases hk : (if day < c.2 then (0 : Int) else if day < (termC s.cs (comeF s) c).1 then 1 else 2) = k
      · simp only [if_pos hk]; omega
      · simp only [if_neg hk]; rfl) _ _ (fun r => rfl) (fun r => rfl)
  have h3 : sumF (n3 x.bs day) (rowsT x (termsF x).2.2) = sumF (n3 s.bs day) (rowsT s (termsF s).2.2) :=
    other_sum h0 h (fun _ => day) (fun c a b => b) (fun c a b a' b' => rfl) _ _ (fun r => rfl) (fun r => rfl)
  have e0 : sumF (n0 x.bs day) (rowsT x (termsF x).2.2) = sumF (n0 s.bs day) (rowsT s (termsF s).2.2) := hn 0
  have e1 : sumF (n1 x.bs day) (rowsT x (termsF x).2.2) = sumF (n1 s.bs day) (rowsT s (termsF s).2.2) := hn 1
  have e2 : sumF (n2 x.bs day) (rowsT x (termsF x).2.2) = sumF (n2 s.bs day) (rowsT s (termsF s).2.2) := hn 2
  rw [e0, e1, e2, h3]
theorem other_count {s x : Stk} (h0 : (termsF s).2.1 = 0) (h : Other s x) (day : Int) : countF x day = countF s day := by
  rw [count_good h0, count_good (other_right h0 h), other_tally h0 h]
theorem addAt_get (z : List Int) (k c : Nat) (n : Int) (hk : k < z.length) (hc : c < z.length) : (addAt z k n)[c]! = z[c]! + (if k = c then n else 0) := by
  unfold addAt
  rw [getElem!_pos _ c (by simpa using hc), getElem!_pos z c hc, List.getElem_set]
  split
  · rename_i e; subst e; rw [getElem!_pos z k hk]
  · simp
theorem due_get {bs : List (Int × Int)} {lo hi : Int} {c : Nat} : ∀ (l : List RT) (z : List Int), (∀ x ∈ l, 0 ≤ x.1.cls ∧ x.1.cls < z.length) → c < z.length → (l.foldl (dueStep bs lo hi) z)[c]! = z[c]! + sumF (fun x => if inF x.2.1 lo hi = true ∧ x.1.cls.toNat = c then wholeF bs x.1 x.2.1 else 0) l
  | [], z, _, _ => by simp [sumF]
  | x :: l, z, h, hc => by
    have hx := h x (by simp)
    have hlen : (dueStep bs lo hi z x).length = z.length := by unfold dueStep addAt; split <;> simp
    have hget : (dueStep bs lo hi z x)[c]! = z[c]! + (if inF x.2.1 lo hi = true ∧ x.1.cls.toNat = c then wholeF bs x.1 x.2.1 else 0) := by
      unfold dueStep
      by_cases hin : inF x.2.1 lo hi = true
      · rw [if_pos hin, addAt_get _ _ _ _ (by omega) hc]
        by_cases hk : x.1.cls.toNat = c
        · rw [if_pos hk, if_pos ⟨hin, hk⟩]
        · rw [if_neg hk, if_neg (fun h => hk h.2)]
      · rw [if_neg hin, if_neg (fun h => hin h.1)]; simp
    rw [List.foldl_cons, due_get l _ (fun y hy => by rw [hlen]; exact h y (List.mem_cons_of_mem _ hy)) (by omega), hget, sumF_cons]
    omega
theorem other_dueAll {s x : Stk} (h0 : (termsF s).2.1 = 0) (h : Other s x) (lo hi : Int) : dueAll x (termsF x).2.2 lo hi = dueAll s (termsF s).2.2 lo hi := by
  have hx := other_right h0 h
  have f1 := row_facts h0
  have f2 := row_facts hx
  have l1 := (dueAll_sum (bs := s.bs) (lo := lo) (hi := hi) (rowsT s (termsF s).2.2) (List.replicate s.cs.length 0) (fun y hy => by rw [List.length_replicate]; exact ⟨(f1 y hy).2.1, (f1 y hy).2.2.1⟩)).2
  have l2 := (dueAll_sum (bs := x.bs) (lo := lo) (hi := hi) (rowsT x (termsF x).2.2) (List.replicate x.cs.length 0) (fun y hy => by rw [List.length_replicate]; exact ⟨(f2 y hy).2.1, (f2 y hy).2.2.1⟩)).2
  unfold dueAll
  apply List.ext_getElem
  · rw [l1, l2, h.cs]
  · intro c hc1 hc2
    have c1 : c < (List.replicate x.cs.length (0 : Int)).length := by rw [l2] at hc1; exact hc1
    have c2 : c < (List.replicate s.cs.length (0 : Int)).length := by rw [l1] at hc2; exact hc2
    rw [← getElem!_pos _ c hc1, ← getElem!_pos _ c hc2]
    rw [due_get _ _ (fun y hy => by rw [List.length_replicate]; exact ⟨(f1 y hy).2.1, (f1 y hy).2.2.1⟩) c2, due_get _ _ (fun y hy => by rw [List.length_replicate]; exact ⟨(f2 y hy).2.1, (f2 y hy).2.2.1⟩) c1, h.cs]
    congr 1
    exact other_sum h0 h (fun c' => (termC s.cs (comeF s) c').1) (fun c' a b => if inF (termC s.cs (comeF s) c').1 lo hi = true ∧ c'.1.toNat = c then a - b else 0) (fun c' a b a' b' => by
      by_cases hk : inF (termC s.cs (comeF s) c').1 lo hi = true ∧ c'.1.toNat = c
      · simp only [if_pos hk]; omega
      · simp only [if_neg hk]; rfl) _ _ (fun r => rfl) (fun r => rfl)
theorem other_due {s x : Stk} (h0 : (termsF s).2.1 = 0) (h : Other s x) (lo hi : Int) : dueF x lo hi = dueF s lo hi := by
  rw [due_good h0, due_good (other_right h0 h), other_dueAll h0 h]
/-- a list turned round -/
def rotF {α : Type} (l : List α) (t : Nat) : List α := l.drop (t % l.length) ++ l.take (t % l.length)
theorem rot_len {α : Type} (l : List α) (t : Nat) : (rotF l t).length = l.length := by
  unfold rotF
  have : (l.drop (t % l.length) ++ l.take (t % l.length)).length = l.length := by
    rw [List.length_append, Nat.add_comm, ← List.length_append, List.take_append_drop]
  exact this
theorem rot_perm {α : Type} (l : List α) (t : Nat) : List.Perm l (rotF l t) := by
  unfold rotF
  have := List.perm_append_comm (l₁ := l.take (t % l.length)) (l₂ := l.drop (t % l.length))
  rwa [List.take_append_drop] at this
theorem rot_get {α : Type} [Inhabited α] (l : List α) (t : Nat) {i : Nat} (hi : i < l.length) : (rotF l t).getD i default = l.getD ((i + t) % l.length) default := by
  have hk : t % l.length < l.length := Nat.mod_lt _ (by omega)
  unfold rotF
  have hm : (i + t) % l.length = (i + t % l.length) % l.length := by rw [Nat.add_mod, Nat.add_mod i (t % l.length), Nat.mod_mod]
  rw [hm]
  generalize t % l.length = k at *
  by_cases h : i < l.length - k
  · rw [Nat.mod_eq_of_lt (by omega)]
    simp only [List.getD]
    rw [List.getElem?_append_left (by rw [List.length_drop]; exact h), List.getElem?_drop, Nat.add_comm]
  · have e : (i + k) % l.length = i + k - l.length := by
      rw [Nat.mod_eq_sub_mod (by omega), Nat.mod_eq_of_lt (by omega)]
    rw [e]
    simp only [List.getD]
    rw [List.getElem?_append_right (by rw [List.length_drop]; omega), List.length_drop, List.getElem?_take_of_lt (by omega)]
    rw [show i - (l.length - k) = i + k - l.length by omega]

def cutF (rs : List Row) (t : Nat) : List Row := match rs with
  | [] => []
  | r :: l => if (r :: l).length < 24 ∧ r.lo < r.hi then ⟨r.lo, r.lo + (t : Int) % (r.hi - r.lo), r.cls, r.day⟩ :: (l ++ [⟨r.lo + (t : Int) % (r.hi - r.lo) + 1, r.hi, r.cls, r.day⟩]) else r :: l
theorem cutF_cons (r : Row) (l : List Row) (t : Nat) : cutF (r :: l) t = if (r :: l).length < 24 ∧ r.lo < r.hi then ⟨r.lo, r.lo + (t : Int) % (r.hi - r.lo), r.cls, r.day⟩ :: (l ++ [⟨r.lo + (t : Int) % (r.hi - r.lo) + 1, r.hi, r.cls, r.day⟩]) else r :: l := rfl
/-- two of the first proofs have the same day -/
def twiceF (ps : List Prf) (i : Nat) : Bool := (List.range i).any (fun a => (List.range a).any (fun b => decide (ps[a]!.day = ps[b]!.day)))
theorem twice_nodup {ps : List Prf} (h : twiceF ps ps.length = false) : (ps.map (fun p : Prf => p.day)).Nodup := by
  unfold twiceF at h
  rw [List.any_eq_false] at h
  rw [List.nodup_iff_pairwise_ne, List.pairwise_iff_getElem]
  intro i j hi hj hij
  rw [List.length_map] at hi hj
  have := h j (List.mem_range.2 hj)
  rw [Bool.not_eq_true, List.any_eq_false] at this
  have := this i (List.mem_range.2 hij)
  rw [getElem!_pos ps j hj, getElem!_pos ps i hi] at this
  rw [List.getElem_map, List.getElem_map]
  intro e
  exact this (by simp [e])
def xS (s : Stk) (t : Nat) : Stk := ⟨s.cs, cutF (rotF s.rs t) t, if twiceF s.ps s.ps.length then s.ps else rotF s.ps t, rotF s.bs t⟩
theorem cut_same {rs : List Row} (ha : apart rs) (t : Nat) : SameRows rs (cutF rs t) := by
  cases rs with
  | nil => exact SameRows.perm ha (List.Perm.refl _)
  | cons r l =>
    rw [cutF_cons]
    split
    · rename_i h
      have h1 : 0 ≤ (t : Int) % (r.hi - r.lo) := Int.emod_nonneg _ (by omega)
      have h2 : (t : Int) % (r.hi - r.lo) < r.hi - r.lo := Int.emod_lt_of_pos _ (by omega)
      exact SameRows.cut ha (by omega) (by omega)
    · exact SameRows.perm ha (List.Perm.refl _)
theorem cut_ok {rs : List Row} {n : Int} (t : Nat) (hl : rs.length ≤ 24) (h : rs.all (rowOk n) = true) : (cutF rs t).length ≤ 24 ∧ (cutF rs t).all (rowOk n) = true := by
  cases rs with
  | nil => exact ⟨by simp [cutF], by simp [cutF]⟩
  | cons r l =>
    rw [cutF_cons]
    split
    · rename_i hc
      have h1 : 0 ≤ (t : Int) % (r.hi - r.lo) := Int.emod_nonneg _ (by omega)
      have h2 : (t : Int) % (r.hi - r.lo) < r.hi - r.lo := Int.emod_lt_of_pos _ (by omega)
      rw [List.all_cons, Bool.and_eq_true] at h
      obtain ⟨h3, h4⟩ := h
      have h3' := h3
      unfold rowOk at h3
      simp only [Bool.and_eq_true, inF_iff, decide_eq_true_eq] at h3
      refine ⟨by have := hc.1; simp only [List.length_cons, List.length_append, List.length_nil] at this ⊢; omega, ?_⟩
      rw [List.all_cons, List.all_append, h4]
      simp only [List.all_cons, List.all_nil, Bool.and_true, Bool.true_and, Bool.and_eq_true]
      unfold rowOk
      simp only [Bool.and_eq_true, inF_iff, decide_eq_true_eq]
      omega
    · exact ⟨hl, h⟩
theorem all_perm {α : Type} {f : α → Bool} {l l' : List α} (h : List.Perm l l') (ha : l.all f = true) : l'.all f = true := by
  rw [List.all_eq_true] at ha ⊢
  exact fun x hx => ha x (h.mem_iff.2 hx)
theorem other_x {s : Stk} (h0 : (termsF s).2.1 = 0) (t : Nat) : Other s (xS s t) := by
  obtain ⟨hok, hr, _, _⟩ := right_parts h0
  have ha := (rows_apart_iff s).1 hr
  have hok' := hok
  unfold stkOk at hok'
  simp only [Bool.and_eq_true, decide_eq_true_eq] at hok'
  obtain ⟨⟨a1, a2, a3, a4⟩, b1, b2, b3, b4⟩ := hok'
  have hc := cut_ok (rs := rotF s.rs t) (n := (s.cs.length : Int)) t (by rw [rot_len]; exact a2) (all_perm (rot_perm s.rs t) b2)
  refine ⟨rfl, ?_, (SameRows.perm ha (rot_perm s.rs t)).trans (cut_same (apart_perm (rot_perm s.rs t) ha) t), rot_perm s.bs t, ?_⟩
  · unfold stkOk xS
    simp only [Bool.and_eq_true, decide_eq_true_eq]
    refine ⟨⟨a1, hc.1, ?_, by rw [rot_len]; exact a4⟩, b1, hc.2, ?_, all_perm (rot_perm s.bs t) b4⟩
    · split
      · exact a3
      · rw [rot_len]; exact a3
    · split
      · exact b3
      · exact all_perm (rot_perm s.ps t) b3
  · cases htw : twiceF s.ps s.ps.length with
    | true =>
      unfold comeF xS
      simp only [htw, if_true]
    | false =>
      exact come_same (x := xS s t) (by unfold xS; simp only [htw, Bool.false_eq_true, if_false]; exact rot_perm s.ps t) (twice_nodup htw)
end Go.Proofs.Ytcmfplfnpjknlaa
