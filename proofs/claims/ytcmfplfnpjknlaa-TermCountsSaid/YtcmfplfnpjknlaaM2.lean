/- The library's insertion sort over indices is the order of the proofs. -/
import Derived.Test.YtcmfplfnpjknlaaM1
import Derived.Shelf.SlSortCmp.Insertion1
namespace Go.Proofs.Ytcmfplfnpjknlaa
set_option linter.unusedSimpArgs false
set_option linter.unusedVariables false
open Go.Sort Go.Lib Go.Shelf

def putL {α : Type} (lt : α → α → Bool) (x : α) : List α → List α
  | [] => [x]
  | y :: o => if lt x y then y :: putL lt x o else x :: y :: o
def sortR {α : Type} (lt : α → α → Bool) : List α → List α → List α
  | o, [] => o
  | o, x :: r => sortR lt (putL lt x o) r
theorem putL_len {α : Type} (lt : α → α → Bool) (x : α) : ∀ o : List α, (putL lt x o).length = o.length + 1
  | [] => rfl
  | y :: o => by
    unfold putL
    split
    · simp [putL_len lt x o]
    · simp
theorem putL_mem {α : Type} {lt : α → α → Bool} {x z : α} : ∀ {o : List α}, z ∈ putL lt x o → z = x ∨ z ∈ o
  | [], h => by simpa [putL] using h
  | y :: o, h => by
    unfold putL at h
    split at h
    · rcases List.mem_cons.1 h with h | h
      · exact .inr (by simp [h])
      · rcases putL_mem h with h | h
        · exact .inl h
        · exact .inr (by simp [h])
    · rcases List.mem_cons.1 h with h | h
      · exact .inl h
      · exact .inr h
section
variable {α : Type} [Inhabited α] {lt : α → α → Bool}
theorem swp_list {d : Array α} {A T : List α} {y x : α} (h : d.toList = A ++ y :: x :: T) : (swp d (A.length + 1) A.length).toList = A ++ x :: y :: T := by
  have h1 : d[A.length + 1]! = x := by
    rw [← Array.getElem!_toList, h]; simp
  have h0 : d[A.length]! = y := by
    rw [← Array.getElem!_toList, h]; simp
  unfold swp
  rw [h1, h0]
  simp [h, List.set_append]
theorem inner_list : ∀ (O : List α) (d : Array α) (x : α) (T : List α), d.toList = O.reverse ++ x :: T → (insInner lt 0 O.length d).toList = (putL lt x O).reverse ++ T
  | [], d, x, T, h => by
    have e : insInner lt 0 0 d = d := insInner_stop lt _ _ _ (.inl (Nat.zero_le _))
    rw [show ([] : List α).length = 0 from rfl, e, h]; simp [putL]
  | y :: O, d, x, T, h => by
    have h' : d.toList = O.reverse ++ y :: x :: T := by rw [h]; simp
    have h1 : d[O.length + 1]! = x := by
      rw [← Array.getElem!_toList, h']; simp
    have h0 : d[O.length]! = y := by
      rw [← Array.getElem!_toList, h']; simp
    unfold putL
    by_cases hl : lt x y = true
    · rw [if_pos hl, List.length_cons, insInner_go lt _ _ _ (by omega) (by simpa [h1, h0] using hl)]
      have hs := swp_list (A := O.reverse) (by rw [h'])
      rw [List.length_reverse] at hs
      rw [Nat.add_sub_cancel, inner_list O _ x (y :: T) hs]
      simp
    · rw [if_neg hl, List.length_cons, insInner_stop lt _ _ _ (.inr (by simpa [h1, h0] using hl)), h]
      simp
theorem outer_list : ∀ (r : List α) (O : List α) (d : Array α), d.toList = O.reverse ++ r → (insOuter lt 0 d.size O.length d).toList = (sortR lt O r).reverse
  | [], O, d, h => by
    have hs : d.size = O.length := by rw [← Array.length_toList, h]; simp
    rw [insOuter_stop lt _ _ _ _ (by omega), h]; simp [sortR]
  | x :: r, O, d, h => by
    have hs : d.size = O.length + (r.length + 1) := by rw [← Array.length_toList, h]; simp
    rw [insOuter_go lt _ _ _ _ (by omega)]
    have hi := inner_list (lt := lt) O d x r h
    have hz : (insInner lt 0 O.length d).size = d.size := by
      rw [← Array.length_toList, hi, List.length_append, List.length_reverse, putL_len, hs]; omega
    have := outer_list r (putL lt x O) (insInner lt 0 O.length d) hi
    rw [putL_len, hz] at this
    rw [this, sortR]
theorem sort_list (d : Array α) : (insertionSort lt d 0 d.size).toList = (sortR lt [] d.toList).reverse := by
  unfold insertionSort
  cases hd : d.toList with
  | nil =>
    have hs : d.size = 0 := by rw [← Array.length_toList, hd]; rfl
    rw [insOuter_stop lt _ _ _ _ (by omega), hd]; simp [sortR]
  | cons x r =>
    rw [sortR, putL]
    exact outer_list (lt := lt) r [x] d (by rw [hd]; simp)
end
theorem sortR_snoc {α : Type} (lt : α → α → Bool) (x : α) : ∀ (r O : List α), sortR lt O (r ++ [x]) = putL lt x (sortR lt O r)
  | [], O => rfl
  | y :: r, O => by rw [List.cons_append, sortR, sortR_snoc lt x r]; rfl
theorem putF_mem {ps : List Prf} {x z : Nat} : ∀ {o : List Nat}, z ∈ putF ps x o → z = x ∨ z ∈ o
  | [], h => by simpa [putF] using h
  | y :: o, h => by
    unfold putF at h
    split at h
    · rcases List.mem_cons.1 h with h | h
      · exact .inr (by simp [h])
      · rcases putF_mem h with h | h
        · exact .inl h
        · exact .inr (by simp [h])
    · rcases List.mem_cons.1 h with h | h
      · exact .inl h
      · exact .inr h
theorem ordR_lt (ps : List Prf) : ∀ (n : Nat), ∀ z ∈ ordR ps n, z < n
  | 0, z, h => by simp [ordR] at h
  | n + 1, z, h => by
    rcases putF_mem h with h | h
    · omega
    · have := ordR_lt ps n z h; omega
theorem putF_len (ps : List Prf) (x : Nat) : ∀ o : List Nat, (putF ps x o).length = o.length + 1
  | [] => rfl
  | y :: o => by
    unfold putF
    split
    · simp [putF_len ps x o]
    · simp
theorem ordR_len (ps : List Prf) : ∀ (n : Nat), (ordR ps n).length = n
  | 0 => rfl
  | n + 1 => by rw [ordR, putF_len, ordR_len ps n]
def cmpI (a b : Int) : Int := if a < b then -1 else if b < a then 1 else 0
/-- the day of a proof, of the last one for each number beyond -/
def dayAt (ps : List Prf) (x : Nat) : Int := ps[min x (ps.length - 1)]!.day
def cmpD (ps : List Prf) (x y : Nat) : Int := cmpI (dayAt ps x) (dayAt ps y)
theorem put_eq {ps : List Prf} {x : Nat} (hx : x < ps.length) : ∀ {o : List Nat}, (∀ z ∈ o, z < ps.length) → putL (ltOf (cmpD ps)) x o = putF ps x o
  | [], _ => rfl
  | y :: o, h => by
    have hy := h y (by simp)
    have e : ltOf (cmpD ps) x y = decide (ps[x]!.day < ps[y]!.day) := by
      unfold ltOf cmpD cmpI dayAt
      rw [Nat.min_eq_left (by omega), Nat.min_eq_left (by omega)]
      generalize ps[x]!.day = a
      generalize ps[y]!.day = b
      by_cases h1 : a < b
      · simp [h1]
      · by_cases h2 : b < a <;> simp [h1, h2]
    unfold putL putF
    rw [e, put_eq hx (fun z hz => h z (by simp [hz]))]
    simp
theorem ord_eq {ps : List Prf} : ∀ (n : Nat), n ≤ ps.length → sortR (ltOf (cmpD ps)) [] (List.range n) = ordR ps n
  | 0, _ => rfl
  | n + 1, h => by
    rw [List.range_succ, sortR_snoc, ord_eq n (by omega), ordR]
    exact put_eq (by omega) (fun z hz => by have := ordR_lt ps n z hz; omega)
theorem sort_is (ps : List Prf) : (insertionSort (ltOf (cmpD ps)) (Array.range ps.length) 0 ps.length).toList = orderF ps ps.length := by
  have := sort_list (lt := ltOf (cmpD ps)) (Array.range ps.length)
  rw [Array.size_range] at this
  rw [this, orderF, Array.toList_range, ord_eq _ (Nat.le_refl _)]
end Go.Proofs.Ytcmfplfnpjknlaa
