/- Contract: row: what the maker needs and the buyer can bear. -/
import Derived.Test.YtclcconllkfjiaaA10
namespace Go.Proofs.Ytclcconllkfjiaa
set_option linter.unusedSimpArgs false
set_option linter.unusedVariables false
open Go.RowKit

/-- does a plan of so many samples keep one risk? -/
def keepsF (n s : Nat) (r : Rk) (a : Nat) : Bool := (firstP (failF n s (a : Nat) [r]) (n + 1)).isNone
set_option maxRecDepth 100000 in
set_option maxHeartbeats 1600000 in
theorem keepsMaker_any (T n s a Bt Bl Bs : Nat) (g b m u x y : Int) (w : World) (hT : TriAt w T) (hs : s ≤ n) (hn : n ≤ 50) (hy : 0 ≤ y ∧ y ≤ 1000)
    (h1 : w.heap[Bt]? = some (.cells #[.pointer (some ⟨T, 0, none⟩)] 57 (0, 0))) (h2 : w.heap[Bl]? = some (.cells #[.int .i64 (n : Nat), .int .i64 g, .int .i64 b, .int .i64 m, .int .i64 u] 40 (0, 0))) (h3 : w.heap[Bs]? = some (.cells #[.int .i64 (s : Nat)] 3 (0, 0))) :
    Calls Try.prog 52 #[.int .i64 (a : Nat), .iface 78 (.agg #[.int .i64 x, .int .i64 y]), .pointer (some ⟨Bt, 0, none⟩), .pointer (some ⟨Bl, 0, none⟩), .pointer (some ⟨Bs, 0, none⟩)] w fun e w' => e = .returned (.bool (keepsF n s ⟨true, x, y⟩ a)) ∧ Below w.heap.size w w' := by
  obtain ⟨W1, hW1⟩ : ∃ X, X = w.alloc (.cells #[.iface 78 (.agg #[.int .i64 x, .int .i64 y])] 99) := ⟨_, rfl⟩
  have hb1 : Below w.heap.size w W1 := by rw [hW1]; exact (Below.refl _ _).alloc (Nat.le_refl _) _
  have q1 : W1.heap[w.heap.size]? = some (.cells #[.iface 78 (.agg #[.int .i64 x, .int .i64 y])] 99 (0, 0)) := by rw [hW1]; exact alloc_heap _ _
  have hfa := failure_any T n s w.heap.size (a : Nat) [⟨true, x, y⟩] W1 (hT.below hb1 hT.lt) hs hn (by
    intro i r hi
    match i, hi with
    | 0, hi => simp at hi; subst hi; simp [World.cell?, q1, Rk.val, Rk.agg]
    | i + 1, hi => simp at hi) (by simp) (by simp) (by intro r hr; simp at hr; subst hr; exact hy)
  have hres : keepsF n s ⟨true, x, y⟩ a = (firstP (failF n s (a : Nat) [⟨true, x, y⟩]) (n + 1)).isNone := rfl
  obtain ⟨r, hr⟩ : ∃ r, firstP (failF n s (a : Nat) [⟨true, x, y⟩]) (n + 1) = r := ⟨_, rfl⟩
  rw [hr] at hfa hres
  unfold planV at hfa
  simp only [List.length_cons, List.length_nil, Nat.zero_add] at hfa
  have HF := Lib.hid hfa
  have HR := Lib.hid hres
  have c1 := one_cell h1
  obtain ⟨c2, -, -, -, -⟩ := five_cells h2
  have c3 := one_cell h3
  clear hfa hres hr q1
  go_enter Try.func52, Try.ntmps52
  go_wp2_with fail
  rw [← hW1]
  clear hW1
  refine HF.out.mono ?_
  rintro e w2 ⟨rfl, hb2⟩
  cases r with
  | none =>
    unfold leastV
    simp only []
    go_wp2
    go_ret
    exact ⟨by rw [HR.out]; rfl, hb1.trans (hb2.mono hb1.size)⟩
  | some k =>
    unfold leastV
    simp only []
    go_wp2
    go_ret
    exact ⟨by rw [HR.out]; rfl, hb1.trans (hb2.mono hb1.size)⟩
set_option maxRecDepth 100000 in
set_option maxHeartbeats 1600000 in
theorem keepsBuyer_any (T n s a Bt Bl Bs : Nat) (g b m u x y : Int) (w : World) (hT : TriAt w T) (hs : s ≤ n) (hn : n ≤ 50) (hy : 0 ≤ y ∧ y ≤ 1000)
    (h1 : w.heap[Bt]? = some (.cells #[.pointer (some ⟨T, 0, none⟩)] 57 (0, 0))) (h2 : w.heap[Bl]? = some (.cells #[.int .i64 (n : Nat), .int .i64 g, .int .i64 b, .int .i64 m, .int .i64 u] 40 (0, 0))) (h3 : w.heap[Bs]? = some (.cells #[.int .i64 (s : Nat)] 3 (0, 0))) :
    Calls Try.prog 52 #[.int .i64 (a : Nat), .iface 81 (.agg #[.int .i64 x, .int .i64 y]), .pointer (some ⟨Bt, 0, none⟩), .pointer (some ⟨Bl, 0, none⟩), .pointer (some ⟨Bs, 0, none⟩)] w fun e w' => e = .returned (.bool (keepsF n s ⟨false, x, y⟩ a)) ∧ Below w.heap.size w w' := by
  obtain ⟨W1, hW1⟩ : ∃ X, X = w.alloc (.cells #[.iface 81 (.agg #[.int .i64 x, .int .i64 y])] 99) := ⟨_, rfl⟩
  have hb1 : Below w.heap.size w W1 := by rw [hW1]; exact (Below.refl _ _).alloc (Nat.le_refl _) _
  have q1 : W1.heap[w.heap.size]? = some (.cells #[.iface 81 (.agg #[.int .i64 x, .int .i64 y])] 99 (0, 0)) := by rw [hW1]; exact alloc_heap _ _
  have hfa := failure_any T n s w.heap.size (a : Nat) [⟨false, x, y⟩] W1 (hT.below hb1 hT.lt) hs hn (by
    intro i r hi
    match i, hi with
    | 0, hi => simp at hi; subst hi; simp [World.cell?, q1, Rk.val, Rk.agg]
    | i + 1, hi => simp at hi) (by simp) (by simp) (by intro r hr; simp at hr; subst hr; exact hy)
  have hres : keepsF n s ⟨false, x, y⟩ a = (firstP (failF n s (a : Nat) [⟨false, x, y⟩]) (n + 1)).isNone := rfl
  obtain ⟨r, hr⟩ : ∃ r, firstP (failF n s (a : Nat) [⟨false, x, y⟩]) (n + 1) = r := ⟨_, rfl⟩
  rw [hr] at hfa hres
  unfold planV at hfa
  simp only [List.length_cons, List.length_nil, Nat.zero_add] at hfa
  have HF := Lib.hid hfa
  have HR := Lib.hid hres
  have c1 := one_cell h1
  obtain ⟨c2, -, -, -, -⟩ := five_cells h2
  have c3 := one_cell h3
  clear hfa hres hr q1
  go_enter Try.func52, Try.ntmps52
  go_wp2_with fail
  rw [← hW1]
  clear hW1
  refine HF.out.mono ?_
  rintro e w2 ⟨rfl, hb2⟩
  cases r with
  | none =>
    unfold leastV
    simp only []
    go_wp2
    go_ret
    exact ⟨by rw [HR.out]; rfl, hb1.trans (hb2.mono hb1.size)⟩
  | some k =>
    unfold leastV
    simp only []
    go_wp2
    go_ret
    exact ⟨by rw [HR.out]; rfl, hb1.trans (hb2.mono hb1.size)⟩
set_option maxRecDepth 100000 in
set_option maxHeartbeats 1600000 in
theorem row2_any (T n s a Bt Bl Bs Bk : Nat) (g b m u : Int) (w : World) (hT : TriAt w T) (hs : s ≤ n) (hn : n ≤ 50) (hm : 0 ≤ m ∧ m ≤ 1000)
    (h1 : w.heap[Bt]? = some (.cells #[.pointer (some ⟨T, 0, none⟩)] 57 (0, 0))) (h2 : w.heap[Bl]? = some (.cells #[.int .i64 (n : Nat), .int .i64 g, .int .i64 b, .int .i64 m, .int .i64 u] 40 (0, 0))) (h3 : w.heap[Bs]? = some (.cells #[.int .i64 (s : Nat)] 3 (0, 0))) (h4 : w.heap[Bk]? = some (.cells #[.func (.func 52) #[] #[.pointer (some ⟨Bt, 0, none⟩), .pointer (some ⟨Bl, 0, none⟩), .pointer (some ⟨Bs, 0, none⟩)]] 100 (0, 0))) :
    Calls Try.prog 53 #[.int .i64 (a : Nat), .pointer (some ⟨Bk, 0, none⟩), .pointer (some ⟨Bl, 0, none⟩)] w fun e w' => e = .returned (.bool (keepsF n s ⟨true, g, m⟩ a)) ∧ Below w.heap.size w w' := by
  have hkp := fun W (h : Below w.heap.size w W) => keepsMaker_any T n s a Bt Bl Bs g b m u g m W (hT.below h hT.lt) hs hn hm ((h.block _ (Array.getElem?_eq_some_iff.1 h1).1).trans h1) ((h.block _ (Array.getElem?_eq_some_iff.1 h2).1).trans h2) ((h.block _ (Array.getElem?_eq_some_iff.1 h3).1).trans h3)
  have hmk := fun W => makerOf_any (n : Nat) g b m u W
  unfold lotV at hmk
  have HK := Lib.hid hkp
  have HM := Lib.hid hmk
  have H2 := Lib.hid h2
  have H4 := Lib.hid h4
  obtain ⟨z, hz⟩ : ∃ z, keepsF n s ⟨true, g, m⟩ a = z := ⟨_, rfl⟩
  clear hkp hmk h1 h2 h3 h4 hz
  go_enter Try.func53, Try.ntmps53
  go_upto_region 1 with fail
  refine wp_region_held_drew (S := fun w' => Below w.heap.size w w') (by as_aux_lemma => kernel_rfl) (Below.refl _ _).drew (fun hHeld => ?_)
  refine wpAnyH_take (i := 0) (oi := _) (v := ?_) rfl (by as_aux_lemma => kernel_rfl) (by as_aux_lemma => kernel_rfl) (by as_aux_lemma => kernel_rfl) (fun _ _ _ h => h) (Or.inl ⟨by rfl, ?_⟩) hHeld ?_
  rotate_left
  · intro w1 hSw
    have d1 := one_cell ((hSw.block _ (Array.getElem?_eq_some_iff.1 H4.out).1).trans H4.out)
    obtain ⟨d2, d3, d4, d5, d6⟩ := five_cells ((hSw.block _ (Array.getElem?_eq_some_iff.1 H2.out).1).trans H2.out)
    go_simp; with_reducible rfl
  simp only [List.getElem_toArray, List.getElem_cons_succ, List.getElem_cons_zero, Act.put, List.setIfInBounds_toArray, List.set_cons_zero, List.set_cons_succ]
  refine wpAnyH_take (i := 1) (oi := _) (v := ?_) rfl (by as_aux_lemma => kernel_rfl) (by as_aux_lemma => kernel_rfl) (by as_aux_lemma => kernel_rfl) (fun _ _ _ h => h) (Or.inl ⟨by rfl, ?_⟩) hHeld ?_
  rotate_left
  · intro w1 hSw

    go_simp; with_reducible rfl
  simp only [List.getElem_toArray, List.getElem_cons_succ, List.getElem_cons_zero, Act.put, List.setIfInBounds_toArray, List.set_cons_zero, List.set_cons_succ]
  refine wpAnyH_take (i := 2) (oi := _) (v := ?_) rfl (by as_aux_lemma => kernel_rfl) (by as_aux_lemma => kernel_rfl) (by as_aux_lemma => kernel_rfl) (fun _ _ _ h => h) (Or.inl ⟨by rfl, ?_⟩) hHeld ?_
  rotate_left
  · intro w1 hSw
    have d1 := one_cell ((hSw.block _ (Array.getElem?_eq_some_iff.1 H4.out).1).trans H4.out)
    obtain ⟨d2, d3, d4, d5, d6⟩ := five_cells ((hSw.block _ (Array.getElem?_eq_some_iff.1 H2.out).1).trans H2.out)
    go_simp; with_reducible rfl
  simp only [List.getElem_toArray, List.getElem_cons_succ, List.getElem_cons_zero, Act.put, List.setIfInBounds_toArray, List.set_cons_zero, List.set_cons_succ]
  refine wpAnyH_all (rs := [3]) (by as_aux_lemma => kernel_rfl) (by simp) ?_
  intro i hi; obtain rfl := List.mem_singleton.1 hi; clear hi
  refine wpOp_step rfl (fun K3 hK3 => ?_)
  have HK3 := Lib.hid hK3
  clear hK3
  rw [if_pos (by rfl)]
  go_simp
  refine (HM.out _).mono ?_
  rintro e w2 ⟨rfl, hb2⟩
  have hH2 : Below w.heap.size w w2 := hHeld.trans (hb2.mono hHeld.size)
  refine HK3.out _ _ ⟨hH2, ?_⟩
  clear HK3 K3
  try simp only [List.getElem_toArray, List.getElem_cons_succ, List.getElem_cons_zero, Act.put, List.setIfInBounds_toArray, List.set_cons_zero, List.set_cons_succ]
  refine wpAnyH_take (i := 4) (oi := _) (v := ?_) rfl (by as_aux_lemma => kernel_rfl) (by as_aux_lemma => kernel_rfl) (by as_aux_lemma => kernel_rfl) (fun _ _ _ h => h) (Or.inl ⟨by rfl, ?_⟩) hH2 ?_
  rotate_left
  · intro w1 hSw

    go_simp; with_reducible rfl
  simp only [List.getElem_toArray, List.getElem_cons_succ, List.getElem_cons_zero, Act.put, List.setIfInBounds_toArray, List.set_cons_zero, List.set_cons_succ]
  refine wpAnyH_all (rs := [5]) (by as_aux_lemma => kernel_rfl) (by simp) ?_
  intro i hi; obtain rfl := List.mem_singleton.1 hi; clear hi
  refine wpOp_step rfl (fun K3 hK3 => ?_)
  have HK3 := Lib.hid hK3
  clear hK3
  rw [if_pos (by rfl)]
  go_simp
  refine (HK.out _ hH2).mono ?_
  rintro e w3 ⟨rfl, hb3⟩
  have hH3 : Below w.heap.size w w3 := hH2.trans (hb3.mono hH2.size)
  refine HK3.out _ _ ⟨hH3, ?_⟩
  clear HK3 K3
  try simp only [List.getElem_toArray, List.getElem_cons_succ, List.getElem_cons_zero, Act.put, List.setIfInBounds_toArray, List.set_cons_zero, List.set_cons_succ]
  refine wpAnyH_all (rs := [6]) (by as_aux_lemma => kernel_rfl) (by simp) ?_
  intro i hi; obtain rfl := List.mem_singleton.1 hi; clear hi
  refine wpOp_step rfl (fun K3 hK3 => ?_)
  have HK3 := Lib.hid hK3
  clear hK3
  rw [if_pos (by rfl)]
  go_simp
  refine HK3.out _ _ ⟨hH3, ?_⟩
  clear HK3 K3
  try simp only [List.getElem_toArray, List.getElem_cons_succ, List.getElem_cons_zero, Act.put, List.setIfInBounds_toArray, List.set_cons_zero, List.set_cons_succ]
  refine wpAnyH_done (by as_aux_lemma => kernel_rfl) ?_ _
  go_wp2
  go_ret
  exact ⟨rfl, hH3⟩
set_option maxRecDepth 100000 in
set_option maxHeartbeats 1600000 in
theorem row3_any (T n s a Bt Bl Bs Bk : Nat) (g b m u : Int) (w : World) (hT : TriAt w T) (hs : s ≤ n) (hn : n ≤ 50) (ha : a ≤ s) (hu : 0 ≤ u ∧ u ≤ 1000)
    (h1 : w.heap[Bt]? = some (.cells #[.pointer (some ⟨T, 0, none⟩)] 57 (0, 0))) (h2 : w.heap[Bl]? = some (.cells #[.int .i64 (n : Nat), .int .i64 g, .int .i64 b, .int .i64 m, .int .i64 u] 40 (0, 0))) (h3 : w.heap[Bs]? = some (.cells #[.int .i64 (s : Nat)] 3 (0, 0))) (h4 : w.heap[Bk]? = some (.cells #[.func (.func 52) #[] #[.pointer (some ⟨Bt, 0, none⟩), .pointer (some ⟨Bl, 0, none⟩), .pointer (some ⟨Bs, 0, none⟩)]] 100 (0, 0))) :
    Calls Try.prog 54 #[.int .i64 (a : Nat), .pointer (some ⟨Bk, 0, none⟩), .pointer (some ⟨Bs, 0, none⟩), .pointer (some ⟨Bl, 0, none⟩)] w fun e w' => e = .returned (.bool (keepsF n s ⟨false, b, u⟩ (s - a))) ∧ Below w.heap.size w w' := by
  have hkp := fun W (h : Below w.heap.size w W) => keepsBuyer_any T n s (s - a) Bt Bl Bs g b m u b u W (hT.below h hT.lt) hs hn hu ((h.block _ (Array.getElem?_eq_some_iff.1 h1).1).trans h1) ((h.block _ (Array.getElem?_eq_some_iff.1 h2).1).trans h2) ((h.block _ (Array.getElem?_eq_some_iff.1 h3).1).trans h3)
  have hbk := fun W => buyerOf_any (n : Nat) g b m u W
  unfold lotV at hbk
  have e1 : ((s - a : Nat) : Int) = (s : Int) - (a : Int) := by omega
  rw [e1] at hkp
  have w1 : IntKind.i64.wrap ((s : Int) - (a : Int)) = (s : Int) - (a : Int) := IntWalk.i64_in _ (by omega)
  have HK := Lib.hid hkp
  have HM := Lib.hid hbk
  have H2 := Lib.hid h2
  have H3 := Lib.hid h3
  have H4 := Lib.hid h4
  clear hkp hbk h1 h2 h3 h4 e1
  go_enter Try.func54, Try.ntmps54
  go_upto_region 1 with fail
  refine wp_region_held_drew (S := fun w' => Below w.heap.size w w') (by as_aux_lemma => kernel_rfl) (Below.refl _ _).drew (fun hHeld => ?_)
  refine wpAnyH_take (i := 0) (oi := _) (v := ?_) rfl (by as_aux_lemma => kernel_rfl) (by as_aux_lemma => kernel_rfl) (by as_aux_lemma => kernel_rfl) (fun _ _ _ h => h) (Or.inl ⟨by rfl, ?_⟩) hHeld ?_
  rotate_left
  · intro w1 hSw
    have d1 := one_cell ((hSw.block _ (Array.getElem?_eq_some_iff.1 H4.out).1).trans H4.out)
    have d0 := one_cell ((hSw.block _ (Array.getElem?_eq_some_iff.1 H3.out).1).trans H3.out)
    obtain ⟨d2, d3, d4, d5, d6⟩ := five_cells ((hSw.block _ (Array.getElem?_eq_some_iff.1 H2.out).1).trans H2.out)
    go_simp; with_reducible rfl
  simp only [List.getElem_toArray, List.getElem_cons_succ, List.getElem_cons_zero, Act.put, List.setIfInBounds_toArray, List.set_cons_zero, List.set_cons_succ]
  refine wpAnyH_take (i := 1) (oi := _) (v := ?_) rfl (by as_aux_lemma => kernel_rfl) (by as_aux_lemma => kernel_rfl) (by as_aux_lemma => kernel_rfl) (fun _ _ _ h => h) (Or.inl ⟨by rfl, ?_⟩) hHeld ?_
  rotate_left
  · intro w1 hSw
    have d1 := one_cell ((hSw.block _ (Array.getElem?_eq_some_iff.1 H4.out).1).trans H4.out)
    have d0 := one_cell ((hSw.block _ (Array.getElem?_eq_some_iff.1 H3.out).1).trans H3.out)
    obtain ⟨d2, d3, d4, d5, d6⟩ := five_cells ((hSw.block _ (Array.getElem?_eq_some_iff.1 H2.out).1).trans H2.out)
    go_simp; with_reducible rfl
  simp only [List.getElem_toArray, List.getElem_cons_succ, List.getElem_cons_zero, Act.put, List.setIfInBounds_toArray, List.set_cons_zero, List.set_cons_succ]
  refine wpAnyH_take (i := 2) (oi := _) (v := ?_) rfl (by as_aux_lemma => kernel_rfl) (by as_aux_lemma => kernel_rfl) (by as_aux_lemma => kernel_rfl) (fun _ _ _ h => h) (Or.inl ⟨by rfl, ?_⟩) hHeld ?_
  rotate_left
  · intro w1 hSw

    go_simp; with_reducible rfl
  simp only [List.getElem_toArray, List.getElem_cons_succ, List.getElem_cons_zero, Act.put, List.setIfInBounds_toArray, List.set_cons_zero, List.set_cons_succ]
  refine wpAnyH_take (i := 3) (oi := _) (v := ?_) rfl (by as_aux_lemma => kernel_rfl) (by as_aux_lemma => kernel_rfl) (by as_aux_lemma => kernel_rfl) (fun _ _ _ h => h) (Or.inl ⟨by rfl, ?_⟩) hHeld ?_
  rotate_left
  · intro w1 hSw

    go_simp; with_reducible rfl
  simp only [List.getElem_toArray, List.getElem_cons_succ, List.getElem_cons_zero, Act.put, List.setIfInBounds_toArray, List.set_cons_zero, List.set_cons_succ]
  refine wpAnyH_take (i := 4) (oi := _) (v := ?_) rfl (by as_aux_lemma => kernel_rfl) (by as_aux_lemma => kernel_rfl) (by as_aux_lemma => kernel_rfl) (fun _ _ _ h => h) (Or.inl ⟨by rfl, ?_⟩) hHeld ?_
  rotate_left
  · intro w1 hSw
    have d1 := one_cell ((hSw.block _ (Array.getElem?_eq_some_iff.1 H4.out).1).trans H4.out)
    have d0 := one_cell ((hSw.block _ (Array.getElem?_eq_some_iff.1 H3.out).1).trans H3.out)
    obtain ⟨d2, d3, d4, d5, d6⟩ := five_cells ((hSw.block _ (Array.getElem?_eq_some_iff.1 H2.out).1).trans H2.out)
    go_simp; with_reducible rfl
  simp only [List.getElem_toArray, List.getElem_cons_succ, List.getElem_cons_zero, Act.put, List.setIfInBounds_toArray, List.set_cons_zero, List.set_cons_succ]
  refine wpAnyH_all (rs := [5]) (by as_aux_lemma => kernel_rfl) (by simp) ?_
  intro i hi; obtain rfl := List.mem_singleton.1 hi; clear hi
  refine wpOp_step rfl (fun K3 hK3 => ?_)
  have HK3 := Lib.hid hK3
  clear hK3
  rw [if_pos (by rfl)]
  go_simp
  refine (HM.out _).mono ?_
  rintro e w2 ⟨rfl, hb2⟩
  have hH2 : Below w.heap.size w w2 := hHeld.trans (hb2.mono hHeld.size)
  refine HK3.out _ _ ⟨hH2, ?_⟩
  clear HK3 K3
  try simp only [List.getElem_toArray, List.getElem_cons_succ, List.getElem_cons_zero, Act.put, List.setIfInBounds_toArray, List.set_cons_zero, List.set_cons_succ]
  refine wpAnyH_take (i := 6) (oi := _) (v := ?_) rfl (by as_aux_lemma => kernel_rfl) (by as_aux_lemma => kernel_rfl) (by as_aux_lemma => kernel_rfl) (fun _ _ _ h => h) (Or.inl ⟨by rfl, ?_⟩) hH2 ?_
  rotate_left
  · intro w1 hSw

    go_simp; with_reducible rfl
  simp only [List.getElem_toArray, List.getElem_cons_succ, List.getElem_cons_zero, Act.put, List.setIfInBounds_toArray, List.set_cons_zero, List.set_cons_succ]
  refine wpAnyH_all (rs := [7]) (by as_aux_lemma => kernel_rfl) (by simp) ?_
  intro i hi; obtain rfl := List.mem_singleton.1 hi; clear hi
  refine wpOp_step rfl (fun K3 hK3 => ?_)
  have HK3 := Lib.hid hK3
  clear hK3
  rw [if_pos (by rfl)]
  go_simp
  refine (HK.out _ hH2).mono ?_
  rintro e w3 ⟨rfl, hb3⟩
  have hH3 : Below w.heap.size w w3 := hH2.trans (hb3.mono hH2.size)
  refine HK3.out _ _ ⟨hH3, ?_⟩
  clear HK3 K3
  try simp only [List.getElem_toArray, List.getElem_cons_succ, List.getElem_cons_zero, Act.put, List.setIfInBounds_toArray, List.set_cons_zero, List.set_cons_succ]
  refine wpAnyH_all (rs := [8]) (by as_aux_lemma => kernel_rfl) (by simp) ?_
  intro i hi; obtain rfl := List.mem_singleton.1 hi; clear hi
  refine wpOp_step rfl (fun K3 hK3 => ?_)
  have HK3 := Lib.hid hK3
  clear hK3
  rw [if_pos (by rfl)]
  go_simp
  refine HK3.out _ _ ⟨hH3, ?_⟩
  clear HK3 K3
  try simp only [List.getElem_toArray, List.getElem_cons_succ, List.getElem_cons_zero, Act.put, List.setIfInBounds_toArray, List.set_cons_zero, List.set_cons_succ]
  refine wpAnyH_done (by as_aux_lemma => kernel_rfl) ?_ _
  go_wp2
  go_ret
  exact ⟨rfl, hH3⟩
theorem set_of_three {X : World} {Q : Nat} {x y z : Value} {t : TypeId} (h : X.heap[Q]? = some (.cells #[x, y, z] t (0, 0))) (v : Value) :
    (X.setCell ⟨Q, 1, none⟩ v).heap[Q]? = some (.cells #[x, v, z] t (0, 0)) ∧ (X.setCell ⟨Q, 2, none⟩ v).heap[Q]? = some (.cells #[x, y, v] t (0, 0)) ∧ (X.setCell ⟨Q, 0, none⟩ v).heap[Q]? = some (.cells #[v, y, z] t (0, 0)) := by
  obtain ⟨hlt, hk⟩ := Array.getElem?_eq_some_iff.1 h
  refine ⟨?_, ?_, ?_⟩ <;>
  · show (X.heap.modify Q _)[Q]? = _
    rw [Array.getElem?_eq_getElem (by rw [Array.size_modify]; exact hlt), Array.getElem_modify_self, hk]; rfl
theorem three_cells {X : World} {b : Nat} {x y z : Value} {t : TypeId} (h : X.heap[b]? = some (.cells #[x, y, z] t (0, 0))) : X.cell? ⟨b, 0, none⟩ = some x ∧ X.cell? ⟨b, 1, none⟩ = some y ∧ X.cell? ⟨b, 2, none⟩ = some z := by simp [World.cell?, h]
theorem three_put {X : World} {Q : Nat} {x y z : Value} {t : TypeId} (h : X.heap[Q]? = some (.cells #[x, y, z] t (0, 0))) (a b c : Value) : (((X.setCell ⟨Q, 0, none⟩ a).setCell ⟨Q, 1, none⟩ b).setCell ⟨Q, 2, none⟩ c).heap[Q]? = some (.cells #[a, b, c] t (0, 0)) :=
  (set_of_three (set_of_three (set_of_three h a).2.2 b).1 c).2.1
/-- the least Accept that the maker needs; the greatest one that the buyer can bear -/
def rowMak (n s : Nat) (r : Rk) : Int := match firstP (keepsF n s r) (s + 1) with | some a => (a : Nat) | none => -1
def rowBuy (n s : Nat) (r : Rk) : Int := match firstP (fun l => keepsF n s r (s - l)) (s + 1) with | some l => (s : Int) - (l : Int) | none => -1
theorem rowMak_some {n s a : Nat} {r : Rk} (h : firstP (keepsF n s r) (s + 1) = some a) : rowMak n s r = (a : Nat) := by unfold rowMak; rw [h]
theorem rowMak_none {n s : Nat} {r : Rk} (h : firstP (keepsF n s r) (s + 1) = none) : rowMak n s r = -1 := by unfold rowMak; rw [h]
theorem rowBuy_some {n s l : Nat} {r : Rk} (h : firstP (fun l => keepsF n s r (s - l)) (s + 1) = some l) : rowBuy n s r = (s : Int) - (l : Int) := by unfold rowBuy; rw [h]
theorem rowBuy_none {n s : Nat} {r : Rk} (h : firstP (fun l => keepsF n s r (s - l)) (s + 1) = none) : rowBuy n s r = -1 := by unfold rowBuy; rw [h]
set_option maxRecDepth 100000 in
set_option maxHeartbeats 3200000 in
theorem row_any (T n s : Nat) (g b m u : Int) (w : World) (hT : TriAt w T) (hs : s ≤ n) (hn : n ≤ 50) (hm : 0 ≤ m ∧ m ≤ 1000) (hu : 0 ≤ u ∧ u ≤ 1000) :
    Calls Try.prog 45 #[.pointer (some ⟨T, 0, none⟩), lotV (n : Nat) g b m u, .int .i64 (s : Nat)] w fun e w' => e = .returned (.agg #[.int .i64 (s : Nat), .int .i64 (rowMak n s ⟨true, g, m⟩), .int .i64 (rowBuy n s ⟨false, b, u⟩)]) ∧ Below w.heap.size w w' := by
  obtain ⟨W0, hW0⟩ : ∃ X, X = ((((((w.alloc (.cells #[.pointer (some ⟨T, 0, none⟩)] 57)).alloc (.cells #[.int .i64 (n : Nat), .int .i64 g, .int .i64 b, .int .i64 m, .int .i64 u] 40)).alloc (.cells #[.int .i64 (s : Nat)] 3)).alloc (.cells #[.int .i64 0, .int .i64 0, .int .i64 0] 51)).alloc (.cells #[.func (.func 52) #[] #[.pointer (some ⟨w.heap.size, 0, none⟩), .pointer (some ⟨w.heap.size + 1, 0, none⟩), .pointer (some ⟨w.heap.size + 1 + 1, 0, none⟩)]] 100)).alloc (.cells #[.int .i64 (s : Nat), .int .i64 (-1), .int .i64 (-1)] 51)) := ⟨_, rfl⟩
  have hb0 : Below w.heap.size w W0 := by rw [hW0]; exact (((((((Below.refl _ _).alloc (Nat.le_refl _) _).alloc (by simp <;> omega) _).alloc (by simp <;> omega) _).alloc (by simp <;> omega) _).alloc (by simp <;> omega) _).alloc (by simp <;> omega) _)
  obtain ⟨H, hH⟩ : ∃ H, H = w.heap.size := ⟨_, rfl⟩
  rw [← hH] at hW0
  have hW0' := hW0
  have k0 : W0.heap[H]? = some (.cells #[.pointer (some ⟨T, 0, none⟩)] 57) := by
    rw [hW0, hH, Below.heap_alloc _ _ _ (by simp <;> omega), Below.heap_alloc _ _ _ (by simp <;> omega), Below.heap_alloc _ _ _ (by simp <;> omega), Below.heap_alloc _ _ _ (by simp <;> omega), Below.heap_alloc _ _ _ (by simp <;> omega)]
    have := alloc_heap w (.cells #[.pointer (some ⟨T, 0, none⟩)] 57)
    simpa using this
  have k1 : W0.heap[H + 1]? = some (.cells #[.int .i64 (n : Nat), .int .i64 g, .int .i64 b, .int .i64 m, .int .i64 u] 40) := by
    rw [hW0, hH, Below.heap_alloc _ _ _ (by simp <;> omega), Below.heap_alloc _ _ _ (by simp <;> omega), Below.heap_alloc _ _ _ (by simp <;> omega), Below.heap_alloc _ _ _ (by simp <;> omega)]
    have := alloc_heap (w.alloc (.cells #[.pointer (some ⟨T, 0, none⟩)] 57)) (.cells #[.int .i64 (n : Nat), .int .i64 g, .int .i64 b, .int .i64 m, .int .i64 u] 40)
    simpa using this
  have k2 : W0.heap[H + 1 + 1]? = some (.cells #[.int .i64 (s : Nat)] 3) := by
    rw [hW0, hH, Below.heap_alloc _ _ _ (by simp <;> omega), Below.heap_alloc _ _ _ (by simp <;> omega), Below.heap_alloc _ _ _ (by simp <;> omega)]
    have := alloc_heap ((w.alloc (.cells #[.pointer (some ⟨T, 0, none⟩)] 57)).alloc (.cells #[.int .i64 (n : Nat), .int .i64 g, .int .i64 b, .int .i64 m, .int .i64 u] 40)) (.cells #[.int .i64 (s : Nat)] 3)
    simpa using this
  have k3 : W0.heap[H + 1 + 1 + 1]? = some (.cells #[.int .i64 0, .int .i64 0, .int .i64 0] 51) := by
    rw [hW0, hH, Below.heap_alloc _ _ _ (by simp <;> omega), Below.heap_alloc _ _ _ (by simp <;> omega)]
    have := alloc_heap (((w.alloc (.cells #[.pointer (some ⟨T, 0, none⟩)] 57)).alloc (.cells #[.int .i64 (n : Nat), .int .i64 g, .int .i64 b, .int .i64 m, .int .i64 u] 40)).alloc (.cells #[.int .i64 (s : Nat)] 3)) (.cells #[.int .i64 0, .int .i64 0, .int .i64 0] 51)
    simpa using this
  have k4 : W0.heap[H + 1 + 1 + 1 + 1]? = some (.cells #[.func (.func 52) #[] #[.pointer (some ⟨H, 0, none⟩), .pointer (some ⟨H + 1, 0, none⟩), .pointer (some ⟨H + 1 + 1, 0, none⟩)]] 100) := by
    rw [hW0, hH, Below.heap_alloc _ _ _ (by simp <;> omega)]
    have := alloc_heap ((((w.alloc (.cells #[.pointer (some ⟨T, 0, none⟩)] 57)).alloc (.cells #[.int .i64 (n : Nat), .int .i64 g, .int .i64 b, .int .i64 m, .int .i64 u] 40)).alloc (.cells #[.int .i64 (s : Nat)] 3)).alloc (.cells #[.int .i64 0, .int .i64 0, .int .i64 0] 51)) (.cells #[.func (.func 52) #[] #[.pointer (some ⟨w.heap.size, 0, none⟩), .pointer (some ⟨w.heap.size + 1, 0, none⟩), .pointer (some ⟨w.heap.size + 1 + 1, 0, none⟩)]] 100)
    simpa using this
  have k5 : W0.heap[H + 1 + 1 + 1 + 1 + 1]? = some (.cells #[.int .i64 (s : Nat), .int .i64 (-1), .int .i64 (-1)] 51) := by
    rw [hW0, hH]
    have := alloc_heap (((((w.alloc (.cells #[.pointer (some ⟨T, 0, none⟩)] 57)).alloc (.cells #[.int .i64 (n : Nat), .int .i64 g, .int .i64 b, .int .i64 m, .int .i64 u] 40)).alloc (.cells #[.int .i64 (s : Nat)] 3)).alloc (.cells #[.int .i64 0, .int .i64 0, .int .i64 0] 51)).alloc (.cells #[.func (.func 52) #[] #[.pointer (some ⟨w.heap.size, 0, none⟩), .pointer (some ⟨w.heap.size + 1, 0, none⟩), .pointer (some ⟨w.heap.size + 1 + 1, 0, none⟩)]] 100)) (.cells #[.int .i64 (s : Nat), .int .i64 (-1), .int .i64 (-1)] 51)
    simpa using this
  have hz0 : W0.heap.size = H + 6 := by rw [hW0, hH]; simp
  have hT0 : TriAt W0 T := hT.below hb0 hT.lt
  have hsay : Says 53 #[.pointer (some ⟨H + 1 + 1 + 1 + 1, 0, none⟩), .pointer (some ⟨H + 1, 0, none⟩)] s (keepsF n s ⟨true, g, m⟩) W0 := fun a w' ha hb => by
    have q := fun (k : Nat) (o : Obj) (h : W0.heap[k]? = some o) => (hb.block k (Array.getElem?_eq_some_iff.1 h).1).trans h
    exact row2_any T n s a H (H + 1) (H + 1 + 1) (H + 1 + 1 + 1 + 1) g b m u w' (hT0.below hb hT0.lt) hs hn hm (q _ _ k0) (q _ _ k1) (q _ _ k2) (q _ _ k4)
  have hle := least_any 53 _ s (keepsF n s ⟨true, g, m⟩) W0 (by omega) hsay (enters_of Try.func53 (by kernel_rfl) rfl)
  obtain ⟨r, hr⟩ : ∃ r, firstP (keepsF n s ⟨true, g, m⟩) (s + 1) = r := ⟨_, rfl⟩
  rw [hr] at hle
  have HR := Lib.hid hr
  have HLE := Lib.hid hle
  have a2 := one_cell k2
  have K0 := Lib.hid k0
  have K1 := Lib.hid k1
  have K2 := Lib.hid k2
  have K3 := Lib.hid k3
  have K4 := Lib.hid k4
  have K5 := Lib.hid k5
  have HW0 := Lib.hid hW0
  have HH := Lib.hid hH
  unfold lotV
  clear hr hle hsay k0 k1 k2 k3 k4 k5 hW0' hW0 hH
  go_enter Try.func45, Try.ntmps45
  go_upto_region 3 with fail
  rw [← HH.out, ← HW0.out]
  go_wp2_with fail
  refine HLE.out.mono ?_
  rintro e W1 ⟨rfl, hb1⟩
  clear a2
  -- from here on: the first answer stored, or not
  obtain ⟨W2, hW2, hb2, j5⟩ : ∃ W2, W2 = (match r with | some a => W1.setCell ⟨H + 1 + 1 + 1 + 1 + 1, 1, none⟩ (.int .i64 (a : Nat)) | none => W1) ∧ Below (H + 5) W0 W2 ∧ W2.heap[H + 1 + 1 + 1 + 1 + 1]? = some (.cells #[.int .i64 (s : Nat), .int .i64 (rowMak n s ⟨true, g, m⟩), .int .i64 (-1)] 51 (0, 0)) := by
    have j := (hb1.block _ (Array.getElem?_eq_some_iff.1 K5.out).1).trans K5.out
    refine ⟨_, rfl, ?_, ?_⟩
    · cases r with
      | none => exact hb1.mono (by omega)
      | some a => exact (hb1.mono (by omega)).setCell (p := ⟨H + 1 + 1 + 1 + 1 + 1, 1, none⟩) (by show H + 5 ≤ H + 1 + 1 + 1 + 1 + 1; omega) _
    · cases r with
      | none => rw [rowMak_none HR.out]; exact j
      | some a => rw [rowMak_some HR.out]; exact (set_of_three j _).1
  have gk := fun (k : Nat) (o : Obj) (hk : k < H + 5) (h : W0.heap[k]? = some o) => (hb2.block k hk).trans h
  have i0 := gk _ _ (by omega) K0.out
  have i1 := gk _ _ (by omega) K1.out
  have i2 := gk _ _ (by omega) K2.out
  have i3 := gk _ _ (by omega) K3.out
  have i4 := gk _ _ (by omega) K4.out
  have hTl : T < H := by have := hT.lt; have := HH.out; omega
  have hT2 : TriAt W2 T := hT0.below hb2 (by omega)
  have hsay : Says 54 #[.pointer (some ⟨H + 1 + 1 + 1 + 1, 0, none⟩), .pointer (some ⟨H + 1 + 1, 0, none⟩), .pointer (some ⟨H + 1, 0, none⟩)] s (fun l => keepsF n s ⟨false, b, u⟩ (s - l)) W2 := fun a w' ha hb => by
    have q := fun (k : Nat) (o : Obj) (h : W2.heap[k]? = some o) => (hb.block k (Array.getElem?_eq_some_iff.1 h).1).trans h
    exact row3_any T n s a H (H + 1) (H + 1 + 1) (H + 1 + 1 + 1 + 1) g b m u w' (hT2.below hb hT2.lt) hs hn ha hu (q _ _ i0) (q _ _ i1) (q _ _ i2) (q _ _ i4)
  have hle := least_any 54 _ s (fun l => keepsF n s ⟨false, b, u⟩ (s - l)) W2 (by omega) hsay (enters_of Try.func54 (by kernel_rfl) rfl)
  obtain ⟨r2, hr2⟩ : ∃ r, firstP (fun l => keepsF n s ⟨false, b, u⟩ (s - l)) (s + 1) = r := ⟨_, rfl⟩
  rw [hr2] at hle
  have HR2 := Lib.hid hr2
  have HLE2 := Lib.hid hle
  have b2 := one_cell i2
  have I2 := Lib.hid i2
  have I3 := Lib.hid i3
  have J5 := Lib.hid j5
  have hz2 := hb2.size
  rw [hz0] at hz2
  have hw2 : Below H w W2 := by rw [HH.out]; exact hb0.trans (hb2.mono (by have := HH.out; omega))
  clear hr2 hle hsay i0 i1 i2 i3 i4 gk j5
  have E := fun (W3 : World) (hb3 : Below W2.heap.size W2 W3) => (Lib.hid (show True from trivial))
  clear E
  have HW2 := Lib.hid hW2
  clear hW2
  cases r with
  | none =>
    have e2 : W2 = W1 := HW2.out
    subst e2
    unfold leastV
    simp only []
    go_wp2_with fail
    refine HLE2.out.mono ?_
    rintro e W3 ⟨rfl, hb3⟩
    have hw3 : Below H w W3 := hw2.trans (hb3.mono (by omega))
    have j5 := (hb3.block _ (Array.getElem?_eq_some_iff.1 J5.out).1).trans J5.out
    have j3 := (hb3.block _ (Array.getElem?_eq_some_iff.1 I3.out).1).trans I3.out
    have j2 := one_cell ((hb3.block _ (Array.getElem?_eq_some_iff.1 I2.out).1).trans I2.out)
    clear b2
    cases r2 with
    | none =>
      rw [← rowBuy_none HR2.out] at j5
      have HB := Lib.hid (rowBuy_none HR2.out)
      obtain ⟨Bv, hBv⟩ : ∃ B, rowBuy n s ⟨false, b, u⟩ = B := ⟨_, rfl⟩
      obtain ⟨Mv, hMv⟩ : ∃ M, rowMak n s ⟨true, g, m⟩ = M := ⟨_, rfl⟩
      rw [hBv, hMv] at j5
      have HV := Lib.hid (And.intro hBv hMv)
      clear hBv hMv
      obtain ⟨x0, x1, x2⟩ := three_cells j5
      obtain ⟨y0, y1, y2⟩ := three_cells j3
      have f0 : W3.frozen? ⟨H + 1 + 1 + 1, 0, none⟩ = false := frozen_of j3
      have f1 : W3.frozen? ⟨H + 1 + 1 + 1, 1, none⟩ = false := frozen_of j3
      have f2 : W3.frozen? ⟨H + 1 + 1 + 1, 2, none⟩ = false := frozen_of j3
      obtain ⟨t0, t1, t2⟩ := three_cells (three_put j3 (.int .i64 (s : Nat)) (.int .i64 Mv) (.int .i64 Bv))
      have hb9 := ((hw3.setCell (p := ⟨H + 1 + 1 + 1, 0, none⟩) (by show H ≤ H + 1 + 1 + 1; omega) (.int .i64 (s : Nat))).setCell (p := ⟨H + 1 + 1 + 1, 1, none⟩) (by show H ≤ H + 1 + 1 + 1; omega) (.int .i64 Mv)).setCell (p := ⟨H + 1 + 1 + 1, 2, none⟩) (by show H ≤ H + 1 + 1 + 1; omega) (.int .i64 Bv)
      clear j5 j3
      unfold leastV
      simp only []
      go_wp2
      exact bodyPost_ret (v := .agg #[.int .i64 (s : Nat), .int .i64 Mv, .int .i64 Bv]) (by simp [results, Try.results45, go_sem, t0, t1, t2]) rfl ⟨by rw [HV.out.1, HV.out.2], by rw [← HH.out]; exact hb9⟩
    | some l =>
      have hl := (firstP_some.1 HR2.out).1
      obtain ⟨Bv, hBv⟩ : ∃ B, rowBuy n s ⟨false, b, u⟩ = B := ⟨_, rfl⟩
      have hBl : (s : Int) - (l : Int) = Bv := by rw [← hBv]; exact (rowBuy_some HR2.out).symm
      obtain ⟨Mv, hMv⟩ : ∃ M, rowMak n s ⟨true, g, m⟩ = M := ⟨_, rfl⟩
      rw [hMv] at j5
      have HV := Lib.hid (And.intro hBv hMv)
      have w5 : IntKind.i64.wrap ((s : Int) - (l : Int)) = Bv := by rw [IntWalk.i64_in _ (by omega)]; exact hBl
      have w6 : wrap64 ((s : Int) - (l : Int)) = Bv := by rw [IntWalk.wrap64_in _ (by omega)]; exact hBl
      clear hBv hMv
      obtain ⟨x0, x1, x2⟩ := three_cells j5
      have f5 : W3.frozen? ⟨H + 1 + 1 + 1 + 1 + 1, 2, none⟩ = false := frozen_of j5
      obtain ⟨W4, hW4⟩ : ∃ X, X = W3.setCell ⟨H + 1 + 1 + 1 + 1 + 1, 2, none⟩ (.int .i64 Bv) := ⟨_, rfl⟩
      have hw4 : Below H w W4 := by rw [hW4]; exact hw3.setCell (p := ⟨H + 1 + 1 + 1 + 1 + 1, 2, none⟩) (by show H ≤ H + 1 + 1 + 1 + 1 + 1; omega) _
      have l5 : W4.heap[H + 1 + 1 + 1 + 1 + 1]? = some (.cells #[.int .i64 (s : Nat), .int .i64 Mv, .int .i64 Bv] 51 (0, 0)) := by rw [hW4]; exact (set_of_three j5 _).2.1
      have l3 : W4.heap[H + 1 + 1 + 1]? = some (.cells #[.int .i64 0, .int .i64 0, .int .i64 0] 51 (0, 0)) := by rw [hW4]; exact (Below.heap_setCell _ _ _ _ (by show H + 1 + 1 + 1 ≠ H + 1 + 1 + 1 + 1 + 1; omega)).trans j3
      clear j5 j3
      have HW4 := Lib.hid hW4
      clear hW4
      unfold leastV
      simp only []
      go_upto_region 9 with fail
      rw [← HW4.out]
      clear x0 x1 x2 f5 j2
      obtain ⟨x0, x1, x2⟩ := three_cells l5
      obtain ⟨y0, y1, y2⟩ := three_cells l3
      have f0 : W4.frozen? ⟨H + 1 + 1 + 1, 0, none⟩ = false := frozen_of l3
      have f1 : W4.frozen? ⟨H + 1 + 1 + 1, 1, none⟩ = false := frozen_of l3
      have f2 : W4.frozen? ⟨H + 1 + 1 + 1, 2, none⟩ = false := frozen_of l3
      obtain ⟨t0, t1, t2⟩ := three_cells (three_put l3 (.int .i64 (s : Nat)) (.int .i64 Mv) (.int .i64 Bv))
      have hb9 := ((hw4.setCell (p := ⟨H + 1 + 1 + 1, 0, none⟩) (by show H ≤ H + 1 + 1 + 1; omega) (.int .i64 (s : Nat))).setCell (p := ⟨H + 1 + 1 + 1, 1, none⟩) (by show H ≤ H + 1 + 1 + 1; omega) (.int .i64 Mv)).setCell (p := ⟨H + 1 + 1 + 1, 2, none⟩) (by show H ≤ H + 1 + 1 + 1; omega) (.int .i64 Bv)
      clear l5 l3
      go_wp2
      exact bodyPost_ret (v := .agg #[.int .i64 (s : Nat), .int .i64 Mv, .int .i64 Bv]) (by simp [results, Try.results45, go_sem, t0, t1, t2]) rfl ⟨by rw [HV.out.1, HV.out.2], by rw [← HH.out]; exact hb9⟩
  | some a =>
    have j := (hb1.block _ (Array.getElem?_eq_some_iff.1 K5.out).1).trans K5.out
    obtain ⟨x0, x1, x2⟩ := three_cells j
    have f5 : W1.frozen? ⟨H + 1 + 1 + 1 + 1 + 1, 1, none⟩ = false := frozen_of j
    have HE := Lib.hid (show W2 = W1.setCell ⟨H + 1 + 1 + 1 + 1 + 1, 1, none⟩ (.int .i64 (a : Nat)) from HW2.out)
    unfold leastV
    simp only []
    clear j
    go_upto_region 6 with fail
    rw [← HE.out]
    clear x0 x1 x2 f5
    go_wp2_with fail
    refine HLE2.out.mono ?_
    rintro e W3 ⟨rfl, hb3⟩
    have hw3 : Below H w W3 := hw2.trans (hb3.mono (by omega))
    have j5 := (hb3.block _ (Array.getElem?_eq_some_iff.1 J5.out).1).trans J5.out
    have j3 := (hb3.block _ (Array.getElem?_eq_some_iff.1 I3.out).1).trans I3.out
    have j2 := one_cell ((hb3.block _ (Array.getElem?_eq_some_iff.1 I2.out).1).trans I2.out)
    clear b2
    cases r2 with
    | none =>
      rw [← rowBuy_none HR2.out] at j5
      have HB := Lib.hid (rowBuy_none HR2.out)
      obtain ⟨Bv, hBv⟩ : ∃ B, rowBuy n s ⟨false, b, u⟩ = B := ⟨_, rfl⟩
      obtain ⟨Mv, hMv⟩ : ∃ M, rowMak n s ⟨true, g, m⟩ = M := ⟨_, rfl⟩
      rw [hBv, hMv] at j5
      have HV := Lib.hid (And.intro hBv hMv)
      clear hBv hMv
      obtain ⟨x0, x1, x2⟩ := three_cells j5
      obtain ⟨y0, y1, y2⟩ := three_cells j3
      have f0 : W3.frozen? ⟨H + 1 + 1 + 1, 0, none⟩ = false := frozen_of j3
      have f1 : W3.frozen? ⟨H + 1 + 1 + 1, 1, none⟩ = false := frozen_of j3
      have f2 : W3.frozen? ⟨H + 1 + 1 + 1, 2, none⟩ = false := frozen_of j3
      obtain ⟨t0, t1, t2⟩ := three_cells (three_put j3 (.int .i64 (s : Nat)) (.int .i64 Mv) (.int .i64 Bv))
      have hb9 := ((hw3.setCell (p := ⟨H + 1 + 1 + 1, 0, none⟩) (by show H ≤ H + 1 + 1 + 1; omega) (.int .i64 (s : Nat))).setCell (p := ⟨H + 1 + 1 + 1, 1, none⟩) (by show H ≤ H + 1 + 1 + 1; omega) (.int .i64 Mv)).setCell (p := ⟨H + 1 + 1 + 1, 2, none⟩) (by show H ≤ H + 1 + 1 + 1; omega) (.int .i64 Bv)
      clear j5 j3
      unfold leastV
      simp only []
      go_wp2
      exact bodyPost_ret (v := .agg #[.int .i64 (s : Nat), .int .i64 Mv, .int .i64 Bv]) (by simp [results, Try.results45, go_sem, t0, t1, t2]) rfl ⟨by rw [HV.out.1, HV.out.2], by rw [← HH.out]; exact hb9⟩
    | some l =>
      have hl := (firstP_some.1 HR2.out).1
      obtain ⟨Bv, hBv⟩ : ∃ B, rowBuy n s ⟨false, b, u⟩ = B := ⟨_, rfl⟩
      have hBl : (s : Int) - (l : Int) = Bv := by rw [← hBv]; exact (rowBuy_some HR2.out).symm
      obtain ⟨Mv, hMv⟩ : ∃ M, rowMak n s ⟨true, g, m⟩ = M := ⟨_, rfl⟩
      rw [hMv] at j5
      have HV := Lib.hid (And.intro hBv hMv)
      have w5 : IntKind.i64.wrap ((s : Int) - (l : Int)) = Bv := by rw [IntWalk.i64_in _ (by omega)]; exact hBl
      have w6 : wrap64 ((s : Int) - (l : Int)) = Bv := by rw [IntWalk.wrap64_in _ (by omega)]; exact hBl
      clear hBv hMv
      obtain ⟨x0, x1, x2⟩ := three_cells j5
      have f5 : W3.frozen? ⟨H + 1 + 1 + 1 + 1 + 1, 2, none⟩ = false := frozen_of j5
      obtain ⟨W4, hW4⟩ : ∃ X, X = W3.setCell ⟨H + 1 + 1 + 1 + 1 + 1, 2, none⟩ (.int .i64 Bv) := ⟨_, rfl⟩
      have hw4 : Below H w W4 := by rw [hW4]; exact hw3.setCell (p := ⟨H + 1 + 1 + 1 + 1 + 1, 2, none⟩) (by show H ≤ H + 1 + 1 + 1 + 1 + 1; omega) _
      have l5 : W4.heap[H + 1 + 1 + 1 + 1 + 1]? = some (.cells #[.int .i64 (s : Nat), .int .i64 Mv, .int .i64 Bv] 51 (0, 0)) := by rw [hW4]; exact (set_of_three j5 _).2.1
      have l3 : W4.heap[H + 1 + 1 + 1]? = some (.cells #[.int .i64 0, .int .i64 0, .int .i64 0] 51 (0, 0)) := by rw [hW4]; exact (Below.heap_setCell _ _ _ _ (by show H + 1 + 1 + 1 ≠ H + 1 + 1 + 1 + 1 + 1; omega)).trans j3
      clear j5 j3
      have HW4 := Lib.hid hW4
      clear hW4
      unfold leastV
      simp only []
      go_upto_region 9 with fail
      rw [← HW4.out]
      clear x0 x1 x2 f5 j2
      obtain ⟨x0, x1, x2⟩ := three_cells l5
      obtain ⟨y0, y1, y2⟩ := three_cells l3
      have f0 : W4.frozen? ⟨H + 1 + 1 + 1, 0, none⟩ = false := frozen_of l3
      have f1 : W4.frozen? ⟨H + 1 + 1 + 1, 1, none⟩ = false := frozen_of l3
      have f2 : W4.frozen? ⟨H + 1 + 1 + 1, 2, none⟩ = false := frozen_of l3
      obtain ⟨t0, t1, t2⟩ := three_cells (three_put l3 (.int .i64 (s : Nat)) (.int .i64 Mv) (.int .i64 Bv))
      have hb9 := ((hw4.setCell (p := ⟨H + 1 + 1 + 1, 0, none⟩) (by show H ≤ H + 1 + 1 + 1; omega) (.int .i64 (s : Nat))).setCell (p := ⟨H + 1 + 1 + 1, 1, none⟩) (by show H ≤ H + 1 + 1 + 1; omega) (.int .i64 Mv)).setCell (p := ⟨H + 1 + 1 + 1, 2, none⟩) (by show H ≤ H + 1 + 1 + 1; omega) (.int .i64 Bv)
      clear l5 l3
      go_wp2
      exact bodyPost_ret (v := .agg #[.int .i64 (s : Nat), .int .i64 Mv, .int .i64 Bv]) (by simp [results, Try.results45, go_sem, t0, t1, t2]) rfl ⟨by rw [HV.out.1, HV.out.2], by rw [← HH.out]; exact hb9⟩
end Go.Proofs.Ytclcconllkfjiaa
