/- Contract: Within. -/
import Derived.Test.YtclcconllkfjiaaA12
import Derived.Test.YtclcconllkfjiaaA10
import Derived.Test.YtclcconllkfjiaaA6
namespace Go.Proofs.Ytclcconllkfjiaa
set_option linter.unusedSimpArgs false
set_option linter.unusedVariables false
open Go.RowKit

/-- is so many bad ones not too rare a case? -/
def canF (n c : Nat) (f d : Int) (k : Nat) : Bool := likelyB k (n - k) c f d
set_option maxRecDepth 100000 in
set_option maxHeartbeats 1600000 in
theorem within1_any (T n c k Bt Bn Bc Bf Bd : Nat) (f d : Int) (w : World) (hT : TriAt w T) (hc : c ≤ n) (hn : n ≤ 50) (hk : k ≤ n) (hd : 0 ≤ d ∧ d ≤ 1000)
    (h1 : w.heap[Bt]? = some (.cells #[.pointer (some ⟨T, 0, none⟩)] 57 (0, 0))) (h2 : w.heap[Bn]? = some (.cells #[.int .i64 (n : Nat)] 3 (0, 0))) (h3 : w.heap[Bc]? = some (.cells #[.int .i64 (c : Nat)] 3 (0, 0))) (h4 : w.heap[Bf]? = some (.cells #[.int .i64 f] 3 (0, 0))) (h5 : w.heap[Bd]? = some (.cells #[.int .i64 d] 3 (0, 0))) :
    Calls Try.prog 33 #[.int .i64 (k : Nat), .pointer (some ⟨Bt, 0, none⟩), .pointer (some ⟨Bn, 0, none⟩), .pointer (some ⟨Bc, 0, none⟩), .pointer (some ⟨Bf, 0, none⟩), .pointer (some ⟨Bd, 0, none⟩)] w fun e w' => e = .returned (.bool (canF n c f d k)) ∧ Below w.heap.size w w' := by
  have hbe := fun W (h : Below w.heap.size w W) => likely_any T k (n - k) c f d W (hT.below h hT.lt) (by omega) (by omega) hd
  have hlw := fun W => lotWith_any (k : Nat) (n : Nat) W (by omega) (by omega)
  have e1 : ((n : Int) - (k : Int)) = ((n - k : Nat) : Int) := by omega
  rw [e1] at hlw
  unfold mets at hbe hlw
  have hres : canF n c f d k = likelyB k (n - k) c f d := rfl
  obtain ⟨z, hz⟩ : ∃ z, likelyB k (n - k) c f d = z := ⟨_, rfl⟩
  rw [hz] at hbe hres
  have HB := Lib.hid hbe
  have HW := Lib.hid hlw
  have HR := Lib.hid hres
  have H1 := Lib.hid h1
  have H2 := Lib.hid h2
  have H3 := Lib.hid h3
  have H4 := Lib.hid h4
  have H5 := Lib.hid h5
  clear hbe hlw hres hz h1 h2 h3 h4 h5 e1
  go_enter Try.func33, Try.ntmps33
  go_upto_region 1 with fail
  refine wp_region_held_drew (S := fun w' => Below w.heap.size w w') (by as_aux_lemma => kernel_rfl) (Below.refl _ _).drew (fun hHeld => ?_)
  refine wpAnyH_take (i := 0) (oi := _) (v := ?_) rfl (by as_aux_lemma => kernel_rfl) (by as_aux_lemma => kernel_rfl) (by as_aux_lemma => kernel_rfl) (fun _ _ _ h => h) (Or.inl ⟨by rfl, ?_⟩) hHeld ?_
  rotate_left
  · intro w1 hSw
    have d1 := one_cell ((hSw.block _ (Array.getElem?_eq_some_iff.1 H1.out).1).trans H1.out)
    have d2 := one_cell ((hSw.block _ (Array.getElem?_eq_some_iff.1 H2.out).1).trans H2.out)
    have d3 := one_cell ((hSw.block _ (Array.getElem?_eq_some_iff.1 H3.out).1).trans H3.out)
    have d4 := one_cell ((hSw.block _ (Array.getElem?_eq_some_iff.1 H4.out).1).trans H4.out)
    have d5 := one_cell ((hSw.block _ (Array.getElem?_eq_some_iff.1 H5.out).1).trans H5.out)
    go_simp; with_reducible rfl
  simp only [List.getElem_toArray, List.getElem_cons_succ, List.getElem_cons_zero, Act.put, List.setIfInBounds_toArray, List.set_cons_zero, List.set_cons_succ]
  refine wpAnyH_take (i := 1) (oi := _) (v := ?_) rfl (by as_aux_lemma => kernel_rfl) (by as_aux_lemma => kernel_rfl) (by as_aux_lemma => kernel_rfl) (fun _ _ _ h => h) (Or.inl ⟨by rfl, ?_⟩) hHeld ?_
  rotate_left
  · intro w1 hSw

    go_simp; with_reducible rfl
  simp only [List.getElem_toArray, List.getElem_cons_succ, List.getElem_cons_zero, Act.put, List.setIfInBounds_toArray, List.set_cons_zero, List.set_cons_succ]
  refine wpAnyH_take (i := 2) (oi := _) (v := ?_) rfl (by as_aux_lemma => kernel_rfl) (by as_aux_lemma => kernel_rfl) (by as_aux_lemma => kernel_rfl) (fun _ _ _ h => h) (Or.inl ⟨by rfl, ?_⟩) hHeld ?_
  rotate_left
  · intro w1 hSw
    have d1 := one_cell ((hSw.block _ (Array.getElem?_eq_some_iff.1 H1.out).1).trans H1.out)
    have d2 := one_cell ((hSw.block _ (Array.getElem?_eq_some_iff.1 H2.out).1).trans H2.out)
    have d3 := one_cell ((hSw.block _ (Array.getElem?_eq_some_iff.1 H3.out).1).trans H3.out)
    have d4 := one_cell ((hSw.block _ (Array.getElem?_eq_some_iff.1 H4.out).1).trans H4.out)
    have d5 := one_cell ((hSw.block _ (Array.getElem?_eq_some_iff.1 H5.out).1).trans H5.out)
    go_simp; with_reducible rfl
  simp only [List.getElem_toArray, List.getElem_cons_succ, List.getElem_cons_zero, Act.put, List.setIfInBounds_toArray, List.set_cons_zero, List.set_cons_succ]
  refine wpAnyH_take (i := 4) (oi := _) (v := ?_) rfl (by as_aux_lemma => kernel_rfl) (by as_aux_lemma => kernel_rfl) (by as_aux_lemma => kernel_rfl) (fun _ _ _ h => h) (Or.inl ⟨by rfl, ?_⟩) hHeld ?_
  rotate_left
  · intro w1 hSw
    have d1 := one_cell ((hSw.block _ (Array.getElem?_eq_some_iff.1 H1.out).1).trans H1.out)
    have d2 := one_cell ((hSw.block _ (Array.getElem?_eq_some_iff.1 H2.out).1).trans H2.out)
    have d3 := one_cell ((hSw.block _ (Array.getElem?_eq_some_iff.1 H3.out).1).trans H3.out)
    have d4 := one_cell ((hSw.block _ (Array.getElem?_eq_some_iff.1 H4.out).1).trans H4.out)
    have d5 := one_cell ((hSw.block _ (Array.getElem?_eq_some_iff.1 H5.out).1).trans H5.out)
    go_simp; with_reducible rfl
  simp only [List.getElem_toArray, List.getElem_cons_succ, List.getElem_cons_zero, Act.put, List.setIfInBounds_toArray, List.set_cons_zero, List.set_cons_succ]
  refine wpAnyH_take (i := 5) (oi := _) (v := ?_) rfl (by as_aux_lemma => kernel_rfl) (by as_aux_lemma => kernel_rfl) (by as_aux_lemma => kernel_rfl) (fun _ _ _ h => h) (Or.inl ⟨by rfl, ?_⟩) hHeld ?_
  rotate_left
  · intro w1 hSw
    have d1 := one_cell ((hSw.block _ (Array.getElem?_eq_some_iff.1 H1.out).1).trans H1.out)
    have d2 := one_cell ((hSw.block _ (Array.getElem?_eq_some_iff.1 H2.out).1).trans H2.out)
    have d3 := one_cell ((hSw.block _ (Array.getElem?_eq_some_iff.1 H3.out).1).trans H3.out)
    have d4 := one_cell ((hSw.block _ (Array.getElem?_eq_some_iff.1 H4.out).1).trans H4.out)
    have d5 := one_cell ((hSw.block _ (Array.getElem?_eq_some_iff.1 H5.out).1).trans H5.out)
    go_simp; with_reducible rfl
  simp only [List.getElem_toArray, List.getElem_cons_succ, List.getElem_cons_zero, Act.put, List.setIfInBounds_toArray, List.set_cons_zero, List.set_cons_succ]
  refine wpAnyH_take (i := 6) (oi := _) (v := ?_) rfl (by as_aux_lemma => kernel_rfl) (by as_aux_lemma => kernel_rfl) (by as_aux_lemma => kernel_rfl) (fun _ _ _ h => h) (Or.inl ⟨by rfl, ?_⟩) hHeld ?_
  rotate_left
  · intro w1 hSw
    have d1 := one_cell ((hSw.block _ (Array.getElem?_eq_some_iff.1 H1.out).1).trans H1.out)
    have d2 := one_cell ((hSw.block _ (Array.getElem?_eq_some_iff.1 H2.out).1).trans H2.out)
    have d3 := one_cell ((hSw.block _ (Array.getElem?_eq_some_iff.1 H3.out).1).trans H3.out)
    have d4 := one_cell ((hSw.block _ (Array.getElem?_eq_some_iff.1 H4.out).1).trans H4.out)
    have d5 := one_cell ((hSw.block _ (Array.getElem?_eq_some_iff.1 H5.out).1).trans H5.out)
    go_simp; with_reducible rfl
  simp only [List.getElem_toArray, List.getElem_cons_succ, List.getElem_cons_zero, Act.put, List.setIfInBounds_toArray, List.set_cons_zero, List.set_cons_succ]
  refine wpAnyH_all (rs := [3]) (by as_aux_lemma => kernel_rfl) (by simp) ?_
  intro i hi; obtain rfl := List.mem_singleton.1 hi; clear hi
  refine wpOp_step rfl (fun K3 hK3 => ?_)
  have HK3 := Lib.hid hK3
  clear hK3
  rw [if_pos (by rfl)]
  go_simp
  refine (HW.out _).mono ?_
  rintro e w2 ⟨rfl, hb2⟩
  have hH2 : Below w.heap.size w w2 := hHeld.trans (hb2.mono hHeld.size)
  refine HK3.out _ _ ⟨hH2, ?_⟩
  clear HK3 K3
  try simp only [List.getElem_toArray, List.getElem_cons_succ, List.getElem_cons_zero, Act.put, List.setIfInBounds_toArray, List.set_cons_zero, List.set_cons_succ]
  refine wpAnyH_all (rs := [7]) (by as_aux_lemma => kernel_rfl) (by simp) ?_
  intro i hi; obtain rfl := List.mem_singleton.1 hi; clear hi
  refine wpOp_step rfl (fun K3 hK3 => ?_)
  have HK3 := Lib.hid hK3
  clear hK3
  rw [if_pos (by rfl)]
  go_simp
  refine (HB.out _ hH2).mono ?_
  rintro e w3 ⟨rfl, hb3⟩
  have hH3 : Below w.heap.size w w3 := hH2.trans (hb3.mono hH2.size)
  refine HK3.out _ _ ⟨hH3, ?_⟩
  clear HK3 K3
  try simp only [List.getElem_toArray, List.getElem_cons_succ, List.getElem_cons_zero, Act.put, List.setIfInBounds_toArray, List.set_cons_zero, List.set_cons_succ]
  refine wpAnyH_all (rs := [8]) (by as_aux_lemma => kernel_rfl) (by simp) ?_
  intro i hi; obtain rfl := List.mem_singleton.1 hi; clear hi
  refine wpOp_step rfl (fun K3 hK3 => ?_)
  have HK3 := Lib.hid hK3
  clear hK3
  rw [if_pos (by rfl)]
  go_simp
  refine HK3.out _ _ ⟨hH3, ?_⟩
  clear HK3 K3
  try simp only [List.getElem_toArray, List.getElem_cons_succ, List.getElem_cons_zero, Act.put, List.setIfInBounds_toArray, List.set_cons_zero, List.set_cons_succ]
  refine wpAnyH_done (by as_aux_lemma => kernel_rfl) ?_ _
  go_wp2
  go_ret
  exact ⟨by rw [HR.out]; rfl, hH3⟩
set_option maxRecDepth 100000 in
set_option maxHeartbeats 1600000 in
theorem within2_any (n k Bf Bn : Nat) (caps : Array Value) (F : Nat → Bool) (w : World) (hn : n ≤ 50) (hk : k ≤ n) (hF : Says 33 caps n F w)
    (h1 : w.heap[Bf]? = some (.cells #[.func (.func 33) #[] caps] 69 (0, 0))) (h2 : w.heap[Bn]? = some (.cells #[.int .i64 (n : Nat)] 3 (0, 0))) (hcs : ∃ p1 p2 p3 p4 p5 : Value, caps = #[p1, p2, p3, p4, p5]) :
    Calls Try.prog 36 #[.int .i64 (k : Nat), .pointer (some ⟨Bf, 0, none⟩), .pointer (some ⟨Bn, 0, none⟩)] w fun e w' => e = .returned (.bool (F (n - k))) ∧ Below w.heap.size w w' := by
  have hcall := hF (n - k) w (by omega) (Below.refl _ _)
  obtain ⟨p1, p2, p3, p4, p5, rfl⟩ := hcs
  have e1 : ((n : Int) - (k : Int)) = ((n - k : Nat) : Int) := by omega
  rw [← e1] at hcall
  obtain ⟨z, hz⟩ : ∃ z, F (n - k) = z := ⟨_, rfl⟩
  rw [hz] at hcall
  have HC := Lib.hid hcall
  have HZ := Lib.hid hz
  have c1 := one_cell h1
  have c2 := one_cell h2
  clear hcall hz e1 hF
  go_enter Try.func36, Try.ntmps36
  go_wp2_with fail
  refine HC.out.mono ?_
  rintro e w1 ⟨rfl, hb1⟩
  go_wp2
  go_ret
  exact ⟨by rw [HZ.out]; rfl, hb1⟩
/-- what Within returns where nothing is wrong -/
def withinR (n c : Nat) (f d : Int) : Int × Int × Int := match firstP (canF n c f d) (n + 1) with
  | none => (0, 0, 4)
  | some lo => ((lo : Nat), ((n - (firstP (fun k => canF n c f d (n - k)) (n + 1)).getD 0 : Nat) : Int), 0)
theorem withinR_none {n c : Nat} {f d : Int} (h : firstP (canF n c f d) (n + 1) = none) : withinR n c f d = (0, 0, 4) := by unfold withinR; rw [h]
theorem withinR_some {n c lo : Nat} {f d : Int} {r : Option Nat} (h : firstP (canF n c f d) (n + 1) = some lo) (h2 : firstP (fun k => canF n c f d (n - k)) (n + 1) = r) : withinR n c f d = (((lo : Nat) : Int), ((n - r.getD 0 : Nat) : Int), 0) := by unfold withinR; rw [h, h2]
/-- what Within returns -/
def withinP (n c f d : Int) : Int × Int × Int :=
  if inB n 1 50 = false then (0, 0, 1) else if inB c 0 n = false then (0, 0, 1) else if inB f 0 c = false then (0, 0, 1) else if inB d 0 1000 = false then (0, 0, 2) else
    withinR n.toNat c.toNat f d
def spanErr (r : Int × Int × Int) : Value := .tuple #[.agg #[.int .i64 r.1, .int .i64 r.2.1], .int .i64 r.2.2]
set_option maxRecDepth 100000 in
set_option maxHeartbeats 3200000 in
theorem within_ok (n c : Nat) (f d : Int) (w : World) (h1 : 1 ≤ n) (h2 : n ≤ 50) (h3 : c ≤ n) (h4 : 0 ≤ f) (h5 : f ≤ c) (hd : 0 ≤ d ∧ d ≤ 1000) :
    Calls Try.prog 13 #[.int .i64 (n : Nat), .int .i64 (c : Nat), .int .i64 f, .int .i64 d] w fun e w' => e = .returned (spanErr (withinR n c f d)) ∧ Below w.heap.size w w' := by
  obtain ⟨W0, hW0⟩ : ∃ X, X = (((((w.alloc (.cells #[.int .i64 (n : Nat)] 3)).alloc (.cells #[.int .i64 (c : Nat)] 3)).alloc (.cells #[.int .i64 f] 3)).alloc (.cells #[.int .i64 d] 3)).alloc (.cells #[.int .i64 0, .int .i64 0] 32)) := ⟨_, rfl⟩
  have hb0 : Below w.heap.size w W0 := by rw [hW0]; exact ((((((Below.refl _ _).alloc (Nat.le_refl _) _).alloc (by simp <;> omega) _).alloc (by simp <;> omega) _).alloc (by simp <;> omega) _).alloc (by simp <;> omega) _)
  obtain ⟨H, hH⟩ : ∃ H, H = w.heap.size := ⟨_, rfl⟩
  have k0 : W0.heap[H]? = some (.cells #[.int .i64 (n : Nat)] 3) := by
    rw [hW0, hH, Below.heap_alloc _ _ _ (by simp <;> omega), Below.heap_alloc _ _ _ (by simp <;> omega), Below.heap_alloc _ _ _ (by simp <;> omega), Below.heap_alloc _ _ _ (by simp <;> omega)]
    have := alloc_heap w (.cells #[.int .i64 (n : Nat)] 3)
    simpa using this
  have k1 : W0.heap[H + 1]? = some (.cells #[.int .i64 (c : Nat)] 3) := by
    rw [hW0, hH, Below.heap_alloc _ _ _ (by simp <;> omega), Below.heap_alloc _ _ _ (by simp <;> omega), Below.heap_alloc _ _ _ (by simp <;> omega)]
    have := alloc_heap (w.alloc (.cells #[.int .i64 (n : Nat)] 3)) (.cells #[.int .i64 (c : Nat)] 3)
    simpa using this
  have k2 : W0.heap[H + 1 + 1]? = some (.cells #[.int .i64 f] 3) := by
    rw [hW0, hH, Below.heap_alloc _ _ _ (by simp <;> omega), Below.heap_alloc _ _ _ (by simp <;> omega)]
    have := alloc_heap ((w.alloc (.cells #[.int .i64 (n : Nat)] 3)).alloc (.cells #[.int .i64 (c : Nat)] 3)) (.cells #[.int .i64 f] 3)
    simpa using this
  have k3 : W0.heap[H + 1 + 1 + 1]? = some (.cells #[.int .i64 d] 3) := by
    rw [hW0, hH, Below.heap_alloc _ _ _ (by simp <;> omega)]
    have := alloc_heap (((w.alloc (.cells #[.int .i64 (n : Nat)] 3)).alloc (.cells #[.int .i64 (c : Nat)] 3)).alloc (.cells #[.int .i64 f] 3)) (.cells #[.int .i64 d] 3)
    simpa using this
  have k4 : W0.heap[H + 1 + 1 + 1 + 1]? = some (.cells #[.int .i64 0, .int .i64 0] 32) := by
    rw [hW0, hH]
    have := alloc_heap ((((w.alloc (.cells #[.int .i64 (n : Nat)] 3)).alloc (.cells #[.int .i64 (c : Nat)] 3)).alloc (.cells #[.int .i64 f] 3)).alloc (.cells #[.int .i64 d] 3)) (.cells #[.int .i64 0, .int .i64 0] 32)
    simpa using this
  have hz0 : W0.heap.size = H + 5 := by rw [hW0, hH]; simp
  have f1 := fun W => isFrom_any (n : Nat) 1 50 W
  have f2 := fun W => isFrom_any (c : Nat) 0 (n : Nat) W
  have f3 := fun W => isFrom_any f 0 (c : Nat) W
  have f4 := fun W => isFrom_any d 0 1000 W
  rw [show inB (n : Nat) 1 50 = true from inB_iff.2 (by omega)] at f1
  rw [show inB (c : Nat) 0 (n : Nat) = true from inB_iff.2 (by omega)] at f2
  rw [show inB f 0 (c : Nat) = true from inB_iff.2 (by omega)] at f3
  rw [show inB d 0 1000 = true from inB_iff.2 (by omega)] at f4
  have F1 := Lib.hid f1
  have F2 := Lib.hid f2
  have F3 := Lib.hid f3
  have F4 := Lib.hid f4
  have HH := Lib.hid hH
  have c0 := one_cell k0
  have c1 := one_cell k1
  have c2 := one_cell k2
  have c3 := one_cell k3
  clear f1 f2 f3 f4
  go_enter Try.func13, Try.ntmps13
  go_wp2_with fail
  rw [← hW0, ← hH]
  clear hW0 hH
  refine (F1.out _).mono ?_
  rintro e w1 ⟨rfl, rfl⟩
  go_wp2_with fail
  refine (F2.out _).mono ?_
  rintro e w1 ⟨rfl, rfl⟩
  go_wp2_with fail
  refine (F3.out _).mono ?_
  rintro e w1 ⟨rfl, rfl⟩
  go_wp2_with fail
  refine (F4.out _).mono ?_
  rintro e w1 ⟨rfl, rfl⟩
  go_wp2_with fail
  refine (newTriangle_any _).mono ?_
  rintro e W1 ⟨T, rfl, hTl, hT1, hb1⟩
  clear c0 c1 c2 c3
  have hw1 : Below H w W1 := by rw [HH.out]; exact hb0.trans (hb1.mono hb0.size)
  have kb := fun (k : Nat) (o : Obj) (h : W0.heap[k]? = some o) => (hb1.block k (Array.getElem?_eq_some_iff.1 h).1).trans h
  have k0 := kb _ _ k0
  have k1 := kb _ _ k1
  have k2 := kb _ _ k2
  have k3 := kb _ _ k3
  have k4 := kb _ _ k4
  have hz1 := hb1.size
  rw [hz0] at hz1
  obtain ⟨C, hC⟩ : ∃ C, C = W1.heap.size := ⟨_, rfl⟩
  obtain ⟨W2, hW2⟩ : ∃ X, X = (W1.alloc (.cells #[.pointer (some ⟨T, 0, none⟩)] 57)).alloc (.cells #[.func (.func 33) #[] #[.pointer (some ⟨C, 0, none⟩), .pointer (some ⟨H, 0, none⟩), .pointer (some ⟨H + 1, 0, none⟩), .pointer (some ⟨H + 1 + 1, 0, none⟩), .pointer (some ⟨H + 1 + 1 + 1, 0, none⟩)]] 69) := ⟨_, rfl⟩
  have hb2 : Below W1.heap.size W1 W2 := by rw [hW2]; exact ((Below.refl _ _).alloc (Nat.le_refl _) _).alloc (by simp) _
  have q0 : W2.heap[C]? = some (.cells #[.pointer (some ⟨T, 0, none⟩)] 57 (0, 0)) := by
    rw [hW2, hC, Below.heap_alloc _ _ _ (by simp)]; exact alloc_heap _ _
  have q1 : W2.heap[C + 1]? = some (.cells #[.func (.func 33) #[] #[.pointer (some ⟨C, 0, none⟩), .pointer (some ⟨H, 0, none⟩), .pointer (some ⟨H + 1, 0, none⟩), .pointer (some ⟨H + 1 + 1, 0, none⟩), .pointer (some ⟨H + 1 + 1 + 1, 0, none⟩)]] 69 (0, 0)) := by
    rw [hW2]
    have := alloc_heap (W1.alloc (.cells #[.pointer (some ⟨T, 0, none⟩)] 57)) (.cells #[.func (.func 33) #[] #[.pointer (some ⟨C, 0, none⟩), .pointer (some ⟨H, 0, none⟩), .pointer (some ⟨H + 1, 0, none⟩), .pointer (some ⟨H + 1 + 1, 0, none⟩), .pointer (some ⟨H + 1 + 1 + 1, 0, none⟩)]] 69)
    rw [World.size_alloc, ← hC] at this
    exact this
  have kb2 := fun (k : Nat) (o : Obj) (h : W1.heap[k]? = some o) => (hb2.block k (Array.getElem?_eq_some_iff.1 h).1).trans h
  have k0 := kb2 _ _ k0
  have k1 := kb2 _ _ k1
  have k2 := kb2 _ _ k2
  have k3 := kb2 _ _ k3
  have k4 := kb2 _ _ k4
  have hT2 := hT1.below hb2 hT1.lt
  have hw2 : Below H w W2 := hw1.trans (hb2.mono (by omega))
  have hsay : Says 33 #[.pointer (some ⟨C, 0, none⟩), .pointer (some ⟨H, 0, none⟩), .pointer (some ⟨H + 1, 0, none⟩), .pointer (some ⟨H + 1 + 1, 0, none⟩), .pointer (some ⟨H + 1 + 1 + 1, 0, none⟩)] n (canF n c f d) W2 := fun k w' hk hb => by
    have g := fun (b : Nat) (o : Obj) (h : W2.heap[b]? = some o) => (hb.block b (Array.getElem?_eq_some_iff.1 h).1).trans h
    exact within1_any T n c k _ _ _ _ _ f d w' (hT2.below hb hT2.lt) h3 h2 hk hd (g _ _ q0) (g _ _ k0) (g _ _ k1) (g _ _ k2) (g _ _ k3)
  have hle := least_any 33 _ n (canF n c f d) W2 h2 hsay (enters_of Try.func33 (by kernel_rfl) rfl)
  have HLE := Lib.hid hle
  have HSAY := Lib.hid hsay
  have a0 := one_cell k0
  have a1 := one_cell q1
  have K4 := Lib.hid k4
  have K0 := Lib.hid k0
  have Q1 := Lib.hid q1
  clear hle hsay kb kb2 k1 k2 k3 k4 k0 q1 q0 F1 F2 F3 F4 hb0 hw1 hb1 hTl
  go_upto_region 7 with fail
  rw [← hC, ← hW2]
  clear hW2 hC
  go_wp2_with fail
  refine HLE.out.mono ?_
  rintro e W3 ⟨rfl, hb3⟩
  have hw3 : Below H w W3 := hw2.trans (hb3.mono (by have := (Array.getElem?_eq_some_iff.1 K0.out).1; omega))
  have j4 := (hb3.block _ (Array.getElem?_eq_some_iff.1 K4.out).1).trans K4.out
  have j0 := (hb3.block _ (Array.getElem?_eq_some_iff.1 K0.out).1).trans K0.out
  have j1 := (hb3.block _ (Array.getElem?_eq_some_iff.1 Q1.out).1).trans Q1.out
  clear a0 a1
  obtain ⟨r, hr⟩ : ∃ r, firstP (canF n c f d) (n + 1) = r := ⟨_, rfl⟩
  rw [hr]
  have HRR := Lib.hid hr
  clear hr
  cases r with
  | none =>
    unfold leastV
    simp only []
    have hb9 := below_two (hw3) (show H ≤ H + 1 + 1 + 1 + 1 by omega) (.int .i64 0) (.int .i64 0)
    have hp9 := two_put j4 (.int .i64 0) (.int .i64 0)
    obtain ⟨t0, t1⟩ := two_cells hp9
    obtain ⟨s0, s1⟩ := two_cells j4
    have f0 : W3.frozen? ⟨H + 1 + 1 + 1 + 1, 0, none⟩ = false := frozen_of j4
    have f1 : W3.frozen? ⟨H + 1 + 1 + 1 + 1, 1, none⟩ = false := frozen_of j4
    clear j4 hp9
    go_wp2
    refine bodyPost_ret (v := .tuple #[.agg #[.int .i64 0, .int .i64 0], .int .i64 4]) (by simp [results, Try.results13, go_sem, t0, t1]) rfl ⟨by rw [withinR_none HRR.out]; rfl, by rw [← HH.out]; exact hb9⟩
  | some lo =>
    have hsay2 : Says 36 #[.pointer (some ⟨C + 1, 0, none⟩), .pointer (some ⟨H, 0, none⟩)] n (fun k => canF n c f d (n - k)) W3 := fun k w' hk hb => by
      have g := fun (b : Nat) (o : Obj) (h : W3.heap[b]? = some o) => (hb.block b (Array.getElem?_eq_some_iff.1 h).1).trans h
      exact within2_any n k (C + 1) H _ (canF n c f d) w' h2 hk (fun k2 w2 hk2 hb2 => HSAY.out k2 w2 hk2 (hb3.trans ((hb.mono hb3.size).trans (hb2.mono (Nat.le_trans hb3.size hb.size))))) (g _ _ j1) (g _ _ j0) ⟨_, _, _, _, _, rfl⟩
    have hle2 := least_any 36 _ n (fun k => canF n c f d (n - k)) W3 h2 hsay2 (enters_of Try.func36 (by kernel_rfl) rfl)
    obtain ⟨r2, hr2⟩ : ∃ r2, firstP (fun k => canF n c f d (n - k)) (n + 1) = r2 := ⟨_, rfl⟩
    rw [hr2] at hle2
    have HR2 := Lib.hid hr2
    have HLE2 := Lib.hid hle2
    have a0 := one_cell j0
    have a1 := one_cell j1
    have J4 := Lib.hid j4
    clear hsay2 hr2 hle2 j4 j1
    unfold leastV
    simp only []
    go_wp2_with fail
    refine HLE2.out.mono ?_
    rintro e W4 ⟨rfl, hb4⟩
    have hw4 : Below H w W4 := hw3.trans (hb4.mono (by have := (Array.getElem?_eq_some_iff.1 j0).1; omega))
    have j4 := (hb4.block _ (Array.getElem?_eq_some_iff.1 J4.out).1).trans J4.out
    have b0 := one_cell ((hb4.block _ (Array.getElem?_eq_some_iff.1 j0).1).trans j0)
    clear a0 a1 j0
    cases r2 with
    | none =>
      unfold leastV
      simp only []
      have hb9 := below_two (hw4) (show H ≤ H + 1 + 1 + 1 + 1 by omega) (.int .i64 (lo : Nat)) (.int .i64 (n : Nat))
      have hp9 := two_put j4 (.int .i64 (lo : Nat)) (.int .i64 (n : Nat))
      obtain ⟨t0, t1⟩ := two_cells hp9
      obtain ⟨s0, s1⟩ := two_cells j4
      have f0 : W4.frozen? ⟨H + 1 + 1 + 1 + 1, 0, none⟩ = false := frozen_of j4
      have f1 : W4.frozen? ⟨H + 1 + 1 + 1 + 1, 1, none⟩ = false := frozen_of j4
      clear j4 hp9
      go_wp2
      refine bodyPost_ret (v := .tuple #[.agg #[.int .i64 (lo : Nat), .int .i64 (n : Nat)], .int .i64 0]) (by simp [results, Try.results13, go_sem, t0, t1]) rfl ⟨by rw [withinR_some HRR.out HR2.out]; rfl, by rw [← HH.out]; exact hb9⟩
    | some gd =>
      have hgd := (firstP_some.1 HR2.out).1
      have e9 : ((n : Int) - (gd : Int)) = ((n - gd : Nat) : Int) := by omega
      have E9 := Lib.hid e9
      clear e9
      unfold leastV
      simp only []
      have hb9 := below_two (hw4) (show H ≤ H + 1 + 1 + 1 + 1 by omega) (.int .i64 (lo : Nat)) (.int .i64 ((n : Int) - (gd : Int)))
      have hp9 := two_put j4 (.int .i64 (lo : Nat)) (.int .i64 ((n : Int) - (gd : Int)))
      obtain ⟨t0, t1⟩ := two_cells hp9
      obtain ⟨s0, s1⟩ := two_cells j4
      have f0 : W4.frozen? ⟨H + 1 + 1 + 1 + 1, 0, none⟩ = false := frozen_of j4
      have f1 : W4.frozen? ⟨H + 1 + 1 + 1 + 1, 1, none⟩ = false := frozen_of j4
      clear j4 hp9
      go_wp2
      refine bodyPost_ret (v := .tuple #[.agg #[.int .i64 (lo : Nat), .int .i64 ((n : Int) - (gd : Int))], .int .i64 0]) (by simp [results, Try.results13, go_sem, t0, t1]) rfl ⟨by rw [withinR_some HRR.out HR2.out]; show _ = Ending.returned (.tuple #[.agg #[.int .i64 (lo : Nat), .int .i64 ((n - gd : Nat) : Int)], .int .i64 0]); rw [E9.out], by rw [← HH.out]; exact hb9⟩
set_option maxHeartbeats 3200000 in
theorem within_any (n c f d : Int) (w : World) : Calls Try.prog 13 #[.int .i64 n, .int .i64 c, .int .i64 f, .int .i64 d] w fun e w' => e = .returned (spanErr (withinP n c f d)) ∧ Below w.heap.size w w' := by
  have f1 := fun W => isFrom_any n 1 50 W
  obtain ⟨y1, hy1⟩ : ∃ y, inB n 1 50 = y := ⟨_, rfl⟩
  rw [hy1] at f1
  have f2 := fun W => isFrom_any c 0 n W
  obtain ⟨y2, hy2⟩ : ∃ y, inB c 0 n = y := ⟨_, rfl⟩
  rw [hy2] at f2
  have f3 := fun W => isFrom_any f 0 c W
  obtain ⟨y3, hy3⟩ : ∃ y, inB f 0 c = y := ⟨_, rfl⟩
  rw [hy3] at f3
  have f4 := fun W => isFrom_any d 0 1000 W
  obtain ⟨y4, hy4⟩ : ∃ y, inB d 0 1000 = y := ⟨_, rfl⟩
  rw [hy4] at f4
  have hr : withinP n c f d = (if y1 = false then (0, 0, 1) else if y2 = false then (0, 0, 1) else if y3 = false then (0, 0, 1) else if y4 = false then (0, 0, 2) else withinR n.toNat c.toNat f d : Int × Int × Int) := by unfold withinP; rw [hy1, hy2, hy3, hy4]
  have HR := Lib.hid hr
  have F1 := Lib.hid f1
  have Y1 := Lib.hid hy1
  have F2 := Lib.hid f2
  have Y2 := Lib.hid hy2
  have F3 := Lib.hid f3
  have Y3 := Lib.hid hy3
  have F4 := Lib.hid f4
  have Y4 := Lib.hid hy4
  clear hr f1 f2 f3 f4 hy1 hy2 hy3 hy4
  cases y1 with
  | false =>
    obtain ⟨W0, hW0⟩ : ∃ X, X = (((((w.alloc (.cells #[.int .i64 n] 3)).alloc (.cells #[.int .i64 c] 3)).alloc (.cells #[.int .i64 f] 3)).alloc (.cells #[.int .i64 d] 3)).alloc (.cells #[.int .i64 0, .int .i64 0] 32)) := ⟨_, rfl⟩
    have hb0 : Below w.heap.size w W0 := by rw [hW0]; exact ((((((Below.refl _ _).alloc (Nat.le_refl _) _).alloc (by simp <;> omega) _).alloc (by simp <;> omega) _).alloc (by simp <;> omega) _).alloc (by simp <;> omega) _)
    obtain ⟨H, hH⟩ : ∃ H, H = w.heap.size := ⟨_, rfl⟩
    have k0 : W0.heap[H]? = some (.cells #[.int .i64 n] 3) := by
      rw [hW0, hH, Below.heap_alloc _ _ _ (by simp <;> omega), Below.heap_alloc _ _ _ (by simp <;> omega), Below.heap_alloc _ _ _ (by simp <;> omega), Below.heap_alloc _ _ _ (by simp <;> omega)]
      have := alloc_heap w (.cells #[.int .i64 n] 3)
      simpa using this
    have k1 : W0.heap[H + 1]? = some (.cells #[.int .i64 c] 3) := by
      rw [hW0, hH, Below.heap_alloc _ _ _ (by simp <;> omega), Below.heap_alloc _ _ _ (by simp <;> omega), Below.heap_alloc _ _ _ (by simp <;> omega)]
      have := alloc_heap (w.alloc (.cells #[.int .i64 n] 3)) (.cells #[.int .i64 c] 3)
      simpa using this
    have k2 : W0.heap[H + 1 + 1]? = some (.cells #[.int .i64 f] 3) := by
      rw [hW0, hH, Below.heap_alloc _ _ _ (by simp <;> omega), Below.heap_alloc _ _ _ (by simp <;> omega)]
      have := alloc_heap ((w.alloc (.cells #[.int .i64 n] 3)).alloc (.cells #[.int .i64 c] 3)) (.cells #[.int .i64 f] 3)
      simpa using this
    have k3 : W0.heap[H + 1 + 1 + 1]? = some (.cells #[.int .i64 d] 3) := by
      rw [hW0, hH, Below.heap_alloc _ _ _ (by simp <;> omega)]
      have := alloc_heap (((w.alloc (.cells #[.int .i64 n] 3)).alloc (.cells #[.int .i64 c] 3)).alloc (.cells #[.int .i64 f] 3)) (.cells #[.int .i64 d] 3)
      simpa using this
    have k4 : W0.heap[H + 1 + 1 + 1 + 1]? = some (.cells #[.int .i64 0, .int .i64 0] 32) := by
      rw [hW0, hH]
      have := alloc_heap ((((w.alloc (.cells #[.int .i64 n] 3)).alloc (.cells #[.int .i64 c] 3)).alloc (.cells #[.int .i64 f] 3)).alloc (.cells #[.int .i64 d] 3)) (.cells #[.int .i64 0, .int .i64 0] 32)
      simpa using this
    have c0 := one_cell k0
    have c1 := one_cell k1
    have c2 := one_cell k2
    have c3 := one_cell k3
    have hb9 := below_two hb0 (show w.heap.size ≤ H + 1 + 1 + 1 + 1 by omega) (.int .i64 0) (.int .i64 0)
    obtain ⟨t0, t1⟩ := two_cells (two_put k4 (.int .i64 0) (.int .i64 0))
    obtain ⟨s0, s1⟩ := two_cells k4
    have g0 : W0.frozen? ⟨H + 1 + 1 + 1 + 1, 0, none⟩ = false := frozen_of k4
    have g1 : W0.frozen? ⟨H + 1 + 1 + 1 + 1, 1, none⟩ = false := frozen_of k4
    clear k0 k1 k2 k3 k4
    go_enter Try.func13, Try.ntmps13
    go_wp2_with fail
    rw [← hW0, ← hH]
    clear hW0 hH
    refine (F1.out _).mono ?_
    rintro e w1 ⟨rfl, rfl⟩
    go_wp2
    refine bodyPost_ret (v := .tuple #[.agg #[.int .i64 0, .int .i64 0], .int .i64 1]) (by simp [results, Try.results13, go_sem, t0, t1]) rfl ⟨by rw [HR.out]; rfl, hb9⟩
  | true =>
    cases y2 with
    | false =>
      obtain ⟨W0, hW0⟩ : ∃ X, X = (((((w.alloc (.cells #[.int .i64 n] 3)).alloc (.cells #[.int .i64 c] 3)).alloc (.cells #[.int .i64 f] 3)).alloc (.cells #[.int .i64 d] 3)).alloc (.cells #[.int .i64 0, .int .i64 0] 32)) := ⟨_, rfl⟩
      have hb0 : Below w.heap.size w W0 := by rw [hW0]; exact ((((((Below.refl _ _).alloc (Nat.le_refl _) _).alloc (by simp <;> omega) _).alloc (by simp <;> omega) _).alloc (by simp <;> omega) _).alloc (by simp <;> omega) _)
      obtain ⟨H, hH⟩ : ∃ H, H = w.heap.size := ⟨_, rfl⟩
      have k0 : W0.heap[H]? = some (.cells #[.int .i64 n] 3) := by
        rw [hW0, hH, Below.heap_alloc _ _ _ (by simp <;> omega), Below.heap_alloc _ _ _ (by simp <;> omega), Below.heap_alloc _ _ _ (by simp <;> omega), Below.heap_alloc _ _ _ (by simp <;> omega)]
        have := alloc_heap w (.cells #[.int .i64 n] 3)
        simpa using this
      have k1 : W0.heap[H + 1]? = some (.cells #[.int .i64 c] 3) := by
        rw [hW0, hH, Below.heap_alloc _ _ _ (by simp <;> omega), Below.heap_alloc _ _ _ (by simp <;> omega), Below.heap_alloc _ _ _ (by simp <;> omega)]
        have := alloc_heap (w.alloc (.cells #[.int .i64 n] 3)) (.cells #[.int .i64 c] 3)
        simpa using this
      have k2 : W0.heap[H + 1 + 1]? = some (.cells #[.int .i64 f] 3) := by
        rw [hW0, hH, Below.heap_alloc _ _ _ (by simp <;> omega), Below.heap_alloc _ _ _ (by simp <;> omega)]
        have := alloc_heap ((w.alloc (.cells #[.int .i64 n] 3)).alloc (.cells #[.int .i64 c] 3)) (.cells #[.int .i64 f] 3)
        simpa using this
      have k3 : W0.heap[H + 1 + 1 + 1]? = some (.cells #[.int .i64 d] 3) := by
        rw [hW0, hH, Below.heap_alloc _ _ _ (by simp <;> omega)]
        have := alloc_heap (((w.alloc (.cells #[.int .i64 n] 3)).alloc (.cells #[.int .i64 c] 3)).alloc (.cells #[.int .i64 f] 3)) (.cells #[.int .i64 d] 3)
        simpa using this
      have k4 : W0.heap[H + 1 + 1 + 1 + 1]? = some (.cells #[.int .i64 0, .int .i64 0] 32) := by
        rw [hW0, hH]
        have := alloc_heap ((((w.alloc (.cells #[.int .i64 n] 3)).alloc (.cells #[.int .i64 c] 3)).alloc (.cells #[.int .i64 f] 3)).alloc (.cells #[.int .i64 d] 3)) (.cells #[.int .i64 0, .int .i64 0] 32)
        simpa using this
      have c0 := one_cell k0
      have c1 := one_cell k1
      have c2 := one_cell k2
      have c3 := one_cell k3
      have hb9 := below_two hb0 (show w.heap.size ≤ H + 1 + 1 + 1 + 1 by omega) (.int .i64 0) (.int .i64 0)
      obtain ⟨t0, t1⟩ := two_cells (two_put k4 (.int .i64 0) (.int .i64 0))
      obtain ⟨s0, s1⟩ := two_cells k4
      have g0 : W0.frozen? ⟨H + 1 + 1 + 1 + 1, 0, none⟩ = false := frozen_of k4
      have g1 : W0.frozen? ⟨H + 1 + 1 + 1 + 1, 1, none⟩ = false := frozen_of k4
      clear k0 k1 k2 k3 k4
      go_enter Try.func13, Try.ntmps13
      go_wp2_with fail
      rw [← hW0, ← hH]
      clear hW0 hH
      refine (F1.out _).mono ?_
      rintro e w1 ⟨rfl, rfl⟩
      go_wp2_with fail
      refine (F2.out _).mono ?_
      rintro e w2 ⟨rfl, rfl⟩
      go_wp2
      refine bodyPost_ret (v := .tuple #[.agg #[.int .i64 0, .int .i64 0], .int .i64 1]) (by simp [results, Try.results13, go_sem, t0, t1]) rfl ⟨by rw [HR.out]; rfl, hb9⟩
    | true =>
      cases y3 with
      | false =>
        obtain ⟨W0, hW0⟩ : ∃ X, X = (((((w.alloc (.cells #[.int .i64 n] 3)).alloc (.cells #[.int .i64 c] 3)).alloc (.cells #[.int .i64 f] 3)).alloc (.cells #[.int .i64 d] 3)).alloc (.cells #[.int .i64 0, .int .i64 0] 32)) := ⟨_, rfl⟩
        have hb0 : Below w.heap.size w W0 := by rw [hW0]; exact ((((((Below.refl _ _).alloc (Nat.le_refl _) _).alloc (by simp <;> omega) _).alloc (by simp <;> omega) _).alloc (by simp <;> omega) _).alloc (by simp <;> omega) _)
        obtain ⟨H, hH⟩ : ∃ H, H = w.heap.size := ⟨_, rfl⟩
        have k0 : W0.heap[H]? = some (.cells #[.int .i64 n] 3) := by
          rw [hW0, hH, Below.heap_alloc _ _ _ (by simp <;> omega), Below.heap_alloc _ _ _ (by simp <;> omega), Below.heap_alloc _ _ _ (by simp <;> omega), Below.heap_alloc _ _ _ (by simp <;> omega)]
          have := alloc_heap w (.cells #[.int .i64 n] 3)
          simpa using this
        have k1 : W0.heap[H + 1]? = some (.cells #[.int .i64 c] 3) := by
          rw [hW0, hH, Below.heap_alloc _ _ _ (by simp <;> omega), Below.heap_alloc _ _ _ (by simp <;> omega), Below.heap_alloc _ _ _ (by simp <;> omega)]
          have := alloc_heap (w.alloc (.cells #[.int .i64 n] 3)) (.cells #[.int .i64 c] 3)
          simpa using this
        have k2 : W0.heap[H + 1 + 1]? = some (.cells #[.int .i64 f] 3) := by
          rw [hW0, hH, Below.heap_alloc _ _ _ (by simp <;> omega), Below.heap_alloc _ _ _ (by simp <;> omega)]
          have := alloc_heap ((w.alloc (.cells #[.int .i64 n] 3)).alloc (.cells #[.int .i64 c] 3)) (.cells #[.int .i64 f] 3)
          simpa using this
        have k3 : W0.heap[H + 1 + 1 + 1]? = some (.cells #[.int .i64 d] 3) := by
          rw [hW0, hH, Below.heap_alloc _ _ _ (by simp <;> omega)]
          have := alloc_heap (((w.alloc (.cells #[.int .i64 n] 3)).alloc (.cells #[.int .i64 c] 3)).alloc (.cells #[.int .i64 f] 3)) (.cells #[.int .i64 d] 3)
          simpa using this
        have k4 : W0.heap[H + 1 + 1 + 1 + 1]? = some (.cells #[.int .i64 0, .int .i64 0] 32) := by
          rw [hW0, hH]
          have := alloc_heap ((((w.alloc (.cells #[.int .i64 n] 3)).alloc (.cells #[.int .i64 c] 3)).alloc (.cells #[.int .i64 f] 3)).alloc (.cells #[.int .i64 d] 3)) (.cells #[.int .i64 0, .int .i64 0] 32)
          simpa using this
        have c0 := one_cell k0
        have c1 := one_cell k1
        have c2 := one_cell k2
        have c3 := one_cell k3
        have hb9 := below_two hb0 (show w.heap.size ≤ H + 1 + 1 + 1 + 1 by omega) (.int .i64 0) (.int .i64 0)
        obtain ⟨t0, t1⟩ := two_cells (two_put k4 (.int .i64 0) (.int .i64 0))
        obtain ⟨s0, s1⟩ := two_cells k4
        have g0 : W0.frozen? ⟨H + 1 + 1 + 1 + 1, 0, none⟩ = false := frozen_of k4
        have g1 : W0.frozen? ⟨H + 1 + 1 + 1 + 1, 1, none⟩ = false := frozen_of k4
        clear k0 k1 k2 k3 k4
        go_enter Try.func13, Try.ntmps13
        go_wp2_with fail
        rw [← hW0, ← hH]
        clear hW0 hH
        refine (F1.out _).mono ?_
        rintro e w1 ⟨rfl, rfl⟩
        go_wp2_with fail
        refine (F2.out _).mono ?_
        rintro e w2 ⟨rfl, rfl⟩
        go_wp2_with fail
        refine (F3.out _).mono ?_
        rintro e w3 ⟨rfl, rfl⟩
        go_wp2
        refine bodyPost_ret (v := .tuple #[.agg #[.int .i64 0, .int .i64 0], .int .i64 1]) (by simp [results, Try.results13, go_sem, t0, t1]) rfl ⟨by rw [HR.out]; rfl, hb9⟩
      | true =>
        cases y4 with
        | false =>
          obtain ⟨W0, hW0⟩ : ∃ X, X = (((((w.alloc (.cells #[.int .i64 n] 3)).alloc (.cells #[.int .i64 c] 3)).alloc (.cells #[.int .i64 f] 3)).alloc (.cells #[.int .i64 d] 3)).alloc (.cells #[.int .i64 0, .int .i64 0] 32)) := ⟨_, rfl⟩
          have hb0 : Below w.heap.size w W0 := by rw [hW0]; exact ((((((Below.refl _ _).alloc (Nat.le_refl _) _).alloc (by simp <;> omega) _).alloc (by simp <;> omega) _).alloc (by simp <;> omega) _).alloc (by simp <;> omega) _)
          obtain ⟨H, hH⟩ : ∃ H, H = w.heap.size := ⟨_, rfl⟩
          have k0 : W0.heap[H]? = some (.cells #[.int .i64 n] 3) := by
            rw [hW0, hH, Below.heap_alloc _ _ _ (by simp <;> omega), Below.heap_alloc _ _ _ (by simp <;> omega), Below.heap_alloc _ _ _ (by simp <;> omega), Below.heap_alloc _ _ _ (by simp <;> omega)]
            have := alloc_heap w (.cells #[.int .i64 n] 3)
            simpa using this
          have k1 : W0.heap[H + 1]? = some (.cells #[.int .i64 c] 3) := by
            rw [hW0, hH, Below.heap_alloc _ _ _ (by simp <;> omega), Below.heap_alloc _ _ _ (by simp <;> omega), Below.heap_alloc _ _ _ (by simp <;> omega)]
            have := alloc_heap (w.alloc (.cells #[.int .i64 n] 3)) (.cells #[.int .i64 c] 3)
            simpa using this
          have k2 : W0.heap[H + 1 + 1]? = some (.cells #[.int .i64 f] 3) := by
            rw [hW0, hH, Below.heap_alloc _ _ _ (by simp <;> omega), Below.heap_alloc _ _ _ (by simp <;> omega)]
            have := alloc_heap ((w.alloc (.cells #[.int .i64 n] 3)).alloc (.cells #[.int .i64 c] 3)) (.cells #[.int .i64 f] 3)
            simpa using this
          have k3 : W0.heap[H + 1 + 1 + 1]? = some (.cells #[.int .i64 d] 3) := by
            rw [hW0, hH, Below.heap_alloc _ _ _ (by simp <;> omega)]
            have := alloc_heap (((w.alloc (.cells #[.int .i64 n] 3)).alloc (.cells #[.int .i64 c] 3)).alloc (.cells #[.int .i64 f] 3)) (.cells #[.int .i64 d] 3)
            simpa using this
          have k4 : W0.heap[H + 1 + 1 + 1 + 1]? = some (.cells #[.int .i64 0, .int .i64 0] 32) := by
            rw [hW0, hH]
            have := alloc_heap ((((w.alloc (.cells #[.int .i64 n] 3)).alloc (.cells #[.int .i64 c] 3)).alloc (.cells #[.int .i64 f] 3)).alloc (.cells #[.int .i64 d] 3)) (.cells #[.int .i64 0, .int .i64 0] 32)
            simpa using this
          have c0 := one_cell k0
          have c1 := one_cell k1
          have c2 := one_cell k2
          have c3 := one_cell k3
          have hb9 := below_two hb0 (show w.heap.size ≤ H + 1 + 1 + 1 + 1 by omega) (.int .i64 0) (.int .i64 0)
          obtain ⟨t0, t1⟩ := two_cells (two_put k4 (.int .i64 0) (.int .i64 0))
          obtain ⟨s0, s1⟩ := two_cells k4
          have g0 : W0.frozen? ⟨H + 1 + 1 + 1 + 1, 0, none⟩ = false := frozen_of k4
          have g1 : W0.frozen? ⟨H + 1 + 1 + 1 + 1, 1, none⟩ = false := frozen_of k4
          clear k0 k1 k2 k3 k4
          go_enter Try.func13, Try.ntmps13
          go_wp2_with fail
          rw [← hW0, ← hH]
          clear hW0 hH
          refine (F1.out _).mono ?_
          rintro e w1 ⟨rfl, rfl⟩
          go_wp2_with fail
          refine (F2.out _).mono ?_
          rintro e w2 ⟨rfl, rfl⟩
          go_wp2_with fail
          refine (F3.out _).mono ?_
          rintro e w3 ⟨rfl, rfl⟩
          go_wp2_with fail
          refine (F4.out _).mono ?_
          rintro e w4 ⟨rfl, rfl⟩
          go_wp2
          refine bodyPost_ret (v := .tuple #[.agg #[.int .i64 0, .int .i64 0], .int .i64 2]) (by simp [results, Try.results13, go_sem, t0, t1]) rfl ⟨by rw [HR.out]; rfl, hb9⟩
        | true =>
          obtain ⟨n1, n2⟩ := inB_iff.1 Y1.out
          obtain ⟨c1, c2⟩ := inB_iff.1 Y2.out
          obtain ⟨f1, f2⟩ := inB_iff.1 Y3.out
          have := within_ok n.toNat c.toNat f d w (by omega) (by omega) (by omega) f1 (by omega) (inB_iff.1 Y4.out)
          rw [show ((n.toNat : Nat) : Int) = n by omega, show ((c.toNat : Nat) : Int) = c by omega] at this
          refine this.mono ?_
          rintro e w' ⟨rfl, hb⟩
          exact ⟨by rw [HR.out]; rfl, hb⟩
end Go.Proofs.Ytclcconllkfjiaa
