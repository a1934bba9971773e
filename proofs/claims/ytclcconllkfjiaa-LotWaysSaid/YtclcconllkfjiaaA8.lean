/- Contracts: least, at any function that only makes memory; failure. -/
import Derived.Test.YtclcconllkfjiaaA7
import Derived.Deep.RegionHeld3
namespace Go.Proofs.Ytclcconllkfjiaa
set_option linter.unusedSimpArgs false
set_option linter.unusedVariables false
open Go.RowKit

/-- the first number before m of which f says true -/
def firstP (f : Nat → Bool) : Nat → Option Nat
  | 0 => none
  | m + 1 => match firstP f m with | some k => some k | none => if f m then some m else none
def leastV (r : Option Nat) : Value := match r with | some k => .tuple #[.int .i64 (k : Nat), .bool true] | none => .tuple #[.int .i64 0, .bool false]
theorem firstP_none {f : Nat → Bool} : ∀ {m : Nat}, firstP f m = none ↔ ∀ k, k < m → f k = false
  | 0 => ⟨fun _ k h => (by omega), fun _ => rfl⟩
  | m + 1 => by
    unfold firstP
    have ih := firstP_none (f := f) (m := m)
    cases h : firstP f m with
    | some k =>
      constructor
      · intro h2; cases h2
      · intro h2
        have := ih.2 (fun k hk => h2 k (by omega))
        rw [h] at this; cases this
    | none =>
      have h1 := ih.1 h
      constructor
      · intro h2 k hk
        by_cases e : k = m
        · subst e
          cases hf : f k with
          | false => rfl
          | true => rw [hf] at h2; cases h2
        · exact h1 k (by omega)
      · intro h2
        show (if f m = true then some m else none) = none
        rw [h2 m (by omega)]; rfl
theorem firstP_some {f : Nat → Bool} : ∀ {m k : Nat}, firstP f m = some k ↔ k < m ∧ f k = true ∧ ∀ j, j < k → f j = false
  | 0, k => ⟨fun h => (by cases h), fun h => (by omega)⟩
  | m + 1, k => by
    have ih := fun k => firstP_some (f := f) (m := m) (k := k)
    have in0 := firstP_none (f := f) (m := m)
    unfold firstP
    cases h : firstP f m with
    | some q =>
      have hq := (ih q).1 h
      show some q = some k ↔ _
      constructor
      · intro e; cases e; exact ⟨by omega, hq.2⟩
      · rintro ⟨h1, h2, h3⟩
        have : q = k := by
          rcases Nat.lt_trichotomy q k with h4 | h4 | h4
          · have := h3 q h4; rw [hq.2.1] at this; cases this
          · exact h4
          · have := hq.2.2 k h4; rw [h2] at this; cases this
        rw [this]
    | none =>
      have h1 := in0.1 h
      show (if f m = true then some m else none) = some k ↔ _
      constructor
      · intro h2
        cases hf : f m with
        | false => rw [hf] at h2; cases h2
        | true => rw [hf] at h2; cases h2; exact ⟨by omega, hf, h1⟩
      · rintro ⟨h2, h3, h4⟩
        have : k = m := by
          rcases Nat.lt_or_ge k m with h5 | h5
          · have := h1 k h5; rw [h3] at this; cases this
          · omega
        subst this
        rw [h3]; rfl
/-- what a function value does, at each number up to m, from any later world -/
def Says (F : Nat) (caps : Array Value) (m : Nat) (f : Nat → Bool) (w : World) : Prop :=
  ∀ (k : Nat) (w' : World), k ≤ m → Below w.heap.size w w' → Calls Try.prog F (#[.int .i64 (k : Nat)] ++ caps) w' fun e w'' => e = .returned (.bool (f k)) ∧ Below w'.heap.size w' w''
set_option maxRecDepth 100000 in
set_option maxHeartbeats 1600000 in
theorem least_any (F : Nat) (caps : Array Value) (m : Nat) (f : Nat → Bool) (w : World) (hm : m ≤ 50) (hF : Says F caps m f w) (eF : ∀ args w, (callFunc F args).run Try.prog w = .ok (.enter F args) w) :
    Calls Try.prog 35 #[.int .i64 (m : Nat), .func (.func F) #[] caps] w fun e w' => e = .returned (leastV (firstP f (m + 1))) ∧ Below w.heap.size w w' := by
  have HF := Lib.hid hF
  clear hF
  go_enter Try.func35, Try.ntmps35
  go_wp2
  go_loopw [9] (fun i wr => ∃ k : Nat, k ≤ m + 1 ∧ i = .int .i64 k ∧ Below w.heap.size w wr ∧ firstP f k = none) (fun i _ => m + 1 - (intOf i).toNat)
  case atStart => exact ⟨0, by omega, rfl, Below.refl _ _, rfl⟩
  case round =>
    obtain ⟨k, hk, rfl, hbel, hn⟩ := hrel
    have HN := Lib.hid hn
    clear hn
    by_cases hlt : k < m + 1
    · have hcall := HF.out k wr (by omega) hbel
      have HC := Lib.hid hcall
      have hs : firstP f (k + 1) = if f k then some k else none := by show (match firstP f k with | some j => some j | none => if f k then some k else none) = _; rw [HN.out]
      obtain ⟨z, hz⟩ : ∃ z, f k = z := ⟨_, rfl⟩
      rw [hz] at hs hcall
      have HC := Lib.hid hcall
      have HS := Lib.hid hs
      have HZ := Lib.hid hz
      have hlt' : (k : Int) < (m : Int) + 1 := by omega
      clear hcall hs hz
      cases z with
      | false =>
        go_wp2_with fail
        refine HC.out.mono ?_
        rintro e w2 ⟨rfl, hb2⟩
        go_wp2
        go_roundw
        case rel => exact ⟨k + 1, by omega, by go_num, hbel.trans (hb2.mono hbel.size), by rw [HS.out]; rfl⟩
        case measure => simp [intOf]; omega
      | true =>
        have HP := Lib.hid (show firstP f (m + 1) = some k from firstP_some.2 ⟨hlt, HZ.out, firstP_none.1 HN.out⟩)
        go_wp2_with fail
        refine HC.out.mono ?_
        rintro e w2 ⟨rfl, hb2⟩
        go_wp2
        go_ret2
        exact ⟨by rw [HP.out]; rfl, hbel.trans (hb2.mono hbel.size)⟩
    · have hkm : k = m + 1 := by omega
      have HN2 := Lib.hid (show firstP f (m + 1) = none by rw [← hkm]; exact HN.out)
      have hge : ¬ (k : Int) < (m : Int) + 1 := by omega
      clear hkm hlt
      go_wp2
      go_ret2
      exact ⟨by rw [HN2.out]; rfl, hbel⟩
/-- does a plan keep all of some risks, with so many bad ones? -/
def bearsB (n c : Nat) (a : Int) (L : List Rk) (bad : Nat) : Bool := L.all fun r => r.kept (bad : Nat) (passN bad (n - bad) c a) (ch n c)
def failF (n c : Nat) (a : Int) (L : List Rk) (bad : Nat) : Bool := !bearsB n c a L bad
set_option maxRecDepth 100000 in
set_option maxHeartbeats 1600000 in
theorem failure1_any (T n c R Bt Bn Bp Bl k : Nat) (a : Int) (L : List Rk) (w : World) (hT : TriAt w T) (hc : c ≤ n) (hn : n ≤ 50) (hk : k ≤ n) (hL : RisksAt w R L) (hl1 : 1 ≤ L.length) (hl2 : L.length ≤ 2) (hm : ∀ r ∈ L, 0 ≤ r.most ∧ r.most ≤ 1000)
    (h1 : w.heap[Bt]? = some (.cells #[.pointer (some ⟨T, 0, none⟩)] 57 (0, 0))) (h2 : w.heap[Bn]? = some (.cells #[.int .i64 (n : Nat)] 3 (0, 0))) (h3 : w.heap[Bp]? = some (.cells #[.int .i64 (c : Nat), .int .i64 a] 23 (0, 0))) (h4 : w.heap[Bl]? = some (.cells #[.slice (some ⟨R, 0, none⟩) L.length L.length] 93 (0, 0))) :
    Calls Try.prog 49 #[.int .i64 (k : Nat), .pointer (some ⟨Bt, 0, none⟩), .pointer (some ⟨Bn, 0, none⟩), .pointer (some ⟨Bp, 0, none⟩), .pointer (some ⟨Bl, 0, none⟩)] w fun e w' => e = .returned (.bool (failF n c a L k)) ∧ Below w.heap.size w w' := by
  have hbe := fun W (h : Below w.heap.size w W) => bears_any T k (n - k) c R a L W (hT.below h hT.lt) (by omega) (by omega) (fun i r hi => (h.cell (p := ⟨R, i, none⟩) (World.block_lt_of_cell? _ _ (hL i r hi))).trans (hL i r hi)) hl1 hl2 hm
  have hlw := fun W => lotWith_any (k : Nat) (n : Nat) W (by omega) (by omega)
  rw [show k + (n - k) = n by omega] at hbe
  have e1 : ((n : Int) - (k : Int)) = ((n - k : Nat) : Int) := by omega
  rw [e1] at hlw
  unfold mets planV at hbe
  unfold mets at hlw
  have hres : failF n c a L k = !(L.all fun r => r.kept (k : Nat) (passN k (n - k) c a) (ch n c)) := rfl
  obtain ⟨z, hz⟩ : ∃ z, (L.all fun r => r.kept (k : Nat) (passN k (n - k) c a) (ch n c)) = z := ⟨_, rfl⟩
  rw [hz] at hbe hres
  have hbe' := hbe
  have HW := Lib.hid hlw
  have HR := Lib.hid hres
  obtain ⟨m, hm'⟩ : ∃ m, L.length = m := ⟨_, rfl⟩
  rw [hm'] at h4 hbe'
  have HB := Lib.hid hbe'
  have HM := Lib.hid hm'
  have H1 := Lib.hid h1
  have H2 := Lib.hid h2
  have H3 := Lib.hid h3
  have H4 := Lib.hid h4
  clear hbe hbe' hlw hres hz hm' h1 h2 h3 h4 e1 hL hm hl1 hl2
  go_enter Try.func49, Try.ntmps49
  go_upto_region 1 with fail
  refine wp_region_held_drew (S := fun w' => Below w.heap.size w w') (by as_aux_lemma => kernel_rfl) (Below.refl _ _).drew (fun hHeld => ?_)
  refine wpAnyH_take (i := 0) (oi := _) (v := ?_) rfl (by as_aux_lemma => kernel_rfl) (by as_aux_lemma => kernel_rfl) (by as_aux_lemma => kernel_rfl) (fun _ _ _ h => h) (Or.inl ⟨by rfl, ?_⟩) hHeld ?_
  rotate_left
  · intro w1 hSw
    have d1 := one_cell ((hSw.block _ (Array.getElem?_eq_some_iff.1 H1.out).1).trans H1.out)
    have d2 := one_cell ((hSw.block _ (Array.getElem?_eq_some_iff.1 H2.out).1).trans H2.out)
    obtain ⟨d3, d3'⟩ := two_cells ((hSw.block _ (Array.getElem?_eq_some_iff.1 H3.out).1).trans H3.out)
    have d4 := one_cell ((hSw.block _ (Array.getElem?_eq_some_iff.1 H4.out).1).trans H4.out)
    go_simp; with_reducible rfl
  simp only [List.getElem_toArray, List.getElem_cons_succ, List.getElem_cons_zero, Act.put, List.setIfInBounds_toArray, List.set_cons_zero, List.set_cons_succ]
  refine wpAnyH_take (i := 1) (oi := _) (v := ?_) rfl (by as_aux_lemma => kernel_rfl) (by as_aux_lemma => kernel_rfl) (by as_aux_lemma => kernel_rfl) (fun _ _ _ h => h) (Or.inl ⟨by rfl, ?_⟩) hHeld ?_
  rotate_left
  · intro w1 hSw
    have d1 := one_cell ((hSw.block _ (Array.getElem?_eq_some_iff.1 H1.out).1).trans H1.out)
    have d2 := one_cell ((hSw.block _ (Array.getElem?_eq_some_iff.1 H2.out).1).trans H2.out)
    obtain ⟨d3, d3'⟩ := two_cells ((hSw.block _ (Array.getElem?_eq_some_iff.1 H3.out).1).trans H3.out)
    have d4 := one_cell ((hSw.block _ (Array.getElem?_eq_some_iff.1 H4.out).1).trans H4.out)
    go_simp; with_reducible rfl
  simp only [List.getElem_toArray, List.getElem_cons_succ, List.getElem_cons_zero, Act.put, List.setIfInBounds_toArray, List.set_cons_zero, List.set_cons_succ]
  refine wpAnyH_take (i := 2) (oi := _) (v := ?_) rfl (by as_aux_lemma => kernel_rfl) (by as_aux_lemma => kernel_rfl) (by as_aux_lemma => kernel_rfl) (fun _ _ _ h => h) (Or.inl ⟨by rfl, ?_⟩) hHeld ?_
  rotate_left
  · intro w1 hSw
    have d1 := one_cell ((hSw.block _ (Array.getElem?_eq_some_iff.1 H1.out).1).trans H1.out)
    have d2 := one_cell ((hSw.block _ (Array.getElem?_eq_some_iff.1 H2.out).1).trans H2.out)
    obtain ⟨d3, d3'⟩ := two_cells ((hSw.block _ (Array.getElem?_eq_some_iff.1 H3.out).1).trans H3.out)
    have d4 := one_cell ((hSw.block _ (Array.getElem?_eq_some_iff.1 H4.out).1).trans H4.out)
    go_simp; with_reducible rfl
  simp only [List.getElem_toArray, List.getElem_cons_succ, List.getElem_cons_zero, Act.put, List.setIfInBounds_toArray, List.set_cons_zero, List.set_cons_succ]
  refine wpAnyH_take (i := 4) (oi := _) (v := ?_) rfl (by as_aux_lemma => kernel_rfl) (by as_aux_lemma => kernel_rfl) (by as_aux_lemma => kernel_rfl) (fun _ _ _ h => h) (Or.inl ⟨by rfl, ?_⟩) hHeld ?_
  rotate_left
  · intro w1 hSw
    have d1 := one_cell ((hSw.block _ (Array.getElem?_eq_some_iff.1 H1.out).1).trans H1.out)
    have d2 := one_cell ((hSw.block _ (Array.getElem?_eq_some_iff.1 H2.out).1).trans H2.out)
    obtain ⟨d3, d3'⟩ := two_cells ((hSw.block _ (Array.getElem?_eq_some_iff.1 H3.out).1).trans H3.out)
    have d4 := one_cell ((hSw.block _ (Array.getElem?_eq_some_iff.1 H4.out).1).trans H4.out)
    go_simp; with_reducible rfl
  simp only [List.getElem_toArray, List.getElem_cons_succ, List.getElem_cons_zero, Act.put, List.setIfInBounds_toArray, List.set_cons_zero, List.set_cons_succ]
  refine wpAnyH_take (i := 5) (oi := _) (v := ?_) rfl (by as_aux_lemma => kernel_rfl) (by as_aux_lemma => kernel_rfl) (by as_aux_lemma => kernel_rfl) (fun _ _ _ h => h) (Or.inl ⟨by rfl, ?_⟩) hHeld ?_
  rotate_left
  · intro w1 hSw
    have d1 := one_cell ((hSw.block _ (Array.getElem?_eq_some_iff.1 H1.out).1).trans H1.out)
    have d2 := one_cell ((hSw.block _ (Array.getElem?_eq_some_iff.1 H2.out).1).trans H2.out)
    obtain ⟨d3, d3'⟩ := two_cells ((hSw.block _ (Array.getElem?_eq_some_iff.1 H3.out).1).trans H3.out)
    have d4 := one_cell ((hSw.block _ (Array.getElem?_eq_some_iff.1 H4.out).1).trans H4.out)
    go_simp; with_reducible rfl
  simp only [List.getElem_toArray, List.getElem_cons_succ, List.getElem_cons_zero, Act.put, List.setIfInBounds_toArray, List.set_cons_zero, List.set_cons_succ]
  refine wpAnyH_all (rs := [3]) (by as_aux_lemma => kernel_rfl) (by simp) ?_
  intro i hi; obtain rfl := List.mem_singleton.1 hi; clear hi
  refine wpOp_step rfl (fun K3 hK3 => ?_)
  have HK3 := Lib.hid hK3
  clear hK3
  rw [if_pos (by rfl)]
  go_simp
  refine (HW.out _).mono ?_
  rintro e w2 ⟨rfl, hb2⟩
  have hH2 : Below w.heap.size w w2 := hHeld.trans (hb2.mono hHeld.size)
  refine HK3.out _ _ ⟨hH2, ?_⟩
  clear HK3 K3
  try simp only [List.getElem_toArray, List.getElem_cons_succ, List.getElem_cons_zero, Act.put, List.setIfInBounds_toArray, List.set_cons_zero, List.set_cons_succ]
  refine wpAnyH_all (rs := [6]) (by as_aux_lemma => kernel_rfl) (by simp) ?_
  intro i hi; obtain rfl := List.mem_singleton.1 hi; clear hi
  refine wpOp_step rfl (fun K3 hK3 => ?_)
  have HK3 := Lib.hid hK3
  clear hK3
  rw [if_pos (by rfl)]
  go_simp
  refine (HB.out _ hH2).mono ?_
  rintro e w3 ⟨rfl, hb3⟩
  have hH3 : Below w.heap.size w w3 := hH2.trans (hb3.mono hH2.size)
  refine HK3.out _ _ ⟨hH3, ?_⟩
  clear HK3 K3
  try simp only [List.getElem_toArray, List.getElem_cons_succ, List.getElem_cons_zero, Act.put, List.setIfInBounds_toArray, List.set_cons_zero, List.set_cons_succ]
  refine wpAnyH_take (i := 7) (oi := _) (v := ?_) rfl (by as_aux_lemma => kernel_rfl) (by as_aux_lemma => kernel_rfl) (by as_aux_lemma => kernel_rfl) (fun _ _ _ h => h) (Or.inl ⟨by rfl, ?_⟩) hH3 ?_
  rotate_left
  · intro w1 hSw

    go_simp; with_reducible rfl
  simp only [List.getElem_toArray, List.getElem_cons_succ, List.getElem_cons_zero, Act.put, List.setIfInBounds_toArray, List.set_cons_zero, List.set_cons_succ]
  refine wpAnyH_all (rs := [8]) (by as_aux_lemma => kernel_rfl) (by simp) ?_
  intro i hi; obtain rfl := List.mem_singleton.1 hi; clear hi
  refine wpOp_step rfl (fun K3 hK3 => ?_)
  have HK3 := Lib.hid hK3
  clear hK3
  rw [if_pos (by rfl)]
  go_simp
  refine HK3.out _ _ ⟨hH3, ?_⟩
  clear HK3 K3
  try simp only [List.getElem_toArray, List.getElem_cons_succ, List.getElem_cons_zero, Act.put, List.setIfInBounds_toArray, List.set_cons_zero, List.set_cons_succ]
  refine wpAnyH_done (by as_aux_lemma => kernel_rfl) ?_ _
  go_wp2
  go_ret
  exact ⟨by rw [HR.out]; rfl, hH3⟩

set_option maxRecDepth 100000 in
set_option maxHeartbeats 1600000 in
theorem failure_any (T n c R : Nat) (a : Int) (L : List Rk) (w : World) (hT : TriAt w T) (hc : c ≤ n) (hn : n ≤ 50) (hL : RisksAt w R L) (hl1 : 1 ≤ L.length) (hl2 : L.length ≤ 2) (hm : ∀ r ∈ L, 0 ≤ r.most ∧ r.most ≤ 1000) :
    Calls Try.prog 41 #[.pointer (some ⟨T, 0, none⟩), .int .i64 (n : Nat), planV (c : Nat) a, .slice (some ⟨R, 0, none⟩) L.length L.length] w fun e w' => e = .returned (leastV (firstP (failF n c a L) (n + 1))) ∧ Below w.heap.size w w' := by
  obtain ⟨W0, hW0⟩ : ∃ X, X = ((((w.alloc (.cells #[.pointer (some ⟨T, 0, none⟩)] 57)).alloc (.cells #[.int .i64 (n : Nat)] 3)).alloc (.cells #[.int .i64 (c : Nat), .int .i64 a] 23)).alloc (.cells #[.slice (some ⟨R, 0, none⟩) L.length L.length] 93)) := ⟨_, rfl⟩
  have hb0 : Below w.heap.size w W0 := by rw [hW0]; exact (((((Below.refl _ _).alloc (Nat.le_refl _) _).alloc (by simp <;> omega) _).alloc (by simp <;> omega) _).alloc (by simp <;> omega) _)
  obtain ⟨H, hH⟩ : ∃ H, H = w.heap.size := ⟨_, rfl⟩
  have k0 : W0.heap[H]? = some (.cells #[.pointer (some ⟨T, 0, none⟩)] 57) := by
    rw [hW0, hH, Below.heap_alloc _ _ _ (by simp <;> omega), Below.heap_alloc _ _ _ (by simp <;> omega), Below.heap_alloc _ _ _ (by simp <;> omega)]
    have := alloc_heap w (.cells #[.pointer (some ⟨T, 0, none⟩)] 57)
    simpa using this
  have k1 : W0.heap[H + 1]? = some (.cells #[.int .i64 (n : Nat)] 3) := by
    rw [hW0, hH, Below.heap_alloc _ _ _ (by simp <;> omega), Below.heap_alloc _ _ _ (by simp <;> omega)]
    have := alloc_heap (w.alloc (.cells #[.pointer (some ⟨T, 0, none⟩)] 57)) (.cells #[.int .i64 (n : Nat)] 3)
    simpa using this
  have k2 : W0.heap[H + 1 + 1]? = some (.cells #[.int .i64 (c : Nat), .int .i64 a] 23) := by
    rw [hW0, hH, Below.heap_alloc _ _ _ (by simp <;> omega)]
    have := alloc_heap ((w.alloc (.cells #[.pointer (some ⟨T, 0, none⟩)] 57)).alloc (.cells #[.int .i64 (n : Nat)] 3)) (.cells #[.int .i64 (c : Nat), .int .i64 a] 23)
    simpa using this
  have k3 : W0.heap[H + 1 + 1 + 1]? = some (.cells #[.slice (some ⟨R, 0, none⟩) L.length L.length] 93) := by
    rw [hW0, hH]
    have := alloc_heap (((w.alloc (.cells #[.pointer (some ⟨T, 0, none⟩)] 57)).alloc (.cells #[.int .i64 (n : Nat)] 3)).alloc (.cells #[.int .i64 (c : Nat), .int .i64 a] 23)) (.cells #[.slice (some ⟨R, 0, none⟩) L.length L.length] 93)
    simpa using this
  have hlw := fun i r (hi : L[i]? = some r) => World.block_lt_of_cell? _ _ (hL i r hi)
  have hsay : Says 49 #[.pointer (some ⟨H, 0, none⟩), .pointer (some ⟨H + 1, 0, none⟩), .pointer (some ⟨H + 1 + 1, 0, none⟩), .pointer (some ⟨H + 1 + 1 + 1, 0, none⟩)] n (failF n c a L) W0 := fun k w' hk hb => by
    have g := fun (b : Nat) (o : Obj) (h : W0.heap[b]? = some o) => (hb.block b (Array.getElem?_eq_some_iff.1 h).1).trans h
    exact failure1_any T n c R _ _ _ _ k a L w' ((hT.below hb0 hT.lt).below hb (Nat.lt_of_lt_of_le hT.lt hb0.size)) hc hn hk (fun i r hi => (hb.cell (p := ⟨R, i, none⟩) (Nat.lt_of_lt_of_le (hlw i r hi) hb0.size)).trans ((hb0.cell (p := ⟨R, i, none⟩) (hlw i r hi)).trans (hL i r hi))) hl1 hl2 hm (g _ _ k0) (g _ _ k1) (g _ _ k2) (g _ _ k3)
  have hle := least_any 49 _ n (failF n c a L) W0 hn hsay (enters_of Try.func49 (by kernel_rfl) rfl)
  rw [hH] at hle
  have HLE := Lib.hid hle
  clear hle hsay k0 k1 k2 k3 hL hlw hm
  unfold planV
  go_enter Try.func41, Try.ntmps41
  go_wp2_with fail
  rw [← hW0]
  refine HLE.out.mono ?_
  rintro e w1 ⟨rfl, hb1⟩
  have hb01 : Below w.heap.size w w1 := hb0.trans (hb1.mono hb0.size)
  obtain ⟨r, hr⟩ : ∃ r, firstP (failF n c a L) (n + 1) = r := ⟨_, rfl⟩
  rw [hr]
  have HRR := Lib.hid hr
  clear hr
  cases r with
  | none =>
    unfold leastV
    simp only []
    go_wp2
    go_ret2
    exact ⟨by rw [HRR.out]; rfl, hb01⟩
  | some k =>
    unfold leastV
    simp only []
    go_wp2
    go_ret2
    exact ⟨by rw [HRR.out]; rfl, hb01⟩
end Go.Proofs.Ytclcconllkfjiaa
