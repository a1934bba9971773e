/- The laws of term: what the document fixes. -/
import Derived.Test.YtcmfplfnpjknlaaA22
namespace Go.Proofs.Ytcmfplfnpjknlaa
set_option linter.unusedSimpArgs false
set_option linter.unusedVariables false
open Go.RowKit

theorem tab_ints {X : World} {b : Nat} {l : List Int} (hl : l.length ≤ 100) (hb : X.heap[b]? = some (.cells (l.map (Value.int .i64)).toArray 3 (0, 0))) : TabAt 1 numC X (.slice (some ⟨b, 0, none⟩) l.length l.length) l :=
  ⟨by unfold maxLen; omega, .inr ⟨b, 0, l.length, rfl, Nat.le_refl _, by unfold maxLen; omega, (Array.getElem?_eq_some_iff.1 hb).1, fun i hi j hj => by
    have : j = 0 := by omega
    subst this
    rw [cell_at hb]
    simp [numC, List.getD, hi]⟩⟩
theorem ints_fresh (a : Option Addr) (n c : Nat) (l m : List Int) (k : Nat) (arr : Array Value) (X : World) (ht : TabAt 1 numC X (.slice a n c) l) (hm : m.length ≤ 100) (hk : k = m.length) (ha : arr = (m.map (Value.int .i64)).toArray) : Calls Try.prog 14 #[.slice a n c, .slice (some ⟨X.heap.size, 0, none⟩) k k] (X.alloc (.cells arr 3)) fun e w' => e = .returned (.bool (decide (l = m))) ∧ Below X.heap.size X w' := by
  subst hk ha
  have hbc : Below X.heap.size X (X.alloc (.cells (m.map (Value.int .i64)).toArray 3)) := (Below.refl _ _).alloc (Nat.le_refl _) _
  refine (ints_any l m _ _ _ (ht.below hbc) (tab_ints hm (alloc_heap _ _))).mono ?_
  rintro e w' ⟨rfl, q, rfl⟩
  exact ⟨rfl, below_drewn hbc _⟩
set_option maxRecDepth 100000 in
set_option maxHeartbeats 6400000 in
theorem awake_any (w : World) : Calls Try.prog 9 #[] w fun e w' => e = .returned (.bool true) ∧ Below w.heap.size w w' := by
  have k0 := sample_any w
  unfold sampV at k0
  have K0 := Lib.hid k0
  clear k0
  go_enter Try.func9, Try.ntmps9
  go_upto_region 2 with (go_at_call 23; (with_reducible refine K0.out.mono ?_); rintro e w1 ⟨rfl, hs, hb⟩)
  clear K0
  obtain ⟨Z, hZ⟩ : ∃ Z, w.heap.size = Z := ⟨_, rfl⟩
  rw [hZ] at hs ⊢
  obtain ⟨X0, hX0⟩ : ∃ X, w1.alloc (.cells #[.slice (some ⟨Z + 1, 0, none⟩) 2 2, .slice (some ⟨Z + 2, 0, none⟩) 3 3, .slice (some ⟨Z + 6, 0, none⟩) 3 3, .slice (some ⟨Z + 7, 0, none⟩) 2 2] 27) = X := ⟨_, rfl⟩
  have hbX : Below w1.heap.size w1 X0 := by rw [← hX0]; exact (Below.refl _ _).alloc (Nat.le_refl _) _
  have hx0 : X0.heap[w1.heap.size]? = some (.cells #[.slice (some ⟨Z + 1, 0, none⟩) 2 2, .slice (some ⟨Z + 2, 0, none⟩) 3 3, .slice (some ⟨Z + 6, 0, none⟩) 3 3, .slice (some ⟨Z + 7, 0, none⟩) 2 2] 27 (0, 0)) := by rw [← hX0]; exact alloc_heap w1 _
  obtain ⟨P, hP⟩ : ∃ P, w1.heap.size = P := ⟨_, rfl⟩
  rw [hP] at hx0
  have hs0 := hs.below hbX
  have hPZ : Z + 7 < P := by rw [← hP]; exact (Array.getElem?_eq_some_iff.1 hs.b).1
  have hX0s : P < X0.heap.size := (Array.getElem?_eq_some_iff.1 hx0).1
  have hb0 := hb.trans (hbX.mono hb.size)
  have HZ := Lib.hid hZ
  rw [hX0, hP]
  clear hX0 hbX hs hb hP hZ
  obtain ⟨d0, d1, d2, d3⟩ := four_cells hx0
  have k0 := check_any (sampleF 120) _ X0 hs0.stk
  rw [show checkF (sampleF 120) = (0, 0) by kernel_rfl] at k0
  simp only [sampV, ListRes] at k0
  have K0 := Lib.hid k0
  clear k0
  go_upto_region 3 with (go_at_call 22; (with_reducible refine K0.out.mono ?_); rintro e X1 ⟨rfl, hb⟩)
  have hs1 := hs0.below hb
  have hx1 := box_step (w0 := w) hx0 hb
  have hb1 := hb0.trans (hb.mono hb0.size)
  clear hb K0 d0 d1 d2 d3 hs0 hx0 hb0
  obtain ⟨d0, d1, d2, d3⟩ := four_cells hx1
  have k1 := end_any (sampleF 120) _ 7 X1 hs1.stk
  rw [show endF (sampleF 120) 7 = (1310, 1, 0) by kernel_rfl] at k1
  simp only [sampV, ListRes] at k1
  have K1 := Lib.hid k1
  clear k1
  go_upto_region 4 with (go_at_call 17; (with_reducible refine K1.out.mono ?_); rintro e X2 ⟨rfl, hb⟩)
  have hs2 := hs1.below hb
  have hx2 := box_step (w0 := w) hx1 hb
  have hb2 := hb1.trans (hb.mono hb1.size)
  clear hb K1 d0 d1 d2 d3 hs1 hx1 hb1
  obtain ⟨d0, d1, d2, d3⟩ := four_cells hx2
  have k2 := end_any (sampleF 120) _ 110 X2 hs2.stk
  rw [show endF (sampleF 120) 110 = (301, 0, 0) by kernel_rfl] at k2
  simp only [sampV, ListRes] at k2
  have K2 := Lib.hid k2
  clear k2
  go_upto_region 5 with (go_at_call 17; (with_reducible refine K2.out.mono ?_); rintro e X3 ⟨rfl, hb⟩)
  have hs3 := hs2.below hb
  have hx3 := box_step (w0 := w) hx2 hb
  have hb3 := hb2.trans (hb.mono hb2.size)
  clear hb K2 d0 d1 d2 d3 hs2 hx2 hb2
  obtain ⟨d0, d1, d2, d3⟩ := four_cells hx3
  have k3 := status_any (sampleF 120) _ 7 1310 X3 hs3.stk
  rw [show statusF (sampleF 120) 7 1310 = (2, 0) by kernel_rfl] at k3
  simp only [sampV, ListRes] at k3
  have K3 := Lib.hid k3
  clear k3
  go_upto_region 6 with (go_at_call 18; (with_reducible refine K3.out.mono ?_); rintro e X4 ⟨rfl, hb⟩)
  have hs4 := hs3.below hb
  have hx4 := box_step (w0 := w) hx3 hb
  have hb4 := hb3.trans (hb.mono hb3.size)
  clear hb K3 d0 d1 d2 d3 hs3 hx3 hb3
  obtain ⟨d0, d1, d2, d3⟩ := four_cells hx4
  have k4 := count_any (sampleF 120) _ 1000 X4 hs4.stk
  rw [show countF (sampleF 120) 1000 = ([0, 109, 49, 2], 0) by kernel_rfl] at k4
  simp only [sampV, ListRes] at k4
  have K4 := Lib.hid k4
  clear k4
  go_upto_region 7 with (go_at_call 10; (with_reducible refine K4.out.mono ?_); rintro e X5 ⟨a4, c4, rfl, ht4, hf4, hb⟩)
  have hs5 := hs4.below hb
  have hx5 := box_step (w0 := w) hx4 hb
  have hf4' : ∀ b off, a4 = some ⟨b, off, none⟩ → b ≠ Z + 4 := fun b off e => by have := hf4 b off e; have := (Array.getElem?_eq_some_iff.1 hx4).1; omega
  have HF4 := Lib.hid hf4'
  clear hf4 hf4'
  have hb5 := hb4.trans (hb.mono hb4.size)
  try simp only [] at ht4
  clear hb K4 d0 d1 d2 d3 hs4 hx4 hb4
  obtain ⟨d0, d1, d2, d3⟩ := four_cells hx5
  have k5 := due_any (sampleF 120) _ 300 1310 X5 hs5.stk
  rw [show dueF (sampleF 120) 300 1310 = ([99, 49], 0) by kernel_rfl] at k5
  simp only [sampV, ListRes] at k5
  have K5 := Lib.hid k5
  clear k5
  go_upto_region 8 with (go_at_call 12; (with_reducible refine K5.out.mono ?_); rintro e X6 ⟨a5, c5, rfl, ht5, hf5, hb⟩)
  have hs6 := hs5.below hb
  have hx6 := box_step (w0 := w) hx5 hb
  have hf5' : ∀ b off, a5 = some ⟨b, off, none⟩ → b ≠ Z + 4 := fun b off e => by have := hf5 b off e; have := (Array.getElem?_eq_some_iff.1 hx5).1; omega
  have HF5 := Lib.hid hf5'
  clear hf5 hf5'
  have hb6 := hb5.trans (hb.mono hb5.size)
  replace ht4 := ht4.below hb
  try simp only [] at ht5
  clear hb K5 d0 d1 d2 d3 hs5 hx5 hb5
  obtain ⟨d0, d1, d2, d3⟩ := four_cells hx6
  have q6 : X6.cell? ⟨Z + 6, 6, none⟩ = some (.slice (some ⟨Z + 4, 0, none⟩) 2 2) := (cell_at hs6.p _).trans rfl
  have q4 : X6.cell? ⟨Z + 4, 1, none⟩ = some (.int .i64 120) := (cell_at hs6.s2 _).trans rfl
  have qf : X6.frozen? ⟨Z + 4, 1, none⟩ = false := by have := hs6.s2; simp [World.frozen?, this]
  have hob : ∀ b o, b ≠ Z + 4 → X6.heap[b]? = some o → (X6.setCell ⟨Z + 4, 1, none⟩ (.int .i64 130)).heap[b]? = some o := fun b o hb ho => (Below.heap_setCell _ _ _ _ hb).trans ho
  have hs7 : SampAt (X6.setCell ⟨Z + 4, 1, none⟩ (.int .i64 130)) Z 130 := ⟨hob _ _ (by omega) hs6.c, hob _ _ (by omega) hs6.r, hob _ _ (by omega) hs6.s1, by have := heap_set hs6.s2 1 (.int .i64 130); simpa using this, hob _ _ (by omega) hs6.s3, hob _ _ (by omega) hs6.p, hob _ _ (by omega) hs6.b⟩
  have hx7 := hob _ _ (by omega) hx6
  have ht : ∀ (a : Option Addr) (n c : Nat) (l : List Int), TabAt 1 numC X6 (.slice a n c) l → (∀ b off, a = some ⟨b, off, none⟩ → b ≠ Z + 4) → TabAt 1 numC (X6.setCell ⟨Z + 4, 1, none⟩ (.int .i64 130)) (.slice a n c) l := by
    intro a n c l h1 h2
    obtain ⟨hl, h3 | ⟨b, off, cap, e, g1, g2, g3, g4⟩⟩ := h1
    · exact ⟨hl, .inl h3⟩
    · have e1 : a = some ⟨b, off, none⟩ := by simp only [Value.slice.injEq] at e; exact e.1
      have hne := h2 b off e1
      exact ⟨hl, .inr ⟨b, off, cap, e, g1, g2, by simpa using g3, fun i hi j hj => (World.cell?_of_block (w := X6) (Below.heap_setCell X6 ⟨Z + 4, 1, none⟩ (.int .i64 130) b hne)).trans (g4 i hi j hj)⟩⟩
  have ht4' := ht _ _ _ _ ht4 HF4.out
  have ht5' := ht _ _ _ _ ht5 HF5.out
  have hb7 : Below w.heap.size w (X6.setCell ⟨Z + 4, 1, none⟩ (.int .i64 130)) := hb6.setCell (by rw [HZ.out]; simp) _
  have HS7 := Lib.hid hs7
  have HX7 := Lib.hid hx7
  have HT4 := Lib.hid ht4'
  have HT5 := Lib.hid ht5'
  have HB7 := Lib.hid hb7
  clear ht4 ht5 hs7 hx7 ht4' ht5' hb7 hs6 hx6 hb6 ht hob
  go_upto_region 9 with fail
  obtain ⟨Y, hY⟩ : ∃ Y, X6.setCell ⟨Z + 4, 1, none⟩ (.int .i64 130) = Y := ⟨_, rfl⟩
  rw [hY] at HS7 HX7 HT4 HT5 HB7 ⊢
  clear hY d0 d1 d2 d3 q6 q4 qf
  obtain ⟨d0, d1, d2, d3⟩ := four_cells HX7.out
  have k9 := check_any (sampleF 130) _ Y HS7.out.stk
  rw [show checkF (sampleF 130) = (1, 6) by kernel_rfl] at k9
  simp only [sampV] at k9
  have K9 := Lib.hid k9
  clear k9
  go_upto_region 10 with (go_at_call 22; (with_reducible refine K9.out.mono ?_); rintro e w9 ⟨rfl, hb9⟩)
  have ht4 := HT4.out.below hb9
  have ht5 := HT5.out.below hb9
  have hbz := HB7.out.trans (hb9.mono HB7.out.size)
  simp only [List.length_cons, List.length_nil, Nat.zero_add, Nat.reduceAdd] at ht4 ht5
  have kb : ∀ X, Below w9.heap.size w9 X → Calls Try.prog 14 #[.slice a5 2 c5, .slice (some ⟨X.heap.size, 0, none⟩) 2 2] (X.alloc (.cells #[.int .i64 99, .int .i64 49] 3)) fun e w' => e = .returned (.bool true) ∧ Below X.heap.size X w' := fun X hX => by
    have := ints_fresh _ _ _ _ [99, 49] 2 #[.int .i64 99, .int .i64 49] X (ht5.below hX) (by simp) rfl rfl
    simp only [decide_true] at this
    exact this
  have KB := Lib.hid kb
  have HBZ := Lib.hid hbz
  have ka := ints_fresh _ _ _ _ [0, 109, 49, 2] 4 #[.int .i64 0, .int .i64 109, .int .i64 49, .int .i64 2] w9 ht4 (by simp) rfl rfl
  simp only [decide_true] at ka
  have KA := Lib.hid ka
  clear ht4 ht5 hbz hb9 d0 d1 d2 d3 ka kb HT4 HS7 HX7 HB7 K9
  go_wp2_with (go_at_call 14; (first | ((with_reducible refine KA.out.mono ?_); rintro e wa ⟨rfl, hba⟩) | ((with_reducible refine (KB.out _ hba).mono ?_); rintro e wb ⟨rfl, hbb⟩)))
  go_ret
  exact ⟨rfl, HBZ.out.trans ((hba.trans (hbb.mono hba.size)).mono HBZ.out.size)⟩
end Go.Proofs.Ytcmfplfnpjknlaa
