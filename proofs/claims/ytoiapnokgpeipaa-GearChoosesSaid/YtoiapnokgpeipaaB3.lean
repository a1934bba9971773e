/- A try with no pair more. -/
import Derived.Test.YtoiapnokgpeipaaB2
namespace Go.Proofs.Ytoiapnokgpeipaa
open Go.RowKit Go.Maps Go.Sort

theorem offer_any (t r : Int) (v : Tri) (best : Option Tri) (B nb : Nat) (w : World) (hB : BestIs w B nb best) (hbo : BestOk best) (ht : 1 ≤ t ∧ t ≤ 1000) (hr : 1 ≤ r ∧ r ≤ 1000) (hv : 1 ≤ v.d ∧ v.d ≤ 1000000 ∧ 1 ≤ v.n ∧ v.n ≤ 1000000)
    (hn : w.cell? ⟨nb, 0, none⟩ = some (nearF t r)) :
    Calls Try.prog 64 #[.pointer (some ⟨B, 0, none⟩), v.val] w fun e w' => e = .returned (.tuple #[]) ∧ BestIs w' B nb (offerP t r best v) ∧ w.grownBy w' (some B) := by
  cases best with
  | none => exact offer_none v B nb w hB
  | some b =>
    have hb := hbo b rfl
    exact offer_some t r v b B nb w hB ht hr ⟨hv.1, hv.2.1⟩ hv.2.2 ⟨hb.1, hb.2.1⟩ hb.2.2 hn

theorem BestIs.only {W W' : World} {B nb : Nat} {b : Option Tri} (h : BestIs W B nb b) (he : W'.heap[B]? = W.heap[B]?) : BestIs W' B nb b := by
  cases b with
  | none => obtain ⟨t, ht⟩ := h; exact ⟨t, he.trans ht⟩
  | some t => exact he.trans h
theorem BestIs.lt {W : World} {B nb : Nat} {b : Option Tri} (h : BestIs W B nb b) : B < W.heap.size := by
  cases b with
  | none => obtain ⟨t, ht⟩ := h; exact (Array.getElem?_eq_some_iff.1 ht).1
  | some t => exact (Array.getElem?_eq_some_iff.1 h).1

set_option maxRecDepth 100000 in
set_option maxHeartbeats 3200000 in
theorem try_zero (bs hg B hs hx bt m nb : Nat) (sv : Value) (S : List (Int × Int)) (tl : List T6) (t r p o : Int) (same : Bool) (u : Tri) (c : Nat) (f : Int → Int) (best : Option Tri) (w : World)
    (E : Env w bs hg B hs hx bt m nb sv S t r p o same) (hm : TakenIs w m f) (hB : BestIs w B nb best) (hbo : BestOk best) (hu : TriOk u c)
    (ht : 1 ≤ t ∧ t ≤ 1000) (hr : 1 ≤ r ∧ r ≤ 1000) (hS : ∀ x ∈ S, 6 ≤ x.1 ∧ x.1 ≤ 100) :
    Calls Try.prog 62 #[u.val, .int .i64 0, .pointer (some ⟨bs, 0, none⟩), .pointer (some ⟨hg, 0, none⟩), .pointer (some ⟨B, 0, none⟩), .pointer (some ⟨hs, 0, none⟩), .pointer (some ⟨hx, 0, none⟩), .pointer (some ⟨bt, 0, none⟩)] w
      fun e w' => e = .returned (.tuple #[]) ∧ TakenIs w' m f ∧ BestIs w' B nb (tryP S tl t r o same 0 u f best) ∧ Only2 B m w w' := by
  have hbd := hu.bd
  have hc0 : 0 ≤ u.c ∧ u.c ≤ 3 := by have := hu.1; have := hu.2.1; omega
  have hBl := hB.lt
  have hml := hm.lt
  obtain ⟨b1, hb1⟩ : ∃ b1, b1 = w.alloc (.cells #[.int .i64 u.a0, .int .i64 u.a1, .int .i64 u.a2, .int .i64 u.a3, .int .i64 u.a4, .int .i64 u.a5, .int .i64 u.c, .int .i64 u.i, .int .i64 u.d, .int .i64 u.n] 87) := ⟨_, rfl⟩
  obtain ⟨b2, hb2⟩ : ∃ b2, b2 = b1.alloc (.cells #[.int .i64 0] 3) := ⟨_, rfl⟩
  have ho : Only2 B m w b2 := by rw [hb2, hb1]; exact ((Only2.refl B m w).alloc _).alloc _
  have E2 := E.keep (ho.keepC hm)
  have hm2 : TakenIs b2 m f := by rw [hb2, hb1]; exact (hm.alloc _).alloc _
  have hB2 : BestIs b2 B nb best := hB.only (by rw [hb2, hb1, Below.heap_alloc _ _ _ (by simp; omega), Below.heap_alloc _ _ _ hBl])
  have hI := idlerFor_any S sv m f u.c same b2 E2.wh hm2 hS (by omega) (by omega)
  have hz1 : b1.heap.size = w.heap.size + 1 := by rw [hb1]; simp
  have hz2 : b2.heap.size = w.heap.size + 1 + 1 := by rw [hb2, hz1.symm]; simp
  have hbox : b2.heap[w.heap.size]? = some (.cells #[.int .i64 u.a0, .int .i64 u.a1, .int .i64 u.a2, .int .i64 u.a3, .int .i64 u.a4, .int .i64 u.a5, .int .i64 u.c, .int .i64 u.i, .int .i64 u.d, .int .i64 u.n] 87 (0, 0)) := by
    rw [hb2, Below.heap_alloc _ _ _ (by rw [hz1]; omega), hb1]; exact (MapKept.heap_alloc w _).1
  have e0 := E2.s0
  have e1 := E2.s1
  have e2 := E2.g2
  have x6 : b2.cell? ⟨w.heap.size, 6, none⟩ = some (.int .i64 u.c) := by simp [World.cell?, hbox]
  have hq : b2.cell? ⟨w.heap.size + 1, 0, none⟩ = some (.int .i64 0) := by rw [hb2]; have := (MapKept.heap_alloc b1 (.cells #[.int .i64 0] 3)).1; rw [hz1] at this; simp [World.cell?, this]
  obtain ⟨iv, hiv⟩ : ∃ iv, iv = (idlerI S f u.c same).1 := ⟨_, rfl⟩
  obtain ⟨io, hio⟩ : ∃ io, io = (idlerI S f u.c same).2 := ⟨_, rfl⟩
  rw [← hiv, ← hio] at hI
  have hpost : tryP S tl t r o same 0 u f best = if io then offerP t r best { u with i := iv } else best := by unfold tryP; rw [hiv, hio]
  rw [hpost]
  have HW2 := Lib.hid hb2
  have HW1 := Lib.hid hb1
  clear hpost hiv hio hb1 hb2 hS
  unfold Tri.val
  go_enter Try.func62, Try.ntmps62
  go_wp2_with fail
  rw [← HW1.out, ← HW2.out]
  go_step3
  go_wp2_with fail
  refine hI.mono ?_
  rintro e w3 ⟨rfl, hb3⟩
  have hbox3 : w3.heap[w.heap.size]? = some (.cells #[.int .i64 u.a0, .int .i64 u.a1, .int .i64 u.a2, .int .i64 u.a3, .int .i64 u.a4, .int .i64 u.a5, .int .i64 u.c, .int .i64 u.i, .int .i64 u.d, .int .i64 u.n] 87 (0, 0)) := (hb3.block _ (by omega)).trans hbox
  have ho3 : Only2 B m w w3 := ho.trans (.of_below hb3)
  have E3 := E2.keep ((Only2.of_below (B := B) hb3).keepC hm2)
  have hm3 : TakenIs w3 m f := hm2.below hb3 hm2.lt
  have hB3 : BestIs w3 B nb best := hB2.only (hb3.block _ (by omega))
  have y0 : w3.cell? ⟨w.heap.size, 0, none⟩ = some (.int .i64 u.a0) := by simp [World.cell?, hbox3]
  have y1 : w3.cell? ⟨w.heap.size, 1, none⟩ = some (.int .i64 u.a1) := by simp [World.cell?, hbox3]
  have y2 : w3.cell? ⟨w.heap.size, 2, none⟩ = some (.int .i64 u.a2) := by simp [World.cell?, hbox3]
  have y3 : w3.cell? ⟨w.heap.size, 3, none⟩ = some (.int .i64 u.a3) := by simp [World.cell?, hbox3]
  have y4 : w3.cell? ⟨w.heap.size, 4, none⟩ = some (.int .i64 u.a4) := by simp [World.cell?, hbox3]
  have y5 : w3.cell? ⟨w.heap.size, 5, none⟩ = some (.int .i64 u.a5) := by simp [World.cell?, hbox3]
  have y6 : w3.cell? ⟨w.heap.size, 6, none⟩ = some (.int .i64 u.c) := by simp [World.cell?, hbox3]
  have y7 : w3.cell? ⟨w.heap.size, 7, none⟩ = some (.int .i64 u.i) := by simp [World.cell?, hbox3]
  have y8 : w3.cell? ⟨w.heap.size, 8, none⟩ = some (.int .i64 u.d) := by simp [World.cell?, hbox3]
  have y9 : w3.cell? ⟨w.heap.size, 9, none⟩ = some (.int .i64 u.n) := by simp [World.cell?, hbox3]
  have f0 : ∀ o, w3.frozen? ⟨w.heap.size, o, none⟩ = false := fun o => by simp [World.frozen?, hbox3]
  have hs3 := hb3.size
  clear hI hbox x6 hq e0 e1 e2 HW1 HW2
  cases io
  · go_wp2
    rw [Exit.noGoto_ret]
    refine bodyPost_ret (results_none rfl _ _ _) rfl ?_
    exact ⟨rfl, hm3, hB3, ho3⟩
  · obtain ⟨w4, hw4⟩ : ∃ w4, w4 = w3.setCell ⟨w.heap.size, 7, none⟩ (.int .i64 iv) := ⟨_, rfl⟩
    have ho4 : Only2 B m w w4 := by rw [hw4]; exact ho3.setCell (Nat.le_refl _) _ _
    have hB4 : BestIs w4 B nb best := hB3.only (by rw [hw4]; exact Below.heap_setCell _ _ _ _ (by simp; omega))
    have hk4 := E.keep (ho4.keepC hm)
    have hm4 : TakenIs w4 m f := by
      obtain ⟨D, ⟨es, cc, h1, h2⟩, h3⟩ := hm3
      exact ⟨D, ⟨es, cc, by rw [hw4, Below.heap_setCell _ _ _ _ (by simp; omega)]; exact h1, h2⟩, h3⟩
    have hO := offer_any t r { u with i := iv } best B nb w4 hB4 hbo ht hr hbd hk4.nr
    have Hw4 := Lib.hid hw4
    unfold Tri.val at hO
    clear hw4 ho3 E3 hB3 hB4 hk4 E2 hB2 ho hm2 hm3 hbox3 hB hbo hbd
    go_wp2_with fail
    rw [← Hw4.out]
    refine hO.mono ?_
    rintro e w5 ⟨rfl, hB5, hg5⟩
    go_wp2
    rw [Exit.noGoto_ret]
    refine bodyPost_ret (results_none rfl _ _ _) rfl ?_
    exact ⟨rfl, hm4.kept hg5 (fun e => E.n7 (by cases e; rfl)), hB5, ho4.trans (.of_grown hg5 (fun q e => by cases e; exact .inl rfl))⟩

end Go.Proofs.Ytoiapnokgpeipaa
