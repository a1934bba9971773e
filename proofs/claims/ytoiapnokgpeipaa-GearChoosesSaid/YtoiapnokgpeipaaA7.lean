/- The first of several: offer, and what is better. -/
import Derived.Test.YtoiapnokgpeipaaA6
namespace Go.Proofs.Ytoiapnokgpeipaa
open Go.RowKit Go.Maps Go.Sort

/-- a train that is tried -/
structure Tri where
  a0 : Int
  a1 : Int
  a2 : Int
  a3 : Int
  a4 : Int
  a5 : Int
  c : Int
  i : Int
  d : Int
  n : Int

def Tri.val (t : Tri) : Value := .agg #[.int .i64 t.a0, .int .i64 t.a1, .int .i64 t.a2, .int .i64 t.a3, .int .i64 t.a4, .int .i64 t.a5, .int .i64 t.c, .int .i64 t.i, .int .i64 t.d, .int .i64 t.n]
/-- the value of nearer: a method bound to its aim -/
def nearF (t r : Int) : Value := .func (.func 49) #[.agg #[.int .i64 t, .int .i64 r]] #[]
def exactF (t r : Int) : Value := .func (.func 41) #[.agg #[.int .i64 t, .int .i64 r]] #[]
def bestF (nb : Nat) : Value := .func (.func 61) #[] #[.pointer (some ⟨nb, 0, none⟩)]

set_option maxRecDepth 100000 in
set_option maxHeartbeats 1600000 in
theorem better_any (t r : Int) (u v : Tri) (nb : Nat) (w : World) (ht : 1 ≤ t ∧ t ≤ 1000) (hr : 1 ≤ r ∧ r ≤ 1000) (ha : 1 ≤ u.d ∧ u.d ≤ 1000000) (hb : 1 ≤ u.n ∧ u.n ≤ 1000000) (hc : 1 ≤ v.d ∧ v.d ≤ 1000000) (hd : 1 ≤ v.n ∧ v.n ≤ 1000000)
    (hn : w.cell? ⟨nb, 0, none⟩ = some (nearF t r)) :
    Calls Try.prog 61 #[u.val, v.val, .pointer (some ⟨nb, 0, none⟩)] w fun e w' => e = .returned (.bool (nearB t r u.d u.n v.d v.n)) ∧ Below w.heap.size w w' := by
  have hN := fun W => nearer_any t r u.d u.n v.d v.n W ht hr ha hb hc hd
  obtain ⟨z, hz⟩ : ∃ z, z = nearB t r u.d u.n v.d v.n := ⟨_, rfl⟩
  rw [← hz] at hN
  obtain ⟨u0, u1, u2, u3, u4, u5, uc, ui, ud, un⟩ := u
  obtain ⟨v0, v1, v2, v3, v4, v5, vc, vi, vd, vn⟩ := v
  simp only at hN hz
  have Hz := Lib.hid hz
  clear hz ha hb hc hd ht hr
  have hlt : nb < w.heap.size := World.block_lt_of_cell? _ _ hn
  unfold Tri.val nearF at *
  go_enter Try.func61, Try.ntmps61
  go_wp2_with (go_at_call 49; refine (hN _).mono ?_; rintro e w' ⟨rfl, hb1⟩)
  go_ret
  exact ⟨by rw [← Hz.out]; rfl, (((Below.refl _ _).alloc (Nat.le_refl _) _).alloc (by simp) _).trans (hb1.mono (by simp; omega))⟩


theorem heap_set {W : World} {B : Nat} {cs : Array Value} {e : TypeId} {fr : Nat × Nat} (h : W.heap[B]? = some (.cells cs e fr)) (o : Nat) (v : Value) :
    (W.setCell ⟨B, o, none⟩ v).heap[B]? = some (.cells (cs.setIfInBounds o v) e fr) := by
  simp [World.setCell, Array.getElem?_modify, h]
theorem grownBy_alloc_drewN (w : World) (o : Obj) (n : Nat) (row : Option Nat) : w.grownBy ((w.alloc o).drewN n) row :=
  (World.grownBy_alloc w o row).trans ⟨rfl, rfl, rfl, Nat.le_refl _, fun _ _ _ => rfl⟩

def bestObj (t : Tri) (fd : Bool) (nb : Nat) : Obj := .cells #[.int .i64 t.a0, .int .i64 t.a1, .int .i64 t.a2, .int .i64 t.a3, .int .i64 t.a4, .int .i64 t.a5, .int .i64 t.c, .int .i64 t.i, .int .i64 t.d, .int .i64 t.n, .bool fd, bestF nb] 104 (0, 0)
/-- block B is the first of several: what it holds, and whether it holds any -/
def BestIs (W : World) (B nb : Nat) : Option Tri → Prop
  | none => ∃ t : Tri, W.heap[B]? = some (bestObj t false nb)
  | some t => W.heap[B]? = some (bestObj t true nb)

set_option maxRecDepth 100000 in
set_option maxHeartbeats 1600000 in
theorem offer_none (v : Tri) (B nb : Nat) (w : World) (hB : BestIs w B nb none) :
    Calls Try.prog 64 #[.pointer (some ⟨B, 0, none⟩), v.val] w fun e w' => e = .returned (.tuple #[]) ∧ BestIs w' B nb (some v) ∧ w.grownBy w' (some B) := by
  obtain ⟨t, hB⟩ := hB
  unfold bestObj at hB
  have hlt : B < w.heap.size := (Array.getElem?_eq_some_iff.1 hB).1
  obtain ⟨v0, v1, v2, v3, v4, v5, vc, vi, vd, vn⟩ := v
  obtain ⟨t0, t1, t2, t3, t4, t5, tc, ti, td, tn⟩ := t
  have c0 : w.cell? ⟨B, 0, none⟩ = some (.int .i64 t0) := by simp [World.cell?, hB]
  have c1 : w.cell? ⟨B, 1, none⟩ = some (.int .i64 t1) := by simp [World.cell?, hB]
  have c2 : w.cell? ⟨B, 2, none⟩ = some (.int .i64 t2) := by simp [World.cell?, hB]
  have c3 : w.cell? ⟨B, 3, none⟩ = some (.int .i64 t3) := by simp [World.cell?, hB]
  have c4 : w.cell? ⟨B, 4, none⟩ = some (.int .i64 t4) := by simp [World.cell?, hB]
  have c5 : w.cell? ⟨B, 5, none⟩ = some (.int .i64 t5) := by simp [World.cell?, hB]
  have c6 : w.cell? ⟨B, 6, none⟩ = some (.int .i64 tc) := by simp [World.cell?, hB]
  have c7 : w.cell? ⟨B, 7, none⟩ = some (.int .i64 ti) := by simp [World.cell?, hB]
  have c8 : w.cell? ⟨B, 8, none⟩ = some (.int .i64 td) := by simp [World.cell?, hB]
  have c9 : w.cell? ⟨B, 9, none⟩ = some (.int .i64 tn) := by simp [World.cell?, hB]
  have ca : w.cell? ⟨B, 10, none⟩ = some (.bool false) := by simp [World.cell?, hB]
  have f0 : ∀ o, w.frozen? ⟨B, o, none⟩ = false := fun o => by simp [World.frozen?, hB]
  unfold Tri.val
  go_enter Try.func64, Try.ntmps64
  go_wp2_with fail
  go_quiet (fail)
  go_wp2
  go_end0
  have h1 : (((w.alloc (.cells #[.int .i64 v0, .int .i64 v1, .int .i64 v2, .int .i64 v3, .int .i64 v4, .int .i64 v5, .int .i64 vc, .int .i64 vi, .int .i64 vd, .int .i64 vn] 87)).drewN nq)).heap[B]? = some (.cells #[.int .i64 t0, .int .i64 t1, .int .i64 t2, .int .i64 t3, .int .i64 t4, .int .i64 t5, .int .i64 tc, .int .i64 ti, .int .i64 td, .int .i64 tn, .bool false, bestF nb] 104 (0, 0)) := by
    rw [show ∀ W : World, (W.drewN nq).heap = W.heap from fun W => by simp]; exact (Below.heap_alloc w _ B hlt).trans hB
  refine ⟨rfl, ?_, ?_⟩
  · have := heap_set (heap_set (heap_set (heap_set (heap_set (heap_set (heap_set (heap_set (heap_set (heap_set (heap_set h1 0 (.int .i64 v0)) 1 (.int .i64 v1)) 2 (.int .i64 v2)) 3 (.int .i64 v3)) 4 (.int .i64 v4)) 5 (.int .i64 v5)) 6 (.int .i64 vc)) 7 (.int .i64 vi)) 8 (.int .i64 vd)) 9 (.int .i64 vn)) 10 (.bool true)
    simpa [BestIs, bestObj] using this
  · iterate 11 refine Lib.grownBy_setB ?_ _ _
    exact grownBy_alloc_drewN w _ _ _


set_option maxRecDepth 100000 in
set_option maxHeartbeats 3200000 in
theorem offer_some (t r : Int) (v b : Tri) (B nb : Nat) (w : World) (hB : BestIs w B nb (some b)) (ht : 1 ≤ t ∧ t ≤ 1000) (hr : 1 ≤ r ∧ r ≤ 1000) (ha : 1 ≤ v.d ∧ v.d ≤ 1000000) (hb : 1 ≤ v.n ∧ v.n ≤ 1000000) (hc : 1 ≤ b.d ∧ b.d ≤ 1000000) (hd : 1 ≤ b.n ∧ b.n ≤ 1000000)
    (hn : w.cell? ⟨nb, 0, none⟩ = some (nearF t r)) :
    Calls Try.prog 64 #[.pointer (some ⟨B, 0, none⟩), v.val] w fun e w' => e = .returned (.tuple #[]) ∧ BestIs w' B nb (some (if nearB t r v.d v.n b.d b.n then v else b)) ∧ w.grownBy w' (some B) := by
  have hB : w.heap[B]? = some (bestObj b true nb) := hB
  have hlt : B < w.heap.size := (Array.getElem?_eq_some_iff.1 hB).1
  have hnlt : nb < w.heap.size := World.block_lt_of_cell? _ _ hn
  obtain ⟨wa, hwa⟩ : ∃ wa, wa = w.alloc (.cells #[.int .i64 v.a0, .int .i64 v.a1, .int .i64 v.a2, .int .i64 v.a3, .int .i64 v.a4, .int .i64 v.a5, .int .i64 v.c, .int .i64 v.i, .int .i64 v.d, .int .i64 v.n] 87) := ⟨_, rfl⟩
  have hga : w.grownBy wa (some B) := by rw [hwa]; exact World.grownBy_alloc _ _ _
  have hA : wa.heap[B]? = some (bestObj b true nb) := by rw [hwa]; exact (Below.heap_alloc w _ B hlt).trans hB
  have hna : wa.cell? ⟨nb, 0, none⟩ = some (nearF t r) := by rw [hwa]; exact cell_al hn _
  have hszw : w.heap.size < wa.heap.size := by rw [hwa]; simp
  have x0 : wa.cell? ⟨w.heap.size, 0, none⟩ = some (.int .i64 v.a0) := by rw [hwa]; go_simp
  have x1 : wa.cell? ⟨w.heap.size, 1, none⟩ = some (.int .i64 v.a1) := by rw [hwa]; go_simp
  have x2 : wa.cell? ⟨w.heap.size, 2, none⟩ = some (.int .i64 v.a2) := by rw [hwa]; go_simp
  have x3 : wa.cell? ⟨w.heap.size, 3, none⟩ = some (.int .i64 v.a3) := by rw [hwa]; go_simp
  have x4 : wa.cell? ⟨w.heap.size, 4, none⟩ = some (.int .i64 v.a4) := by rw [hwa]; go_simp
  have x5 : wa.cell? ⟨w.heap.size, 5, none⟩ = some (.int .i64 v.a5) := by rw [hwa]; go_simp
  have x6 : wa.cell? ⟨w.heap.size, 6, none⟩ = some (.int .i64 v.c) := by rw [hwa]; go_simp
  have x7 : wa.cell? ⟨w.heap.size, 7, none⟩ = some (.int .i64 v.i) := by rw [hwa]; go_simp
  have x8 : wa.cell? ⟨w.heap.size, 8, none⟩ = some (.int .i64 v.d) := by rw [hwa]; go_simp
  have x9 : wa.cell? ⟨w.heap.size, 9, none⟩ = some (.int .i64 v.n) := by rw [hwa]; go_simp
  have hC : ∀ d os, Calls Try.prog 61 #[v.val, b.val, .pointer (some ⟨nb, 0, none⟩)] (grow (redrawn wa d) os) fun e w'' => e = .returned (.bool (nearB t r v.d v.n b.d b.n)) ∧ ∃ p : Regrown, w'' = grow (redrawn wa p.d) p.os :=
    fun d os => Calls.regrown_of (better_any t r v b nb _ ht hr ha hb hc hd (cell_regrown hna d os))
  obtain ⟨z, hz⟩ : ∃ z, z = nearB t r v.d v.n b.d b.n := ⟨_, rfl⟩
  rw [← hz] at hC
  have HW := Lib.hid hwa
  have Hz := Lib.hid hz
  have HB := Lib.hid hA
  rw [← hz]
  clear hwa hz ha hb hc hd ht hr hB
  obtain ⟨v0, v1, v2, v3, v4, v5, vc, vi, vd, vn⟩ := v
  obtain ⟨t0, t1, t2, t3, t4, t5, tc, ti, td, tn⟩ := b
  simp only at *
  have c0 : wa.cell? ⟨B, 0, none⟩ = some (.int .i64 t0) := by simp [World.cell?, hA, bestObj]
  have c1 : wa.cell? ⟨B, 1, none⟩ = some (.int .i64 t1) := by simp [World.cell?, hA, bestObj]
  have c2 : wa.cell? ⟨B, 2, none⟩ = some (.int .i64 t2) := by simp [World.cell?, hA, bestObj]
  have c3 : wa.cell? ⟨B, 3, none⟩ = some (.int .i64 t3) := by simp [World.cell?, hA, bestObj]
  have c4 : wa.cell? ⟨B, 4, none⟩ = some (.int .i64 t4) := by simp [World.cell?, hA, bestObj]
  have c5 : wa.cell? ⟨B, 5, none⟩ = some (.int .i64 t5) := by simp [World.cell?, hA, bestObj]
  have c6 : wa.cell? ⟨B, 6, none⟩ = some (.int .i64 tc) := by simp [World.cell?, hA, bestObj]
  have c7 : wa.cell? ⟨B, 7, none⟩ = some (.int .i64 ti) := by simp [World.cell?, hA, bestObj]
  have c8 : wa.cell? ⟨B, 8, none⟩ = some (.int .i64 td) := by simp [World.cell?, hA, bestObj]
  have c9 : wa.cell? ⟨B, 9, none⟩ = some (.int .i64 tn) := by simp [World.cell?, hA, bestObj]
  have ca : wa.cell? ⟨B, 10, none⟩ = some (.bool true) := by simp [World.cell?, hA, bestObj]
  have cb : wa.cell? ⟨B, 11, none⟩ = some (bestF nb) := by simp [World.cell?, hA, bestObj]
  have k0 := cell_regrown c0
  have k1 := cell_regrown c1
  have k2 := cell_regrown c2
  have k3 := cell_regrown c3
  have k4 := cell_regrown c4
  have k5 := cell_regrown c5
  have k6 := cell_regrown c6
  have k7 := cell_regrown c7
  have k8 := cell_regrown c8
  have k9 := cell_regrown c9
  have ka := cell_regrown ca
  have kb := cell_regrown cb
  have y0 := cell_regrown x0
  have y1 := cell_regrown x1
  have y2 := cell_regrown x2
  have y3 := cell_regrown x3
  have y4 := cell_regrown x4
  have y5 := cell_regrown x5
  have y6 := cell_regrown x6
  have y7 := cell_regrown x7
  have y8 := cell_regrown x8
  have y9 := cell_regrown x9
  unfold Tri.val at *
  unfold bestF at *
  clear hA
  go_enter Try.func64, Try.ntmps64
  go_wp2_with fail
  rw [← HW.out]
  refine wp_region_quiet_below (by kernel_rfl) (by kernel_rfl) ?_
  repeat (quiet_step (first | exact hC _ _))
  refine wpQuiet_nil ?_
  intro _ hw'
  obtain ⟨⟨dq, osq⟩, hw''⟩ := hw'
  subst hw''
  have hbq := below_regrown wa dq osq
  generalize grow (redrawn wa dq) osq = wq at *
  have hAB : wq.heap[B]? = some (bestObj ⟨t0, t1, t2, t3, t4, t5, tc, ti, td, tn⟩ true nb) := (hbq.block B (Array.getElem?_eq_some_iff.1 HB.out).1).trans HB.out
  have hgq : w.grownBy wq (some B) := hga.trans (Lib.grownBy_below (World.grownBy.refl _ _) hbq)
  clear hC k0 k1 k2 k3 k4 k5 k6 k7 k8 k9 ka kb y0 y1 y2 y3 y4 y5 y6 y7 y8 y9 HW
  replace x0 : wq.cell? ⟨w.heap.size, 0, none⟩ = some (.int .i64 v0) := (hbq.cell (p := ⟨_, _, none⟩) hszw).trans x0
  replace x1 : wq.cell? ⟨w.heap.size, 1, none⟩ = some (.int .i64 v1) := (hbq.cell (p := ⟨_, _, none⟩) hszw).trans x1
  replace x2 : wq.cell? ⟨w.heap.size, 2, none⟩ = some (.int .i64 v2) := (hbq.cell (p := ⟨_, _, none⟩) hszw).trans x2
  replace x3 : wq.cell? ⟨w.heap.size, 3, none⟩ = some (.int .i64 v3) := (hbq.cell (p := ⟨_, _, none⟩) hszw).trans x3
  replace x4 : wq.cell? ⟨w.heap.size, 4, none⟩ = some (.int .i64 v4) := (hbq.cell (p := ⟨_, _, none⟩) hszw).trans x4
  replace x5 : wq.cell? ⟨w.heap.size, 5, none⟩ = some (.int .i64 v5) := (hbq.cell (p := ⟨_, _, none⟩) hszw).trans x5
  replace x6 : wq.cell? ⟨w.heap.size, 6, none⟩ = some (.int .i64 vc) := (hbq.cell (p := ⟨_, _, none⟩) hszw).trans x6
  replace x7 : wq.cell? ⟨w.heap.size, 7, none⟩ = some (.int .i64 vi) := (hbq.cell (p := ⟨_, _, none⟩) hszw).trans x7
  replace x8 : wq.cell? ⟨w.heap.size, 8, none⟩ = some (.int .i64 vd) := (hbq.cell (p := ⟨_, _, none⟩) hszw).trans x8
  replace x9 : wq.cell? ⟨w.heap.size, 9, none⟩ = some (.int .i64 vn) := (hbq.cell (p := ⟨_, _, none⟩) hszw).trans x9
  clear c0 c1 c2 c3 c4 c5 c6 c7 c8 c9 ca cb
  have c0 : wq.cell? ⟨B, 0, none⟩ = some (.int .i64 t0) := by simp [World.cell?, hAB, bestObj]
  have c1 : wq.cell? ⟨B, 1, none⟩ = some (.int .i64 t1) := by simp [World.cell?, hAB, bestObj]
  have c2 : wq.cell? ⟨B, 2, none⟩ = some (.int .i64 t2) := by simp [World.cell?, hAB, bestObj]
  have c3 : wq.cell? ⟨B, 3, none⟩ = some (.int .i64 t3) := by simp [World.cell?, hAB, bestObj]
  have c4 : wq.cell? ⟨B, 4, none⟩ = some (.int .i64 t4) := by simp [World.cell?, hAB, bestObj]
  have c5 : wq.cell? ⟨B, 5, none⟩ = some (.int .i64 t5) := by simp [World.cell?, hAB, bestObj]
  have c6 : wq.cell? ⟨B, 6, none⟩ = some (.int .i64 tc) := by simp [World.cell?, hAB, bestObj]
  have c7 : wq.cell? ⟨B, 7, none⟩ = some (.int .i64 ti) := by simp [World.cell?, hAB, bestObj]
  have c8 : wq.cell? ⟨B, 8, none⟩ = some (.int .i64 td) := by simp [World.cell?, hAB, bestObj]
  have c9 : wq.cell? ⟨B, 9, none⟩ = some (.int .i64 tn) := by simp [World.cell?, hAB, bestObj]
  have ca : wq.cell? ⟨B, 10, none⟩ = some (.bool true) := by simp [World.cell?, hAB, bestObj]
  have f0 : ∀ o, wq.frozen? ⟨B, o, none⟩ = false := fun o => by simp [World.frozen?, hAB, bestObj]
  have HAB := Lib.hid hAB
  clear hAB hga hna hszw hn
  have hBne : B ≠ w.heap.size := by omega
  cases z
  · go_wp2
    go_end0
    exact ⟨rfl, HAB.out, hgq⟩
  · go_wp2
    go_end0
    refine ⟨rfl, ?_, ?_⟩
    · have := heap_set (heap_set (heap_set (heap_set (heap_set (heap_set (heap_set (heap_set (heap_set (heap_set (heap_set HAB.out 0 (.int .i64 v0)) 1 (.int .i64 v1)) 2 (.int .i64 v2)) 3 (.int .i64 v3)) 4 (.int .i64 v4)) 5 (.int .i64 v5)) 6 (.int .i64 vc)) 7 (.int .i64 vi)) 8 (.int .i64 vd)) 9 (.int .i64 vn)) 10 (.bool true)
      simpa [BestIs, bestObj] using this
    · iterate 11 refine Lib.grownBy_setB ?_ _ _
      exact hgq

end Go.Proofs.Ytoiapnokgpeipaa
