/- Sound: the walk of SoundNames. -/
import Derived.Test.YtdbjifpnbghbaaaL4
namespace Go.Proofs.Ytdbjifpnbghbaaa
set_option linter.unusedSimpArgs false
set_option linter.unusedVariables false
open Go.RowKit Go.Maps Go.BigFrame

structure Nm where
  f : Int
  t : Int
  a : Int
  lo : Int
  hi : Int
deriving Inhabited
def nmC (x : Nm) : Nat → Int | 0 => x.f | 1 => x.t | 2 => x.a | 3 => x.lo | _ => x.hi
def nmL : List Nm := [⟨0, 150, 50, -250, -250⟩, ⟨0, 150, 0, -1250, -1050⟩, ⟨0, 150, 120, 750, 950⟩, ⟨20, 60, 10, -400, -320⟩, ⟨20, 60, 40, 0, 0⟩, ⟨20, 60, 150, 320, 400⟩]
theorem nm_right : ∀ i, i < 6 → lagR exL (nmL.getD i default).f (nmL.getD i default).t (nmL.getD i default).a = (((nmL.getD i default).lo, (nmL.getD i default).hi), 0) := by
  intro i hi
  rcases (by omega : i = 0 ∨ i = 1 ∨ i = 2 ∨ i = 3 ∨ i = 4 ∨ i = 5) with rfl | rfl | rfl | rfl | rfl | rfl <;> decide +kernel
theorem names_where : whereF exL [⟨0, 150, 0, 100⟩] = ([⟨0, 63, 71⟩], 0) := by decide +kernel
theorem names_none : whereF exL [⟨0, 150, 2000, 2100⟩] = ([], 4) := by decide +kernel
theorem names_tune : tuneR exL 100 ⟨0, 150, 800, 900⟩ = ([], 6) := by decide +kernel
set_option maxRecDepth 100000 in
set_option maxHeartbeats 12800000 in
theorem names_any (w : World) : Calls Try.prog 5 #[] w fun e w' => e = .returned (.bool true) ∧ Below w.heap.size w w' := by
  have KL := Lib.hid line_any
  have KH := Lib.hid heard_any
  have KS := Lib.hid span_any
  have KA := Lib.hid alive_any
  have KT := Lib.hid Stretches_any
  have K2 := Lib.hid (fun v v2 X hX hY => Where_any exL v [⟨0, 150, 0, 100⟩] v2 X hX hY)
  have K4 := Lib.hid (fun v v2 X hX hY => Where_any exL v [⟨0, 150, 2000, 2100⟩] v2 X hX hY)
  have K3 := Lib.hid (fun v X hX => Tune_any exL v 100 ⟨0, 150, 800, 900⟩ X hX)
  rw [names_where] at K2
  rw [names_none] at K4
  rw [names_tune] at K3
  unfold WhereR at K2 K4
  unfold TuneR at K3
  unfold heV at KH K3
  simp only [] at K2 K3 K4 KH
  go_enter Try.func5, Try.ntmps5
  go_wp2_with (go_at_call 21; fail)
  refine (KS.out (-250) (-250) w).mono ?_
  rintro e a0 ⟨rfl, hb⟩
  have HA0 := Lib.hid (hb)
  clear hb
  go_wp2_with (go_at_call 21; fail)
  refine (KS.out (-1250) (-1050) a0).mono ?_
  rintro e a1 ⟨rfl, hb⟩
  have HA1 := Lib.hid (HA0.out.trans (hb.mono HA0.out.size))
  clear hb
  go_wp2_with (go_at_call 21; fail)
  refine (KS.out (750) (950) a1).mono ?_
  rintro e a2 ⟨rfl, hb⟩
  have HA2 := Lib.hid (HA1.out.trans (hb.mono HA1.out.size))
  clear hb
  go_wp2_with (go_at_call 21; fail)
  refine (KS.out (-400) (-320) a2).mono ?_
  rintro e a3 ⟨rfl, hb⟩
  have HA3 := Lib.hid (HA2.out.trans (hb.mono HA2.out.size))
  clear hb
  go_wp2_with (go_at_call 21; fail)
  refine (KS.out (0) (0) a3).mono ?_
  rintro e a4 ⟨rfl, hb⟩
  have HA4 := Lib.hid (HA3.out.trans (hb.mono HA3.out.size))
  clear hb
  go_wp2_with (go_at_call 21; fail)
  refine (KS.out (320) (400) a4).mono ?_
  rintro e a5 ⟨rfl, hb⟩
  have HA5 := Lib.hid (HA4.out.trans (hb.mono HA4.out.size))
  clear hb
  obtain ⟨q, hq⟩ : ∃ x, a5.heap.size = x := ⟨_, rfl⟩
  obtain ⟨W1, hW1⟩ : ∃ X, a5.alloc (.cells (flatK 5 nmC nmL).toArray 44) = X := ⟨_, rfl⟩
  have hbQ : Below a5.heap.size a5 W1 := by rw [← hW1]; exact (Below.refl _ _).alloc (Nat.le_refl _) _
  have hrQ : W1.heap[q]? = some (.cells (flatK 5 nmC nmL).toArray 44 (0, 0)) := by rw [← hW1, ← hq]; exact alloc_heap a5 _
  have HT1 := Lib.hid (tab_of_block (L := nmL) hrQ (by decide))
  have HB1 := Lib.hid (HA5.out.trans (hbQ.mono HA5.out.size))
  have hfl : flatK 5 nmC nmL = [.int .i64 0, .int .i64 150, .int .i64 50, .int .i64 (-250), .int .i64 (-250), .int .i64 0, .int .i64 150, .int .i64 0, .int .i64 (-1250), .int .i64 (-1050), .int .i64 0, .int .i64 150, .int .i64 120, .int .i64 750, .int .i64 950, .int .i64 20, .int .i64 60, .int .i64 10, .int .i64 (-400), .int .i64 (-320), .int .i64 20, .int .i64 60, .int .i64 40, .int .i64 0, .int .i64 0, .int .i64 20, .int .i64 60, .int .i64 150, .int .i64 320, .int .i64 400] := rfl
  rw [hfl] at hW1
  clear hbQ hrQ HA0 HA1 HA2 HA3 HA4 HA5 hfl
  go_wp2_with fail
  clear hW1 hq
  go_loopw [25] (fun i wr => ∃ j : Nat, j ≤ 6 ∧ i = .int .i64 j ∧ Below w.heap.size w wr ∧ TabAt 5 nmC wr (.slice (some ⟨q, 0, none⟩) 6 6) nmL) (fun i _ => 6 - (intOf i).toNat)
  case atStart => exact ⟨0, by omega, rfl, HB1.out, HT1.out⟩
  case round =>
    obtain ⟨j, hj, rfl, hbw, htb⟩ := hrel
    have HBW := Lib.hid hbw
    have HTB := Lib.hid htb
    by_cases hlt : j < 6
    · obtain ⟨lb, lo, e1, hlb, hlx⟩ := htb.at (by decide)
      have e2 : q = lb ∧ 0 = lo := by simpa using e1
      obtain ⟨rfl, rfl⟩ := e2
      have x0 := hlx j hlt 0 (by omega)
      have x1 := hlx j hlt 1 (by omega)
      have x2 := hlx j hlt 2 (by omega)
      have x3 := hlx j hlt 3 (by omega)
      have x4 := hlx j hlt 4 (by omega)
      have hright := nm_right j hlt
      obtain ⟨⟨t0, t1, t2, t3, t4⟩, hrow⟩ : ∃ x : Nm, nmL.getD j default = x := ⟨_, rfl⟩
      rw [hrow] at x0 x1 x2 x3 x4 hright
      simp only [Nat.add_zero, Nat.zero_add, nmC] at x0 x1 x2 x3 x4 hright
      have K1 := Lib.hid (fun v X hX => Lag_any exL v t0 t1 t2 X hX)
      rw [hright] at K1
      unfold LagR at K1
      simp only [] at K1
      have ij1 : (j : Int) < 6 := by omega
      have ij0 : (0 : Int) ≤ (j : Int) := by omega
      have w1 : IntKind.i64.wrap ((j : Int) + 1) = (j : Int) + 1 := IntWalk.i64_in _ (by omega)
      obtain ⟨B, hB⟩ : ∃ x, wr.heap.size = x := ⟨_, rfl⟩
      obtain ⟨W2, hW2⟩ : ∃ X, X = wr.alloc (.cells #[.int .i64 t0, .int .i64 t1, .int .i64 t2, .int .i64 t3, .int .i64 t4] 44) := ⟨_, rfl⟩
      have hbb : Below wr.heap.size wr W2 := by rw [hW2]; exact (Below.refl _ _).alloc (Nat.le_refl _) _
      have hrB : W2.heap[B]? = some (.cells #[.int .i64 t0, .int .i64 t1, .int .i64 t2, .int .i64 t3, .int .i64 t4] 44 (0, 0)) := by rw [hW2, ← hB]; exact alloc_heap wr _
      have HB2 := Lib.hid (HBW.out.trans (hbb.mono HBW.out.size))
      have HT2 := Lib.hid (HTB.out.below hbb)
      have HR := Lib.hid hrB
      clear hlb hlx hrow hright hbb hrB htb hbw e1
      go_upto_region 4 with fail
      rw [← hW2]
      try rw [hB]
      clear hW2 hB x0 x1 x2 x3 x4
      refine wp_region_held_drew (S := fun w' => w'.heap[B]? = some (.cells #[.int .i64 t0, .int .i64 t1, .int .i64 t2, .int .i64 t3, .int .i64 t4] 44 (0, 0))) (by kernel_rfl) HR.out (fun hHeld => ?_)
      obtain ⟨Y0, hY0⟩ : ∃ X, X = W2.drew := ⟨_, rfl⟩
      have hbX : Below W2.heap.size W2 Y0 := by rw [hY0]; exact (Below.refl _ _).drew
      rw [← hY0] at hHeld ⊢
      have hH := Lib.hid hHeld
      clear hY0 hHeld
      refine wpAnyH_take (i := 1) (oi := _) (v := ?_) rfl (by kernel_rfl) (by kernel_rfl) (by kernel_rfl) (fun _ _ _ h => h) (Or.inl ⟨by rfl, ?_⟩) hH.out ?_
      rotate_left
      · intro w1 hSw
        obtain ⟨d0, d1, d2, d3, d4⟩ := five_cells hSw
        clear hSw
        go_simp; with_reducible rfl
      simp only [List.getElem_toArray, List.getElem_cons_succ, List.getElem_cons_zero, Act.put, List.setIfInBounds_toArray, List.set_cons_zero, List.set_cons_succ]
      refine wpAnyH_take (i := 2) (oi := _) (v := ?_) rfl (by kernel_rfl) (by kernel_rfl) (by kernel_rfl) (fun _ _ _ h => h) (Or.inl ⟨by rfl, ?_⟩) hH.out ?_
      rotate_left
      · intro w1 hSw
        obtain ⟨d0, d1, d2, d3, d4⟩ := five_cells hSw
        clear hSw
        go_simp; with_reducible rfl
      simp only [List.getElem_toArray, List.getElem_cons_succ, List.getElem_cons_zero, Act.put, List.setIfInBounds_toArray, List.set_cons_zero, List.set_cons_succ]
      refine wpAnyH_take (i := 3) (oi := _) (v := ?_) rfl (by kernel_rfl) (by kernel_rfl) (by kernel_rfl) (fun _ _ _ h => h) (Or.inl ⟨by rfl, ?_⟩) hH.out ?_
      rotate_left
      · intro w1 hSw
        obtain ⟨d0, d1, d2, d3, d4⟩ := five_cells hSw
        clear hSw
        go_simp; with_reducible rfl
      simp only [List.getElem_toArray, List.getElem_cons_succ, List.getElem_cons_zero, Act.put, List.setIfInBounds_toArray, List.set_cons_zero, List.set_cons_succ]
      refine wpAnyH_take (i := 4) (oi := _) (v := ?_) rfl (by kernel_rfl) (by kernel_rfl) (by kernel_rfl) (fun _ _ _ h => h) (Or.inl ⟨by rfl, ?_⟩) hH.out ?_
      rotate_left
      · intro w1 hSw
        obtain ⟨d0, d1, d2, d3, d4⟩ := five_cells hSw
        clear hSw
        go_simp; with_reducible rfl
      simp only [List.getElem_toArray, List.getElem_cons_succ, List.getElem_cons_zero, Act.put, List.setIfInBounds_toArray, List.set_cons_zero, List.set_cons_succ]
      refine wpAnyH_take (i := 5) (oi := _) (v := ?_) rfl (by kernel_rfl) (by kernel_rfl) (by kernel_rfl) (fun _ _ _ h => h) (Or.inl ⟨by rfl, ?_⟩) hH.out ?_
      rotate_left
      · intro w1 hSw
        obtain ⟨d0, d1, d2, d3, d4⟩ := five_cells hSw
        clear hSw
        go_simp; with_reducible rfl
      simp only [List.getElem_toArray, List.getElem_cons_succ, List.getElem_cons_zero, Act.put, List.setIfInBounds_toArray, List.set_cons_zero, List.set_cons_succ]
      refine wpAnyH_take (i := 6) (oi := _) (v := ?_) rfl (by kernel_rfl) (by kernel_rfl) (by kernel_rfl) (fun _ _ _ h => h) (Or.inl ⟨by rfl, ?_⟩) hH.out ?_
      rotate_left
      · intro w1 hSw
        obtain ⟨d0, d1, d2, d3, d4⟩ := five_cells hSw
        clear hSw
        go_simp; with_reducible rfl
      simp only [List.getElem_toArray, List.getElem_cons_succ, List.getElem_cons_zero, Act.put, List.setIfInBounds_toArray, List.set_cons_zero, List.set_cons_succ]
      refine wpAnyH_all (rs := [0, 11]) (by kernel_rfl) (by simp) ?_
      intro i hi
      rcases List.mem_cons.1 hi with rfl | hi
      ·
        refine wpOp_step rfl (fun K3 hK3 => ?_)
        have HK3 := Lib.hid hK3
        clear hK3
        rw [if_pos (by rfl)]
        go_simp
        refine (KL.out Y0).mono ?_
        rintro e Y1 ⟨R, rfl, hR, hr, hbn⟩
        have HLT := Lib.hid (line_tab hr)
        have hH2 := box_step (w0 := w) hH.out hbn
        replace hbX := hbX.trans (hbn.mono hbX.size)
        clear hH hR hr hbn
        have hH := Lib.hid hH2
        clear hH2
        refine HK3.out _ _ ⟨hH.out, ?_⟩
        clear HK3 K3
        try simp only [List.getElem_toArray, List.getElem_cons_succ, List.getElem_cons_zero, Act.put, List.setIfInBounds_toArray, List.set_cons_zero, List.set_cons_succ]
        refine wpAnyH_all (rs := [7, 11]) (by kernel_rfl) (by simp) ?_
        intro i hi
        rcases List.mem_cons.1 hi with rfl | hi
        ·
          refine wpOp_step rfl (fun K3 hK3 => ?_)
          have HK3 := Lib.hid hK3
          clear hK3
          rw [if_pos (by rfl)]
          go_simp
          refine (K1.out _ _ HLT.out).mono ?_
          rintro e Y2 ⟨rfl, hbn⟩
          have hH2 := box_step (w0 := w) hH.out hbn
          replace hbX := hbX.trans (hbn.mono hbX.size)
          clear hH hbn
          have hH := Lib.hid hH2
          clear hH2
          refine HK3.out _ _ ⟨hH.out, ?_⟩
          clear HK3 K3
          try simp only [List.getElem_toArray, List.getElem_cons_succ, List.getElem_cons_zero, Act.put, List.setIfInBounds_toArray, List.set_cons_zero, List.set_cons_succ]
          refine wpAnyH_take (i := 8) (oi := _) (v := ?_) rfl (by kernel_rfl) (by kernel_rfl) (by kernel_rfl) (fun _ _ _ h => h) (Or.inl ⟨by rfl, ?_⟩) hH.out ?_
          rotate_left
          · intro w1 hSw
            obtain ⟨d0, d1, d2, d3, d4⟩ := five_cells hSw
            clear hSw
            go_simp; with_reducible rfl
          simp only [List.getElem_toArray, List.getElem_cons_succ, List.getElem_cons_zero, Act.put, List.setIfInBounds_toArray, List.set_cons_zero, List.set_cons_succ]
          refine wpAnyH_take (i := 9) (oi := _) (v := ?_) rfl (by kernel_rfl) (by kernel_rfl) (by kernel_rfl) (fun _ _ _ h => h) (Or.inl ⟨by rfl, ?_⟩) hH.out ?_
          rotate_left
          · intro w1 hSw
            obtain ⟨d0, d1, d2, d3, d4⟩ := five_cells hSw
            clear hSw
            go_simp; with_reducible rfl
          simp only [List.getElem_toArray, List.getElem_cons_succ, List.getElem_cons_zero, Act.put, List.setIfInBounds_toArray, List.set_cons_zero, List.set_cons_succ]
          refine wpAnyH_take (i := 10) (oi := _) (v := ?_) rfl (by kernel_rfl) (by kernel_rfl) (by kernel_rfl) (fun _ _ _ h => h) (Or.inl ⟨by rfl, ?_⟩) hH.out ?_
          rotate_left
          · intro w1 hSw
            obtain ⟨d0, d1, d2, d3, d4⟩ := five_cells hSw
            clear hSw
            go_simp; with_reducible rfl
          simp only [List.getElem_toArray, List.getElem_cons_succ, List.getElem_cons_zero, Act.put, List.setIfInBounds_toArray, List.set_cons_zero, List.set_cons_succ]
          refine wpAnyH_all (rs := [11]) (by kernel_rfl) (by simp) ?_
          intro i hi
          obtain rfl := List.mem_singleton.1 hi; clear hi
          refine wpOp_step rfl (fun K3 hK3 => ?_)
          have HK3 := Lib.hid hK3
          clear hK3
          rw [if_pos (by rfl)]
          go_simp
          obtain ⟨g, eq⟩ : ∃ g, g = Y2.heap.size := ⟨_, rfl⟩
          obtain ⟨Y3, eY⟩ : ∃ Y, Y = Y2.alloc (.cells #[.int .i64 0, .int .i64 0] 24) := ⟨_, rfl⟩
          have hbn : Below Y2.heap.size Y2 Y3 := by rw [eY]; exact (Below.refl _ _).alloc (Nat.le_refl _) _
          have hq : Y3.heap[g]? = some (.cells #[.int .i64 0, .int .i64 0] 24 (0, 0)) := by rw [eY, eq]; exact alloc_heap Y2 _
          have hql : W2.heap.size ≤ g := by rw [eq]; exact hbX.size
          rw [← eY, ← eq]
          clear eY eq
          have hH2 := box_step (w0 := w) hH.out hbn
          replace hbX := hbX.trans (hbn.mono hbX.size)
          clear hH hbn
          have hH := Lib.hid hH2
          clear hH2
          refine HK3.out _ _ ⟨hH.out, ?_⟩
          clear HK3 K3
          try simp only [List.getElem_toArray, List.getElem_cons_succ, List.getElem_cons_zero, Act.put, List.setIfInBounds_toArray, List.set_cons_zero, List.set_cons_succ]
          obtain ⟨z0, z1⟩ := two_cells hq
          have f0 : Y3.frozen? ⟨g, 0, none⟩ = false := frozen_of hq
          have f1 : Y3.frozen? ⟨g, 1, none⟩ = false := frozen_of hq
          have hz := set2 (A := .int .i64 t3) (B := .int .i64 t4) hq
          have hbz := below2 hbX (R := g) hql (.int .i64 t3) (.int .i64 t4)
          have hBz := (set2_other Y3 (R := g) (b := B) (.int .i64 t3) (.int .i64 t4) (by have := (Array.getElem?_eq_some_iff.1 HR.out).1; omega)).trans hH.out
          have HZ := Lib.hid hz
          have HBX := Lib.hid hbz
          have HBZ := Lib.hid hBz
          clear hz hbz hBz hq hbX hH
          refine wpAnyH_all (rs := [12]) (by kernel_rfl) (by simp) ?_
          intro i hi; obtain rfl := List.mem_singleton.1 hi; clear hi
          refine wpOp_step rfl (fun K3 hK3 => ?_)
          have HK3 := Lib.hid hK3
          clear hK3
          rw [if_pos (by rfl)]
          go_simp
          refine HK3.out _ _ ⟨HBZ.out, ?_⟩
          clear HK3 K3
          try simp only [List.getElem_toArray, List.getElem_cons_succ, List.getElem_cons_zero, Act.put, List.setIfInBounds_toArray, List.set_cons_zero, List.set_cons_succ]
          refine wpAnyH_take (i := 13) (oi := _) (v := ?_) rfl (by kernel_rfl) (by kernel_rfl) (by kernel_rfl) (fun _ _ _ h => h) (Or.inl ⟨by rfl, ?_⟩) HBZ.out ?_
          rotate_left
          · intro w1 hSw
            obtain ⟨d0, d1, d2, d3, d4⟩ := five_cells hSw
            clear hSw
            go_simp; with_reducible rfl
          simp only [List.getElem_toArray, List.getElem_cons_succ, List.getElem_cons_zero, Act.put, List.setIfInBounds_toArray, List.set_cons_zero, List.set_cons_succ]
          refine wpAnyH_done (by kernel_rfl) ?_ _
          obtain ⟨Y, hY⟩ : ∃ Y, (Y3.setCell ⟨g, 0, none⟩ (.int .i64 t3)).setCell ⟨g, 1, none⟩ (.int .i64 t4) = Y := ⟨_, rfl⟩
          rw [hY] at HZ HBX HBZ ⊢
          clear hY f0 f1 z0 z1 hql
          obtain ⟨d0, d1, d2, d3, d4⟩ := five_cells HBZ.out
          obtain ⟨z0, z1⟩ := two_cells HZ.out
          go_wp2
          go_roundw
          case rel => exact ⟨j + 1, by omega, by go_num, HB2.out.trans (HBX.out.mono HB2.out.size), HT2.out.below HBX.out⟩
          case measure => simp [intOf]; omega
        ·
          obtain rfl := List.mem_singleton.1 hi; clear hi
          refine wpOp_step rfl (fun K3 hK3 => ?_)
          have HK3 := Lib.hid hK3
          clear hK3
          rw [if_pos (by rfl)]
          go_simp
          obtain ⟨g, eq⟩ : ∃ g, g = Y1.heap.size := ⟨_, rfl⟩
          obtain ⟨Y4, eY⟩ : ∃ Y, Y = Y1.alloc (.cells #[.int .i64 0, .int .i64 0] 24) := ⟨_, rfl⟩
          have hbn : Below Y1.heap.size Y1 Y4 := by rw [eY]; exact (Below.refl _ _).alloc (Nat.le_refl _) _
          have hq : Y4.heap[g]? = some (.cells #[.int .i64 0, .int .i64 0] 24 (0, 0)) := by rw [eY, eq]; exact alloc_heap Y1 _
          have hql : W2.heap.size ≤ g := by rw [eq]; exact hbX.size
          rw [← eY, ← eq]
          clear eY eq
          replace HLT := Lib.hid (HLT.out.below hbn)
          have hH2 := box_step (w0 := w) hH.out hbn
          replace hbX := hbX.trans (hbn.mono hbX.size)
          clear hH hbn
          have hH := Lib.hid hH2
          clear hH2
          refine HK3.out _ _ ⟨hH.out, ?_⟩
          clear HK3 K3
          try simp only [List.getElem_toArray, List.getElem_cons_succ, List.getElem_cons_zero, Act.put, List.setIfInBounds_toArray, List.set_cons_zero, List.set_cons_succ]
          refine wpAnyH_all (rs := [7]) (by kernel_rfl) (by simp) ?_
          intro i hi
          obtain rfl := List.mem_singleton.1 hi; clear hi
          refine wpOp_step rfl (fun K3 hK3 => ?_)
          have HK3 := Lib.hid hK3
          clear hK3
          rw [if_pos (by rfl)]
          go_simp
          refine (K1.out _ _ HLT.out).mono ?_
          rintro e Y5 ⟨rfl, hbn⟩
          have hH2 := box_step (w0 := w) hH.out hbn
          replace hq := box_step (w0 := w) hq hbn
          replace hbX := hbX.trans (hbn.mono hbX.size)
          clear hH hbn
          have hH := Lib.hid hH2
          clear hH2
          refine HK3.out _ _ ⟨hH.out, ?_⟩
          clear HK3 K3
          try simp only [List.getElem_toArray, List.getElem_cons_succ, List.getElem_cons_zero, Act.put, List.setIfInBounds_toArray, List.set_cons_zero, List.set_cons_succ]
          refine wpAnyH_take (i := 8) (oi := _) (v := ?_) rfl (by kernel_rfl) (by kernel_rfl) (by kernel_rfl) (fun _ _ _ h => h) (Or.inl ⟨by rfl, ?_⟩) hH.out ?_
          rotate_left
          · intro w1 hSw
            obtain ⟨d0, d1, d2, d3, d4⟩ := five_cells hSw
            clear hSw
            go_simp; with_reducible rfl
          simp only [List.getElem_toArray, List.getElem_cons_succ, List.getElem_cons_zero, Act.put, List.setIfInBounds_toArray, List.set_cons_zero, List.set_cons_succ]
          refine wpAnyH_take (i := 9) (oi := _) (v := ?_) rfl (by kernel_rfl) (by kernel_rfl) (by kernel_rfl) (fun _ _ _ h => h) (Or.inl ⟨by rfl, ?_⟩) hH.out ?_
          rotate_left
          · intro w1 hSw
            obtain ⟨d0, d1, d2, d3, d4⟩ := five_cells hSw
            clear hSw
            go_simp; with_reducible rfl
          simp only [List.getElem_toArray, List.getElem_cons_succ, List.getElem_cons_zero, Act.put, List.setIfInBounds_toArray, List.set_cons_zero, List.set_cons_succ]
          refine wpAnyH_take (i := 10) (oi := _) (v := ?_) rfl (by kernel_rfl) (by kernel_rfl) (by kernel_rfl) (fun _ _ _ h => h) (Or.inl ⟨by rfl, ?_⟩) hH.out ?_
          rotate_left
          · intro w1 hSw
            obtain ⟨d0, d1, d2, d3, d4⟩ := five_cells hSw
            clear hSw
            go_simp; with_reducible rfl
          simp only [List.getElem_toArray, List.getElem_cons_succ, List.getElem_cons_zero, Act.put, List.setIfInBounds_toArray, List.set_cons_zero, List.set_cons_succ]
          obtain ⟨z0, z1⟩ := two_cells hq
          have f0 : Y5.frozen? ⟨g, 0, none⟩ = false := frozen_of hq
          have f1 : Y5.frozen? ⟨g, 1, none⟩ = false := frozen_of hq
          have hz := set2 (A := .int .i64 t3) (B := .int .i64 t4) hq
          have hbz := below2 hbX (R := g) hql (.int .i64 t3) (.int .i64 t4)
          have hBz := (set2_other Y5 (R := g) (b := B) (.int .i64 t3) (.int .i64 t4) (by have := (Array.getElem?_eq_some_iff.1 HR.out).1; omega)).trans hH.out
          have HZ := Lib.hid hz
          have HBX := Lib.hid hbz
          have HBZ := Lib.hid hBz
          clear hz hbz hBz hq hbX hH
          refine wpAnyH_all (rs := [12]) (by kernel_rfl) (by simp) ?_
          intro i hi; obtain rfl := List.mem_singleton.1 hi; clear hi
          refine wpOp_step rfl (fun K3 hK3 => ?_)
          have HK3 := Lib.hid hK3
          clear hK3
          rw [if_pos (by rfl)]
          go_simp
          refine HK3.out _ _ ⟨HBZ.out, ?_⟩
          clear HK3 K3
          try simp only [List.getElem_toArray, List.getElem_cons_succ, List.getElem_cons_zero, Act.put, List.setIfInBounds_toArray, List.set_cons_zero, List.set_cons_succ]
          refine wpAnyH_take (i := 13) (oi := _) (v := ?_) rfl (by kernel_rfl) (by kernel_rfl) (by kernel_rfl) (fun _ _ _ h => h) (Or.inl ⟨by rfl, ?_⟩) HBZ.out ?_
          rotate_left
          · intro w1 hSw
            obtain ⟨d0, d1, d2, d3, d4⟩ := five_cells hSw
            clear hSw
            go_simp; with_reducible rfl
          simp only [List.getElem_toArray, List.getElem_cons_succ, List.getElem_cons_zero, Act.put, List.setIfInBounds_toArray, List.set_cons_zero, List.set_cons_succ]
          refine wpAnyH_done (by kernel_rfl) ?_ _
          obtain ⟨Y, hY⟩ : ∃ Y, (Y5.setCell ⟨g, 0, none⟩ (.int .i64 t3)).setCell ⟨g, 1, none⟩ (.int .i64 t4) = Y := ⟨_, rfl⟩
          rw [hY] at HZ HBX HBZ ⊢
          clear hY f0 f1 z0 z1 hql
          obtain ⟨d0, d1, d2, d3, d4⟩ := five_cells HBZ.out
          obtain ⟨z0, z1⟩ := two_cells HZ.out
          go_wp2
          go_roundw
          case rel => exact ⟨j + 1, by omega, by go_num, HB2.out.trans (HBX.out.mono HB2.out.size), HT2.out.below HBX.out⟩
          case measure => simp [intOf]; omega
      ·
        obtain rfl := List.mem_singleton.1 hi; clear hi
        refine wpOp_step rfl (fun K3 hK3 => ?_)
        have HK3 := Lib.hid hK3
        clear hK3
        rw [if_pos (by rfl)]
        go_simp
        obtain ⟨g, eq⟩ : ∃ g, g = Y0.heap.size := ⟨_, rfl⟩
        obtain ⟨Y6, eY⟩ : ∃ Y, Y = Y0.alloc (.cells #[.int .i64 0, .int .i64 0] 24) := ⟨_, rfl⟩
        have hbn : Below Y0.heap.size Y0 Y6 := by rw [eY]; exact (Below.refl _ _).alloc (Nat.le_refl _) _
        have hq : Y6.heap[g]? = some (.cells #[.int .i64 0, .int .i64 0] 24 (0, 0)) := by rw [eY, eq]; exact alloc_heap Y0 _
        have hql : W2.heap.size ≤ g := by rw [eq]; exact hbX.size
        rw [← eY, ← eq]
        clear eY eq
        have hH2 := box_step (w0 := w) hH.out hbn
        replace hbX := hbX.trans (hbn.mono hbX.size)
        clear hH hbn
        have hH := Lib.hid hH2
        clear hH2
        refine HK3.out _ _ ⟨hH.out, ?_⟩
        clear HK3 K3
        try simp only [List.getElem_toArray, List.getElem_cons_succ, List.getElem_cons_zero, Act.put, List.setIfInBounds_toArray, List.set_cons_zero, List.set_cons_succ]
        refine wpAnyH_all (rs := [0]) (by kernel_rfl) (by simp) ?_
        intro i hi
        obtain rfl := List.mem_singleton.1 hi; clear hi
        refine wpOp_step rfl (fun K3 hK3 => ?_)
        have HK3 := Lib.hid hK3
        clear hK3
        rw [if_pos (by rfl)]
        go_simp
        refine (KL.out Y6).mono ?_
        rintro e Y7 ⟨R, rfl, hR, hr, hbn⟩
        have HLT := Lib.hid (line_tab hr)
        have hH2 := box_step (w0 := w) hH.out hbn
        replace hq := box_step (w0 := w) hq hbn
        replace hbX := hbX.trans (hbn.mono hbX.size)
        clear hH hR hr hbn
        have hH := Lib.hid hH2
        clear hH2
        refine HK3.out _ _ ⟨hH.out, ?_⟩
        clear HK3 K3
        try simp only [List.getElem_toArray, List.getElem_cons_succ, List.getElem_cons_zero, Act.put, List.setIfInBounds_toArray, List.set_cons_zero, List.set_cons_succ]
        refine wpAnyH_all (rs := [7]) (by kernel_rfl) (by simp) ?_
        intro i hi
        obtain rfl := List.mem_singleton.1 hi; clear hi
        refine wpOp_step rfl (fun K3 hK3 => ?_)
        have HK3 := Lib.hid hK3
        clear hK3
        rw [if_pos (by rfl)]
        go_simp
        refine (K1.out _ _ HLT.out).mono ?_
        rintro e Y8 ⟨rfl, hbn⟩
        have hH2 := box_step (w0 := w) hH.out hbn
        replace hq := box_step (w0 := w) hq hbn
        replace hbX := hbX.trans (hbn.mono hbX.size)
        clear hH hbn
        have hH := Lib.hid hH2
        clear hH2
        refine HK3.out _ _ ⟨hH.out, ?_⟩
        clear HK3 K3
        try simp only [List.getElem_toArray, List.getElem_cons_succ, List.getElem_cons_zero, Act.put, List.setIfInBounds_toArray, List.set_cons_zero, List.set_cons_succ]
        refine wpAnyH_take (i := 8) (oi := _) (v := ?_) rfl (by kernel_rfl) (by kernel_rfl) (by kernel_rfl) (fun _ _ _ h => h) (Or.inl ⟨by rfl, ?_⟩) hH.out ?_
        rotate_left
        · intro w1 hSw
          obtain ⟨d0, d1, d2, d3, d4⟩ := five_cells hSw
          clear hSw
          go_simp; with_reducible rfl
        simp only [List.getElem_toArray, List.getElem_cons_succ, List.getElem_cons_zero, Act.put, List.setIfInBounds_toArray, List.set_cons_zero, List.set_cons_succ]
        refine wpAnyH_take (i := 9) (oi := _) (v := ?_) rfl (by kernel_rfl) (by kernel_rfl) (by kernel_rfl) (fun _ _ _ h => h) (Or.inl ⟨by rfl, ?_⟩) hH.out ?_
        rotate_left
        · intro w1 hSw
          obtain ⟨d0, d1, d2, d3, d4⟩ := five_cells hSw
          clear hSw
          go_simp; with_reducible rfl
        simp only [List.getElem_toArray, List.getElem_cons_succ, List.getElem_cons_zero, Act.put, List.setIfInBounds_toArray, List.set_cons_zero, List.set_cons_succ]
        refine wpAnyH_take (i := 10) (oi := _) (v := ?_) rfl (by kernel_rfl) (by kernel_rfl) (by kernel_rfl) (fun _ _ _ h => h) (Or.inl ⟨by rfl, ?_⟩) hH.out ?_
        rotate_left
        · intro w1 hSw
          obtain ⟨d0, d1, d2, d3, d4⟩ := five_cells hSw
          clear hSw
          go_simp; with_reducible rfl
        simp only [List.getElem_toArray, List.getElem_cons_succ, List.getElem_cons_zero, Act.put, List.setIfInBounds_toArray, List.set_cons_zero, List.set_cons_succ]
        obtain ⟨z0, z1⟩ := two_cells hq
        have f0 : Y8.frozen? ⟨g, 0, none⟩ = false := frozen_of hq
        have f1 : Y8.frozen? ⟨g, 1, none⟩ = false := frozen_of hq
        have hz := set2 (A := .int .i64 t3) (B := .int .i64 t4) hq
        have hbz := below2 hbX (R := g) hql (.int .i64 t3) (.int .i64 t4)
        have hBz := (set2_other Y8 (R := g) (b := B) (.int .i64 t3) (.int .i64 t4) (by have := (Array.getElem?_eq_some_iff.1 HR.out).1; omega)).trans hH.out
        have HZ := Lib.hid hz
        have HBX := Lib.hid hbz
        have HBZ := Lib.hid hBz
        clear hz hbz hBz hq hbX hH
        refine wpAnyH_all (rs := [12]) (by kernel_rfl) (by simp) ?_
        intro i hi; obtain rfl := List.mem_singleton.1 hi; clear hi
        refine wpOp_step rfl (fun K3 hK3 => ?_)
        have HK3 := Lib.hid hK3
        clear hK3
        rw [if_pos (by rfl)]
        go_simp
        refine HK3.out _ _ ⟨HBZ.out, ?_⟩
        clear HK3 K3
        try simp only [List.getElem_toArray, List.getElem_cons_succ, List.getElem_cons_zero, Act.put, List.setIfInBounds_toArray, List.set_cons_zero, List.set_cons_succ]
        refine wpAnyH_take (i := 13) (oi := _) (v := ?_) rfl (by kernel_rfl) (by kernel_rfl) (by kernel_rfl) (fun _ _ _ h => h) (Or.inl ⟨by rfl, ?_⟩) HBZ.out ?_
        rotate_left
        · intro w1 hSw
          obtain ⟨d0, d1, d2, d3, d4⟩ := five_cells hSw
          clear hSw
          go_simp; with_reducible rfl
        simp only [List.getElem_toArray, List.getElem_cons_succ, List.getElem_cons_zero, Act.put, List.setIfInBounds_toArray, List.set_cons_zero, List.set_cons_succ]
        refine wpAnyH_done (by kernel_rfl) ?_ _
        obtain ⟨Y, hY⟩ : ∃ Y, (Y8.setCell ⟨g, 0, none⟩ (.int .i64 t3)).setCell ⟨g, 1, none⟩ (.int .i64 t4) = Y := ⟨_, rfl⟩
        rw [hY] at HZ HBX HBZ ⊢
        clear hY f0 f1 z0 z1 hql
        obtain ⟨d0, d1, d2, d3, d4⟩ := five_cells HBZ.out
        obtain ⟨z0, z1⟩ := two_cells HZ.out
        go_wp2
        go_roundw
        case rel => exact ⟨j + 1, by omega, by go_num, HB2.out.trans (HBX.out.mono HB2.out.size), HT2.out.below HBX.out⟩
        case measure => simp [intOf]; omega
    · have i1 : ¬ (j : Int) < 6 := by omega
      clear htb hbw HTB HT1 HB1
      go_wp2_with (go_at_call 22; fail)
      refine (KL.out wr).mono ?_
      rintro e b1 ⟨R, rfl, hR, hr, hb⟩
      have HC1 := Lib.hid (HBW.out.trans (hb.mono HBW.out.size))
      have HLT := Lib.hid (line_tab hr)
      clear hR hr hb
      go_wp2_with (go_at_call 23; fail)
      refine (KH.out 0 100 b1).mono ?_
      rintro e b2 ⟨rfl, hb⟩
      have HC2 := Lib.hid (HC1.out.trans (hb.mono HC1.out.size))
      replace HLT := Lib.hid (HLT.out.below hb)
      clear hb
      obtain ⟨q1, hq⟩ : ∃ x, b2.heap.size = x := ⟨_, rfl⟩
      obtain ⟨b2Q, hW⟩ : ∃ X, b2.alloc (.cells #[.int .i64 0, .int .i64 150, .int .i64 0, .int .i64 100] 26) = X := ⟨_, rfl⟩
      have hb : Below b2.heap.size b2 b2Q := by rw [← hW]; exact (Below.refl _ _).alloc (Nat.le_refl _) _
      have hrQ : b2Q.heap[q1]? = some (.cells #[.int .i64 0, .int .i64 150, .int .i64 0, .int .i64 100] 26 (0, 0)) := by rw [← hW, ← hq]; exact alloc_heap b2 _
      have Kw := Lib.hid (K2.out _ _ b2Q (HLT.out.below hb) (heard_tab hrQ))
      have HBQ := Lib.hid (HC2.out.trans (hb.mono HC2.out.size))
      clear hb hrQ HLT
      go_wp2_with (go_at_call 18; fail)
      refine Kw.out.mono ?_
      rintro e b3 ⟨v1, rfl, ho, hb⟩
      have HC3 := Lib.hid (HBQ.out.trans (hb.mono HBQ.out.size))
      have HO1 := Lib.hid (outT_tab ho (by decide))
      clear ho hb hW hq Kw HBQ
      go_wp2_with (go_at_call 22; fail)
      refine (KL.out b3).mono ?_
      rintro e b4 ⟨R, rfl, hR, hr, hb⟩
      have HC4 := Lib.hid (HC3.out.trans (hb.mono HC3.out.size))
      have HLT := Lib.hid (line_tab hr)
      replace HO1 := Lib.hid (HO1.out.below hb)
      clear hR hr hb
      go_wp2_with (go_at_call 23; fail)
      refine (KH.out 2000 2100 b4).mono ?_
      rintro e b5 ⟨rfl, hb⟩
      have HC5 := Lib.hid (HC4.out.trans (hb.mono HC4.out.size))
      replace HLT := Lib.hid (HLT.out.below hb)
      replace HO1 := Lib.hid (HO1.out.below hb)
      clear hb
      obtain ⟨q1, hq⟩ : ∃ x, b5.heap.size = x := ⟨_, rfl⟩
      obtain ⟨b5Q, hW⟩ : ∃ X, b5.alloc (.cells #[.int .i64 0, .int .i64 150, .int .i64 2000, .int .i64 2100] 26) = X := ⟨_, rfl⟩
      have hb : Below b5.heap.size b5 b5Q := by rw [← hW]; exact (Below.refl _ _).alloc (Nat.le_refl _) _
      have hrQ : b5Q.heap[q1]? = some (.cells #[.int .i64 0, .int .i64 150, .int .i64 2000, .int .i64 2100] 26 (0, 0)) := by rw [← hW, ← hq]; exact alloc_heap b5 _
      have Kw := Lib.hid (K4.out _ _ b5Q (HLT.out.below hb) (heard_tab hrQ))
      have HBQ := Lib.hid (HC5.out.trans (hb.mono HC5.out.size))
      replace HO1 := Lib.hid (HO1.out.below hb)
      clear hb hrQ HLT
      go_wp2_with (go_at_call 18; fail)
      refine Kw.out.mono ?_
      rintro e b6 ⟨v2, rfl, ho, hb⟩
      have HC6 := Lib.hid (HBQ.out.trans (hb.mono HBQ.out.size))
      replace HO1 := Lib.hid (HO1.out.below hb)
      clear ho hb hW hq Kw HBQ
      go_wp2_with (go_at_call 22; fail)
      refine (KL.out b6).mono ?_
      rintro e b7 ⟨R, rfl, hR, hr, hb⟩
      have HC7 := Lib.hid (HC6.out.trans (hb.mono HC6.out.size))
      have HLT := Lib.hid (line_tab hr)
      replace HO1 := Lib.hid (HO1.out.below hb)
      clear hR hr hb
      go_wp2_with (go_at_call 23; fail)
      refine (KH.out 800 900 b7).mono ?_
      rintro e b8 ⟨rfl, hb⟩
      have HC8 := Lib.hid (HC7.out.trans (hb.mono HC7.out.size))
      replace HLT := Lib.hid (HLT.out.below hb)
      replace HO1 := Lib.hid (HO1.out.below hb)
      clear hb
      have Kw := Lib.hid (K3.out _ b8 HLT.out)
      go_wp2_with (go_at_call 15; fail)
      refine Kw.out.mono ?_
      rintro e b9 ⟨v3, rfl, ho, hb⟩
      have HC9 := Lib.hid (HC8.out.trans (hb.mono HC8.out.size))
      replace HO1 := Lib.hid (HO1.out.below hb)
      clear ho hb Kw HLT
      go_wp2_with (go_at_call 12; fail)
      refine (KA.out b9).mono ?_
      rintro e b10 ⟨rfl, hb⟩
      have HC10 := Lib.hid (HC9.out.trans (hb.mono HC9.out.size))
      replace HO1 := Lib.hid (HO1.out.below hb)
      clear hb
      obtain ⟨q1, hq⟩ : ∃ x, b10.heap.size = x := ⟨_, rfl⟩
      obtain ⟨b11, hW⟩ : ∃ X, b10.alloc (.cells #[.int .i64 0, .int .i64 63, .int .i64 71] 49) = X := ⟨_, rfl⟩
      have hb : Below b10.heap.size b10 b11 := by rw [← hW]; exact (Below.refl _ _).alloc (Nat.le_refl _) _
      have hrQ : b11.heap[q1]? = some (.cells #[.int .i64 0, .int .i64 63, .int .i64 71] 49 (0, 0)) := by rw [← hW, ← hq]; exact alloc_heap b10 _
      have HC11 := Lib.hid (HC10.out.trans (hb.mono HC10.out.size))
      have Kw := Lib.hid (KT.out _ _ _ _ b11 (HO1.out.below hb) (tab_of_block (f := stC) (k := 3) (L := [(⟨0, 63, 71⟩ : St)]) hrQ (by simp)))
      clear hb hrQ
      go_wp2_with (go_at_call 20; fail)
      refine Kw.out.mono ?_
      rintro e b12 ⟨rfl, hb⟩
      have HC12 := Lib.hid (HC11.out.trans (hb.mono HC11.out.size))
      clear hb hW hq Kw
      go_wp2
      go_ret
      exact ⟨rfl, HC12.out⟩
end Go.Proofs.Ytdbjifpnbghbaaa
