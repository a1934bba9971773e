/- The train of a trial. -/
import Derived.Test.YtoiapnokgpeipaaC4
namespace Go.Proofs.Ytoiapnokgpeipaa
set_option linter.unusedSimpArgs false
open Go.RowKit Go.Maps

def trainL (u : Tri) (k : Nat) : List Int := [u.a0, u.a1, u.a2, u.a3, u.a4, u.a5].take (k * 2)
theorem trainL_len (u : Tri) {k : Nat} (h : k ≤ 3) : (trainL u k).length = k * 2 := by unfold trainL; simp; omega

theorem setCell_grown (w : World) (a : Addr) (u : Value) : w.grownBy (w.setCell a u) (some a.block) :=
  ⟨rfl, rfl, rfl, by simp, fun k _ hk => Below.heap_setCell w a u k (fun e => hk (by rw [e]))⟩
theorem sliceAt85 (a : Addr) (k : Nat) (hk : k ≤ 3) (w1 : World) : (Instr.sliceAt 85 (.pointer (some a)) none (some (.int .i64 (k : Nat))) none).run Try.prog w1 = .ok (.slice (some a) k 3) w1 := by
  have h3 : Try.prog.arrayLen 85 = 3 := by kernel_rfl
  have hu : Try.prog.underlying 85 = some (.array (Try.prog.arrayLen 85) (Try.prog.elem 85)) := by kernel_rfl
  obtain ⟨i0, hi, hz0, hz1, hz2⟩ := info_parts Try.info49
  have he : Try.prog.elem 85 = 49 := by kernel_rfl
  rw [run_sliceAt_array_h (P := Try.prog) w1 85 a hu .i64 k (by omega) (by rw [h3]; omega), h3, he]
  simp [sizeOf, typeInfo, hi, hz1, slicedAt, Addr.add]

set_option maxRecDepth 100000 in
set_option maxHeartbeats 1600000 in
theorem train_any (u : Tri) (k : Nat) (w : World) (hc : u.c = k) (hk : k ≤ 3) :
    Calls Try.prog 50 #[u.val] w fun e w' => ∃ v, e = .returned (.agg #[v, .int .i64 u.i]) ∧ Below w.heap.size w w' ∧ w'.ownsRow w.heap.size 49 2 v k ((trainL u k).map (Value.int .i64)) := by
  obtain ⟨xa0, xa1, xa2, xa3, xa4, xa5, xc, xi, xd, xn⟩ := u
  replace hc : xc = k := hc
  subst hc
  show Calls _ _ _ _ (fun e w' => ∃ v, e = .returned (.agg #[v, .int .i64 xi]) ∧ _ ∧ _)
  obtain ⟨W0, hW0⟩ : ∃ W0, W0 = (w.alloc (.cells #[.int .i64 xa0, .int .i64 xa1, .int .i64 xa2, .int .i64 xa3, .int .i64 xa4, .int .i64 xa5, .int .i64 (k : Nat), .int .i64 xi, .int .i64 xd, .int .i64 xn] 87)).alloc (.cells #[.slice none 0 0, .int .i64 0] 27) := ⟨_, rfl⟩
  have hg0 : Below w.heap.size w W0 := by rw [hW0]; exact ((Below.refl _ _).alloc (Nat.le_refl _) _).alloc (by simp) _
  have hr0 : W0.heap[w.heap.size]? = some (.cells #[.int .i64 xa0, .int .i64 xa1, .int .i64 xa2, .int .i64 xa3, .int .i64 xa4, .int .i64 xa5, .int .i64 (k : Nat), .int .i64 xi, .int .i64 xd, .int .i64 xn] 87) := by rw [hW0, Below.heap_alloc _ _ _ (by simp)]; exact (MapKept.heap_alloc w _).1
  have hr1 : W0.heap[w.heap.size + 1]? = some (.cells #[.slice none 0 0, .int .i64 0] 27) := by
    have := (MapKept.heap_alloc (w.alloc (.cells #[.int .i64 xa0, .int .i64 xa1, .int .i64 xa2, .int .i64 xa3, .int .i64 xa4, .int .i64 xa5, .int .i64 (k : Nat), .int .i64 xi, .int .i64 xd, .int .i64 xn] 87)) (.cells #[.slice none 0 0, .int .i64 0] 27)).1
    rw [hW0]; simpa using this
  have hsz : W0.heap.size = w.heap.size + 2 := by rw [hW0]; simp
  have hsl := sliceAt85 ⟨w.heap.size, 0, none⟩ k hk
  have hcl := clone_any (trainL ⟨xa0, xa1, xa2, xa3, xa4, xa5, k, xi, xd, xn⟩ k) w.heap.size 0 k 3 W0.drew (by omega) (trainL_len _ hk) (fun j hj => by
    have hj6 : j < 6 := by omega
    have hg : (trainL ⟨xa0, xa1, xa2, xa3, xa4, xa5, k, xi, xd, xn⟩ k).getD j 0 = [xa0, xa1, xa2, xa3, xa4, xa5].getD j 0 := by unfold trainL; simp [List.getD, List.getElem?_take, hj]
    have hr0' : W0.drew.heap[w.heap.size]? = some (.cells #[.int .i64 xa0, .int .i64 xa1, .int .i64 xa2, .int .i64 xa3, .int .i64 xa4, .int .i64 xa5, .int .i64 (k : Nat), .int .i64 xi, .int .i64 xd, .int .i64 xn] 87) := hr0
    rw [hg]
    match j, hj6 with
    | 0, _ => simp [World.cell?, hr0']
    | 1, _ => simp [World.cell?, hr0']
    | 2, _ => simp [World.cell?, hr0']
    | 3, _ => simp [World.cell?, hr0']
    | 4, _ => simp [World.cell?, hr0']
    | 5, _ => simp [World.cell?, hr0'])
  unfold Tri.val
  go_enter Try.func50, Try.ntmps50
  go_wp2_with fail
  rw [← hW0]
  clear hW0
  refine wp_region_held_drew (S := fun w' => w'.heap[w.heap.size]? = some (.cells #[.int .i64 xa0, .int .i64 xa1, .int .i64 xa2, .int .i64 xa3, .int .i64 xa4, .int .i64 xa5, .int .i64 (k : Nat), .int .i64 xi, .int .i64 xd, .int .i64 xn] 87)) (by kernel_rfl) hr0 (fun hHeld => ?_)
  refine wpAnyH_take (i := 0) (oi := _) (v := ?_) rfl (by kernel_rfl) (by kernel_rfl) (by kernel_rfl) (fun _ _ _ h => h) (Or.inl ⟨by rfl, ?_⟩) hHeld ?_
  rotate_left
  · intro w1 hSw
    replace hSw : w1.heap[w.heap.size]? = some (.cells #[.int .i64 xa0, .int .i64 xa1, .int .i64 xa2, .int .i64 xa3, .int .i64 xa4, .int .i64 xa5, .int .i64 (k : Nat), .int .i64 xi, .int .i64 xd, .int .i64 xn] 87) := hSw
    have c6 : w1.cell? ⟨w.heap.size, 6, none⟩ = some (.int .i64 (k : Nat)) := by simp [World.cell?, hSw]
    have c7 : w1.cell? ⟨w.heap.size, 7, none⟩ = some (.int .i64 xi) := by simp [World.cell?, hSw]
    clear hSw
    go_simp; with_reducible rfl
  simp only [Act.put, List.setIfInBounds_toArray, List.set_cons_zero, List.set_cons_succ]
  refine wpAnyH_take (i := 1) (oi := _) (v := ?_) rfl (by kernel_rfl) (by kernel_rfl) (by kernel_rfl) (fun _ _ _ h => h) (Or.inl ⟨by rfl, ?_⟩) hHeld ?_
  rotate_left
  · intro w1 hSw
    replace hSw : w1.heap[w.heap.size]? = some (.cells #[.int .i64 xa0, .int .i64 xa1, .int .i64 xa2, .int .i64 xa3, .int .i64 xa4, .int .i64 xa5, .int .i64 (k : Nat), .int .i64 xi, .int .i64 xd, .int .i64 xn] 87) := hSw
    have c6 : w1.cell? ⟨w.heap.size, 6, none⟩ = some (.int .i64 (k : Nat)) := by simp [World.cell?, hSw]
    have c7 : w1.cell? ⟨w.heap.size, 7, none⟩ = some (.int .i64 xi) := by simp [World.cell?, hSw]
    clear hSw
    go_simp; with_reducible rfl
  simp only [Act.put, List.setIfInBounds_toArray, List.set_cons_zero, List.set_cons_succ]
  refine wpAnyH_take (i := 2) (oi := _) (v := ?_) rfl (by kernel_rfl) (by kernel_rfl) (by kernel_rfl) (fun _ _ _ h => h) (Or.inl ⟨by rfl, ?_⟩) hHeld ?_
  rotate_left
  · intro w1 hSw
    replace hSw : w1.heap[w.heap.size]? = some (.cells #[.int .i64 xa0, .int .i64 xa1, .int .i64 xa2, .int .i64 xa3, .int .i64 xa4, .int .i64 xa5, .int .i64 (k : Nat), .int .i64 xi, .int .i64 xd, .int .i64 xn] 87) := hSw
    have c6 : w1.cell? ⟨w.heap.size, 6, none⟩ = some (.int .i64 (k : Nat)) := by simp [World.cell?, hSw]
    have c7 : w1.cell? ⟨w.heap.size, 7, none⟩ = some (.int .i64 xi) := by simp [World.cell?, hSw]
    clear hSw
    go_simp; with_reducible rfl
  simp only [Act.put, List.setIfInBounds_toArray, List.set_cons_zero, List.set_cons_succ]
  refine wpAnyH_take (i := 3) (oi := _) (v := ?_) rfl (by kernel_rfl) (by kernel_rfl) (by kernel_rfl) (fun _ _ _ h => h) (Or.inl ⟨by rfl, ?_⟩) hHeld ?_
  rotate_left
  · intro w1 hSw
    replace hSw : w1.heap[w.heap.size]? = some (.cells #[.int .i64 xa0, .int .i64 xa1, .int .i64 xa2, .int .i64 xa3, .int .i64 xa4, .int .i64 xa5, .int .i64 (k : Nat), .int .i64 xi, .int .i64 xd, .int .i64 xn] 87) := hSw
    have c6 : w1.cell? ⟨w.heap.size, 6, none⟩ = some (.int .i64 (k : Nat)) := by simp [World.cell?, hSw]
    have c7 : w1.cell? ⟨w.heap.size, 7, none⟩ = some (.int .i64 xi) := by simp [World.cell?, hSw]
    clear hSw
    go_simp; with_reducible rfl
  simp only [Act.put, List.setIfInBounds_toArray, List.set_cons_zero, List.set_cons_succ]
  refine wpAnyH_take (i := 5) (oi := _) (v := ?_) rfl (by kernel_rfl) (by kernel_rfl) (by kernel_rfl) (fun _ _ _ h => h) (Or.inl ⟨by rfl, ?_⟩) hHeld ?_
  rotate_left
  · intro w1 hSw
    replace hSw : w1.heap[w.heap.size]? = some (.cells #[.int .i64 xa0, .int .i64 xa1, .int .i64 xa2, .int .i64 xa3, .int .i64 xa4, .int .i64 xa5, .int .i64 (k : Nat), .int .i64 xi, .int .i64 xd, .int .i64 xn] 87) := hSw
    have c6 : w1.cell? ⟨w.heap.size, 6, none⟩ = some (.int .i64 (k : Nat)) := by simp [World.cell?, hSw]
    have c7 : w1.cell? ⟨w.heap.size, 7, none⟩ = some (.int .i64 xi) := by simp [World.cell?, hSw]
    clear hSw
    go_simp; with_reducible rfl
  simp only [Act.put, List.setIfInBounds_toArray, List.set_cons_zero, List.set_cons_succ]
  refine wpAnyH_take (i := 6) (oi := _) (v := ?_) rfl (by kernel_rfl) (by kernel_rfl) (by kernel_rfl) (fun _ _ _ h => h) (Or.inl ⟨by rfl, ?_⟩) hHeld ?_
  rotate_left
  · intro w1 hSw
    replace hSw : w1.heap[w.heap.size]? = some (.cells #[.int .i64 xa0, .int .i64 xa1, .int .i64 xa2, .int .i64 xa3, .int .i64 xa4, .int .i64 xa5, .int .i64 (k : Nat), .int .i64 xi, .int .i64 xd, .int .i64 xn] 87) := hSw
    have c6 : w1.cell? ⟨w.heap.size, 6, none⟩ = some (.int .i64 (k : Nat)) := by simp [World.cell?, hSw]
    have c7 : w1.cell? ⟨w.heap.size, 7, none⟩ = some (.int .i64 xi) := by simp [World.cell?, hSw]
    clear hSw
    go_simp; with_reducible rfl
  simp only [Act.put, List.setIfInBounds_toArray, List.set_cons_zero, List.set_cons_succ]
  refine wpAnyH_all (rs := [4]) (by kernel_rfl) (by simp) ?_
  intro i hi; obtain rfl := List.mem_singleton.1 hi; clear hi
  refine wpOp_step rfl (fun K3 hK3 => ?_)
  have HK3 := Lib.hid hK3
  clear hK3
  rw [if_pos (by rfl)]
  go_simp
  refine hcl.mono ?_
  rintro e w11 ⟨v, rfl, hb11, hd⟩
  obtain ⟨av, cv, rfl⟩ : ∃ av cv, v = .slice av k cv := by
    rcases hd.2 with ⟨h1, h2⟩ | ⟨g, cap, cur, h1, _⟩
    · subst h2; exact ⟨_, _, h1⟩
    · exact ⟨_, _, h1⟩
  have hr11 := (hb11.block w.heap.size (by simp; omega)).trans hr0
  have hq11 := (hb11.block (w.heap.size + 1) (by simp; omega)).trans hr1
  refine HK3.out _ _ ⟨hr11, ?_⟩
  clear HK3 K3 hcl hsl
  try simp only [Act.put, List.setIfInBounds_toArray, List.set_cons_zero, List.set_cons_succ]
  refine wpAnyH_all (rs := [7]) (by kernel_rfl) (by simp) ?_
  intro i hi; obtain rfl := List.mem_singleton.1 hi; clear hi
  refine wpOp_step rfl (fun K3 hK3 => ?_)
  have HK3 := Lib.hid hK3
  clear hK3
  rw [if_pos (by rfl)]
  go_simp
  refine HK3.out _ _ ⟨hr11, ?_⟩
  clear HK3 K3
  try simp only [Act.put, List.setIfInBounds_toArray, List.set_cons_zero, List.set_cons_succ]
  have z0 : w11.cell? ⟨w.heap.size + 1, 0, none⟩ = some (.slice none 0 0) := by simp [World.cell?, hq11]
  have z1 : w11.cell? ⟨w.heap.size + 1, 1, none⟩ = some (.int .i64 0) := by simp [World.cell?, hq11]
  have zf : ∀ o, w11.frozen? ⟨w.heap.size + 1, o, none⟩ = false := fun o => by simp [World.frozen?, hq11]
  refine wpAnyH_all (rs := [8]) (by kernel_rfl) (by simp) ?_
  intro i hi; obtain rfl := List.mem_singleton.1 hi; clear hi
  refine wpOp_step rfl (fun K3 hK3 => ?_)
  have HK3 := Lib.hid hK3
  clear hK3
  rw [if_pos (by rfl)]
  go_simp
  have hh : ∀ (X : World) (ob : Obj), X.heap[w.heap.size]? = some ob → ∀ o v, (X.setCell ⟨w.heap.size + 1, o, none⟩ v).heap[w.heap.size]? = some ob := fun X ob h o v => (Below.heap_setCell X _ v _ (by simp)).trans h
  refine HK3.out _ _ ⟨hh _ _ (hh _ _ hr11 _ _) _ _, wpAnyH_done (by kernel_rfl) ?_ _⟩
  clear HK3 K3 hh
  try simp only [Act.put, List.setIfInBounds_toArray, List.set_cons_zero, List.set_cons_succ]
  go_wp2
  have hs11 := hb11.size
  have hs12 : W0.heap.size ≤ w11.heap.size := hs11
  refine bodyPost_ret (v := .agg #[.slice av k cv, .int .i64 xi]) (by simp [results, Try.results50, go_sem, z0, z1]) rfl ⟨_, rfl, ?_, ?_⟩
  · have hb11' : Below W0.heap.size W0 w11 := ⟨hb11.os, hb11.tape, hb11.output, hb11.size, hb11.block⟩
    have hb : Below w.heap.size w w11 := hg0.trans (hb11'.mono (by omega))
    exact (hb.setCell (by simp) _).setCell (by simp) _
  · have hge : ∀ t, (Value.slice av k cv).ownBlock = some t → W0.heap.size ≤ t ∧ _ := hd.lt
    have hne : ∀ t, (Value.slice av k cv).ownBlock = some t → t ≠ w.heap.size + 1 := fun t ht => by have := (hge t ht).1; omega
    refine ownsRow_mono' (base := W0.heap.size) ?_ (by omega)
    refine hd.kept ((setCell_grown _ ⟨w.heap.size + 1, 0, none⟩ _).trans (setCell_grown _ ⟨w.heap.size + 1, 1, none⟩ _)) ?_
    cases e : (Value.slice av k cv).ownBlock with
    | none => exact .inl rfl
    | some t => exact .inr (fun e2 => hne t e (Option.some.inj e2))
end Go.Proofs.Ytoiapnokgpeipaa
