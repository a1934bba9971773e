/- alive: what the document fixes. -/
import Derived.Test.YtoiapnokgpeipaaE2
import Derived.Test.YtoiapnokgpeipaaE3
namespace Go.Proofs.Ytoiapnokgpeipaa
set_option linter.unusedSimpArgs false
open Go.RowKit Go.Maps

set_option maxRecDepth 100000 in
theorem ch_6t : chooseC shelfL 6 1 2 60 true = (0, some ⟨10, 20, 10, 30, 0, 0, 2, 0, 100, 600⟩) := by kernel_rfl
set_option maxRecDepth 100000 in
theorem ne_7t : nearC shelfL 7 1 2 60 true = (0, some ⟨10, 20, 10, 36, 0, 0, 2, 0, 100, 720⟩) := by kernel_rfl
theorem bu_6 : buildC shelfL 6 1 2 60 true [(10, 36), (12, 20)] 0 = (4, 0) := by kernel_rfl
theorem ro_35 : roundsC [(10, 20), (10, 30)] 35 = (5, 0) := by kernel_rfl

/-- a train is returned, and its wheels -/
def ChoseT (P : List (Int × Int)) (i n : Int) (w : World) (e : Ending) (w' : World) : Prop :=
  ∃ a cap, e = .returned (.tuple #[.agg #[.slice a P.length cap, .int .i64 i], .int .i64 n, .int .i64 0]) ∧ w'.ownsRow w.heap.size 49 2 (.slice a P.length cap) P.length ((usedP P).map (Value.int .i64)) ∧ Below w.heap.size w w'
theorem ownsRow_shape {w : World} {base : Nat} {e : TypeId} {size n : Nat} {v : Value} {xs : List Value} (h : w.ownsRow base e size v n xs) : ∃ a cap, v = .slice a n cap := by
  rcases h.2 with ⟨h1, h2⟩ | ⟨g, cap, cur, h1, _⟩
  · rw [h2]; exact ⟨_, _, h1⟩
  · exact ⟨_, _, h1⟩
theorem chose_of {t r p o n : Int} {same : Bool} {u : Tri} {P : List (Int × Int)} {S : List (Int × Int)} (hc : chooseC S t r p o same = (0, some u)) (hP : trainP u = P) (hn : (((usedL P u.i).length : Nat) : Int) = n) {sa : Option Addr} {sl scap : Nat} {w : World} (hsl : sl = S.length)
    (hW : WheelsAt w (.slice sa sl scap) S) (hsa : ∀ b off, sa = some ⟨b, off, none⟩ → b < w.heap.size) :
    Calls Try.prog 17 #[.slice sa sl scap, .agg #[.int .i64 t, .int .i64 r, .bool same, .int .i64 p, .int .i64 o]] w (ChoseT P u.i n w) := by
  subst hsl
  refine (choose_any S sa scap t r p o same w hW hsa).mono ?_
  rw [hc]
  rintro e w' ⟨hb, x, rfl, h3, hx⟩
  rw [hP] at hx h3 ⊢
  obtain ⟨a, cap, rfl⟩ := ownsRow_shape hx
  exact ⟨a, cap, by rw [hn], hx, hb⟩
theorem neared_of {t r p o n : Int} {same : Bool} {u : Tri} {P : List (Int × Int)} {S : List (Int × Int)} (hc : nearC S t r p o same = (0, some u)) (hP : trainP u = P) (hn : u.milli t r = n) {sa : Option Addr} {sl scap : Nat} {w : World} (hsl : sl = S.length)
    (hW : WheelsAt w (.slice sa sl scap) S) (hsa : ∀ b off, sa = some ⟨b, off, none⟩ → b < w.heap.size) :
    Calls Try.prog 19 #[.slice sa sl scap, .agg #[.int .i64 t, .int .i64 r, .bool same, .int .i64 p, .int .i64 o]] w (ChoseT P u.i n w) := by
  subst hsl
  refine (near_any S sa scap t r p o same w hW hsa).mono ?_
  rw [hc]
  rintro e w' ⟨hb, x, rfl, h3, hx⟩
  rw [hP] at hx h3
  obtain ⟨a, cap, rfl⟩ := ownsRow_shape hx
  exact ⟨a, cap, by rw [hn], hx, hb⟩

/-- a train out of the teeth that a block lists -/
def TrainT (P : List (Int × Int)) (i : Int) (w : World) (e : Ending) (w' : World) : Prop :=
  ∃ a cap, e = .returned (.agg #[.slice a P.length cap, .int .i64 i]) ∧ WheelsAt w' (.slice a P.length cap) P ∧ Below w.heap.size w w'
theorem train_at (i : Int) (l : List Int) {P : List (Int × Int)} {X : World} {b n : Nat} {cs : Array Value} (h : X.heap[b]? = some (.cells cs 3)) (hcs : cs = (l.map (Value.int .i64)).toArray) (hn : n = l.length) (hl : l.length ≤ 1000) (hP : pairL l = P) :
    Calls Try.prog 22 #[.int .i64 i, .slice (some ⟨b, 0, none⟩) n n] X (TrainT P i X) := by
  subst hn hcs
  refine (trainOf_any i l b 0 l.length X hl (Nat.le_refl _) (by omega) (Array.getElem?_eq_some_iff.1 h).1 ?_).mono ?_
  · intro k hk
    simp [World.cell?, h, hk, List.getD]
  · rintro e w' ⟨x, rfl, hb, hx⟩
    rw [hP] at hx
    obtain ⟨a, cap, rfl⟩ := ownsRow_shape hx
    have := pairL_len l
    rw [hP] at this
    exact ⟨a, cap, rfl, wheels_own hx (by omega), hb⟩

set_option maxRecDepth 100000 in
set_option maxHeartbeats 3200000 in
theorem alive_any (w : World) : Calls Try.prog 12 #[] w fun e w' => e = .returned (.bool true) ∧ Below w.heap.size w w' := by
  go_enter Try.func12, Try.ntmps12
  go_wp2_with fail
  refine (shelf_any _).mono ?_
  rintro e w1 ⟨b, rfl, hS1, hb1, hbl1⟩
  go_wp2_with fail
  refine (want_any 6 true _).mono ?_
  rintro e w2 ⟨rfl, hb2⟩
  have hbw2 : Below w.heap.size w w2 := hb1.trans (hb2.mono hb1.size)
  have hS2 := hS1.below hb2
  have hbl2 : b < w2.heap.size := Nat.lt_of_lt_of_le hbl1 hb2.size
  clear hS1 hb1 hb2 hbl1
  go_wp2_with fail
  refine (chose_of ch_6t (P := [(10, 20), (10, 30)]) (n := 4) rfl (by rfl) (by rfl) hS2 (by intro b' off e; cases e; exact hbl2)).mono ?_
  rintro e w3 ⟨a1, c1, rfl, hr3, hb3⟩
  have hbw3 : Below w.heap.size w w3 := hbw2.trans (hb3.mono hbw2.size)
  have hws3 : w.heap.size ≤ w3.heap.size := hbw3.size
  have hP3 : WheelsAt w3 (.slice a1 2 c1) [(10, 20), (10, 30)] := wheels_own hr3 (by decide)
  clear hS2 hbl2 hb3 hbw2 hr3
  obtain ⟨B1, hB1⟩ : ∃ B1, B1 = w3.heap.size := ⟨_, rfl⟩
  obtain ⟨W4, hW4⟩ : ∃ W4, W4 = w3.alloc (.cells #[.slice a1 2 c1, .int .i64 0] 27) := ⟨_, rfl⟩
  have hb34 : Below w3.heap.size w3 W4 := by rw [hW4]; exact (Below.refl _ _).alloc (Nat.le_refl _) _
  have hG4 : W4.heap[B1]? = some (.cells #[.slice a1 2 c1, .int .i64 0] 27) := by rw [hW4, hB1]; exact (MapKept.heap_alloc w3 _).1
  have hz4 : W4.heap.size = B1 + 1 := by rw [hW4, hB1]; simp
  go_wp2_with fail
  rw [← hW4, ← hB1]
  clear hW4
  have hP4 := hP3.below hb34
  have hbw4 : Below w.heap.size w W4 := hbw3.trans (hb34.mono hws3)
  rw [← hB1] at hws3
  clear hb34 hP3 hbw3 hB1
  -- the nearest
  refine (shelf_any _).mono ?_
  rintro e w5 ⟨b5, rfl, hS5, hb5, hbl5⟩
  go_wp2_with fail
  refine (want_any 7 true _).mono ?_
  rintro e w6 ⟨rfl, hb6⟩
  have hb46 : Below W4.heap.size W4 w6 := hb5.trans (hb6.mono hb5.size)
  have hS6 := hS5.below hb6
  have hbl6 : b5 < w6.heap.size := Nat.lt_of_lt_of_le hbl5 hb6.size
  clear hS5 hb5 hb6 hbl5
  go_wp2_with fail
  refine (neared_of ne_7t (P := [(10, 20), (10, 36)]) (n := -27778) rfl (by rfl) (by rfl) hS6 (by intro b' off e; cases e; exact hbl6)).mono ?_
  rintro e w7 ⟨a2, c2, rfl, hr7, hb7⟩
  have hb47 : Below W4.heap.size W4 w7 := hb46.trans (hb7.mono hb46.size)
  have hQ7 : WheelsAt w7 (.slice a2 2 c2) [(10, 20), (10, 36)] := wheels_own hr7 (by decide)
  have hP7 := hP4.below hb47
  have hG7 := (hb47.block B1 (by omega)).trans hG4
  have hbw7 : Below w.heap.size w w7 := hbw4.trans (hb47.mono (by omega))
  have hz7 := hb47.size
  clear hS6 hbl6 hb7 hb46 hr7 hb47 hP4 hG4 hbw4
  obtain ⟨B2, hB2⟩ : ∃ B2, B2 = w7.heap.size := ⟨_, rfl⟩
  obtain ⟨W8, hW8⟩ : ∃ W8, W8 = w7.alloc (.cells #[.slice a2 2 c2, .int .i64 0] 27) := ⟨_, rfl⟩
  have hb78 : Below w7.heap.size w7 W8 := by rw [hW8]; exact (Below.refl _ _).alloc (Nat.le_refl _) _
  have hR8 : W8.heap[B2]? = some (.cells #[.slice a2 2 c2, .int .i64 0] 27) := by rw [hW8, hB2]; exact (MapKept.heap_alloc w7 _).1
  have hz8 : W8.heap.size = B2 + 1 := by rw [hW8, hB2]; simp
  go_wp2_with fail
  rw [← hW8, ← hB2]
  clear hW8
  have hG8 := (hb78.block B1 (by omega)).trans hG7
  have hP8 := hP7.below hb78
  have hQ8 := hQ7.below hb78
  have hbw8 : Below w.heap.size w W8 := hbw7.trans (hb78.mono (by omega))
  rw [← hB2, hz4] at hz7
  clear hb78 hP7 hQ7 hG7 hbw7 hB2 hz4
  -- Build
  refine (shelf_any _).mono ?_
  rintro e w9 ⟨b9, rfl, hS9, hb9, hbl9⟩
  go_wp2_with fail
  refine (want_any 6 true _).mono ?_
  rintro e w10 ⟨rfl, hb10⟩
  have hb8a : Below W8.heap.size W8 w10 := hb9.trans (hb10.mono hb9.size)
  have hS10 := hS9.below hb10
  have hbl10 : b9 < w10.heap.size := Nat.lt_of_lt_of_le hbl9 hb10.size
  clear hS9 hb9 hb10 hbl9
  go_wp2_with fail
  refine (train_at 0 [10, 36, 12, 20] (P := [(10, 36), (12, 20)]) (MapKept.heap_alloc w10 _).1 rfl (by rfl) (by decide) (by rfl)).mono ?_
  rintro e w11 ⟨a3, c3, rfl, hT11, hb11⟩
  have hb10a : Below w10.heap.size w10 (w10.alloc (.cells #[.int .i64 10, .int .i64 36, .int .i64 12, .int .i64 20] 3)) := (Below.refl _ _).alloc (Nat.le_refl _) _
  have hb1011 : Below w10.heap.size w10 w11 := hb10a.trans (hb11.mono (by simp))
  have hS11 := hS10.below hb1011
  have hbl11 : b9 < w11.heap.size := Nat.lt_of_lt_of_le hbl10 hb1011.size
  have hb811 : Below W8.heap.size W8 w11 := hb8a.trans (hb1011.mono hb8a.size)
  clear hb11 hb10a hb1011 hS10 hbl10 hb8a
  go_wp2_with fail
  have hbu := build_any shelfL (.slice (some ⟨b9, 0, none⟩) 5 5) 6 1 2 60 true [(10, 36), (12, 20)] (.slice a3 2 c3) 0 w11 hS11 hT11 (by intro b' off n c e; cases e; exact hbl11)
  rw [bu_6] at hbu
  refine hbu.mono ?_
  rintro e w12 ⟨rfl, hb12⟩
  have hb812 : Below W8.heap.size W8 w12 := hb811.trans (hb12.mono hb811.size)
  clear hbu hb12 hb811 hS11 hT11 hbl11
  have hG12 := (hb812.block B1 (by omega)).trans hG8
  have hR12 := (hb812.block B2 (by omega)).trans hR8
  have hP12 := hP8.below hb812
  have hQ12 := hQ8.below hb812
  have hbw12 : Below w.heap.size w w12 := hbw8.trans (hb812.mono (by omega))
  have hz12 := hb812.size
  rw [hz8] at hz12
  clear hb812 hP8 hQ8 hG8 hR8 hbw8 hz8
  -- Rounds
  obtain ⟨e0, e1⟩ := tcells hG12
  go_wp2_with fail
  have hro := rounds_any [(10, 20), (10, 30)] (.slice a1 2 c1) 0 35 w12 hP12
  rw [ro_35] at hro
  refine hro.mono ?_
  rintro e w13 ⟨rfl, hb13⟩
  clear e0 e1 hro
  have hG13 := Lib.hid ((hb13.block B1 (by omega)).trans hG12)
  have hR13 := Lib.hid ((hb13.block B2 (by omega)).trans hR12)
  have hP13 := hP12.below hb13
  have hQ13 := hQ12.below hb13
  have hbw13 : Below w.heap.size w w13 := hbw12.trans (hb13.mono (by omega))
  have hz13 : B2 + 1 ≤ w13.heap.size := Nat.le_trans hz12 hb13.size
  clear hb13 hP12 hQ12 hG12 hR12 hbw12 hz12
  go_wp2_with fail
  refine wp_region_held_drew (S := fun w' => w'.heap[B1]? = some (.cells #[.slice a1 2 c1, .int .i64 0] 27) ∧ w'.heap[B2]? = some (.cells #[.slice a2 2 c2, .int .i64 0] 27)) (by kernel_rfl) ⟨hG13.out, hR13.out⟩ (fun hHeld => ?_)
  refine wpAnyH_take (i := 0) (oi := _) (v := ?_) rfl (by kernel_rfl) (by kernel_rfl) (by kernel_rfl) (fun _ _ _ h => h) (Or.inl ⟨by rfl, ?_⟩) hHeld ?_
  rotate_left
  · intro w1 hSw
    replace hSw : w1.heap[B1]? = some (.cells #[.slice a1 2 c1, .int .i64 0] 27) ∧ w1.heap[B2]? = some (.cells #[.slice a2 2 c2, .int .i64 0] 27) := hSw
    obtain ⟨hSg, hSr⟩ := hSw
    obtain ⟨e0, e1⟩ := tcells hSg
    obtain ⟨f0, f1⟩ := tcells hSr
    clear hSg hSr
    go_simp; with_reducible rfl
  simp only [List.getElem_toArray, List.getElem_cons_succ, List.getElem_cons_zero, Act.put, List.setIfInBounds_toArray, List.set_cons_zero, List.set_cons_succ]
  refine wpAnyH_all (rs := [1]) (by kernel_rfl) (by simp) ?_
  intro i hi; obtain rfl := List.mem_singleton.1 hi; clear hi
  refine wpOp_step rfl (fun K3 hK3 => ?_)
  have HK3 := Lib.hid hK3
  clear hK3
  rw [if_pos (by rfl)]
  go_simp
  obtain ⟨wa1, hwa⟩ : ∃ x, x = (w13.alloc (.cells #[.int .i64 10, .int .i64 20, .int .i64 10, .int .i64 30] 3)).drew := ⟨_, rfl⟩
  have hba : Below w13.heap.size w13 wa1 := by rw [hwa]; exact ((Below.refl _ _).alloc (Nat.le_refl _) _).drew
  have hTa : wa1.heap[w13.heap.size]? = some (.cells #[.int .i64 10, .int .i64 20, .int .i64 10, .int .i64 30] 3) := by rw [hwa]; exact (MapKept.heap_alloc w13 _).1
  have hGa := Lib.hid ((hba.block B1 (by omega)).trans hG13.out)
  have hRa := Lib.hid ((hba.block B2 (by omega)).trans hR13.out)
  rw [← hwa]
  clear hwa
  refine HK3.out _ _ ⟨⟨hGa.out, hRa.out⟩, ?_⟩
  clear HK3 K3
  try simp only [List.getElem_toArray, List.getElem_cons_succ, List.getElem_cons_zero, Act.put, List.setIfInBounds_toArray, List.set_cons_zero, List.set_cons_succ]
  refine wpAnyH_all (rs := [2]) (by kernel_rfl) (by simp) ?_
  intro i hi; obtain rfl := List.mem_singleton.1 hi; clear hi
  refine wpOp_step rfl (fun K3 hK3 => ?_)
  have HK3 := Lib.hid hK3
  clear hK3
  rw [if_pos (by rfl)]
  go_simp
  refine (train_at 0 [10, 20, 10, 30] (P := [(10, 20), (10, 30)]) (n := 4) hTa rfl (by rfl) (by decide) (by rfl)).mono ?_
  rintro e wt1 ⟨ta1, tc1, rfl, hTt, hbt⟩
  have hGt := Lib.hid ((hbt.block B1 (by have := hba.size; omega)).trans hGa.out)
  have hRt := Lib.hid ((hbt.block B2 (by have := hba.size; omega)).trans hRa.out)
  have hbat : Below w13.heap.size w13 wt1 := hba.trans (hbt.mono hba.size)
  clear hTa hbt hGa hRa hba
  refine HK3.out _ _ ⟨⟨hGt.out, hRt.out⟩, ?_⟩
  clear HK3 K3
  try simp only [List.getElem_toArray, List.getElem_cons_succ, List.getElem_cons_zero, Act.put, List.setIfInBounds_toArray, List.set_cons_zero, List.set_cons_succ]
  refine wpAnyH_all (rs := [3]) (by kernel_rfl) (by simp) ?_
  intro i hi; obtain rfl := List.mem_singleton.1 hi; clear hi
  refine wpOp_step rfl (fun K3 hK3 => ?_)
  have HK3 := Lib.hid hK3
  clear hK3
  rw [if_pos (by rfl)]
  go_simp
  have hsm := same_any [(10, 20), (10, 30)] [(10, 20), (10, 30)] (.slice a1 2 c1) (.slice ta1 2 tc1) 0 0 wt1 (hP13.below hbat) hTt
  rw [show sameB [(10, 20), (10, 30)] 0 [(10, 20), (10, 30)] 0 = true from rfl] at hsm
  refine hsm.mono ?_
  rintro e ws1 ⟨rfl, hbs⟩
  have hGs1 := Lib.hid ((hbs.block B1 (by have := hbat.size; omega)).trans hGt.out)
  have hRs1 := Lib.hid ((hbs.block B2 (by have := hbat.size; omega)).trans hRt.out)
  have hbws1 : Below w13.heap.size w13 ws1 := hbat.trans (hbs.mono hbat.size)
  clear hsm hbs hGt hRt hbat hTt
  refine HK3.out _ _ ⟨⟨hGs1.out, hRs1.out⟩, ?_⟩
  clear HK3 K3
  try simp only [List.getElem_toArray, List.getElem_cons_succ, List.getElem_cons_zero, Act.put, List.setIfInBounds_toArray, List.set_cons_zero, List.set_cons_succ]
  refine wpAnyH_take (i := 4) (oi := _) (v := ?_) rfl (by kernel_rfl) (by kernel_rfl) (by kernel_rfl) (fun _ _ _ h => h) (Or.inl ⟨by rfl, ?_⟩) ⟨hGs1.out, hRs1.out⟩ ?_
  rotate_left
  · intro w1 hSw
    replace hSw : w1.heap[B1]? = some (.cells #[.slice a1 2 c1, .int .i64 0] 27) ∧ w1.heap[B2]? = some (.cells #[.slice a2 2 c2, .int .i64 0] 27) := hSw
    obtain ⟨hSg, hSr⟩ := hSw
    obtain ⟨e0, e1⟩ := tcells hSg
    obtain ⟨f0, f1⟩ := tcells hSr
    clear hSg hSr
    go_simp; with_reducible rfl
  simp only [List.getElem_toArray, List.getElem_cons_succ, List.getElem_cons_zero, Act.put, List.setIfInBounds_toArray, List.set_cons_zero, List.set_cons_succ]
  refine wpAnyH_take (i := 5) (oi := _) (v := ?_) rfl (by kernel_rfl) (by kernel_rfl) (by kernel_rfl) (fun _ _ _ h => h) (Or.inl ⟨by rfl, ?_⟩) ⟨hGs1.out, hRs1.out⟩ ?_
  rotate_left
  · intro w1 hSw
    replace hSw : w1.heap[B1]? = some (.cells #[.slice a1 2 c1, .int .i64 0] 27) ∧ w1.heap[B2]? = some (.cells #[.slice a2 2 c2, .int .i64 0] 27) := hSw
    obtain ⟨hSg, hSr⟩ := hSw
    obtain ⟨e0, e1⟩ := tcells hSg
    obtain ⟨f0, f1⟩ := tcells hSr
    clear hSg hSr
    go_simp; with_reducible rfl
  simp only [List.getElem_toArray, List.getElem_cons_succ, List.getElem_cons_zero, Act.put, List.setIfInBounds_toArray, List.set_cons_zero, List.set_cons_succ]
  refine wpAnyH_take (i := 6) (oi := _) (v := ?_) rfl (by kernel_rfl) (by kernel_rfl) (by kernel_rfl) (fun _ _ _ h => h) (Or.inl ⟨by rfl, ?_⟩) ⟨hGs1.out, hRs1.out⟩ ?_
  rotate_left
  · intro w1 hSw
    replace hSw : w1.heap[B1]? = some (.cells #[.slice a1 2 c1, .int .i64 0] 27) ∧ w1.heap[B2]? = some (.cells #[.slice a2 2 c2, .int .i64 0] 27) := hSw
    obtain ⟨hSg, hSr⟩ := hSw
    obtain ⟨e0, e1⟩ := tcells hSg
    obtain ⟨f0, f1⟩ := tcells hSr
    clear hSg hSr
    go_simp; with_reducible rfl
  simp only [List.getElem_toArray, List.getElem_cons_succ, List.getElem_cons_zero, Act.put, List.setIfInBounds_toArray, List.set_cons_zero, List.set_cons_succ]
  refine wpAnyH_take (i := 7) (oi := _) (v := ?_) rfl (by kernel_rfl) (by kernel_rfl) (by kernel_rfl) (fun _ _ _ h => h) (Or.inl ⟨by rfl, ?_⟩) ⟨hGs1.out, hRs1.out⟩ ?_
  rotate_left
  · intro w1 hSw
    replace hSw : w1.heap[B1]? = some (.cells #[.slice a1 2 c1, .int .i64 0] 27) ∧ w1.heap[B2]? = some (.cells #[.slice a2 2 c2, .int .i64 0] 27) := hSw
    obtain ⟨hSg, hSr⟩ := hSw
    obtain ⟨e0, e1⟩ := tcells hSg
    obtain ⟨f0, f1⟩ := tcells hSr
    clear hSg hSr
    go_simp; with_reducible rfl
  simp only [List.getElem_toArray, List.getElem_cons_succ, List.getElem_cons_zero, Act.put, List.setIfInBounds_toArray, List.set_cons_zero, List.set_cons_succ]
  refine wpAnyH_take (i := 8) (oi := _) (v := ?_) rfl (by kernel_rfl) (by kernel_rfl) (by kernel_rfl) (fun _ _ _ h => h) (Or.inl ⟨by rfl, ?_⟩) ⟨hGs1.out, hRs1.out⟩ ?_
  rotate_left
  · intro w1 hSw
    replace hSw : w1.heap[B1]? = some (.cells #[.slice a1 2 c1, .int .i64 0] 27) ∧ w1.heap[B2]? = some (.cells #[.slice a2 2 c2, .int .i64 0] 27) := hSw
    obtain ⟨hSg, hSr⟩ := hSw
    obtain ⟨e0, e1⟩ := tcells hSg
    obtain ⟨f0, f1⟩ := tcells hSr
    clear hSg hSr
    go_simp; with_reducible rfl
  simp only [List.getElem_toArray, List.getElem_cons_succ, List.getElem_cons_zero, Act.put, List.setIfInBounds_toArray, List.set_cons_zero, List.set_cons_succ]
  refine wpAnyH_take (i := 9) (oi := _) (v := ?_) rfl (by kernel_rfl) (by kernel_rfl) (by kernel_rfl) (fun _ _ _ h => h) (Or.inl ⟨by rfl, ?_⟩) ⟨hGs1.out, hRs1.out⟩ ?_
  rotate_left
  · intro w1 hSw
    replace hSw : w1.heap[B1]? = some (.cells #[.slice a1 2 c1, .int .i64 0] 27) ∧ w1.heap[B2]? = some (.cells #[.slice a2 2 c2, .int .i64 0] 27) := hSw
    obtain ⟨hSg, hSr⟩ := hSw
    obtain ⟨e0, e1⟩ := tcells hSg
    obtain ⟨f0, f1⟩ := tcells hSr
    clear hSg hSr
    go_simp; with_reducible rfl
  simp only [List.getElem_toArray, List.getElem_cons_succ, List.getElem_cons_zero, Act.put, List.setIfInBounds_toArray, List.set_cons_zero, List.set_cons_succ]
  refine wpAnyH_take (i := 10) (oi := _) (v := ?_) rfl (by kernel_rfl) (by kernel_rfl) (by kernel_rfl) (fun _ _ _ h => h) (Or.inl ⟨by rfl, ?_⟩) ⟨hGs1.out, hRs1.out⟩ ?_
  rotate_left
  · intro w1 hSw
    replace hSw : w1.heap[B1]? = some (.cells #[.slice a1 2 c1, .int .i64 0] 27) ∧ w1.heap[B2]? = some (.cells #[.slice a2 2 c2, .int .i64 0] 27) := hSw
    obtain ⟨hSg, hSr⟩ := hSw
    obtain ⟨e0, e1⟩ := tcells hSg
    obtain ⟨f0, f1⟩ := tcells hSr
    clear hSg hSr
    go_simp; with_reducible rfl
  simp only [List.getElem_toArray, List.getElem_cons_succ, List.getElem_cons_zero, Act.put, List.setIfInBounds_toArray, List.set_cons_zero, List.set_cons_succ]
  refine wpAnyH_take (i := 11) (oi := _) (v := ?_) rfl (by kernel_rfl) (by kernel_rfl) (by kernel_rfl) (fun _ _ _ h => h) (Or.inl ⟨by rfl, ?_⟩) ⟨hGs1.out, hRs1.out⟩ ?_
  rotate_left
  · intro w1 hSw
    replace hSw : w1.heap[B1]? = some (.cells #[.slice a1 2 c1, .int .i64 0] 27) ∧ w1.heap[B2]? = some (.cells #[.slice a2 2 c2, .int .i64 0] 27) := hSw
    obtain ⟨hSg, hSr⟩ := hSw
    obtain ⟨e0, e1⟩ := tcells hSg
    obtain ⟨f0, f1⟩ := tcells hSr
    clear hSg hSr
    go_simp; with_reducible rfl
  simp only [List.getElem_toArray, List.getElem_cons_succ, List.getElem_cons_zero, Act.put, List.setIfInBounds_toArray, List.set_cons_zero, List.set_cons_succ]
  refine wpAnyH_take (i := 12) (oi := _) (v := ?_) rfl (by kernel_rfl) (by kernel_rfl) (by kernel_rfl) (fun _ _ _ h => h) (Or.inl ⟨by rfl, ?_⟩) ⟨hGs1.out, hRs1.out⟩ ?_
  rotate_left
  · intro w1 hSw
    replace hSw : w1.heap[B1]? = some (.cells #[.slice a1 2 c1, .int .i64 0] 27) ∧ w1.heap[B2]? = some (.cells #[.slice a2 2 c2, .int .i64 0] 27) := hSw
    obtain ⟨hSg, hSr⟩ := hSw
    obtain ⟨e0, e1⟩ := tcells hSg
    obtain ⟨f0, f1⟩ := tcells hSr
    clear hSg hSr
    go_simp; with_reducible rfl
  simp only [List.getElem_toArray, List.getElem_cons_succ, List.getElem_cons_zero, Act.put, List.setIfInBounds_toArray, List.set_cons_zero, List.set_cons_succ]
  refine wpAnyH_take (i := 13) (oi := _) (v := ?_) rfl (by kernel_rfl) (by kernel_rfl) (by kernel_rfl) (fun _ _ _ h => h) (Or.inl ⟨by rfl, ?_⟩) ⟨hGs1.out, hRs1.out⟩ ?_
  rotate_left
  · intro w1 hSw
    replace hSw : w1.heap[B1]? = some (.cells #[.slice a1 2 c1, .int .i64 0] 27) ∧ w1.heap[B2]? = some (.cells #[.slice a2 2 c2, .int .i64 0] 27) := hSw
    obtain ⟨hSg, hSr⟩ := hSw
    obtain ⟨e0, e1⟩ := tcells hSg
    obtain ⟨f0, f1⟩ := tcells hSr
    clear hSg hSr
    go_simp; with_reducible rfl
  simp only [List.getElem_toArray, List.getElem_cons_succ, List.getElem_cons_zero, Act.put, List.setIfInBounds_toArray, List.set_cons_zero, List.set_cons_succ]
  have hQs := hQ13.below hbws1
  have hzs := hbws1.size
  refine wpAnyH_all (rs := [14]) (by kernel_rfl) (by simp) ?_
  intro i hi; obtain rfl := List.mem_singleton.1 hi; clear hi
  refine wpOp_step rfl (fun K3 hK3 => ?_)
  have HK3 := Lib.hid hK3
  clear hK3
  rw [if_pos (by rfl)]
  go_simp
  obtain ⟨wa2, hwa⟩ : ∃ x, x = (ws1.alloc (.cells #[.int .i64 10, .int .i64 20, .int .i64 10, .int .i64 36] 3)) := ⟨_, rfl⟩
  have hba : Below ws1.heap.size ws1 wa2 := by rw [hwa]; exact ((Below.refl _ _).alloc (Nat.le_refl _) _)
  have hTa : wa2.heap[ws1.heap.size]? = some (.cells #[.int .i64 10, .int .i64 20, .int .i64 10, .int .i64 36] 3) := by rw [hwa]; exact (MapKept.heap_alloc ws1 _).1
  have hGa := Lib.hid ((hba.block B1 (by omega)).trans hGs1.out)
  have hRa := Lib.hid ((hba.block B2 (by omega)).trans hRs1.out)
  rw [← hwa]
  clear hwa
  refine HK3.out _ _ ⟨⟨hGa.out, hRa.out⟩, ?_⟩
  clear HK3 K3
  try simp only [List.getElem_toArray, List.getElem_cons_succ, List.getElem_cons_zero, Act.put, List.setIfInBounds_toArray, List.set_cons_zero, List.set_cons_succ]
  refine wpAnyH_all (rs := [15]) (by kernel_rfl) (by simp) ?_
  intro i hi; obtain rfl := List.mem_singleton.1 hi; clear hi
  refine wpOp_step rfl (fun K3 hK3 => ?_)
  have HK3 := Lib.hid hK3
  clear hK3
  rw [if_pos (by rfl)]
  go_simp
  refine (train_at 0 [10, 20, 10, 36] (P := [(10, 20), (10, 36)]) (n := 4) hTa rfl (by rfl) (by decide) (by rfl)).mono ?_
  rintro e wt2 ⟨ta2, tc2, rfl, hTt, hbt⟩
  have hGt := Lib.hid ((hbt.block B1 (by have := hba.size; omega)).trans hGa.out)
  have hRt := Lib.hid ((hbt.block B2 (by have := hba.size; omega)).trans hRa.out)
  have hbat : Below ws1.heap.size ws1 wt2 := hba.trans (hbt.mono hba.size)
  clear hTa hbt hGa hRa hba
  refine HK3.out _ _ ⟨⟨hGt.out, hRt.out⟩, ?_⟩
  clear HK3 K3
  try simp only [List.getElem_toArray, List.getElem_cons_succ, List.getElem_cons_zero, Act.put, List.setIfInBounds_toArray, List.set_cons_zero, List.set_cons_succ]
  refine wpAnyH_all (rs := [16]) (by kernel_rfl) (by simp) ?_
  intro i hi; obtain rfl := List.mem_singleton.1 hi; clear hi
  refine wpOp_step rfl (fun K3 hK3 => ?_)
  have HK3 := Lib.hid hK3
  clear hK3
  rw [if_pos (by rfl)]
  go_simp
  have hsm := same_any [(10, 20), (10, 36)] [(10, 20), (10, 36)] (.slice a2 2 c2) (.slice ta2 2 tc2) 0 0 wt2 (hQs.below hbat) hTt
  rw [show sameB [(10, 20), (10, 36)] 0 [(10, 20), (10, 36)] 0 = true from rfl] at hsm
  refine hsm.mono ?_
  rintro e ws2 ⟨rfl, hbs⟩
  have hGs2 := Lib.hid ((hbs.block B1 (by have := hbat.size; omega)).trans hGt.out)
  have hRs2 := Lib.hid ((hbs.block B2 (by have := hbat.size; omega)).trans hRt.out)
  have hbws2 : Below ws1.heap.size ws1 ws2 := hbat.trans (hbs.mono hbat.size)
  clear hsm hbs hGt hRt hbat hTt
  refine HK3.out _ _ ⟨⟨hGs2.out, hRs2.out⟩, ?_⟩
  clear HK3 K3
  try simp only [List.getElem_toArray, List.getElem_cons_succ, List.getElem_cons_zero, Act.put, List.setIfInBounds_toArray, List.set_cons_zero, List.set_cons_succ]
  refine wpAnyH_take (i := 17) (oi := _) (v := ?_) rfl (by kernel_rfl) (by kernel_rfl) (by kernel_rfl) (fun _ _ _ h => h) (Or.inl ⟨by rfl, ?_⟩) ⟨hGs2.out, hRs2.out⟩ ?_
  rotate_left
  · intro w1 hSw
    replace hSw : w1.heap[B1]? = some (.cells #[.slice a1 2 c1, .int .i64 0] 27) ∧ w1.heap[B2]? = some (.cells #[.slice a2 2 c2, .int .i64 0] 27) := hSw
    obtain ⟨hSg, hSr⟩ := hSw
    obtain ⟨e0, e1⟩ := tcells hSg
    obtain ⟨f0, f1⟩ := tcells hSr
    clear hSg hSr
    go_simp; with_reducible rfl
  simp only [List.getElem_toArray, List.getElem_cons_succ, List.getElem_cons_zero, Act.put, List.setIfInBounds_toArray, List.set_cons_zero, List.set_cons_succ]
  refine wpAnyH_take (i := 18) (oi := _) (v := ?_) rfl (by kernel_rfl) (by kernel_rfl) (by kernel_rfl) (fun _ _ _ h => h) (Or.inl ⟨by rfl, ?_⟩) ⟨hGs2.out, hRs2.out⟩ ?_
  rotate_left
  · intro w1 hSw
    replace hSw : w1.heap[B1]? = some (.cells #[.slice a1 2 c1, .int .i64 0] 27) ∧ w1.heap[B2]? = some (.cells #[.slice a2 2 c2, .int .i64 0] 27) := hSw
    obtain ⟨hSg, hSr⟩ := hSw
    obtain ⟨e0, e1⟩ := tcells hSg
    obtain ⟨f0, f1⟩ := tcells hSr
    clear hSg hSr
    go_simp; with_reducible rfl
  simp only [List.getElem_toArray, List.getElem_cons_succ, List.getElem_cons_zero, Act.put, List.setIfInBounds_toArray, List.set_cons_zero, List.set_cons_succ]
  refine wpAnyH_take (i := 19) (oi := _) (v := ?_) rfl (by kernel_rfl) (by kernel_rfl) (by kernel_rfl) (fun _ _ _ h => h) (Or.inl ⟨by rfl, ?_⟩) ⟨hGs2.out, hRs2.out⟩ ?_
  rotate_left
  · intro w1 hSw
    replace hSw : w1.heap[B1]? = some (.cells #[.slice a1 2 c1, .int .i64 0] 27) ∧ w1.heap[B2]? = some (.cells #[.slice a2 2 c2, .int .i64 0] 27) := hSw
    obtain ⟨hSg, hSr⟩ := hSw
    obtain ⟨e0, e1⟩ := tcells hSg
    obtain ⟨f0, f1⟩ := tcells hSr
    clear hSg hSr
    go_simp; with_reducible rfl
  simp only [List.getElem_toArray, List.getElem_cons_succ, List.getElem_cons_zero, Act.put, List.setIfInBounds_toArray, List.set_cons_zero, List.set_cons_succ]
  refine wpAnyH_take (i := 20) (oi := _) (v := ?_) rfl (by kernel_rfl) (by kernel_rfl) (by kernel_rfl) (fun _ _ _ h => h) (Or.inl ⟨by rfl, ?_⟩) ⟨hGs2.out, hRs2.out⟩ ?_
  rotate_left
  · intro w1 hSw
    replace hSw : w1.heap[B1]? = some (.cells #[.slice a1 2 c1, .int .i64 0] 27) ∧ w1.heap[B2]? = some (.cells #[.slice a2 2 c2, .int .i64 0] 27) := hSw
    obtain ⟨hSg, hSr⟩ := hSw
    obtain ⟨e0, e1⟩ := tcells hSg
    obtain ⟨f0, f1⟩ := tcells hSr
    clear hSg hSr
    go_simp; with_reducible rfl
  simp only [List.getElem_toArray, List.getElem_cons_succ, List.getElem_cons_zero, Act.put, List.setIfInBounds_toArray, List.set_cons_zero, List.set_cons_succ]
  refine wpAnyH_take (i := 21) (oi := _) (v := ?_) rfl (by kernel_rfl) (by kernel_rfl) (by kernel_rfl) (fun _ _ _ h => h) (Or.inl ⟨by rfl, ?_⟩) ⟨hGs2.out, hRs2.out⟩ ?_
  rotate_left
  · intro w1 hSw
    replace hSw : w1.heap[B1]? = some (.cells #[.slice a1 2 c1, .int .i64 0] 27) ∧ w1.heap[B2]? = some (.cells #[.slice a2 2 c2, .int .i64 0] 27) := hSw
    obtain ⟨hSg, hSr⟩ := hSw
    obtain ⟨e0, e1⟩ := tcells hSg
    obtain ⟨f0, f1⟩ := tcells hSr
    clear hSg hSr
    go_simp; with_reducible rfl
  simp only [List.getElem_toArray, List.getElem_cons_succ, List.getElem_cons_zero, Act.put, List.setIfInBounds_toArray, List.set_cons_zero, List.set_cons_succ]
  refine wpAnyH_take (i := 22) (oi := _) (v := ?_) rfl (by kernel_rfl) (by kernel_rfl) (by kernel_rfl) (fun _ _ _ h => h) (Or.inl ⟨by rfl, ?_⟩) ⟨hGs2.out, hRs2.out⟩ ?_
  rotate_left
  · intro w1 hSw
    replace hSw : w1.heap[B1]? = some (.cells #[.slice a1 2 c1, .int .i64 0] 27) ∧ w1.heap[B2]? = some (.cells #[.slice a2 2 c2, .int .i64 0] 27) := hSw
    obtain ⟨hSg, hSr⟩ := hSw
    obtain ⟨e0, e1⟩ := tcells hSg
    obtain ⟨f0, f1⟩ := tcells hSr
    clear hSg hSr
    go_simp; with_reducible rfl
  simp only [List.getElem_toArray, List.getElem_cons_succ, List.getElem_cons_zero, Act.put, List.setIfInBounds_toArray, List.set_cons_zero, List.set_cons_succ]
  refine wpAnyH_take (i := 23) (oi := _) (v := ?_) rfl (by kernel_rfl) (by kernel_rfl) (by kernel_rfl) (fun _ _ _ h => h) (Or.inl ⟨by rfl, ?_⟩) ⟨hGs2.out, hRs2.out⟩ ?_
  rotate_left
  · intro w1 hSw
    replace hSw : w1.heap[B1]? = some (.cells #[.slice a1 2 c1, .int .i64 0] 27) ∧ w1.heap[B2]? = some (.cells #[.slice a2 2 c2, .int .i64 0] 27) := hSw
    obtain ⟨hSg, hSr⟩ := hSw
    obtain ⟨e0, e1⟩ := tcells hSg
    obtain ⟨f0, f1⟩ := tcells hSr
    clear hSg hSr
    go_simp; with_reducible rfl
  simp only [List.getElem_toArray, List.getElem_cons_succ, List.getElem_cons_zero, Act.put, List.setIfInBounds_toArray, List.set_cons_zero, List.set_cons_succ]
  refine wpAnyH_take (i := 24) (oi := _) (v := ?_) rfl (by kernel_rfl) (by kernel_rfl) (by kernel_rfl) (fun _ _ _ h => h) (Or.inl ⟨by rfl, ?_⟩) ⟨hGs2.out, hRs2.out⟩ ?_
  rotate_left
  · intro w1 hSw
    replace hSw : w1.heap[B1]? = some (.cells #[.slice a1 2 c1, .int .i64 0] 27) ∧ w1.heap[B2]? = some (.cells #[.slice a2 2 c2, .int .i64 0] 27) := hSw
    obtain ⟨hSg, hSr⟩ := hSw
    obtain ⟨e0, e1⟩ := tcells hSg
    obtain ⟨f0, f1⟩ := tcells hSr
    clear hSg hSr
    go_simp; with_reducible rfl
  simp only [List.getElem_toArray, List.getElem_cons_succ, List.getElem_cons_zero, Act.put, List.setIfInBounds_toArray, List.set_cons_zero, List.set_cons_succ]
  refine wpAnyH_take (i := 25) (oi := _) (v := ?_) rfl (by kernel_rfl) (by kernel_rfl) (by kernel_rfl) (fun _ _ _ h => h) (Or.inl ⟨by rfl, ?_⟩) ⟨hGs2.out, hRs2.out⟩ ?_
  rotate_left
  · intro w1 hSw
    replace hSw : w1.heap[B1]? = some (.cells #[.slice a1 2 c1, .int .i64 0] 27) ∧ w1.heap[B2]? = some (.cells #[.slice a2 2 c2, .int .i64 0] 27) := hSw
    obtain ⟨hSg, hSr⟩ := hSw
    obtain ⟨e0, e1⟩ := tcells hSg
    obtain ⟨f0, f1⟩ := tcells hSr
    clear hSg hSr
    go_simp; with_reducible rfl
  simp only [List.getElem_toArray, List.getElem_cons_succ, List.getElem_cons_zero, Act.put, List.setIfInBounds_toArray, List.set_cons_zero, List.set_cons_succ]
  refine wpAnyH_take (i := 26) (oi := _) (v := ?_) rfl (by kernel_rfl) (by kernel_rfl) (by kernel_rfl) (fun _ _ _ h => h) (Or.inl ⟨by rfl, ?_⟩) ⟨hGs2.out, hRs2.out⟩ ?_
  rotate_left
  · intro w1 hSw
    replace hSw : w1.heap[B1]? = some (.cells #[.slice a1 2 c1, .int .i64 0] 27) ∧ w1.heap[B2]? = some (.cells #[.slice a2 2 c2, .int .i64 0] 27) := hSw
    obtain ⟨hSg, hSr⟩ := hSw
    obtain ⟨e0, e1⟩ := tcells hSg
    obtain ⟨f0, f1⟩ := tcells hSr
    clear hSg hSr
    go_simp; with_reducible rfl
  simp only [List.getElem_toArray, List.getElem_cons_succ, List.getElem_cons_zero, Act.put, List.setIfInBounds_toArray, List.set_cons_zero, List.set_cons_succ]
  refine wpAnyH_take (i := 27) (oi := _) (v := ?_) rfl (by kernel_rfl) (by kernel_rfl) (by kernel_rfl) (fun _ _ _ h => h) (Or.inl ⟨by rfl, ?_⟩) ⟨hGs2.out, hRs2.out⟩ ?_
  rotate_left
  · intro w1 hSw
    replace hSw : w1.heap[B1]? = some (.cells #[.slice a1 2 c1, .int .i64 0] 27) ∧ w1.heap[B2]? = some (.cells #[.slice a2 2 c2, .int .i64 0] 27) := hSw
    obtain ⟨hSg, hSr⟩ := hSw
    obtain ⟨e0, e1⟩ := tcells hSg
    obtain ⟨f0, f1⟩ := tcells hSr
    clear hSg hSr
    go_simp; with_reducible rfl
  simp only [List.getElem_toArray, List.getElem_cons_succ, List.getElem_cons_zero, Act.put, List.setIfInBounds_toArray, List.set_cons_zero, List.set_cons_succ]
  refine wpAnyH_take (i := 28) (oi := _) (v := ?_) rfl (by kernel_rfl) (by kernel_rfl) (by kernel_rfl) (fun _ _ _ h => h) (Or.inl ⟨by rfl, ?_⟩) ⟨hGs2.out, hRs2.out⟩ ?_
  rotate_left
  · intro w1 hSw
    replace hSw : w1.heap[B1]? = some (.cells #[.slice a1 2 c1, .int .i64 0] 27) ∧ w1.heap[B2]? = some (.cells #[.slice a2 2 c2, .int .i64 0] 27) := hSw
    obtain ⟨hSg, hSr⟩ := hSw
    obtain ⟨e0, e1⟩ := tcells hSg
    obtain ⟨f0, f1⟩ := tcells hSr
    clear hSg hSr
    go_simp; with_reducible rfl
  simp only [List.getElem_toArray, List.getElem_cons_succ, List.getElem_cons_zero, Act.put, List.setIfInBounds_toArray, List.set_cons_zero, List.set_cons_succ]
  refine wpAnyH_take (i := 29) (oi := _) (v := ?_) rfl (by kernel_rfl) (by kernel_rfl) (by kernel_rfl) (fun _ _ _ h => h) (Or.inl ⟨by rfl, ?_⟩) ⟨hGs2.out, hRs2.out⟩ ?_
  rotate_left
  · intro w1 hSw
    replace hSw : w1.heap[B1]? = some (.cells #[.slice a1 2 c1, .int .i64 0] 27) ∧ w1.heap[B2]? = some (.cells #[.slice a2 2 c2, .int .i64 0] 27) := hSw
    obtain ⟨hSg, hSr⟩ := hSw
    obtain ⟨e0, e1⟩ := tcells hSg
    obtain ⟨f0, f1⟩ := tcells hSr
    clear hSg hSr
    go_simp; with_reducible rfl
  simp only [List.getElem_toArray, List.getElem_cons_succ, List.getElem_cons_zero, Act.put, List.setIfInBounds_toArray, List.set_cons_zero, List.set_cons_succ]
  refine wpAnyH_take (i := 30) (oi := _) (v := ?_) rfl (by kernel_rfl) (by kernel_rfl) (by kernel_rfl) (fun _ _ _ h => h) (Or.inl ⟨by rfl, ?_⟩) ⟨hGs2.out, hRs2.out⟩ ?_
  rotate_left
  · intro w1 hSw
    replace hSw : w1.heap[B1]? = some (.cells #[.slice a1 2 c1, .int .i64 0] 27) ∧ w1.heap[B2]? = some (.cells #[.slice a2 2 c2, .int .i64 0] 27) := hSw
    obtain ⟨hSg, hSr⟩ := hSw
    obtain ⟨e0, e1⟩ := tcells hSg
    obtain ⟨f0, f1⟩ := tcells hSr
    clear hSg hSr
    go_simp; with_reducible rfl
  simp only [List.getElem_toArray, List.getElem_cons_succ, List.getElem_cons_zero, Act.put, List.setIfInBounds_toArray, List.set_cons_zero, List.set_cons_succ]
  refine wpAnyH_take (i := 31) (oi := _) (v := ?_) rfl (by kernel_rfl) (by kernel_rfl) (by kernel_rfl) (fun _ _ _ h => h) (Or.inl ⟨by rfl, ?_⟩) ⟨hGs2.out, hRs2.out⟩ ?_
  rotate_left
  · intro w1 hSw
    replace hSw : w1.heap[B1]? = some (.cells #[.slice a1 2 c1, .int .i64 0] 27) ∧ w1.heap[B2]? = some (.cells #[.slice a2 2 c2, .int .i64 0] 27) := hSw
    obtain ⟨hSg, hSr⟩ := hSw
    obtain ⟨e0, e1⟩ := tcells hSg
    obtain ⟨f0, f1⟩ := tcells hSr
    clear hSg hSr
    go_simp; with_reducible rfl
  simp only [List.getElem_toArray, List.getElem_cons_succ, List.getElem_cons_zero, Act.put, List.setIfInBounds_toArray, List.set_cons_zero, List.set_cons_succ]
  refine wpAnyH_take (i := 32) (oi := _) (v := ?_) rfl (by kernel_rfl) (by kernel_rfl) (by kernel_rfl) (fun _ _ _ h => h) (Or.inl ⟨by rfl, ?_⟩) ⟨hGs2.out, hRs2.out⟩ ?_
  rotate_left
  · intro w1 hSw
    replace hSw : w1.heap[B1]? = some (.cells #[.slice a1 2 c1, .int .i64 0] 27) ∧ w1.heap[B2]? = some (.cells #[.slice a2 2 c2, .int .i64 0] 27) := hSw
    obtain ⟨hSg, hSr⟩ := hSw
    obtain ⟨e0, e1⟩ := tcells hSg
    obtain ⟨f0, f1⟩ := tcells hSr
    clear hSg hSr
    go_simp; with_reducible rfl
  simp only [List.getElem_toArray, List.getElem_cons_succ, List.getElem_cons_zero, Act.put, List.setIfInBounds_toArray, List.set_cons_zero, List.set_cons_succ]
  refine wpAnyH_take (i := 33) (oi := _) (v := ?_) rfl (by kernel_rfl) (by kernel_rfl) (by kernel_rfl) (fun _ _ _ h => h) (Or.inl ⟨by rfl, ?_⟩) ⟨hGs2.out, hRs2.out⟩ ?_
  rotate_left
  · intro w1 hSw
    replace hSw : w1.heap[B1]? = some (.cells #[.slice a1 2 c1, .int .i64 0] 27) ∧ w1.heap[B2]? = some (.cells #[.slice a2 2 c2, .int .i64 0] 27) := hSw
    obtain ⟨hSg, hSr⟩ := hSw
    obtain ⟨e0, e1⟩ := tcells hSg
    obtain ⟨f0, f1⟩ := tcells hSr
    clear hSg hSr
    go_simp; with_reducible rfl
  simp only [List.getElem_toArray, List.getElem_cons_succ, List.getElem_cons_zero, Act.put, List.setIfInBounds_toArray, List.set_cons_zero, List.set_cons_succ]
  refine wpAnyH_take (i := 34) (oi := _) (v := ?_) rfl (by kernel_rfl) (by kernel_rfl) (by kernel_rfl) (fun _ _ _ h => h) (Or.inl ⟨by rfl, ?_⟩) ⟨hGs2.out, hRs2.out⟩ ?_
  rotate_left
  · intro w1 hSw
    replace hSw : w1.heap[B1]? = some (.cells #[.slice a1 2 c1, .int .i64 0] 27) ∧ w1.heap[B2]? = some (.cells #[.slice a2 2 c2, .int .i64 0] 27) := hSw
    obtain ⟨hSg, hSr⟩ := hSw
    obtain ⟨e0, e1⟩ := tcells hSg
    obtain ⟨f0, f1⟩ := tcells hSr
    clear hSg hSr
    go_simp; with_reducible rfl
  simp only [List.getElem_toArray, List.getElem_cons_succ, List.getElem_cons_zero, Act.put, List.setIfInBounds_toArray, List.set_cons_zero, List.set_cons_succ]
  refine wpAnyH_take (i := 35) (oi := _) (v := ?_) rfl (by kernel_rfl) (by kernel_rfl) (by kernel_rfl) (fun _ _ _ h => h) (Or.inl ⟨by rfl, ?_⟩) ⟨hGs2.out, hRs2.out⟩ ?_
  rotate_left
  · intro w1 hSw
    replace hSw : w1.heap[B1]? = some (.cells #[.slice a1 2 c1, .int .i64 0] 27) ∧ w1.heap[B2]? = some (.cells #[.slice a2 2 c2, .int .i64 0] 27) := hSw
    obtain ⟨hSg, hSr⟩ := hSw
    obtain ⟨e0, e1⟩ := tcells hSg
    obtain ⟨f0, f1⟩ := tcells hSr
    clear hSg hSr
    go_simp; with_reducible rfl
  simp only [List.getElem_toArray, List.getElem_cons_succ, List.getElem_cons_zero, Act.put, List.setIfInBounds_toArray, List.set_cons_zero, List.set_cons_succ]
  refine wpAnyH_take (i := 36) (oi := _) (v := ?_) rfl (by kernel_rfl) (by kernel_rfl) (by kernel_rfl) (fun _ _ _ h => h) (Or.inl ⟨by rfl, ?_⟩) ⟨hGs2.out, hRs2.out⟩ ?_
  rotate_left
  · intro w1 hSw
    replace hSw : w1.heap[B1]? = some (.cells #[.slice a1 2 c1, .int .i64 0] 27) ∧ w1.heap[B2]? = some (.cells #[.slice a2 2 c2, .int .i64 0] 27) := hSw
    obtain ⟨hSg, hSr⟩ := hSw
    obtain ⟨e0, e1⟩ := tcells hSg
    obtain ⟨f0, f1⟩ := tcells hSr
    clear hSg hSr
    go_simp; with_reducible rfl
  simp only [List.getElem_toArray, List.getElem_cons_succ, List.getElem_cons_zero, Act.put, List.setIfInBounds_toArray, List.set_cons_zero, List.set_cons_succ]
  refine wpAnyH_take (i := 37) (oi := _) (v := ?_) rfl (by kernel_rfl) (by kernel_rfl) (by kernel_rfl) (fun _ _ _ h => h) (Or.inl ⟨by rfl, ?_⟩) ⟨hGs2.out, hRs2.out⟩ ?_
  rotate_left
  · intro w1 hSw
    replace hSw : w1.heap[B1]? = some (.cells #[.slice a1 2 c1, .int .i64 0] 27) ∧ w1.heap[B2]? = some (.cells #[.slice a2 2 c2, .int .i64 0] 27) := hSw
    obtain ⟨hSg, hSr⟩ := hSw
    obtain ⟨e0, e1⟩ := tcells hSg
    obtain ⟨f0, f1⟩ := tcells hSr
    clear hSg hSr
    go_simp; with_reducible rfl
  simp only [List.getElem_toArray, List.getElem_cons_succ, List.getElem_cons_zero, Act.put, List.setIfInBounds_toArray, List.set_cons_zero, List.set_cons_succ]
  refine wpAnyH_take (i := 38) (oi := _) (v := ?_) rfl (by kernel_rfl) (by kernel_rfl) (by kernel_rfl) (fun _ _ _ h => h) (Or.inl ⟨by rfl, ?_⟩) ⟨hGs2.out, hRs2.out⟩ ?_
  rotate_left
  · intro w1 hSw
    replace hSw : w1.heap[B1]? = some (.cells #[.slice a1 2 c1, .int .i64 0] 27) ∧ w1.heap[B2]? = some (.cells #[.slice a2 2 c2, .int .i64 0] 27) := hSw
    obtain ⟨hSg, hSr⟩ := hSw
    obtain ⟨e0, e1⟩ := tcells hSg
    obtain ⟨f0, f1⟩ := tcells hSr
    clear hSg hSr
    go_simp; with_reducible rfl
  simp only [List.getElem_toArray, List.getElem_cons_succ, List.getElem_cons_zero, Act.put, List.setIfInBounds_toArray, List.set_cons_zero, List.set_cons_succ]
  refine wpAnyH_take (i := 39) (oi := _) (v := ?_) rfl (by kernel_rfl) (by kernel_rfl) (by kernel_rfl) (fun _ _ _ h => h) (Or.inl ⟨by rfl, ?_⟩) ⟨hGs2.out, hRs2.out⟩ ?_
  rotate_left
  · intro w1 hSw
    replace hSw : w1.heap[B1]? = some (.cells #[.slice a1 2 c1, .int .i64 0] 27) ∧ w1.heap[B2]? = some (.cells #[.slice a2 2 c2, .int .i64 0] 27) := hSw
    obtain ⟨hSg, hSr⟩ := hSw
    obtain ⟨e0, e1⟩ := tcells hSg
    obtain ⟨f0, f1⟩ := tcells hSr
    clear hSg hSr
    go_simp; with_reducible rfl
  simp only [List.getElem_toArray, List.getElem_cons_succ, List.getElem_cons_zero, Act.put, List.setIfInBounds_toArray, List.set_cons_zero, List.set_cons_succ]
  refine wpAnyH_take (i := 40) (oi := _) (v := ?_) rfl (by kernel_rfl) (by kernel_rfl) (by kernel_rfl) (fun _ _ _ h => h) (Or.inl ⟨by rfl, ?_⟩) ⟨hGs2.out, hRs2.out⟩ ?_
  rotate_left
  · intro w1 hSw
    replace hSw : w1.heap[B1]? = some (.cells #[.slice a1 2 c1, .int .i64 0] 27) ∧ w1.heap[B2]? = some (.cells #[.slice a2 2 c2, .int .i64 0] 27) := hSw
    obtain ⟨hSg, hSr⟩ := hSw
    obtain ⟨e0, e1⟩ := tcells hSg
    obtain ⟨f0, f1⟩ := tcells hSr
    clear hSg hSr
    go_simp; with_reducible rfl
  simp only [List.getElem_toArray, List.getElem_cons_succ, List.getElem_cons_zero, Act.put, List.setIfInBounds_toArray, List.set_cons_zero, List.set_cons_succ]
  refine wpAnyH_take (i := 41) (oi := _) (v := ?_) rfl (by kernel_rfl) (by kernel_rfl) (by kernel_rfl) (fun _ _ _ h => h) (Or.inl ⟨by rfl, ?_⟩) ⟨hGs2.out, hRs2.out⟩ ?_
  rotate_left
  · intro w1 hSw
    replace hSw : w1.heap[B1]? = some (.cells #[.slice a1 2 c1, .int .i64 0] 27) ∧ w1.heap[B2]? = some (.cells #[.slice a2 2 c2, .int .i64 0] 27) := hSw
    obtain ⟨hSg, hSr⟩ := hSw
    obtain ⟨e0, e1⟩ := tcells hSg
    obtain ⟨f0, f1⟩ := tcells hSr
    clear hSg hSr
    go_simp; with_reducible rfl
  simp only [List.getElem_toArray, List.getElem_cons_succ, List.getElem_cons_zero, Act.put, List.setIfInBounds_toArray, List.set_cons_zero, List.set_cons_succ]
  refine wpAnyH_take (i := 42) (oi := _) (v := ?_) rfl (by kernel_rfl) (by kernel_rfl) (by kernel_rfl) (fun _ _ _ h => h) (Or.inl ⟨by rfl, ?_⟩) ⟨hGs2.out, hRs2.out⟩ ?_
  rotate_left
  · intro w1 hSw
    replace hSw : w1.heap[B1]? = some (.cells #[.slice a1 2 c1, .int .i64 0] 27) ∧ w1.heap[B2]? = some (.cells #[.slice a2 2 c2, .int .i64 0] 27) := hSw
    obtain ⟨hSg, hSr⟩ := hSw
    obtain ⟨e0, e1⟩ := tcells hSg
    obtain ⟨f0, f1⟩ := tcells hSr
    clear hSg hSr
    go_simp; with_reducible rfl
  simp only [List.getElem_toArray, List.getElem_cons_succ, List.getElem_cons_zero, Act.put, List.setIfInBounds_toArray, List.set_cons_zero, List.set_cons_succ]
  refine wpAnyH_done (by kernel_rfl) ?_ _
  go_wp2
  go_ret
  exact ⟨rfl, (hbw13.trans (hbws1.mono hbw13.size)).trans (hbws2.mono (Nat.le_trans hbw13.size hbws1.size))⟩
end Go.Proofs.Ytoiapnokgpeipaa
