/- GearNames: the numbers, and the chapter's examples. -/
import Derived.Test.YtoiapnokgpeipaaE4
namespace Go.Proofs.Ytoiapnokgpeipaa
set_option linter.unusedSimpArgs false
open Go.RowKit Go.Maps

/-- what Choose answers over the shelf -/
def NameRow (n : Int) (sm : Bool) (P : List (Int × Int)) (i nw ne : Int) : Prop :=
  match chooseC shelfL n 1 2 60 sm with
  | (c, none) => P = [] ∧ i = 0 ∧ nw = 0 ∧ ne = c
  | (c, some u) => trainP u = P ∧ u.i = i ∧ (((usedL P i).length : Nat) : Int) = nw ∧ ne = c
def ChoseR (P : List (Int × Int)) (i nw ne : Int) (w : World) (e : Ending) (w' : World) : Prop :=
  ∃ a cap, e = .returned (.tuple #[.agg #[.slice a P.length cap, .int .i64 i], .int .i64 nw, .int .i64 ne]) ∧ WheelsAt w' (.slice a P.length cap) P ∧ Below w.heap.size w w' ∧ (P = [] ∨ ∃ b off, a = some ⟨b, off, none⟩ ∧ w.heap.size ≤ b ∧ b < w'.heap.size)
theorem chose_row {n : Int} {sm : Bool} {P : List (Int × Int)} {i nw ne : Int} (h : NameRow n sm P i nw ne) {b : Nat} {w : World} (hW : WheelsAt w (.slice (some ⟨b, 0, none⟩) 5 5) shelfL) (hb : b < w.heap.size) :
    Calls Try.prog 17 #[.slice (some ⟨b, 0, none⟩) 5 5, .agg #[.int .i64 n, .int .i64 1, .bool sm, .int .i64 2, .int .i64 60]] w (ChoseR P i nw ne w) := by
  unfold NameRow at h
  refine (choose_any shelfL (some ⟨b, 0, none⟩) 5 n 1 2 60 sm w hW (by intro b' off e; cases e; exact hb)).mono ?_
  revert h
  generalize chooseC shelfL n 1 2 60 sm = C
  obtain ⟨c, _ | u⟩ := C
  · rintro ⟨rfl, rfl, rfl, rfl⟩ e w' ⟨hb, h⟩
    exact ⟨none, 0, h, ⟨by decide, .inl ⟨rfl, _, _, rfl⟩⟩, hb, .inl rfl⟩
  · rintro ⟨hP, rfl, rfl, rfl⟩ e w' ⟨hb, x, rfl, h3, hx⟩
    rw [hP] at hx h3 ⊢
    obtain ⟨a, cap, rfl⟩ := ownsRow_shape hx
    refine ⟨a, cap, rfl, wheels_own hx (by omega), hb, ?_⟩
    rcases hx.2 with ⟨h1, h2⟩ | ⟨g, c, cur, h1, _⟩
    · exact .inl (List.length_eq_zero_iff.1 h2)
    · simp only [Value.slice.injEq] at h1
      obtain ⟨rfl, _⟩ := h1
      exact .inr ⟨g, 0, rfl, hx.lt g rfl⟩
theorem WheelsAt.apart {w w' : World} {a : Option Addr} {c : Nat} {S : List (Int × Int)} {m : Nat} (h : WheelsAt w (.slice a S.length c) S) (hg : w.grownBy w' (some m)) (hne : S = [] ∨ ∃ b off, a = some ⟨b, off, none⟩ ∧ b ≠ m) : WheelsAt w' (.slice a S.length c) S := by
  rcases hne with rfl | ⟨b, off, rfl, hb⟩
  · exact ⟨by decide, .inl ⟨rfl, _, _, rfl⟩⟩
  · exact h.grown hg (fun b' off' n cap e => by simp only [Value.slice.injEq, Option.some.injEq, Addr.mk.injEq] at e; omega)
theorem sameB_self (P : List (Int × Int)) (i : Int) : sameB P i P i = true := by unfold sameB; simp
set_option maxRecDepth 100000 in
theorem nr0 : NameRow 6 false [(10, 20), (10, 30)] 12 5 0 := by
  have h : chooseC shelfL 6 1 2 60 false = (0, some ⟨10, 20, 10, 30, 0, 0, 2, 12, 100, 600⟩) := by kernel_rfl
  unfold NameRow; rw [h]; exact ⟨rfl, rfl, rfl, rfl⟩
set_option maxRecDepth 100000 in
theorem nr1 : NameRow 3 false [(10, 30)] 0 2 0 := by
  have h : chooseC shelfL 3 1 2 60 false = (0, some ⟨10, 30, 0, 0, 0, 0, 1, 0, 10, 30⟩) := by kernel_rfl
  unfold NameRow; rw [h]; exact ⟨rfl, rfl, rfl, rfl⟩
set_option maxRecDepth 100000 in
theorem nr2 : NameRow 3 true [(10, 30)] 10 3 0 := by
  have h : chooseC shelfL 3 1 2 60 true = (0, some ⟨10, 30, 0, 0, 0, 0, 1, 10, 10, 30⟩) := by kernel_rfl
  unfold NameRow; rw [h]; exact ⟨rfl, rfl, rfl, rfl⟩
set_option maxRecDepth 100000 in
theorem nr3 : NameRow 7 true [] 0 0 4 := by
  have h : chooseC shelfL 7 1 2 60 true = (4, none) := by kernel_rfl
  unfold NameRow; rw [h]; exact ⟨rfl, rfl, rfl, rfl⟩
theorem bu_7 : buildC shelfL 7 1 2 60 true [(10, 36), (12, 20)] 0 = (0, 11) := by kernel_rfl
theorem ro_6 : roundsC [(10, 20), (10, 30)] 6 = (1, 0) := by kernel_rfl

/-- the rows of the table: block T, from cell 6 k on -/
def RowAt (X : World) (T k : Nat) : Prop := ∃ (n : Int) (sm : Bool) (P : List (Int × Int)) (i nw ne : Int) (a : Option Addr) (cap : Nat), NameRow n sm P i nw ne ∧ WheelsAt X (.slice a P.length cap) P ∧
  X.cell? ⟨T, k * 6, none⟩ = some (.int .i64 n) ∧ X.cell? ⟨T, k * 6 + 1, none⟩ = some (.bool sm) ∧ X.cell? ⟨T, k * 6 + 2, none⟩ = some (.slice a P.length cap) ∧ X.cell? ⟨T, k * 6 + 3, none⟩ = some (.int .i64 i) ∧ X.cell? ⟨T, k * 6 + 4, none⟩ = some (.int .i64 nw) ∧ X.cell? ⟨T, k * 6 + 5, none⟩ = some (.int .i64 ne)
theorem RowAt.below {X Y : World} {T k : Nat} (h : RowAt X T k) (hT : T < X.heap.size) (hb : Below X.heap.size X Y) : RowAt Y T k := by
  obtain ⟨n, sm, P, i, nw, ne, a, cap, h0, h1, c0, c1, c2, c3, c4, c5⟩ := h
  refine ⟨n, sm, P, i, nw, ne, a, cap, h0, h1.below hb, ?_⟩
  refine ⟨(hb.cell (p := ⟨T, _, none⟩) hT).trans c0, (hb.cell (p := ⟨T, _, none⟩) hT).trans c1, (hb.cell (p := ⟨T, _, none⟩) hT).trans c2, (hb.cell (p := ⟨T, _, none⟩) hT).trans c3, (hb.cell (p := ⟨T, _, none⟩) hT).trans c4, (hb.cell (p := ⟨T, _, none⟩) hT).trans c5⟩

theorem rcells6 {X : World} {b : Nat} {t : TypeId} {v0 v1 v2 v3 v4 v5 : Value} (h : X.heap[b]? = some (.cells #[v0, v1, v2, v3, v4, v5] t)) :
    X.cell? ⟨b, 0, none⟩ = some v0 ∧ X.cell? ⟨b, 1, none⟩ = some v1 ∧ X.cell? ⟨b, 2, none⟩ = some v2 ∧ X.cell? ⟨b, 3, none⟩ = some v3 ∧ X.cell? ⟨b, 4, none⟩ = some v4 ∧ X.cell? ⟨b, 5, none⟩ = some v5 := by
  refine ⟨?_, ?_, ?_, ?_, ?_, ?_⟩ <;> simp [World.cell?, h]

set_option maxRecDepth 100000 in
set_option maxHeartbeats 3200000 in
theorem names_any (w : World) : Calls Try.prog 5 #[] w fun e w' => e = .returned (.bool true) ∧ Below w.heap.size w w' := by
  go_enter Try.func5, Try.ntmps5
  go_wp2_with fail
  refine (train_at 12 [10, 20, 10, 30] (P := [(10, 20), (10, 30)]) (MapKept.heap_alloc w _).1 rfl (by rfl) (by decide) (by rfl)).mono ?_
  rintro e w1 ⟨a1, c1, rfl, hT1, hb1⟩
  have hbw1 : Below w.heap.size w w1 := ((Below.refl _ _).alloc (Nat.le_refl _) _).trans (hb1.mono (by simp))
  clear hb1
  go_wp2_with fail
  refine (train_at 0 [10, 30] (P := [(10, 30)]) (MapKept.heap_alloc w1 _).1 rfl (by rfl) (by decide) (by rfl)).mono ?_
  rintro e w2 ⟨a2, c2, rfl, hT2, hb2⟩
  have hb12 : Below w1.heap.size w1 w2 := ((Below.refl _ _).alloc (Nat.le_refl _) _).trans (hb2.mono (by simp))
  have hbw2 : Below w.heap.size w w2 := hbw1.trans (hb12.mono hbw1.size)
  replace hT1 := hT1.below hb12
  clear hb2 hb12 hbw1
  go_wp2_with fail
  refine (train_at 10 [10, 30] (P := [(10, 30)]) (MapKept.heap_alloc w2 _).1 rfl (by rfl) (by decide) (by rfl)).mono ?_
  rintro e w3 ⟨a3, c3, rfl, hT3, hb3⟩
  have hb23 : Below w2.heap.size w2 w3 := ((Below.refl _ _).alloc (Nat.le_refl _) _).trans (hb3.mono (by simp))
  have hbw3 : Below w.heap.size w w3 := hbw2.trans (hb23.mono hbw2.size)
  replace hT1 := hT1.below hb23
  replace hT2 := hT2.below hb23
  clear hb3 hb23 hbw2
  have hw3 : w.heap.size ≤ w3.heap.size := hbw3.size
  obtain ⟨W4, hW4⟩ : ∃ W4, W4 = w3.alloc (.cells #[.int .i64 6, .bool false, .slice a1 2 c1, .int .i64 12, .int .i64 5, .int .i64 0, .int .i64 3, .bool false, .slice a2 1 c2, .int .i64 0, .int .i64 2, .int .i64 0, .int .i64 3, .bool true, .slice a3 1 c3, .int .i64 10, .int .i64 3, .int .i64 0, .int .i64 7, .bool true, .slice none 0 0, .int .i64 0, .int .i64 0, .int .i64 4] 40) := ⟨_, rfl⟩
  obtain ⟨T, hT⟩ : ∃ T, T = w3.heap.size := ⟨_, rfl⟩
  have hb34 : Below w3.heap.size w3 W4 := by rw [hW4]; exact (Below.refl _ _).alloc (Nat.le_refl _) _
  have hG : W4.heap[T]? = some (.cells #[.int .i64 6, .bool false, .slice a1 2 c1, .int .i64 12, .int .i64 5, .int .i64 0, .int .i64 3, .bool false, .slice a2 1 c2, .int .i64 0, .int .i64 2, .int .i64 0, .int .i64 3, .bool true, .slice a3 1 c3, .int .i64 10, .int .i64 3, .int .i64 0, .int .i64 7, .bool true, .slice none 0 0, .int .i64 0, .int .i64 0, .int .i64 4] 40) := by rw [hW4, hT]; exact (MapKept.heap_alloc w3 _).1
  have hz4 : W4.heap.size = T + 1 := by rw [hW4, hT]; simp
  have hbw4 : Below w.heap.size w W4 := hbw3.trans (hb34.mono hw3)
  have hrows : ∀ k, k < 4 → RowAt W4 T k := by
    intro k hk
    match k, hk with
    | 0, _ => exact ⟨6, false, [(10, 20), (10, 30)], 12, 5, 0, a1, c1, nr0, hT1.below hb34, by refine ⟨?_, ?_, ?_, ?_, ?_, ?_⟩ <;> simp [World.cell?, hG]⟩
    | 1, _ => exact ⟨3, false, [(10, 30)], 0, 2, 0, a2, c2, nr1, hT2.below hb34, by refine ⟨?_, ?_, ?_, ?_, ?_, ?_⟩ <;> simp [World.cell?, hG]⟩
    | 2, _ => exact ⟨3, true, [(10, 30)], 10, 3, 0, a3, c3, nr2, hT3.below hb34, by refine ⟨?_, ?_, ?_, ?_, ?_, ?_⟩ <;> simp [World.cell?, hG]⟩
    | 3, _ => exact ⟨7, true, [], 0, 0, 4, none, 0, nr3, ⟨by decide, .inl ⟨rfl, _, _, rfl⟩⟩, by refine ⟨?_, ?_, ?_, ?_, ?_, ?_⟩ <;> simp [World.cell?, hG]⟩
  go_wp2_with fail
  rw [← hW4, ← hT]
  clear hW4 hG hb34 hT1 hT2 hT3 hbw3
  have HR := Lib.hid hrows
  clear hrows hT
  go_loopw [23] (fun c wr => ∃ k : Nat, k ≤ 4 ∧ c = .int .i64 k ∧ Below W4.heap.size W4 wr) (fun c _ => 4 - (intOf c).toNat)
  case atStart => exact ⟨0, by omega, rfl, Below.refl _ _⟩
  case round =>
    obtain ⟨k, hk, rfl, hbel⟩ := hrel
    have hws := hbel.size
    by_cases hlt : k < 4
    · obtain ⟨n, sm, P, i, nw, ne, xa, xc, hrow, hWP, c0, c1, c2, c3, c4, c5⟩ := (HR.out k hlt).below (by omega) hbel
      have hPl : P.length ≤ 9223372036854775807 := hWP.1
      have i1 : (0 : Int) ≤ (k : Int) := by omega
      have i2 : (k : Int) < 4 := by omega
      obtain ⟨R, hRe⟩ : ∃ R, R = wr.heap.size := ⟨_, rfl⟩
      obtain ⟨W1, hW1⟩ : ∃ W1, W1 = wr.alloc (.cells #[.int .i64 n, .bool sm, .slice xa P.length xc, .int .i64 i, .int .i64 nw, .int .i64 ne] 40) := ⟨_, rfl⟩
      have hbW1 : Below wr.heap.size wr W1 := by rw [hW1]; exact (Below.refl _ _).alloc (Nat.le_refl _) _
      have hR1 : W1.heap[R]? = some (.cells #[.int .i64 n, .bool sm, .slice xa P.length xc, .int .i64 i, .int .i64 nw, .int .i64 ne] 40) := by rw [hW1, hRe]; exact (MapKept.heap_alloc wr _).1
      have hz1 : W1.heap.size = R + 1 := by rw [hW1, hRe]; simp
      go_wp2_with fail
      rw [← hW1, ← hRe]
      have hWP := hWP.below hbW1
      have hbelW1 : Below W4.heap.size W4 W1 := hbel.trans (hbW1.mono hws)
      rw [← hRe] at hws
      clear hW1 hRe hbW1 c0 c1 c2 c3 c4 c5
      refine wp_region_held_drew (S := fun w' => w'.heap[R]? = some (.cells #[.int .i64 n, .bool sm, .slice xa P.length xc, .int .i64 i, .int .i64 nw, .int .i64 ne] 40)) (by kernel_rfl) hR1 (fun hHeld => ?_)
      obtain ⟨X0, hX0⟩ : ∃ X0, X0 = W1.drew := ⟨_, rfl⟩
      have hbX : Below W1.heap.size W1 X0 := by rw [hX0]; exact (Below.refl _ _).drew
      have hR := Lib.hid hHeld
      rw [← hX0] at hR ⊢
      have hzX : W1.heap.size ≤ X0.heap.size := hbX.size
      clear hX0 hHeld
      refine wpAnyH_take (i := 1) (oi := _) (v := ?_) rfl (by kernel_rfl) (by kernel_rfl) (by kernel_rfl) (fun _ _ _ h => h) (Or.inl ⟨by rfl, ?_⟩) hR.out ?_
      rotate_left
      · intro w1 hSw
        replace hSw : w1.heap[R]? = some (.cells #[.int .i64 n, .bool sm, .slice xa P.length xc, .int .i64 i, .int .i64 nw, .int .i64 ne] 40) := hSw
        obtain ⟨q0, q1, q2, q3, q4, q5⟩ := rcells6 hSw
        clear hSw
        go_simp; with_reducible rfl
      simp only [List.getElem_toArray, List.getElem_cons_succ, List.getElem_cons_zero, Act.put, List.setIfInBounds_toArray, List.set_cons_zero, List.set_cons_succ]
      refine wpAnyH_take (i := 2) (oi := _) (v := ?_) rfl (by kernel_rfl) (by kernel_rfl) (by kernel_rfl) (fun _ _ _ h => h) (Or.inl ⟨by rfl, ?_⟩) hR.out ?_
      rotate_left
      · intro w1 hSw
        replace hSw : w1.heap[R]? = some (.cells #[.int .i64 n, .bool sm, .slice xa P.length xc, .int .i64 i, .int .i64 nw, .int .i64 ne] 40) := hSw
        obtain ⟨q0, q1, q2, q3, q4, q5⟩ := rcells6 hSw
        clear hSw
        go_simp; with_reducible rfl
      simp only [List.getElem_toArray, List.getElem_cons_succ, List.getElem_cons_zero, Act.put, List.setIfInBounds_toArray, List.set_cons_zero, List.set_cons_succ]
      refine wpAnyH_take (i := 3) (oi := _) (v := ?_) rfl (by kernel_rfl) (by kernel_rfl) (by kernel_rfl) (fun _ _ _ h => h) (Or.inl ⟨by rfl, ?_⟩) hR.out ?_
      rotate_left
      · intro w1 hSw
        replace hSw : w1.heap[R]? = some (.cells #[.int .i64 n, .bool sm, .slice xa P.length xc, .int .i64 i, .int .i64 nw, .int .i64 ne] 40) := hSw
        obtain ⟨q0, q1, q2, q3, q4, q5⟩ := rcells6 hSw
        clear hSw
        go_simp; with_reducible rfl
      simp only [List.getElem_toArray, List.getElem_cons_succ, List.getElem_cons_zero, Act.put, List.setIfInBounds_toArray, List.set_cons_zero, List.set_cons_succ]
      refine wpAnyH_take (i := 4) (oi := _) (v := ?_) rfl (by kernel_rfl) (by kernel_rfl) (by kernel_rfl) (fun _ _ _ h => h) (Or.inl ⟨by rfl, ?_⟩) hR.out ?_
      rotate_left
      · intro w1 hSw
        replace hSw : w1.heap[R]? = some (.cells #[.int .i64 n, .bool sm, .slice xa P.length xc, .int .i64 i, .int .i64 nw, .int .i64 ne] 40) := hSw
        obtain ⟨q0, q1, q2, q3, q4, q5⟩ := rcells6 hSw
        clear hSw
        go_simp; with_reducible rfl
      simp only [List.getElem_toArray, List.getElem_cons_succ, List.getElem_cons_zero, Act.put, List.setIfInBounds_toArray, List.set_cons_zero, List.set_cons_succ]
      refine wpAnyH_all (rs := [0, 11]) (by kernel_rfl) (by simp) ?_
      intro i hi
      rcases (by simpa using hi : i = 0 ∨ i = 11) with rfl | rfl <;> clear hi
      ·
        refine wpOp_step rfl (fun K3 hK3 => ?_)
        have HK3 := Lib.hid hK3
        clear hK3
        rw [if_pos (by rfl)]
        go_simp
        refine (shelf_any _).mono ?_
        rintro e x1 ⟨b, rfl, hS0, hXY, hbl0⟩
        replace hR := Lib.hid ((hXY.block R (by omega)).trans hR.out)
        replace hbX := hbX.trans (hXY.mono hzX)
        replace hzX := hbX.size
        clear hXY
        have hS := hS0
        have hbl := hbl0
        clear hS0 hbl0
        refine HK3.out _ _ ⟨hR.out, ?_⟩
        clear HK3 K3
        try simp only [List.getElem_toArray, List.getElem_cons_succ, List.getElem_cons_zero, Act.put, List.setIfInBounds_toArray, List.set_cons_zero, List.set_cons_succ]
        refine wpAnyH_all (rs := [5, 11]) (by kernel_rfl) (by simp) ?_
        intro i hi
        rcases (by simpa using hi : i = 5 ∨ i = 11) with rfl | rfl <;> clear hi
        ·
          refine wpOp_step rfl (fun K3 hK3 => ?_)
          have HK3 := Lib.hid hK3
          clear hK3
          rw [if_pos (by rfl)]
          go_simp
          refine (want_any n sm _).mono ?_
          rintro e x2 ⟨rfl, hXY⟩
          replace hR := Lib.hid ((hXY.block R (by omega)).trans hR.out)
          replace hS := hS.below hXY
          replace hbl := Nat.lt_of_lt_of_le hbl hXY.size
          replace hbX := hbX.trans (hXY.mono hzX)
          replace hzX := hbX.size
          clear hXY
          refine HK3.out _ _ ⟨hR.out, ?_⟩
          clear HK3 K3
          try simp only [List.getElem_toArray, List.getElem_cons_succ, List.getElem_cons_zero, Act.put, List.setIfInBounds_toArray, List.set_cons_zero, List.set_cons_succ]
          refine wpAnyH_all (rs := [6, 11]) (by kernel_rfl) (by simp) ?_
          intro i hi
          rcases (by simpa using hi : i = 6 ∨ i = 11) with rfl | rfl <;> clear hi
          ·
            refine wpOp_step rfl (fun K3 hK3 => ?_)
            have HK3 := Lib.hid hK3
            clear hK3
            rw [if_pos (by rfl)]
            go_simp
            refine (chose_row hrow hS hbl).mono ?_
            rintro e x3 ⟨ra, rc, rfl, hQ0, hXY, hQn0⟩
            have hQn : P = [] ∨ ∃ b off, ra = some ⟨b, off, none⟩ ∧ b < x3.heap.size := hQn0.imp id (fun ⟨b, off, h1, h2, h3⟩ => ⟨b, off, h1, by omega⟩)
            clear hQn0
            replace hR := Lib.hid ((hXY.block R (by omega)).trans hR.out)
            replace hS := hS.below hXY
            replace hbl := Nat.lt_of_lt_of_le hbl hXY.size
            replace hbX := hbX.trans (hXY.mono hzX)
            replace hzX := hbX.size
            clear hXY
            have hQ := hQ0
            clear hQ0
            refine HK3.out _ _ ⟨hR.out, ?_⟩
            clear HK3 K3
            try simp only [List.getElem_toArray, List.getElem_cons_succ, List.getElem_cons_zero, Act.put, List.setIfInBounds_toArray, List.set_cons_zero, List.set_cons_succ]
            refine wpAnyH_take (i := 7) (oi := _) (v := ?_) rfl (by kernel_rfl) (by kernel_rfl) (by kernel_rfl) (fun _ _ _ h => h) (Or.inl ⟨by rfl, ?_⟩) hR.out ?_
            rotate_left
            · intro w1 hSw
              replace hSw : w1.heap[R]? = some (.cells #[.int .i64 n, .bool sm, .slice xa P.length xc, .int .i64 i, .int .i64 nw, .int .i64 ne] 40) := hSw
              obtain ⟨q0, q1, q2, q3, q4, q5⟩ := rcells6 hSw
              clear hSw
              go_simp; with_reducible rfl
            simp only [List.getElem_toArray, List.getElem_cons_succ, List.getElem_cons_zero, Act.put, List.setIfInBounds_toArray, List.set_cons_zero, List.set_cons_succ]
            refine wpAnyH_take (i := 8) (oi := _) (v := ?_) rfl (by kernel_rfl) (by kernel_rfl) (by kernel_rfl) (fun _ _ _ h => h) (Or.inl ⟨by rfl, ?_⟩) hR.out ?_
            rotate_left
            · intro w1 hSw
              replace hSw : w1.heap[R]? = some (.cells #[.int .i64 n, .bool sm, .slice xa P.length xc, .int .i64 i, .int .i64 nw, .int .i64 ne] 40) := hSw
              obtain ⟨q0, q1, q2, q3, q4, q5⟩ := rcells6 hSw
              clear hSw
              go_simp; with_reducible rfl
            simp only [List.getElem_toArray, List.getElem_cons_succ, List.getElem_cons_zero, Act.put, List.setIfInBounds_toArray, List.set_cons_zero, List.set_cons_succ]
            refine wpAnyH_take (i := 9) (oi := _) (v := ?_) rfl (by kernel_rfl) (by kernel_rfl) (by kernel_rfl) (fun _ _ _ h => h) (Or.inl ⟨by rfl, ?_⟩) hR.out ?_
            rotate_left
            · intro w1 hSw
              replace hSw : w1.heap[R]? = some (.cells #[.int .i64 n, .bool sm, .slice xa P.length xc, .int .i64 i, .int .i64 nw, .int .i64 ne] 40) := hSw
              obtain ⟨q0, q1, q2, q3, q4, q5⟩ := rcells6 hSw
              clear hSw
              go_simp; with_reducible rfl
            simp only [List.getElem_toArray, List.getElem_cons_succ, List.getElem_cons_zero, Act.put, List.setIfInBounds_toArray, List.set_cons_zero, List.set_cons_succ]
            refine wpAnyH_take (i := 10) (oi := _) (v := ?_) rfl (by kernel_rfl) (by kernel_rfl) (by kernel_rfl) (fun _ _ _ h => h) (Or.inl ⟨by rfl, ?_⟩) hR.out ?_
            rotate_left
            · intro w1 hSw
              replace hSw : w1.heap[R]? = some (.cells #[.int .i64 n, .bool sm, .slice xa P.length xc, .int .i64 i, .int .i64 nw, .int .i64 ne] 40) := hSw
              obtain ⟨q0, q1, q2, q3, q4, q5⟩ := rcells6 hSw
              clear hSw
              go_simp; with_reducible rfl
            simp only [List.getElem_toArray, List.getElem_cons_succ, List.getElem_cons_zero, Act.put, List.setIfInBounds_toArray, List.set_cons_zero, List.set_cons_succ]
            refine wpAnyH_all (rs := [11]) (by kernel_rfl) (by simp) ?_
            intro i hi; obtain rfl := List.mem_singleton.1 hi; clear hi
            refine wpOp_step rfl (fun K3 hK3 => ?_)
            have HK3 := Lib.hid hK3
            clear hK3
            rw [if_pos (by rfl)]
            go_simp
            obtain ⟨B3, eB3⟩ : ∃ B3, B3 = x3.heap.size := ⟨_, rfl⟩
            obtain ⟨x4, eY⟩ : ∃ Y, Y = x3.alloc (.cells #[.slice none 0 0, .int .i64 0] 27) := ⟨_, rfl⟩
            have hXY : Below x3.heap.size x3 x4 := by rw [eY]; exact (Below.refl _ _).alloc (Nat.le_refl _) _
            have hA0 : x4.heap[B3]? = some (.cells #[.slice none 0 0, .int .i64 0] 27) := by rw [eY, eB3]; exact (MapKept.heap_alloc x3 _).1
            have hz0 : x4.heap.size = B3 + 1 := by rw [eY, eB3]; simp
            rw [← eY, ← eB3]
            have hB3 : W1.heap.size ≤ B3 := by rw [eB3]; exact hzX
            replace hQn : P = [] ∨ ∃ b off, ra = some ⟨b, off, none⟩ ∧ b ≠ B3 := hQn.imp id (fun ⟨b, off, h1, h2⟩ => ⟨b, off, h1, by omega⟩)
            clear eY eB3
            replace hR := Lib.hid ((hXY.block R (by omega)).trans hR.out)
            replace hS := hS.below hXY
            replace hbl := Nat.lt_of_lt_of_le hbl hXY.size
            replace hQ := hQ.below hXY
            replace hbX := hbX.trans (hXY.mono hzX)
            replace hzX := hbX.size
            clear hXY
            have hA := Lib.hid hA0
            have hB3' : B3 < x4.heap.size := by omega
            clear hA0 hz0
            refine HK3.out _ _ ⟨hR.out, ?_⟩
            clear HK3 K3
            try simp only [List.getElem_toArray, List.getElem_cons_succ, List.getElem_cons_zero, Act.put, List.setIfInBounds_toArray, List.set_cons_zero, List.set_cons_succ]
            have t0 : x4.cell? ⟨B3, 0, none⟩ = some (.slice none 0 0) := by have := hA.out; simp [World.cell?, this]
            have t1 : x4.cell? ⟨B3, 1, none⟩ = some (.int .i64 0) := by have := hA.out; simp [World.cell?, this]
            have tf : ∀ o, x4.frozen? ⟨B3, o, none⟩ = false := fun o => by have := hA.out; simp [World.frozen?, this]
            refine wpAnyH_all (rs := [12]) (by kernel_rfl) (by simp) ?_
            intro i hi; obtain rfl := List.mem_singleton.1 hi; clear hi
            refine wpOp_step rfl (fun K3 hK3 => ?_)
            have HK3 := Lib.hid hK3
            clear hK3
            rw [if_pos (by rfl)]
            go_simp
            obtain ⟨Y, hY⟩ : ∃ Y, Y = (x4.setCell ⟨B3, 0, none⟩ (.slice ra P.length rc)).setCell ⟨B3, 1, none⟩ (.int .i64 i) := ⟨_, rfl⟩
            have hbY : Below W1.heap.size W1 Y := by rw [hY]; exact (hbX.setCell hB3 _).setCell hB3 _
            have hFY : Y.heap[B3]? = some (.cells #[.slice ra P.length rc, .int .i64 i] 27) := by rw [hY]; have := heap_set (heap_set hA.out 0 (.slice ra P.length rc)) 1 (.int .i64 i); simpa using this
            have hRY : Y.heap[R]? = some (.cells #[.int .i64 n, .bool sm, .slice xa P.length xc, .int .i64 i, .int .i64 nw, .int .i64 ne] 40) := (hbY.block R (by omega)).trans hR1
            have hQY : WheelsAt Y (.slice ra P.length rc) P := by rw [hY]; exact hQ.apart ((setCell_grown _ ⟨B3, 0, none⟩ _).trans (setCell_grown _ ⟨B3, 1, none⟩ _)) hQn
            rw [← hY]
            clear hY hA hQ hQn hbX t0 t1 tf hS hbl hR
            refine HK3.out _ _ ⟨hRY, ?_⟩
            clear HK3 K3
            try simp only [List.getElem_toArray, List.getElem_cons_succ, List.getElem_cons_zero, Act.put, List.setIfInBounds_toArray, List.set_cons_zero, List.set_cons_succ]
            refine wpAnyH_take (i := 13) (oi := _) (v := ?_) rfl (by kernel_rfl) (by kernel_rfl) (by kernel_rfl) (fun _ _ _ h => h) (Or.inl ⟨by rfl, ?_⟩) hRY ?_
            rotate_left
            · intro w1 hSw
              replace hSw : w1.heap[R]? = some (.cells #[.int .i64 n, .bool sm, .slice xa P.length xc, .int .i64 i, .int .i64 nw, .int .i64 ne] 40) := hSw
              obtain ⟨q0, q1, q2, q3, q4, q5⟩ := rcells6 hSw
              clear hSw
              go_simp; with_reducible rfl
            simp only [List.getElem_toArray, List.getElem_cons_succ, List.getElem_cons_zero, Act.put, List.setIfInBounds_toArray, List.set_cons_zero, List.set_cons_succ]
            refine wpAnyH_take (i := 14) (oi := _) (v := ?_) rfl (by kernel_rfl) (by kernel_rfl) (by kernel_rfl) (fun _ _ _ h => h) (Or.inl ⟨by rfl, ?_⟩) hRY ?_
            rotate_left
            · intro w1 hSw
              replace hSw : w1.heap[R]? = some (.cells #[.int .i64 n, .bool sm, .slice xa P.length xc, .int .i64 i, .int .i64 nw, .int .i64 ne] 40) := hSw
              obtain ⟨q0, q1, q2, q3, q4, q5⟩ := rcells6 hSw
              clear hSw
              go_simp; with_reducible rfl
            simp only [List.getElem_toArray, List.getElem_cons_succ, List.getElem_cons_zero, Act.put, List.setIfInBounds_toArray, List.set_cons_zero, List.set_cons_succ]
            refine wpAnyH_done (by kernel_rfl) ?_ _
            have hWPY := hWP.below hbY
            have hzY := hbY.size
            obtain ⟨q0, q1, q2, q3, q4, q5⟩ := rcells6 hRY
            obtain ⟨e0, e1⟩ := tcells hFY
            go_wp2_with fail
            have hsm := same_any P P (.slice ra P.length rc) (.slice xa P.length xc) i i Y hQY hWPY
            rw [sameB_self] at hsm
            refine hsm.mono ?_
            rintro e Z ⟨rfl, hbZ⟩
            clear q0 q1 q2 q3 q4 q5 e0 e1 hsm hQY hWPY
            obtain ⟨q0, q1, q2, q3, q4, q5⟩ := rcells6 ((hbZ.block R (by omega)).trans hRY)
            clear hRY hFY
            go_wp2
            go_roundw
            case rel => exact ⟨k + 1, by omega, by go_num, (hbelW1.trans (hbY.mono (by omega))).trans (hbZ.mono (by omega))⟩
            case measure => simp [intOf]; omega
          ·
            refine wpOp_step rfl (fun K3 hK3 => ?_)
            have HK3 := Lib.hid hK3
            clear hK3
            rw [if_pos (by rfl)]
            go_simp
            obtain ⟨B3, eB3⟩ : ∃ B3, B3 = x2.heap.size := ⟨_, rfl⟩
            obtain ⟨x3, eY⟩ : ∃ Y, Y = x2.alloc (.cells #[.slice none 0 0, .int .i64 0] 27) := ⟨_, rfl⟩
            have hXY : Below x2.heap.size x2 x3 := by rw [eY]; exact (Below.refl _ _).alloc (Nat.le_refl _) _
            have hA0 : x3.heap[B3]? = some (.cells #[.slice none 0 0, .int .i64 0] 27) := by rw [eY, eB3]; exact (MapKept.heap_alloc x2 _).1
            have hz0 : x3.heap.size = B3 + 1 := by rw [eY, eB3]; simp
            rw [← eY, ← eB3]
            have hB3 : W1.heap.size ≤ B3 := by rw [eB3]; exact hzX
            clear eY eB3
            replace hR := Lib.hid ((hXY.block R (by omega)).trans hR.out)
            replace hS := hS.below hXY
            replace hbl := Nat.lt_of_lt_of_le hbl hXY.size
            replace hbX := hbX.trans (hXY.mono hzX)
            replace hzX := hbX.size
            clear hXY
            have hA := Lib.hid hA0
            have hB3' : B3 < x3.heap.size := by omega
            clear hA0 hz0
            refine HK3.out _ _ ⟨hR.out, ?_⟩
            clear HK3 K3
            try simp only [List.getElem_toArray, List.getElem_cons_succ, List.getElem_cons_zero, Act.put, List.setIfInBounds_toArray, List.set_cons_zero, List.set_cons_succ]
            refine wpAnyH_all (rs := [6]) (by kernel_rfl) (by simp) ?_
            intro i hi; obtain rfl := List.mem_singleton.1 hi; clear hi
            refine wpOp_step rfl (fun K3 hK3 => ?_)
            have HK3 := Lib.hid hK3
            clear hK3
            rw [if_pos (by rfl)]
            go_simp
            refine (chose_row hrow hS hbl).mono ?_
            rintro e x4 ⟨ra, rc, rfl, hQ0, hXY, hQn0⟩
            have hQn : P = [] ∨ ∃ b off, ra = some ⟨b, off, none⟩ ∧ b ≠ B3 := hQn0.imp id (fun ⟨b, off, h1, h2, h3⟩ => ⟨b, off, h1, by omega⟩)
            clear hQn0
            replace hR := Lib.hid ((hXY.block R (by omega)).trans hR.out)
            replace hS := hS.below hXY
            replace hbl := Nat.lt_of_lt_of_le hbl hXY.size
            replace hA := Lib.hid ((hXY.block B3 hB3').trans hA.out)
            replace hB3' := Nat.lt_of_lt_of_le hB3' hXY.size
            replace hbX := hbX.trans (hXY.mono hzX)
            replace hzX := hbX.size
            clear hXY
            have hQ := hQ0
            clear hQ0
            refine HK3.out _ _ ⟨hR.out, ?_⟩
            clear HK3 K3
            try simp only [List.getElem_toArray, List.getElem_cons_succ, List.getElem_cons_zero, Act.put, List.setIfInBounds_toArray, List.set_cons_zero, List.set_cons_succ]
            refine wpAnyH_take (i := 7) (oi := _) (v := ?_) rfl (by kernel_rfl) (by kernel_rfl) (by kernel_rfl) (fun _ _ _ h => h) (Or.inl ⟨by rfl, ?_⟩) hR.out ?_
            rotate_left
            · intro w1 hSw
              replace hSw : w1.heap[R]? = some (.cells #[.int .i64 n, .bool sm, .slice xa P.length xc, .int .i64 i, .int .i64 nw, .int .i64 ne] 40) := hSw
              obtain ⟨q0, q1, q2, q3, q4, q5⟩ := rcells6 hSw
              clear hSw
              go_simp; with_reducible rfl
            simp only [List.getElem_toArray, List.getElem_cons_succ, List.getElem_cons_zero, Act.put, List.setIfInBounds_toArray, List.set_cons_zero, List.set_cons_succ]
            refine wpAnyH_take (i := 8) (oi := _) (v := ?_) rfl (by kernel_rfl) (by kernel_rfl) (by kernel_rfl) (fun _ _ _ h => h) (Or.inl ⟨by rfl, ?_⟩) hR.out ?_
            rotate_left
            · intro w1 hSw
              replace hSw : w1.heap[R]? = some (.cells #[.int .i64 n, .bool sm, .slice xa P.length xc, .int .i64 i, .int .i64 nw, .int .i64 ne] 40) := hSw
              obtain ⟨q0, q1, q2, q3, q4, q5⟩ := rcells6 hSw
              clear hSw
              go_simp; with_reducible rfl
            simp only [List.getElem_toArray, List.getElem_cons_succ, List.getElem_cons_zero, Act.put, List.setIfInBounds_toArray, List.set_cons_zero, List.set_cons_succ]
            refine wpAnyH_take (i := 9) (oi := _) (v := ?_) rfl (by kernel_rfl) (by kernel_rfl) (by kernel_rfl) (fun _ _ _ h => h) (Or.inl ⟨by rfl, ?_⟩) hR.out ?_
            rotate_left
            · intro w1 hSw
              replace hSw : w1.heap[R]? = some (.cells #[.int .i64 n, .bool sm, .slice xa P.length xc, .int .i64 i, .int .i64 nw, .int .i64 ne] 40) := hSw
              obtain ⟨q0, q1, q2, q3, q4, q5⟩ := rcells6 hSw
              clear hSw
              go_simp; with_reducible rfl
            simp only [List.getElem_toArray, List.getElem_cons_succ, List.getElem_cons_zero, Act.put, List.setIfInBounds_toArray, List.set_cons_zero, List.set_cons_succ]
            refine wpAnyH_take (i := 10) (oi := _) (v := ?_) rfl (by kernel_rfl) (by kernel_rfl) (by kernel_rfl) (fun _ _ _ h => h) (Or.inl ⟨by rfl, ?_⟩) hR.out ?_
            rotate_left
            · intro w1 hSw
              replace hSw : w1.heap[R]? = some (.cells #[.int .i64 n, .bool sm, .slice xa P.length xc, .int .i64 i, .int .i64 nw, .int .i64 ne] 40) := hSw
              obtain ⟨q0, q1, q2, q3, q4, q5⟩ := rcells6 hSw
              clear hSw
              go_simp; with_reducible rfl
            simp only [List.getElem_toArray, List.getElem_cons_succ, List.getElem_cons_zero, Act.put, List.setIfInBounds_toArray, List.set_cons_zero, List.set_cons_succ]
            have t0 : x4.cell? ⟨B3, 0, none⟩ = some (.slice none 0 0) := by have := hA.out; simp [World.cell?, this]
            have t1 : x4.cell? ⟨B3, 1, none⟩ = some (.int .i64 0) := by have := hA.out; simp [World.cell?, this]
            have tf : ∀ o, x4.frozen? ⟨B3, o, none⟩ = false := fun o => by have := hA.out; simp [World.frozen?, this]
            refine wpAnyH_all (rs := [12]) (by kernel_rfl) (by simp) ?_
            intro i hi; obtain rfl := List.mem_singleton.1 hi; clear hi
            refine wpOp_step rfl (fun K3 hK3 => ?_)
            have HK3 := Lib.hid hK3
            clear hK3
            rw [if_pos (by rfl)]
            go_simp
            obtain ⟨Y, hY⟩ : ∃ Y, Y = (x4.setCell ⟨B3, 0, none⟩ (.slice ra P.length rc)).setCell ⟨B3, 1, none⟩ (.int .i64 i) := ⟨_, rfl⟩
            have hbY : Below W1.heap.size W1 Y := by rw [hY]; exact (hbX.setCell hB3 _).setCell hB3 _
            have hFY : Y.heap[B3]? = some (.cells #[.slice ra P.length rc, .int .i64 i] 27) := by rw [hY]; have := heap_set (heap_set hA.out 0 (.slice ra P.length rc)) 1 (.int .i64 i); simpa using this
            have hRY : Y.heap[R]? = some (.cells #[.int .i64 n, .bool sm, .slice xa P.length xc, .int .i64 i, .int .i64 nw, .int .i64 ne] 40) := (hbY.block R (by omega)).trans hR1
            have hQY : WheelsAt Y (.slice ra P.length rc) P := by rw [hY]; exact hQ.apart ((setCell_grown _ ⟨B3, 0, none⟩ _).trans (setCell_grown _ ⟨B3, 1, none⟩ _)) hQn
            rw [← hY]
            clear hY hA hQ hQn hbX t0 t1 tf hS hbl hR
            refine HK3.out _ _ ⟨hRY, ?_⟩
            clear HK3 K3
            try simp only [List.getElem_toArray, List.getElem_cons_succ, List.getElem_cons_zero, Act.put, List.setIfInBounds_toArray, List.set_cons_zero, List.set_cons_succ]
            refine wpAnyH_take (i := 13) (oi := _) (v := ?_) rfl (by kernel_rfl) (by kernel_rfl) (by kernel_rfl) (fun _ _ _ h => h) (Or.inl ⟨by rfl, ?_⟩) hRY ?_
            rotate_left
            · intro w1 hSw
              replace hSw : w1.heap[R]? = some (.cells #[.int .i64 n, .bool sm, .slice xa P.length xc, .int .i64 i, .int .i64 nw, .int .i64 ne] 40) := hSw
              obtain ⟨q0, q1, q2, q3, q4, q5⟩ := rcells6 hSw
              clear hSw
              go_simp; with_reducible rfl
            simp only [List.getElem_toArray, List.getElem_cons_succ, List.getElem_cons_zero, Act.put, List.setIfInBounds_toArray, List.set_cons_zero, List.set_cons_succ]
            refine wpAnyH_take (i := 14) (oi := _) (v := ?_) rfl (by kernel_rfl) (by kernel_rfl) (by kernel_rfl) (fun _ _ _ h => h) (Or.inl ⟨by rfl, ?_⟩) hRY ?_
            rotate_left
            · intro w1 hSw
              replace hSw : w1.heap[R]? = some (.cells #[.int .i64 n, .bool sm, .slice xa P.length xc, .int .i64 i, .int .i64 nw, .int .i64 ne] 40) := hSw
              obtain ⟨q0, q1, q2, q3, q4, q5⟩ := rcells6 hSw
              clear hSw
              go_simp; with_reducible rfl
            simp only [List.getElem_toArray, List.getElem_cons_succ, List.getElem_cons_zero, Act.put, List.setIfInBounds_toArray, List.set_cons_zero, List.set_cons_succ]
            refine wpAnyH_done (by kernel_rfl) ?_ _
            have hWPY := hWP.below hbY
            have hzY := hbY.size
            obtain ⟨q0, q1, q2, q3, q4, q5⟩ := rcells6 hRY
            obtain ⟨e0, e1⟩ := tcells hFY
            go_wp2_with fail
            have hsm := same_any P P (.slice ra P.length rc) (.slice xa P.length xc) i i Y hQY hWPY
            rw [sameB_self] at hsm
            refine hsm.mono ?_
            rintro e Z ⟨rfl, hbZ⟩
            clear q0 q1 q2 q3 q4 q5 e0 e1 hsm hQY hWPY
            obtain ⟨q0, q1, q2, q3, q4, q5⟩ := rcells6 ((hbZ.block R (by omega)).trans hRY)
            clear hRY hFY
            go_wp2
            go_roundw
            case rel => exact ⟨k + 1, by omega, by go_num, (hbelW1.trans (hbY.mono (by omega))).trans (hbZ.mono (by omega))⟩
            case measure => simp [intOf]; omega
        ·
          refine wpOp_step rfl (fun K3 hK3 => ?_)
          have HK3 := Lib.hid hK3
          clear hK3
          rw [if_pos (by rfl)]
          go_simp
          obtain ⟨B3, eB3⟩ : ∃ B3, B3 = x1.heap.size := ⟨_, rfl⟩
          obtain ⟨x2, eY⟩ : ∃ Y, Y = x1.alloc (.cells #[.slice none 0 0, .int .i64 0] 27) := ⟨_, rfl⟩
          have hXY : Below x1.heap.size x1 x2 := by rw [eY]; exact (Below.refl _ _).alloc (Nat.le_refl _) _
          have hA0 : x2.heap[B3]? = some (.cells #[.slice none 0 0, .int .i64 0] 27) := by rw [eY, eB3]; exact (MapKept.heap_alloc x1 _).1
          have hz0 : x2.heap.size = B3 + 1 := by rw [eY, eB3]; simp
          rw [← eY, ← eB3]
          have hB3 : W1.heap.size ≤ B3 := by rw [eB3]; exact hzX
          clear eY eB3
          replace hR := Lib.hid ((hXY.block R (by omega)).trans hR.out)
          replace hS := hS.below hXY
          replace hbl := Nat.lt_of_lt_of_le hbl hXY.size
          replace hbX := hbX.trans (hXY.mono hzX)
          replace hzX := hbX.size
          clear hXY
          have hA := Lib.hid hA0
          have hB3' : B3 < x2.heap.size := by omega
          clear hA0 hz0
          refine HK3.out _ _ ⟨hR.out, ?_⟩
          clear HK3 K3
          try simp only [List.getElem_toArray, List.getElem_cons_succ, List.getElem_cons_zero, Act.put, List.setIfInBounds_toArray, List.set_cons_zero, List.set_cons_succ]
          refine wpAnyH_all (rs := [5]) (by kernel_rfl) (by simp) ?_
          intro i hi; obtain rfl := List.mem_singleton.1 hi; clear hi
          refine wpOp_step rfl (fun K3 hK3 => ?_)
          have HK3 := Lib.hid hK3
          clear hK3
          rw [if_pos (by rfl)]
          go_simp
          refine (want_any n sm _).mono ?_
          rintro e x3 ⟨rfl, hXY⟩
          replace hR := Lib.hid ((hXY.block R (by omega)).trans hR.out)
          replace hS := hS.below hXY
          replace hbl := Nat.lt_of_lt_of_le hbl hXY.size
          replace hA := Lib.hid ((hXY.block B3 hB3').trans hA.out)
          replace hB3' := Nat.lt_of_lt_of_le hB3' hXY.size
          replace hbX := hbX.trans (hXY.mono hzX)
          replace hzX := hbX.size
          clear hXY
          refine HK3.out _ _ ⟨hR.out, ?_⟩
          clear HK3 K3
          try simp only [List.getElem_toArray, List.getElem_cons_succ, List.getElem_cons_zero, Act.put, List.setIfInBounds_toArray, List.set_cons_zero, List.set_cons_succ]
          refine wpAnyH_all (rs := [6]) (by kernel_rfl) (by simp) ?_
          intro i hi; obtain rfl := List.mem_singleton.1 hi; clear hi
          refine wpOp_step rfl (fun K3 hK3 => ?_)
          have HK3 := Lib.hid hK3
          clear hK3
          rw [if_pos (by rfl)]
          go_simp
          refine (chose_row hrow hS hbl).mono ?_
          rintro e x4 ⟨ra, rc, rfl, hQ0, hXY, hQn0⟩
          have hQn : P = [] ∨ ∃ b off, ra = some ⟨b, off, none⟩ ∧ b ≠ B3 := hQn0.imp id (fun ⟨b, off, h1, h2, h3⟩ => ⟨b, off, h1, by omega⟩)
          clear hQn0
          replace hR := Lib.hid ((hXY.block R (by omega)).trans hR.out)
          replace hS := hS.below hXY
          replace hbl := Nat.lt_of_lt_of_le hbl hXY.size
          replace hA := Lib.hid ((hXY.block B3 hB3').trans hA.out)
          replace hB3' := Nat.lt_of_lt_of_le hB3' hXY.size
          replace hbX := hbX.trans (hXY.mono hzX)
          replace hzX := hbX.size
          clear hXY
          have hQ := hQ0
          clear hQ0
          refine HK3.out _ _ ⟨hR.out, ?_⟩
          clear HK3 K3
          try simp only [List.getElem_toArray, List.getElem_cons_succ, List.getElem_cons_zero, Act.put, List.setIfInBounds_toArray, List.set_cons_zero, List.set_cons_succ]
          refine wpAnyH_take (i := 7) (oi := _) (v := ?_) rfl (by kernel_rfl) (by kernel_rfl) (by kernel_rfl) (fun _ _ _ h => h) (Or.inl ⟨by rfl, ?_⟩) hR.out ?_
          rotate_left
          · intro w1 hSw
            replace hSw : w1.heap[R]? = some (.cells #[.int .i64 n, .bool sm, .slice xa P.length xc, .int .i64 i, .int .i64 nw, .int .i64 ne] 40) := hSw
            obtain ⟨q0, q1, q2, q3, q4, q5⟩ := rcells6 hSw
            clear hSw
            go_simp; with_reducible rfl
          simp only [List.getElem_toArray, List.getElem_cons_succ, List.getElem_cons_zero, Act.put, List.setIfInBounds_toArray, List.set_cons_zero, List.set_cons_succ]
          refine wpAnyH_take (i := 8) (oi := _) (v := ?_) rfl (by kernel_rfl) (by kernel_rfl) (by kernel_rfl) (fun _ _ _ h => h) (Or.inl ⟨by rfl, ?_⟩) hR.out ?_
          rotate_left
          · intro w1 hSw
            replace hSw : w1.heap[R]? = some (.cells #[.int .i64 n, .bool sm, .slice xa P.length xc, .int .i64 i, .int .i64 nw, .int .i64 ne] 40) := hSw
            obtain ⟨q0, q1, q2, q3, q4, q5⟩ := rcells6 hSw
            clear hSw
            go_simp; with_reducible rfl
          simp only [List.getElem_toArray, List.getElem_cons_succ, List.getElem_cons_zero, Act.put, List.setIfInBounds_toArray, List.set_cons_zero, List.set_cons_succ]
          refine wpAnyH_take (i := 9) (oi := _) (v := ?_) rfl (by kernel_rfl) (by kernel_rfl) (by kernel_rfl) (fun _ _ _ h => h) (Or.inl ⟨by rfl, ?_⟩) hR.out ?_
          rotate_left
          · intro w1 hSw
            replace hSw : w1.heap[R]? = some (.cells #[.int .i64 n, .bool sm, .slice xa P.length xc, .int .i64 i, .int .i64 nw, .int .i64 ne] 40) := hSw
            obtain ⟨q0, q1, q2, q3, q4, q5⟩ := rcells6 hSw
            clear hSw
            go_simp; with_reducible rfl
          simp only [List.getElem_toArray, List.getElem_cons_succ, List.getElem_cons_zero, Act.put, List.setIfInBounds_toArray, List.set_cons_zero, List.set_cons_succ]
          refine wpAnyH_take (i := 10) (oi := _) (v := ?_) rfl (by kernel_rfl) (by kernel_rfl) (by kernel_rfl) (fun _ _ _ h => h) (Or.inl ⟨by rfl, ?_⟩) hR.out ?_
          rotate_left
          · intro w1 hSw
            replace hSw : w1.heap[R]? = some (.cells #[.int .i64 n, .bool sm, .slice xa P.length xc, .int .i64 i, .int .i64 nw, .int .i64 ne] 40) := hSw
            obtain ⟨q0, q1, q2, q3, q4, q5⟩ := rcells6 hSw
            clear hSw
            go_simp; with_reducible rfl
          simp only [List.getElem_toArray, List.getElem_cons_succ, List.getElem_cons_zero, Act.put, List.setIfInBounds_toArray, List.set_cons_zero, List.set_cons_succ]
          have t0 : x4.cell? ⟨B3, 0, none⟩ = some (.slice none 0 0) := by have := hA.out; simp [World.cell?, this]
          have t1 : x4.cell? ⟨B3, 1, none⟩ = some (.int .i64 0) := by have := hA.out; simp [World.cell?, this]
          have tf : ∀ o, x4.frozen? ⟨B3, o, none⟩ = false := fun o => by have := hA.out; simp [World.frozen?, this]
          refine wpAnyH_all (rs := [12]) (by kernel_rfl) (by simp) ?_
          intro i hi; obtain rfl := List.mem_singleton.1 hi; clear hi
          refine wpOp_step rfl (fun K3 hK3 => ?_)
          have HK3 := Lib.hid hK3
          clear hK3
          rw [if_pos (by rfl)]
          go_simp
          obtain ⟨Y, hY⟩ : ∃ Y, Y = (x4.setCell ⟨B3, 0, none⟩ (.slice ra P.length rc)).setCell ⟨B3, 1, none⟩ (.int .i64 i) := ⟨_, rfl⟩
          have hbY : Below W1.heap.size W1 Y := by rw [hY]; exact (hbX.setCell hB3 _).setCell hB3 _
          have hFY : Y.heap[B3]? = some (.cells #[.slice ra P.length rc, .int .i64 i] 27) := by rw [hY]; have := heap_set (heap_set hA.out 0 (.slice ra P.length rc)) 1 (.int .i64 i); simpa using this
          have hRY : Y.heap[R]? = some (.cells #[.int .i64 n, .bool sm, .slice xa P.length xc, .int .i64 i, .int .i64 nw, .int .i64 ne] 40) := (hbY.block R (by omega)).trans hR1
          have hQY : WheelsAt Y (.slice ra P.length rc) P := by rw [hY]; exact hQ.apart ((setCell_grown _ ⟨B3, 0, none⟩ _).trans (setCell_grown _ ⟨B3, 1, none⟩ _)) hQn
          rw [← hY]
          clear hY hA hQ hQn hbX t0 t1 tf hS hbl hR
          refine HK3.out _ _ ⟨hRY, ?_⟩
          clear HK3 K3
          try simp only [List.getElem_toArray, List.getElem_cons_succ, List.getElem_cons_zero, Act.put, List.setIfInBounds_toArray, List.set_cons_zero, List.set_cons_succ]
          refine wpAnyH_take (i := 13) (oi := _) (v := ?_) rfl (by kernel_rfl) (by kernel_rfl) (by kernel_rfl) (fun _ _ _ h => h) (Or.inl ⟨by rfl, ?_⟩) hRY ?_
          rotate_left
          · intro w1 hSw
            replace hSw : w1.heap[R]? = some (.cells #[.int .i64 n, .bool sm, .slice xa P.length xc, .int .i64 i, .int .i64 nw, .int .i64 ne] 40) := hSw
            obtain ⟨q0, q1, q2, q3, q4, q5⟩ := rcells6 hSw
            clear hSw
            go_simp; with_reducible rfl
          simp only [List.getElem_toArray, List.getElem_cons_succ, List.getElem_cons_zero, Act.put, List.setIfInBounds_toArray, List.set_cons_zero, List.set_cons_succ]
          refine wpAnyH_take (i := 14) (oi := _) (v := ?_) rfl (by kernel_rfl) (by kernel_rfl) (by kernel_rfl) (fun _ _ _ h => h) (Or.inl ⟨by rfl, ?_⟩) hRY ?_
          rotate_left
          · intro w1 hSw
            replace hSw : w1.heap[R]? = some (.cells #[.int .i64 n, .bool sm, .slice xa P.length xc, .int .i64 i, .int .i64 nw, .int .i64 ne] 40) := hSw
            obtain ⟨q0, q1, q2, q3, q4, q5⟩ := rcells6 hSw
            clear hSw
            go_simp; with_reducible rfl
          simp only [List.getElem_toArray, List.getElem_cons_succ, List.getElem_cons_zero, Act.put, List.setIfInBounds_toArray, List.set_cons_zero, List.set_cons_succ]
          refine wpAnyH_done (by kernel_rfl) ?_ _
          have hWPY := hWP.below hbY
          have hzY := hbY.size
          obtain ⟨q0, q1, q2, q3, q4, q5⟩ := rcells6 hRY
          obtain ⟨e0, e1⟩ := tcells hFY
          go_wp2_with fail
          have hsm := same_any P P (.slice ra P.length rc) (.slice xa P.length xc) i i Y hQY hWPY
          rw [sameB_self] at hsm
          refine hsm.mono ?_
          rintro e Z ⟨rfl, hbZ⟩
          clear q0 q1 q2 q3 q4 q5 e0 e1 hsm hQY hWPY
          obtain ⟨q0, q1, q2, q3, q4, q5⟩ := rcells6 ((hbZ.block R (by omega)).trans hRY)
          clear hRY hFY
          go_wp2
          go_roundw
          case rel => exact ⟨k + 1, by omega, by go_num, (hbelW1.trans (hbY.mono (by omega))).trans (hbZ.mono (by omega))⟩
          case measure => simp [intOf]; omega
      ·
        refine wpOp_step rfl (fun K3 hK3 => ?_)
        have HK3 := Lib.hid hK3
        clear hK3
        rw [if_pos (by rfl)]
        go_simp
        obtain ⟨B3, eB3⟩ : ∃ B3, B3 = X0.heap.size := ⟨_, rfl⟩
        obtain ⟨x1, eY⟩ : ∃ Y, Y = X0.alloc (.cells #[.slice none 0 0, .int .i64 0] 27) := ⟨_, rfl⟩
        have hXY : Below X0.heap.size X0 x1 := by rw [eY]; exact (Below.refl _ _).alloc (Nat.le_refl _) _
        have hA0 : x1.heap[B3]? = some (.cells #[.slice none 0 0, .int .i64 0] 27) := by rw [eY, eB3]; exact (MapKept.heap_alloc X0 _).1
        have hz0 : x1.heap.size = B3 + 1 := by rw [eY, eB3]; simp
        rw [← eY, ← eB3]
        have hB3 : W1.heap.size ≤ B3 := by rw [eB3]; exact hzX
        clear eY eB3
        replace hR := Lib.hid ((hXY.block R (by omega)).trans hR.out)
        replace hbX := hbX.trans (hXY.mono hzX)
        replace hzX := hbX.size
        clear hXY
        have hA := Lib.hid hA0
        have hB3' : B3 < x1.heap.size := by omega
        clear hA0 hz0
        refine HK3.out _ _ ⟨hR.out, ?_⟩
        clear HK3 K3
        try simp only [List.getElem_toArray, List.getElem_cons_succ, List.getElem_cons_zero, Act.put, List.setIfInBounds_toArray, List.set_cons_zero, List.set_cons_succ]
        refine wpAnyH_all (rs := [0]) (by kernel_rfl) (by simp) ?_
        intro i hi; obtain rfl := List.mem_singleton.1 hi; clear hi
        refine wpOp_step rfl (fun K3 hK3 => ?_)
        have HK3 := Lib.hid hK3
        clear hK3
        rw [if_pos (by rfl)]
        go_simp
        refine (shelf_any _).mono ?_
        rintro e x2 ⟨b, rfl, hS0, hXY, hbl0⟩
        replace hR := Lib.hid ((hXY.block R (by omega)).trans hR.out)
        replace hA := Lib.hid ((hXY.block B3 hB3').trans hA.out)
        replace hB3' := Nat.lt_of_lt_of_le hB3' hXY.size
        replace hbX := hbX.trans (hXY.mono hzX)
        replace hzX := hbX.size
        clear hXY
        have hS := hS0
        have hbl := hbl0
        clear hS0 hbl0
        refine HK3.out _ _ ⟨hR.out, ?_⟩
        clear HK3 K3
        try simp only [List.getElem_toArray, List.getElem_cons_succ, List.getElem_cons_zero, Act.put, List.setIfInBounds_toArray, List.set_cons_zero, List.set_cons_succ]
        refine wpAnyH_all (rs := [5]) (by kernel_rfl) (by simp) ?_
        intro i hi; obtain rfl := List.mem_singleton.1 hi; clear hi
        refine wpOp_step rfl (fun K3 hK3 => ?_)
        have HK3 := Lib.hid hK3
        clear hK3
        rw [if_pos (by rfl)]
        go_simp
        refine (want_any n sm _).mono ?_
        rintro e x3 ⟨rfl, hXY⟩
        replace hR := Lib.hid ((hXY.block R (by omega)).trans hR.out)
        replace hS := hS.below hXY
        replace hbl := Nat.lt_of_lt_of_le hbl hXY.size
        replace hA := Lib.hid ((hXY.block B3 hB3').trans hA.out)
        replace hB3' := Nat.lt_of_lt_of_le hB3' hXY.size
        replace hbX := hbX.trans (hXY.mono hzX)
        replace hzX := hbX.size
        clear hXY
        refine HK3.out _ _ ⟨hR.out, ?_⟩
        clear HK3 K3
        try simp only [List.getElem_toArray, List.getElem_cons_succ, List.getElem_cons_zero, Act.put, List.setIfInBounds_toArray, List.set_cons_zero, List.set_cons_succ]
        refine wpAnyH_all (rs := [6]) (by kernel_rfl) (by simp) ?_
        intro i hi; obtain rfl := List.mem_singleton.1 hi; clear hi
        refine wpOp_step rfl (fun K3 hK3 => ?_)
        have HK3 := Lib.hid hK3
        clear hK3
        rw [if_pos (by rfl)]
        go_simp
        refine (chose_row hrow hS hbl).mono ?_
        rintro e x4 ⟨ra, rc, rfl, hQ0, hXY, hQn0⟩
        have hQn : P = [] ∨ ∃ b off, ra = some ⟨b, off, none⟩ ∧ b ≠ B3 := hQn0.imp id (fun ⟨b, off, h1, h2, h3⟩ => ⟨b, off, h1, by omega⟩)
        clear hQn0
        replace hR := Lib.hid ((hXY.block R (by omega)).trans hR.out)
        replace hS := hS.below hXY
        replace hbl := Nat.lt_of_lt_of_le hbl hXY.size
        replace hA := Lib.hid ((hXY.block B3 hB3').trans hA.out)
        replace hB3' := Nat.lt_of_lt_of_le hB3' hXY.size
        replace hbX := hbX.trans (hXY.mono hzX)
        replace hzX := hbX.size
        clear hXY
        have hQ := hQ0
        clear hQ0
        refine HK3.out _ _ ⟨hR.out, ?_⟩
        clear HK3 K3
        try simp only [List.getElem_toArray, List.getElem_cons_succ, List.getElem_cons_zero, Act.put, List.setIfInBounds_toArray, List.set_cons_zero, List.set_cons_succ]
        refine wpAnyH_take (i := 7) (oi := _) (v := ?_) rfl (by kernel_rfl) (by kernel_rfl) (by kernel_rfl) (fun _ _ _ h => h) (Or.inl ⟨by rfl, ?_⟩) hR.out ?_
        rotate_left
        · intro w1 hSw
          replace hSw : w1.heap[R]? = some (.cells #[.int .i64 n, .bool sm, .slice xa P.length xc, .int .i64 i, .int .i64 nw, .int .i64 ne] 40) := hSw
          obtain ⟨q0, q1, q2, q3, q4, q5⟩ := rcells6 hSw
          clear hSw
          go_simp; with_reducible rfl
        simp only [List.getElem_toArray, List.getElem_cons_succ, List.getElem_cons_zero, Act.put, List.setIfInBounds_toArray, List.set_cons_zero, List.set_cons_succ]
        refine wpAnyH_take (i := 8) (oi := _) (v := ?_) rfl (by kernel_rfl) (by kernel_rfl) (by kernel_rfl) (fun _ _ _ h => h) (Or.inl ⟨by rfl, ?_⟩) hR.out ?_
        rotate_left
        · intro w1 hSw
          replace hSw : w1.heap[R]? = some (.cells #[.int .i64 n, .bool sm, .slice xa P.length xc, .int .i64 i, .int .i64 nw, .int .i64 ne] 40) := hSw
          obtain ⟨q0, q1, q2, q3, q4, q5⟩ := rcells6 hSw
          clear hSw
          go_simp; with_reducible rfl
        simp only [List.getElem_toArray, List.getElem_cons_succ, List.getElem_cons_zero, Act.put, List.setIfInBounds_toArray, List.set_cons_zero, List.set_cons_succ]
        refine wpAnyH_take (i := 9) (oi := _) (v := ?_) rfl (by kernel_rfl) (by kernel_rfl) (by kernel_rfl) (fun _ _ _ h => h) (Or.inl ⟨by rfl, ?_⟩) hR.out ?_
        rotate_left
        · intro w1 hSw
          replace hSw : w1.heap[R]? = some (.cells #[.int .i64 n, .bool sm, .slice xa P.length xc, .int .i64 i, .int .i64 nw, .int .i64 ne] 40) := hSw
          obtain ⟨q0, q1, q2, q3, q4, q5⟩ := rcells6 hSw
          clear hSw
          go_simp; with_reducible rfl
        simp only [List.getElem_toArray, List.getElem_cons_succ, List.getElem_cons_zero, Act.put, List.setIfInBounds_toArray, List.set_cons_zero, List.set_cons_succ]
        refine wpAnyH_take (i := 10) (oi := _) (v := ?_) rfl (by kernel_rfl) (by kernel_rfl) (by kernel_rfl) (fun _ _ _ h => h) (Or.inl ⟨by rfl, ?_⟩) hR.out ?_
        rotate_left
        · intro w1 hSw
          replace hSw : w1.heap[R]? = some (.cells #[.int .i64 n, .bool sm, .slice xa P.length xc, .int .i64 i, .int .i64 nw, .int .i64 ne] 40) := hSw
          obtain ⟨q0, q1, q2, q3, q4, q5⟩ := rcells6 hSw
          clear hSw
          go_simp; with_reducible rfl
        simp only [List.getElem_toArray, List.getElem_cons_succ, List.getElem_cons_zero, Act.put, List.setIfInBounds_toArray, List.set_cons_zero, List.set_cons_succ]
        have t0 : x4.cell? ⟨B3, 0, none⟩ = some (.slice none 0 0) := by have := hA.out; simp [World.cell?, this]
        have t1 : x4.cell? ⟨B3, 1, none⟩ = some (.int .i64 0) := by have := hA.out; simp [World.cell?, this]
        have tf : ∀ o, x4.frozen? ⟨B3, o, none⟩ = false := fun o => by have := hA.out; simp [World.frozen?, this]
        refine wpAnyH_all (rs := [12]) (by kernel_rfl) (by simp) ?_
        intro i hi; obtain rfl := List.mem_singleton.1 hi; clear hi
        refine wpOp_step rfl (fun K3 hK3 => ?_)
        have HK3 := Lib.hid hK3
        clear hK3
        rw [if_pos (by rfl)]
        go_simp
        obtain ⟨Y, hY⟩ : ∃ Y, Y = (x4.setCell ⟨B3, 0, none⟩ (.slice ra P.length rc)).setCell ⟨B3, 1, none⟩ (.int .i64 i) := ⟨_, rfl⟩
        have hbY : Below W1.heap.size W1 Y := by rw [hY]; exact (hbX.setCell hB3 _).setCell hB3 _
        have hFY : Y.heap[B3]? = some (.cells #[.slice ra P.length rc, .int .i64 i] 27) := by rw [hY]; have := heap_set (heap_set hA.out 0 (.slice ra P.length rc)) 1 (.int .i64 i); simpa using this
        have hRY : Y.heap[R]? = some (.cells #[.int .i64 n, .bool sm, .slice xa P.length xc, .int .i64 i, .int .i64 nw, .int .i64 ne] 40) := (hbY.block R (by omega)).trans hR1
        have hQY : WheelsAt Y (.slice ra P.length rc) P := by rw [hY]; exact hQ.apart ((setCell_grown _ ⟨B3, 0, none⟩ _).trans (setCell_grown _ ⟨B3, 1, none⟩ _)) hQn
        rw [← hY]
        clear hY hA hQ hQn hbX t0 t1 tf hS hbl hR
        refine HK3.out _ _ ⟨hRY, ?_⟩
        clear HK3 K3
        try simp only [List.getElem_toArray, List.getElem_cons_succ, List.getElem_cons_zero, Act.put, List.setIfInBounds_toArray, List.set_cons_zero, List.set_cons_succ]
        refine wpAnyH_take (i := 13) (oi := _) (v := ?_) rfl (by kernel_rfl) (by kernel_rfl) (by kernel_rfl) (fun _ _ _ h => h) (Or.inl ⟨by rfl, ?_⟩) hRY ?_
        rotate_left
        · intro w1 hSw
          replace hSw : w1.heap[R]? = some (.cells #[.int .i64 n, .bool sm, .slice xa P.length xc, .int .i64 i, .int .i64 nw, .int .i64 ne] 40) := hSw
          obtain ⟨q0, q1, q2, q3, q4, q5⟩ := rcells6 hSw
          clear hSw
          go_simp; with_reducible rfl
        simp only [List.getElem_toArray, List.getElem_cons_succ, List.getElem_cons_zero, Act.put, List.setIfInBounds_toArray, List.set_cons_zero, List.set_cons_succ]
        refine wpAnyH_take (i := 14) (oi := _) (v := ?_) rfl (by kernel_rfl) (by kernel_rfl) (by kernel_rfl) (fun _ _ _ h => h) (Or.inl ⟨by rfl, ?_⟩) hRY ?_
        rotate_left
        · intro w1 hSw
          replace hSw : w1.heap[R]? = some (.cells #[.int .i64 n, .bool sm, .slice xa P.length xc, .int .i64 i, .int .i64 nw, .int .i64 ne] 40) := hSw
          obtain ⟨q0, q1, q2, q3, q4, q5⟩ := rcells6 hSw
          clear hSw
          go_simp; with_reducible rfl
        simp only [List.getElem_toArray, List.getElem_cons_succ, List.getElem_cons_zero, Act.put, List.setIfInBounds_toArray, List.set_cons_zero, List.set_cons_succ]
        refine wpAnyH_done (by kernel_rfl) ?_ _
        have hWPY := hWP.below hbY
        have hzY := hbY.size
        obtain ⟨q0, q1, q2, q3, q4, q5⟩ := rcells6 hRY
        obtain ⟨e0, e1⟩ := tcells hFY
        go_wp2_with fail
        have hsm := same_any P P (.slice ra P.length rc) (.slice xa P.length xc) i i Y hQY hWPY
        rw [sameB_self] at hsm
        refine hsm.mono ?_
        rintro e Z ⟨rfl, hbZ⟩
        clear q0 q1 q2 q3 q4 q5 e0 e1 hsm hQY hWPY
        obtain ⟨q0, q1, q2, q3, q4, q5⟩ := rcells6 ((hbZ.block R (by omega)).trans hRY)
        clear hRY hFY
        go_wp2
        go_roundw
        case rel => exact ⟨k + 1, by omega, by go_num, (hbelW1.trans (hbY.mono (by omega))).trans (hbZ.mono (by omega))⟩
        case measure => simp [intOf]; omega
    · have hbwr : Below w.heap.size w wr := hbw4.trans (hbel.mono hbw4.size)
      have hwwr : w.heap.size ≤ wr.heap.size := hbwr.size
      clear HR hbel hws hz4 hbw4 hw3
      go_wp2_with fail
      refine (shelf_any _).mono ?_
      rintro e w9 ⟨b9, rfl, hS9, hb9, hbl9⟩
      go_wp2_with fail
      refine (want_any 7 true _).mono ?_
      rintro e w10 ⟨rfl, hb10⟩
      have hb8a : Below wr.heap.size wr w10 := hb9.trans (hb10.mono hb9.size)
      have hS10 := hS9.below hb10
      have hbl10 : b9 < w10.heap.size := Nat.lt_of_lt_of_le hbl9 hb10.size
      clear hS9 hb9 hb10 hbl9
      go_wp2_with fail
      refine (train_at 0 [10, 36, 12, 20] (P := [(10, 36), (12, 20)]) (MapKept.heap_alloc w10 _).1 rfl (by rfl) (by decide) (by rfl)).mono ?_
      rintro e w11 ⟨y3, d3, rfl, hT11, hb11⟩
      have hb1011 : Below w10.heap.size w10 w11 := ((Below.refl _ _).alloc (Nat.le_refl _) _).trans (hb11.mono (by simp))
      have hS11 := hS10.below hb1011
      have hbl11 : b9 < w11.heap.size := Nat.lt_of_lt_of_le hbl10 hb1011.size
      have hb811 : Below wr.heap.size wr w11 := hb8a.trans (hb1011.mono hb8a.size)
      clear hb11 hb1011 hS10 hbl10 hb8a
      go_wp2_with fail
      have hbu := build_any shelfL (.slice (some ⟨b9, 0, none⟩) 5 5) 7 1 2 60 true [(10, 36), (12, 20)] (.slice y3 2 d3) 0 w11 hS11 hT11 (by intro b' off n c e; cases e; exact hbl11)
      rw [bu_7] at hbu
      refine hbu.mono ?_
      rintro e w12 ⟨rfl, hb12⟩
      have hb812 : Below wr.heap.size wr w12 := hb811.trans (hb12.mono hb811.size)
      clear hbu hb12 hb811 hS11 hT11 hbl11
      go_wp2_with fail
      refine (train_at 0 [10, 20, 10, 30] (P := [(10, 20), (10, 30)]) (MapKept.heap_alloc w12 _).1 rfl (by rfl) (by decide) (by rfl)).mono ?_
      rintro e w13 ⟨y4, d4, rfl, hT13, hb13⟩
      have hb813 : Below wr.heap.size wr w13 := hb812.trans ((((Below.refl _ _).alloc (Nat.le_refl _) _).trans (hb13.mono (by simp))).mono hb812.size)
      clear hb13 hb812
      go_wp2_with fail
      have hro := rounds_any [(10, 20), (10, 30)] (.slice y4 2 d4) 0 6 w13 hT13
      rw [ro_6] at hro
      refine hro.mono ?_
      rintro e w14 ⟨rfl, hb14⟩
      have hb814 : Below wr.heap.size wr w14 := hb813.trans (hb14.mono hb813.size)
      clear hro hb14 hb813 hT13
      go_wp2_with fail
      refine (alive_any _).mono ?_
      rintro e w15 ⟨rfl, hb15⟩
      go_wp2
      go_ret
      exact ⟨rfl, hbwr.trans ((hb814.trans (hb15.mono hb814.size)).mono hwwr)⟩
end Go.Proofs.Ytoiapnokgpeipaa
