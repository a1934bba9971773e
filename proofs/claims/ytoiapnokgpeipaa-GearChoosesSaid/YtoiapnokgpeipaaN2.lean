/- other: a train by remainders. -/
import Derived.Test.YtoiapnokgpeipaaN1
namespace Go.Proofs.Ytoiapnokgpeipaa
set_option linter.unusedSimpArgs false
open Go.RowKit Go.Maps

def OtherRes (w : World) (e : Ending) (w' : World) : Prop :=
  ∃ (a : Option Addr) (cap : Nat) (P : List (Int × Int)) (i : Int), e = .returned (.agg #[.slice a P.length cap, .int .i64 i]) ∧ P.length ≤ 3 ∧ w'.ownsRow w.heap.size 49 2 (.slice a P.length cap) P.length ((usedP P).map (Value.int .i64)) ∧ Below w.heap.size w w'
theorem otherRes_none (w w' : World) (h : Below w.heap.size w w') : OtherRes w (.returned (.agg #[.slice none 0 0, .int .i64 0])) w' :=
  ⟨none, 0, [], 0, rfl, by simp, World.ownsRow_nil _ _ _ _, h⟩

theorem BytesAt.below {w w' : World} {v : Value} {l : List Nat} (h : BytesAt w v l) (hb : Below w.heap.size w w') : BytesAt w' v l := by
  obtain ⟨h1, h2, h3 | ⟨b, off, cap, rfl, h4, h5, h6, h7⟩⟩ := h
  · exact ⟨h1, h2, .inl h3⟩
  · exact ⟨h1, h2, .inr ⟨b, off, cap, rfl, h4, h5, Nat.lt_of_lt_of_le h6 hb.size, fun i hi => (hb.cell (p := ⟨b, _, none⟩) h6).trans (h7 i hi)⟩⟩

theorem pick_step (X X' : World) (B : Nat) (v v' : Value) (n : Nat) (h : X.heap[B]? = some (.cells #[v] 3)) (e : X' = (X.setCell ⟨B, 0, none⟩ v').drewN n) :
    X'.heap[B]? = some (.cells #[v'] 3) ∧ (∀ b, b ≠ B → X'.heap[b]? = X.heap[b]?) ∧ X'.heap.size = X.heap.size ∧ (∀ base sv k l, B < base → X.ownsRow base 49 2 sv k l → X'.ownsRow base 49 2 sv k l) ∧ (∀ w : World, w.heap.size ≤ B → Below w.heap.size w X → Below w.heap.size w X') := by
  subst e
  refine ⟨by have := heap_set h 0 v'; simpa using this, fun b hb => Below.heap_setCell X _ _ _ hb, by simp, fun base sv k l hlt ho => ?_, fun w hw hbw => below_drewN' (hbw.setCell hw _) n⟩
  have h2 := ho.kept (setCell_grown X ⟨B, 0, none⟩ v') (by
    cases e : sv.ownBlock with
    | none => exact .inl rfl
    | some t => exact .inr (fun e2 => by have := (ho.lt t e).1; have h3 : t = B := Option.some.inj e2; omega))
  exact h2

theorem other_fin (w X : World) (A k gc : Nat) (i : Int) (ga : Option Addr) (v v' : Value) (P : List (Int × Int)) (hA : A = w.heap.size) (hb : Below w.heap.size w X) (hown : X.ownsRow (A + 6) 49 2 (.slice ga k gc) k ((usedP P).map (Value.int .i64))) (hP : P.length = k) (h3 : P.length ≤ 3) :
    OtherRes w (.returned (.agg #[.slice ga k gc, .int .i64 i])) ((X.setCell ⟨A + 1 + 1 + 1, 0, none⟩ v).setCell ⟨A + 1 + 1 + 1, 1, none⟩ v') := by
  refine ⟨ga, gc, P, i, by rw [hP], h3, ?_, (hb.setCell (by simp; omega) _).setCell (by simp; omega) _⟩
  rw [hP]
  refine ownsRow_mono' (base := A + 6) ?_ (by omega)
  refine hown.kept ((setCell_grown _ ⟨A + 1 + 1 + 1, 0, none⟩ _).trans (setCell_grown _ ⟨A + 1 + 1 + 1, 1, none⟩ _)) ?_
  cases e : (Value.slice ga k gc).ownBlock with
  | none => exact .inl rfl
  | some t => exact .inr (fun e2 => by have h4 := (hown.lt t e).1; have h5 : t = A + 1 + 1 + 1 := Option.some.inj e2; omega)

set_option maxRecDepth 100000 in
set_option maxHeartbeats 12800000 in
theorem other_any (S : List (Int × Int)) (L : List Nat) (sv bv : Value) (t r p o : Int) (same : Bool) (w : World) (hS : WheelsAt w sv S) (hL : BytesAt w bv L) (hp : 0 ≤ p ∧ p ≤ 3) :
    Calls Try.prog 28 #[sv, .agg #[.int .i64 t, .int .i64 r, .bool same, .int .i64 p, .int .i64 o], bv] w (OtherRes w) := by
  obtain ⟨j0, hji, hz0, hz1, hz2⟩ := info_parts Try.info49
  obtain ⟨sa, sc, rfl⟩ := hS.shape
  obtain ⟨ba, bc, rfl⟩ := hL.shape
  have hsl : S.length ≤ 9223372036854775807 := hS.1
  have hll : L.length ≤ 9223372036854775807 := hL.1
  by_cases h0 : S.length = 0
  · have d0 : ((S.length : Int) == 0) = true := by rw [beq_iff_eq]; omega
    go_enter Try.func28, Try.ntmps28
    go_wp2
    refine bodyPost_ret (v := .agg #[.slice none 0 0, .int .i64 0]) (by simp [results, Try.results28, go_sem]) rfl (otherRes_none _ _ ?_)
    repeat (first | exact Below.refl _ _ | refine Below.setCell ?_ (by simp; try omega) _ | refine Below.alloc ?_ (by simp; try omega) _)
  have d0 : ((S.length : Int) == 0) = false := by rw [beq_eq_false_iff_ne]; omega
  by_cases h1 : L.length = 0
  · have d1 : ((L.length : Int) == 0) = true := by rw [beq_iff_eq]; omega
    go_enter Try.func28, Try.ntmps28
    go_wp2
    refine bodyPost_ret (v := .agg #[.slice none 0 0, .int .i64 0]) (by simp [results, Try.results28, go_sem]) rfl (otherRes_none _ _ ?_)
    repeat (first | exact Below.refl _ _ | refine Below.setCell ?_ (by simp; try omega) _ | refine Below.alloc ?_ (by simp; try omega) _)
  have d1 : ((L.length : Int) == 0) = false := by rw [beq_eq_false_iff_ne]; omega
  obtain ⟨W1, hW1⟩ : ∃ X, X = w.alloc (.cells #[.slice sa S.length sc] 22) := ⟨_, rfl⟩
  have hz1 : W1.heap.size = w.heap.size + 1 := by rw [hW1]; simp
  have hb1 : Below w.heap.size w W1 := by rw [hW1]; exact ((Below.refl _ _)).alloc (by omega) _
  have c10 : W1.heap[w.heap.size]? = some (.cells #[.slice sa S.length sc] 22) := by rw [hW1]; exact (MapKept.heap_alloc w _).1
  obtain ⟨W2, hW2⟩ : ∃ X, X = W1.alloc (.cells #[.int .i64 t, .int .i64 r, .bool same, .int .i64 p, .int .i64 o] 24) := ⟨_, rfl⟩
  have hz2 : W2.heap.size = W1.heap.size + 1 := by rw [hW2]; simp
  have hb2 : Below w.heap.size w W2 := by rw [hW2]; exact (hb1).alloc (by omega) _
  have c20 : W2.heap[W1.heap.size]? = some (.cells #[.int .i64 t, .int .i64 r, .bool same, .int .i64 p, .int .i64 o] 24) := by rw [hW2]; exact (MapKept.heap_alloc W1 _).1
  have c21 : W2.heap[w.heap.size]? = some (.cells #[.slice sa S.length sc] 22) := by rw [hW2, Below.heap_alloc _ _ _ (by omega)]; exact c10
  obtain ⟨W3, hW3⟩ : ∃ X, X = W2.alloc (.cells #[.slice ba L.length bc] 51) := ⟨_, rfl⟩
  have hz3 : W3.heap.size = W2.heap.size + 1 := by rw [hW3]; simp
  have hb3 : Below w.heap.size w W3 := by rw [hW3]; exact (hb2).alloc (by omega) _
  have c30 : W3.heap[W2.heap.size]? = some (.cells #[.slice ba L.length bc] 51) := by rw [hW3]; exact (MapKept.heap_alloc W2 _).1
  have c31 : W3.heap[w.heap.size]? = some (.cells #[.slice sa S.length sc] 22) := by rw [hW3, Below.heap_alloc _ _ _ (by omega)]; exact c21
  have c32 : W3.heap[W1.heap.size]? = some (.cells #[.int .i64 t, .int .i64 r, .bool same, .int .i64 p, .int .i64 o] 24) := by rw [hW3, Below.heap_alloc _ _ _ (by omega)]; exact c20
  obtain ⟨W4, hW4⟩ : ∃ X, X = W3.alloc (.cells #[.slice none 0 0, .int .i64 0] 27) := ⟨_, rfl⟩
  have hz4 : W4.heap.size = W3.heap.size + 1 := by rw [hW4]; simp
  have hb4 : Below w.heap.size w W4 := by rw [hW4]; exact (hb3).alloc (by omega) _
  have c40 : W4.heap[W3.heap.size]? = some (.cells #[.slice none 0 0, .int .i64 0] 27) := by rw [hW4]; exact (MapKept.heap_alloc W3 _).1
  have c41 : W4.heap[w.heap.size]? = some (.cells #[.slice sa S.length sc] 22) := by rw [hW4, Below.heap_alloc _ _ _ (by omega)]; exact c31
  have c42 : W4.heap[W1.heap.size]? = some (.cells #[.int .i64 t, .int .i64 r, .bool same, .int .i64 p, .int .i64 o] 24) := by rw [hW4, Below.heap_alloc _ _ _ (by omega)]; exact c32
  have c43 : W4.heap[W2.heap.size]? = some (.cells #[.slice ba L.length bc] 51) := by rw [hW4, Below.heap_alloc _ _ _ (by omega)]; exact c30
  obtain ⟨W5, hW5⟩ : ∃ X, X = W4.alloc (.cells #[.slice none 0 0, .int .i64 0] 27) := ⟨_, rfl⟩
  have hz5 : W5.heap.size = W4.heap.size + 1 := by rw [hW5]; simp
  have hb5 : Below w.heap.size w W5 := by rw [hW5]; exact (hb4).alloc (by omega) _
  have c50 : W5.heap[W4.heap.size]? = some (.cells #[.slice none 0 0, .int .i64 0] 27) := by rw [hW5]; exact (MapKept.heap_alloc W4 _).1
  have c51 : W5.heap[w.heap.size]? = some (.cells #[.slice sa S.length sc] 22) := by rw [hW5, Below.heap_alloc _ _ _ (by omega)]; exact c41
  have c52 : W5.heap[W1.heap.size]? = some (.cells #[.int .i64 t, .int .i64 r, .bool same, .int .i64 p, .int .i64 o] 24) := by rw [hW5, Below.heap_alloc _ _ _ (by omega)]; exact c42
  have c53 : W5.heap[W2.heap.size]? = some (.cells #[.slice ba L.length bc] 51) := by rw [hW5, Below.heap_alloc _ _ _ (by omega)]; exact c43
  have c54 : W5.heap[W3.heap.size]? = some (.cells #[.slice none 0 0, .int .i64 0] 27) := by rw [hW5, Below.heap_alloc _ _ _ (by omega)]; exact c40
  obtain ⟨W6, hW6⟩ : ∃ X, X = W5.alloc (.cells #[.int .i64 0] 3) := ⟨_, rfl⟩
  have hz6 : W6.heap.size = W5.heap.size + 1 := by rw [hW6]; simp
  have hb6 : Below w.heap.size w W6 := by rw [hW6]; exact (hb5).alloc (by omega) _
  have c60 : W6.heap[W5.heap.size]? = some (.cells #[.int .i64 0] 3) := by rw [hW6]; exact (MapKept.heap_alloc W5 _).1
  have c61 : W6.heap[w.heap.size]? = some (.cells #[.slice sa S.length sc] 22) := by rw [hW6, Below.heap_alloc _ _ _ (by omega)]; exact c51
  have c62 : W6.heap[W1.heap.size]? = some (.cells #[.int .i64 t, .int .i64 r, .bool same, .int .i64 p, .int .i64 o] 24) := by rw [hW6, Below.heap_alloc _ _ _ (by omega)]; exact c52
  have c63 : W6.heap[W2.heap.size]? = some (.cells #[.slice ba L.length bc] 51) := by rw [hW6, Below.heap_alloc _ _ _ (by omega)]; exact c53
  have c64 : W6.heap[W3.heap.size]? = some (.cells #[.slice none 0 0, .int .i64 0] 27) := by rw [hW6, Below.heap_alloc _ _ _ (by omega)]; exact c54
  have c65 : W6.heap[W4.heap.size]? = some (.cells #[.slice none 0 0, .int .i64 0] 27) := by rw [hW6, Below.heap_alloc _ _ _ (by omega)]; exact c50
  obtain ⟨A, hA⟩ : ∃ A, A = w.heap.size := ⟨_, rfl⟩
  obtain ⟨b2, o2, rfl, _, hy1, hy2, hy3, hyc⟩ := hL.at rfl (by omega)
  obtain ⟨c, hc⟩ : ∃ c, L.getD 0 0 = c := ⟨_, rfl⟩
  have hcb : c ≤ 255 := by rw [← hc]; simp [List.getD, show 0 < L.length by omega]; exact hL.2.1 _ (List.getElem_mem (by omega))
  have hyc0 : w.cell? ⟨b2, o2, none⟩ = some (.int .u8 (c : Int)) := by rw [← hc]; exact hyc 0 (by omega)
  have y0 : W6.cell? ⟨b2, o2, none⟩ = some (.int .u8 (c : Int)) := by rw [hb6.cell (p := ⟨b2, o2, none⟩) hy3, ← hc]; exact hyc 0 (by omega)
  have e1 : W1.heap.size = A + 1 := by omega
  have e2 : W2.heap.size = A + 1 + 1 := by omega
  have e3 : W3.heap.size = A + 1 + 1 + 1 := by omega
  have e4 : W4.heap.size = A + 1 + 1 + 1 + 1 := by omega
  have e5 : W5.heap.size = A + 1 + 1 + 1 + 1 + 1 := by omega
  have e6 : W6.heap.size = A + 6 := by omega
  rw [← hA] at c61
  rw [e1] at c62
  rw [e2] at c63
  rw [e3] at c64
  rw [e4] at c65
  rw [e5] at c60
  clear c10 c20 c21 c30 c31 c32 c40 c41 c42 c43 c50 c51 c52 c53 c54 hb1 hb2 hb3 hb4 hb5 hz1 hz2 hz3 hz4 hz5 hz6 e1 e2 e3 e4 e5
  have hW := Lib.hid (show W6 = _ by rw [hW6, hW5, hW4, hW3, hW2, hW1])
  clear hW1 hW2 hW3 hW4 hW5 hW6
  obtain ⟨q0, q1, q2, q3, q4⟩ : W6.cell? ⟨A + 1, 0, none⟩ = some (.int .i64 t) ∧ W6.cell? ⟨A + 1, 1, none⟩ = some (.int .i64 r) ∧ W6.cell? ⟨A + 1, 2, none⟩ = some (.bool same) ∧ W6.cell? ⟨A + 1, 3, none⟩ = some (.int .i64 p) ∧ W6.cell? ⟨A + 1, 4, none⟩ = some (.int .i64 o) := by refine ⟨?_, ?_, ?_, ?_, ?_⟩ <;> simp [World.cell?, c62]
  have p0 : W6.cell? ⟨A + 1 + 1, 0, none⟩ = some (.slice (some ⟨b2, o2, none⟩) L.length bc) := (one_cell c63).1
  have i0 : (0 : Int) < (L.length : Int) := by omega
  have i1 : IntKind.i64.wrap (c : Int) = (c : Int) := IntWalk.i64_in _ (by omega)
  have i2 : IntKind.i64.wrap (p + 1) = p + 1 := IntWalk.i64_in _ (by omega)
  have i3 : ¬ p + 1 = 0 := by omega
  obtain ⟨m, hm⟩ : ∃ m : Nat, (c : Int).tmod (p + 1) = (m : Int) ∧ m ≤ 3 := by
    have := Int.emod_nonneg (c : Int) i3
    have := Int.emod_lt_of_pos (c : Int) (show 0 < p + 1 by omega)
    refine ⟨((c : Int) % (p + 1)).toNat, ?_, by omega⟩
    rw [Int.tmod_eq_emod_of_nonneg (by omega)]; omega
  obtain ⟨hm, hm3⟩ := hm
  go_enter Try.func28, Try.ntmps28
  go_wp2_with fail
  rw [← hW.out, ← hA]
  have HA := Lib.hid hA
  clear hW hA
  go_quiet (fail)
  go_wp2_with fail
  have hb7 : Below w.heap.size w (W6.drewN nq) := below_drewN' hb6 nq
  have hz7 : A + 6 ≤ (W6.drewN nq).heap.size := by simp; omega
  have hS7 : WheelsAt (W6.drewN nq) (.slice sa S.length sc) S := hS.below hb7
  have hL7 : BytesAt (W6.drewN nq) (.slice (some ⟨b2, o2, none⟩) L.length bc) L := hL.below hb7
  replace c60 : (W6.drewN nq).heap[A + 1 + 1 + 1 + 1 + 1]? = _ := c60
  replace c61 : (W6.drewN nq).heap[A]? = _ := c61
  replace c62 : (W6.drewN nq).heap[A + 1]? = _ := c62
  replace c63 : (W6.drewN nq).heap[A + 1 + 1]? = _ := c63
  replace c64 : (W6.drewN nq).heap[A + 1 + 1 + 1]? = _ := c64
  replace c65 : (W6.drewN nq).heap[A + 1 + 1 + 1 + 1]? = _ := c65
  generalize W6.drewN nq = W7 at *
  go_loopw [28] (fun cc wr => ∃ (k : Nat) (sv : Value) (P : List (Int × Int)), k ≤ m ∧ P.length = k ∧ cc = .int .i64 k ∧ Below w.heap.size w wr ∧ A + 6 ≤ wr.heap.size ∧ wr.heap[A]? = some (.cells #[.slice sa S.length sc] 22) ∧ wr.heap[A + 1 + 1]? = some (.cells #[.slice (some ⟨b2, o2, none⟩) L.length bc] 51) ∧ wr.heap[A + 1 + 1 + 1]? = some (.cells #[.slice none 0 0, .int .i64 0] 27) ∧ wr.heap[A + 1 + 1 + 1 + 1]? = some (.cells #[sv, .int .i64 0] 27) ∧ wr.heap[A + 1 + 1 + 1 + 1 + 1]? = some (.cells #[.int .i64 ((2 * k : Nat) : Int)] 3) ∧ wr.ownsRow (A + 6) 49 2 sv k ((usedP P).map (Value.int .i64))) (fun c _ => m - (intOf c).toNat)
  case atStart => exact ⟨0, _, [], by omega, rfl, rfl, hb7, hz7, c61, c63, c64, c65, c60, World.ownsRow_nil _ _ _ _⟩
  case round =>
    obtain ⟨k, sv, P, hk, hP, rfl, hbel, hwz, d1, d2, d3, hT, d5, hown⟩ := hrel
    by_cases hlt : k < m
    · have hSr := hS.below hbel
      have hLr := hL.below hbel
      have hA' := HA.out
      have n1 : ∀ b off, sa = some ⟨b, off, none⟩ → b ≠ A + 1 + 1 + 1 + 1 + 1 := fun b off e => by
        obtain ⟨b3, o3, h3, _, _, _, h4, _⟩ := hS.at rfl (by omega)
        rw [h3] at e; simp only [Option.some.injEq, Addr.mk.injEq] at e; omega
      have n2 : ∀ b off, some (⟨b2, o2, none⟩ : Addr) = some ⟨b, off, none⟩ → b ≠ A + 1 + 1 + 1 + 1 + 1 := fun b off e => by
        simp only [Option.some.injEq, Addr.mk.injEq] at e; omega
      have hAw : w.heap.size ≤ A + 1 + 1 + 1 + 1 + 1 := by omega
      clear hA'
      go_wp2_with fail
      refine wp_region_last (fun w' => w'.heap[A + 1 + 1 + 1 + 1]? = some (.cells #[sv, .int .i64 0] 27)) 10 (by kernel_rfl) hT (fun hHeld => ?_)
      refine wpLast_take (i := 0) (oi := _) (v := ?_) rfl (by kernel_rfl) (by kernel_rfl) (by decide) (by kernel_rfl) (by kernel_rfl) (fun _ _ _ h => h) (Or.inl ⟨by rfl, ?_⟩) hHeld ?_
      rotate_left
      · intro w1 hSw
        replace hSw : w1.heap[A + 1 + 1 + 1 + 1]? = some (.cells #[sv, .int .i64 0] 27) := hSw
        obtain ⟨e0, e1⟩ : w1.cell? ⟨A + 1 + 1 + 1 + 1, 0, none⟩ = some sv ∧ w1.cell? ⟨A + 1 + 1 + 1 + 1, 1, none⟩ = some (.int .i64 0) := by refine ⟨?_, ?_⟩ <;> simp [World.cell?, hSw]
        clear hSw
        go_simp; with_reducible rfl
      simp only [List.getElem_toArray, List.getElem_cons_succ, List.getElem_cons_zero, Act.put, List.setIfInBounds_toArray, List.set_cons_zero, List.set_cons_succ]
      refine wpLast_take (i := 1) (oi := _) (v := ?_) rfl (by kernel_rfl) (by kernel_rfl) (by decide) (by kernel_rfl) (by kernel_rfl) (fun _ _ _ h => h) (Or.inl ⟨by rfl, ?_⟩) hT ?_
      rotate_left
      · intro w1 hSw
        replace hSw : w1.heap[A + 1 + 1 + 1 + 1]? = some (.cells #[sv, .int .i64 0] 27) := hSw
        obtain ⟨e0, e1⟩ : w1.cell? ⟨A + 1 + 1 + 1 + 1, 0, none⟩ = some sv ∧ w1.cell? ⟨A + 1 + 1 + 1 + 1, 1, none⟩ = some (.int .i64 0) := by refine ⟨?_, ?_⟩ <;> simp [World.cell?, hSw]
        clear hSw
        go_simp; with_reducible rfl
      simp only [List.getElem_toArray, List.getElem_cons_succ, List.getElem_cons_zero, Act.put, List.setIfInBounds_toArray, List.set_cons_zero, List.set_cons_succ]
      refine wpLast_take (i := 2) (oi := _) (v := ?_) rfl (by kernel_rfl) (by kernel_rfl) (by decide) (by kernel_rfl) (by kernel_rfl) (fun _ _ _ h => h) (Or.inl ⟨by rfl, ?_⟩) hT ?_
      rotate_left
      · intro w1 hSw
        replace hSw : w1.heap[A + 1 + 1 + 1 + 1]? = some (.cells #[sv, .int .i64 0] 27) := hSw
        obtain ⟨e0, e1⟩ : w1.cell? ⟨A + 1 + 1 + 1 + 1, 0, none⟩ = some sv ∧ w1.cell? ⟨A + 1 + 1 + 1 + 1, 1, none⟩ = some (.int .i64 0) := by refine ⟨?_, ?_⟩ <;> simp [World.cell?, hSw]
        clear hSw
        go_simp; with_reducible rfl
      simp only [List.getElem_toArray, List.getElem_cons_succ, List.getElem_cons_zero, Act.put, List.setIfInBounds_toArray, List.set_cons_zero, List.set_cons_succ]
      refine wpLast_take (i := 4) (oi := _) (v := ?_) rfl (by kernel_rfl) (by kernel_rfl) (by decide) (by kernel_rfl) (by kernel_rfl) (fun _ _ _ h => h) (Or.inl ⟨by rfl, ?_⟩) hT ?_
      rotate_left
      · intro w1 hSw
        replace hSw : w1.heap[A + 1 + 1 + 1 + 1]? = some (.cells #[sv, .int .i64 0] 27) := hSw
        obtain ⟨e0, e1⟩ : w1.cell? ⟨A + 1 + 1 + 1 + 1, 0, none⟩ = some sv ∧ w1.cell? ⟨A + 1 + 1 + 1 + 1, 1, none⟩ = some (.int .i64 0) := by refine ⟨?_, ?_⟩ <;> simp [World.cell?, hSw]
        clear hSw
        go_simp; with_reducible rfl
      simp only [List.getElem_toArray, List.getElem_cons_succ, List.getElem_cons_zero, Act.put, List.setIfInBounds_toArray, List.set_cons_zero, List.set_cons_succ]
      refine wpLast_ready (rs := [3]) (by kernel_rfl) (by simp) ?_
      intro i hi; obtain rfl := List.mem_singleton.1 hi; clear hi
      refine wpOp_step rfl (fun K3 hK3 => ?_)
      have HK3 := Lib.hid hK3
      clear hK3
      rw [if_pos (by rfl)]
      go_simp
      refine (pick_any S L sa (some ⟨b2, o2, none⟩) sc bc (2 * k) (A + 1 + 1 + 1 + 1 + 1) A (A + 1 + 1) wr.drew d5 d1 d2 (hS.below hbel.drew) (hL.below hbel.drew) (by omega) (by omega) (by omega) n1 n2 (by omega) (by omega)).mono ?_
      rintro e wp ⟨x0, nn0, rfl, hN⟩
      obtain ⟨f5, ff, fz, fo, fb⟩ := pick_step wr.drew wp _ _ _ nn0 d5 hN
      clear hN
      have d1n : wp.heap[A]? = some (.cells #[.slice sa S.length sc] 22) := (ff _ (by omega)).trans d1
      have d2n : wp.heap[A + 1 + 1]? = some (.cells #[.slice (some ⟨b2, o2, none⟩) L.length bc] 51) := (ff _ (by omega)).trans d2
      have d3n : wp.heap[A + 1 + 1 + 1]? = some (.cells #[.slice none 0 0, .int .i64 0] 27) := (ff _ (by omega)).trans d3
      have hTn : wp.heap[A + 1 + 1 + 1 + 1]? = some (.cells #[sv, .int .i64 0] 27) := (ff _ (by omega)).trans hT
      have d5n : wp.heap[A + 1 + 1 + 1 + 1 + 1]? = some (.cells #[.int .i64 ((2 * k + 1 : Nat) : Int)] 3) := f5
      have hownn := fo _ _ _ _ (by omega) hown
      have hbeln := fb w hAw hbel.drew
      have hwz0 : A + 6 ≤ wp.heap.size := by rw [fz]; exact hwz
      clear f5 ff fz fo fb
      refine HK3.out _ _ ⟨fun _ => hTn, fun _ => ?_⟩
      clear HK3 K3
      try simp only [List.getElem_toArray, List.getElem_cons_succ, List.getElem_cons_zero, Act.put, List.setIfInBounds_toArray, List.set_cons_zero, List.set_cons_succ]
      refine wpLast_ready (rs := [5]) (by kernel_rfl) (by simp) ?_
      intro i hi; obtain rfl := List.mem_singleton.1 hi; clear hi
      refine wpOp_step rfl (fun K3 hK3 => ?_)
      have HK3 := Lib.hid hK3
      clear hK3
      rw [if_pos (by rfl)]
      go_simp
      refine (pick_any S L sa (some ⟨b2, o2, none⟩) sc bc (2 * k + 1) (A + 1 + 1 + 1 + 1 + 1) A (A + 1 + 1) wp d5n d1n d2n (hS.below hbeln) (hL.below hbeln) (by omega) (by omega) (by omega) n1 n2 (by omega) (by omega)).mono ?_
      rintro e wq ⟨x1, nn1, rfl, hN⟩
      obtain ⟨f5, ff, fz, fo, fb⟩ := pick_step wp wq _ _ _ nn1 d5n hN
      clear hN
      have d1nn : wq.heap[A]? = some (.cells #[.slice sa S.length sc] 22) := (ff _ (by omega)).trans d1n
      have d2nn : wq.heap[A + 1 + 1]? = some (.cells #[.slice (some ⟨b2, o2, none⟩) L.length bc] 51) := (ff _ (by omega)).trans d2n
      have d3nn : wq.heap[A + 1 + 1 + 1]? = some (.cells #[.slice none 0 0, .int .i64 0] 27) := (ff _ (by omega)).trans d3n
      have hTnn : wq.heap[A + 1 + 1 + 1 + 1]? = some (.cells #[sv, .int .i64 0] 27) := (ff _ (by omega)).trans hTn
      have d5nn : wq.heap[A + 1 + 1 + 1 + 1 + 1]? = some (.cells #[.int .i64 ((2 * k + 1 + 1 : Nat) : Int)] 3) := f5
      have hownnn := fo _ _ _ _ (by omega) hownn
      have hbelnn := fb w hAw hbeln
      have hwz1 : A + 6 ≤ wq.heap.size := by rw [fz]; exact hwz0
      clear f5 ff fz fo fb
      refine HK3.out _ _ ⟨fun _ => hTnn, fun _ => ?_⟩
      clear HK3 K3
      try simp only [List.getElem_toArray, List.getElem_cons_succ, List.getElem_cons_zero, Act.put, List.setIfInBounds_toArray, List.set_cons_zero, List.set_cons_succ]
      refine wpLast_take (i := 6) (oi := _) (v := ?_) rfl (by kernel_rfl) (by kernel_rfl) (by decide) (by kernel_rfl) (by kernel_rfl) (fun _ _ _ h => h) (Or.inl ⟨by rfl, ?_⟩) hTnn ?_
      rotate_left
      · intro w1 hSw
        replace hSw : w1.heap[A + 1 + 1 + 1 + 1]? = some (.cells #[sv, .int .i64 0] 27) := hSw
        obtain ⟨e0, e1⟩ : w1.cell? ⟨A + 1 + 1 + 1 + 1, 0, none⟩ = some sv ∧ w1.cell? ⟨A + 1 + 1 + 1 + 1, 1, none⟩ = some (.int .i64 0) := by refine ⟨?_, ?_⟩ <;> simp [World.cell?, hSw]
        clear hSw
        go_simp; with_reducible rfl
      simp only [List.getElem_toArray, List.getElem_cons_succ, List.getElem_cons_zero, Act.put, List.setIfInBounds_toArray, List.set_cons_zero, List.set_cons_succ]
      refine wpLast_ready (rs := [7]) (by kernel_rfl) (by simp) ?_
      intro i hi; obtain rfl := List.mem_singleton.1 hi; clear hi
      refine wpOp_step rfl (fun K3 hK3 => ?_)
      have HK3 := Lib.hid hK3
      clear hK3
      rw [if_pos (by rfl)]
      go_simp
      have a1 : (wq.alloc (.cells #[.int .i64 x0, .int .i64 x1] 49)).heap[A]? = some (.cells #[.slice sa S.length sc] 22) := (Below.heap_alloc wq _ _ (by omega)).trans d1nn
      have a2 : (wq.alloc (.cells #[.int .i64 x0, .int .i64 x1] 49)).heap[A + 1 + 1]? = some (.cells #[.slice (some ⟨b2, o2, none⟩) L.length bc] 51) := (Below.heap_alloc wq _ _ (by omega)).trans d2nn
      have a3 : (wq.alloc (.cells #[.int .i64 x0, .int .i64 x1] 49)).heap[A + 1 + 1 + 1]? = some (.cells #[.slice none 0 0, .int .i64 0] 27) := (Below.heap_alloc wq _ _ (by omega)).trans d3nn
      have a4 : (wq.alloc (.cells #[.int .i64 x0, .int .i64 x1] 49)).heap[A + 1 + 1 + 1 + 1]? = some (.cells #[sv, .int .i64 0] 27) := (Below.heap_alloc wq _ _ (by omega)).trans hTnn
      have a5 : (wq.alloc (.cells #[.int .i64 x0, .int .i64 x1] 49)).heap[A + 1 + 1 + 1 + 1 + 1]? = some (.cells #[.int .i64 ((2 * k + 1 + 1 : Nat) : Int)] 3) := (Below.heap_alloc wq _ _ (by omega)).trans d5nn
      have hd1 := hownnn.alloc (.cells #[.int .i64 x0, .int .i64 x1] 49)
      have hnew : ∀ q u, ([.int .i64 x0, .int .i64 x1] : List Value)[q]? = some u → (wq.alloc (.cells #[.int .i64 x0, .int .i64 x1] 49)).cell? ((⟨wq.heap.size, 0, none⟩ : Addr).add q) = some u := cell_two_new wq (.int .i64 x0) (.int .i64 x1) 49
      have hza : (wq.alloc (.cells #[.int .i64 x0, .int .i64 x1] 49)).heap.size = wq.heap.size + 1 := by simp
      have hB1 : Below w.heap.size w (wq.alloc (.cells #[.int .i64 x0, .int .i64 x1] 49)) := hbelnn.alloc (by omega) _
      have hs1 : (usedP P).map (Value.int .i64) ++ [.int .i64 x0, .int .i64 x1] = (usedP (P ++ [(x0, x1)])).map (Value.int .i64) := by simp [usedP]
      have G1 := Lib.hid hs1.symm
      clear hs1
      refine HK3.out _ _ ⟨fun _ => a4, fun _ => ?_⟩
      clear HK3 K3
      try simp only [List.getElem_toArray, List.getElem_cons_succ, List.getElem_cons_zero, Act.put, List.setIfInBounds_toArray, List.set_cons_zero, List.set_cons_succ]
      generalize (wq.alloc (.cells #[.int .i64 x0, .int .i64 x1] 49)) = wa at *
      generalize (usedP P).map (Value.int .i64) = L1 at *
      have hdl := hd1.lt
      refine wpLast_ready (rs := [8]) (by kernel_rfl) (by simp) ?_
      intro i hi; obtain rfl := List.mem_singleton.1 hi; clear hi
      refine wpOp_step rfl (fun K3 hK3 => ?_)
      have HK3 := Lib.hid hK3
      clear hK3
      rw [if_pos (by rfl)]
      simp only [List.getElem_toArray, List.getElem_cons_succ, List.getElem_cons_zero]
      refine wp_append_lies _ (.tmp 31) (.tmp 37) 25 (by rfl) (A + 6) 49 j0 (.agg #[.int .i64 0, .int .i64 0]) 2 16 Try.underlying25 hji hz0 hz1 hz2 rfl (by decide) sv k L1 (by rfl) hd1 ⟨wq.heap.size, 0, none⟩ 1 1 [.int .i64 x0, .int .i64 x1] (by rfl) rfl hnew (ints_oneCell .i64 [x0, x1]) (by decide) (by unfold maxLen; omega) (by omega) (by omega) _ rfl ?_
      intro g cp w2 hd2 hg2 hat2 hlt2
      have hne2 : ∀ q, sv.ownBlock = some q → A + 6 ≤ q := fun q hq => (hdl q hq).1
      have b1 : w2.heap[A]? = some (.cells #[.slice sa S.length sc] 22) := (hg2.block _ (by omega) (fun e => by have := hne2 _ e.symm; omega)).trans a1
      have b2' : w2.heap[A + 1 + 1]? = some (.cells #[.slice (some ⟨b2, o2, none⟩) L.length bc] 51) := (hg2.block _ (by omega) (fun e => by have := hne2 _ e.symm; omega)).trans a2
      have b3 : w2.heap[A + 1 + 1 + 1]? = some (.cells #[.slice none 0 0, .int .i64 0] 27) := (hg2.block _ (by omega) (fun e => by have := hne2 _ e.symm; omega)).trans a3
      have b4 : w2.heap[A + 1 + 1 + 1 + 1]? = some (.cells #[sv, .int .i64 0] 27) := (hg2.block _ (by omega) (fun e => by have := hne2 _ e.symm; omega)).trans a4
      have b5 : w2.heap[A + 1 + 1 + 1 + 1 + 1]? = some (.cells #[.int .i64 ((2 * k + 1 + 1 : Nat) : Int)] 3) := (hg2.block _ (by omega) (fun e => by have := hne2 _ e.symm; omega)).trans a5
      have hwA := HA.out
      have hB2 : Below w.heap.size w w2 := hB1.grown hg2 (by omega) (fun t ht => by have := hne2 t ht; omega)
      have hz2' := hg2.size
      clear a1 a2 a3 a4 a5 hd1 hnew hB1 hg2 hwA
      refine HK3.out _ _ ⟨fun _ => b4, fun _ => ?_⟩
      clear HK3 K3
      try simp only [List.getElem_toArray, List.getElem_cons_succ, List.getElem_cons_zero, Act.put, List.setIfInBounds_toArray, List.set_cons_zero, List.set_cons_succ]
      refine wpLast_take (i := 9) (oi := _) (v := ?_) rfl (by kernel_rfl) (by kernel_rfl) (by decide) (by kernel_rfl) (by kernel_rfl) (fun _ _ _ h => h) (Or.inl ⟨by rfl, ?_⟩) b4 ?_
      rotate_left
      · intro w1 hSw
        replace hSw : w1.heap[A + 1 + 1 + 1 + 1]? = some (.cells #[sv, .int .i64 0] 27) := hSw
        obtain ⟨e0, e1⟩ : w1.cell? ⟨A + 1 + 1 + 1 + 1, 0, none⟩ = some sv ∧ w1.cell? ⟨A + 1 + 1 + 1 + 1, 1, none⟩ = some (.int .i64 0) := by refine ⟨?_, ?_⟩ <;> simp [World.cell?, hSw]
        clear hSw
        go_simp; with_reducible rfl
      simp only [List.getElem_toArray, List.getElem_cons_succ, List.getElem_cons_zero, Act.put, List.setIfInBounds_toArray, List.set_cons_zero, List.set_cons_succ]
      have t0 : w2.cell? ⟨A + 1 + 1 + 1 + 1, 0, none⟩ = some sv := by simp [World.cell?, b4]
      have tf : w2.frozen? ⟨A + 1 + 1 + 1 + 1, 0, none⟩ = false := by simp [World.frozen?, b4]
      refine wpLast_ready (rs := [10]) (by kernel_rfl) (by simp) ?_
      intro i hi; obtain rfl := List.mem_singleton.1 hi; clear hi
      refine wpOp_step rfl (fun K3 hK3 => ?_)
      have HK3 := Lib.hid hK3
      clear hK3
      rw [if_pos (by rfl)]
      go_simp
      have hwA := HA.out
      have hg3 := setCell_grown w2 ⟨A + 1 + 1 + 1 + 1, 0, none⟩ (.slice (some ⟨g, 0, none⟩) (k + 1) cp)
      have r4 := heap_set b4 0 (.slice (some ⟨g, 0, none⟩) (k + 1) cp)
      have r1 := (hg3.block A (by omega) (by simp; omega)).trans b1
      have r2 := (hg3.block (A + 1 + 1) (by omega) (by simp)).trans b2'
      have r3 := (hg3.block (A + 1 + 1 + 1) (by omega) (by simp)).trans b3
      have r5 := (hg3.block (A + 1 + 1 + 1 + 1 + 1) (by omega) (by simp)).trans b5
      have hgne : A + 6 ≤ g := by rcases hat2 with h | h; exact hne2 g h; omega
      have hd3 := hd2.kept hg3 (Or.inr (by simp [Value.ownBlock]; omega))
      have hB3 : Below w.heap.size w (w2.setCell ⟨A + 1 + 1 + 1 + 1, 0, none⟩ (.slice (some ⟨g, 0, none⟩) (k + 1) cp)) := hB2.setCell (by simp; omega) _
      have hz3 : A + 6 ≤ (w2.setCell ⟨A + 1 + 1 + 1 + 1, 0, none⟩ (.slice (some ⟨g, 0, none⟩) (k + 1) cp)).heap.size := by simp; omega
      generalize w2.setCell ⟨A + 1 + 1 + 1 + 1, 0, none⟩ (.slice (some ⟨g, 0, none⟩) (k + 1) cp) = w4 at *
      clear hwA
      refine HK3.out _ _ ⟨fun h => absurd rfl h, fun _ => ?_⟩
      clear HK3 K3
      try simp only [List.getElem_toArray, List.getElem_cons_succ, List.getElem_cons_zero, Act.put, List.setIfInBounds_toArray, List.set_cons_zero, List.set_cons_succ]
      refine wpLast_done (by kernel_rfl) ?_ _
      go_wp2
      go_roundw
      case rel => exact ⟨k + 1, _, P ++ [(x0, x1)], by omega, by simp; omega, by go_num, hB3, hz3, r1, r2, r3, by simpa using r4, r5, by rw [G1.out]; exact hd3⟩
      case measure => simp [intOf]; omega
    · have hkm : k = m := by omega
      subst hkm
      have dlt : decide ((k : Int) < (k : Int)) = false := decide_eq_false (by omega)
      have y7 : wr.cell? ⟨b2, o2, none⟩ = some (.int .u8 (c : Int)) := by
        have h2 := (hbel.cell (p := ⟨b2, o2, none⟩) hy3)
        exact h2.trans (hyc0)
      have p7 : wr.cell? ⟨A + 1 + 1, 0, none⟩ = some (.slice (some ⟨b2, o2, none⟩) L.length bc) := (one_cell d2).1
      obtain ⟨t0, t1⟩ : wr.cell? ⟨A + 1 + 1 + 1 + 1, 0, none⟩ = some sv ∧ wr.cell? ⟨A + 1 + 1 + 1 + 1, 1, none⟩ = some (.int .i64 0) := by refine ⟨?_, ?_⟩ <;> simp [World.cell?, hT]
      obtain ⟨u0, u1⟩ : wr.cell? ⟨A + 1 + 1 + 1, 0, none⟩ = some (.slice none 0 0) ∧ wr.cell? ⟨A + 1 + 1 + 1, 1, none⟩ = some (.int .i64 0) := by refine ⟨?_, ?_⟩ <;> simp [World.cell?, d3]
      have u2 : ∀ o, wr.frozen? ⟨A + 1 + 1 + 1, o, none⟩ = false := fun o => by simp [World.frozen?, d3]
      have hPk : P.length ≤ 3 := by omega
      obtain ⟨ga, gc, rfl, hgo⟩ : ∃ ga gc, sv = .slice ga k gc ∧ ∀ q, (Value.slice ga k gc).ownBlock = some q → A + 6 ≤ q := by
        have hlt := hown.lt
        rcases hown.2 with ⟨h1, h2⟩ | ⟨g, cap, cur, h1, _⟩
        · subst h1; rw [h2]; exact ⟨_, _, rfl, by simp [Value.ownBlock]⟩
        · subst h1; exact ⟨_, _, rfl, fun q hq => (hlt q hq).1⟩
      cases h128 : decide (128 ≤ (c : Int)) with
      | false =>
        clear hT d5 d1 d2 d3
        go_wp2
        exact bodyPost_ret (v := .agg #[.slice ga k gc, .int .i64 0]) (by simp [results, Try.results28, go_sem, u0, u1]) rfl (other_fin w wr A k gc 0 ga _ _ P HA.out hbel hown hP hPk)
      | true =>
        have n1 : ∀ b off, sa = some ⟨b, off, none⟩ → b ≠ A + 1 + 1 + 1 + 1 + 1 := fun b off e => by
          have hA' := HA.out
          obtain ⟨b3, o3, h3, _, _, _, h4, _⟩ := hS.at rfl (by omega)
          rw [h3] at e; simp only [Option.some.injEq, Addr.mk.injEq] at e; omega
        have n2 : ∀ b off, some (⟨b2, o2, none⟩ : Addr) = some ⟨b, off, none⟩ → b ≠ A + 1 + 1 + 1 + 1 + 1 := fun b off e => by
          have hA' := HA.out
          simp only [Option.some.injEq, Addr.mk.injEq] at e; omega
        go_wp2_with fail
        refine (pick_any S L sa (some ⟨b2, o2, none⟩) sc bc (2 * k) (A + 1 + 1 + 1 + 1 + 1) A (A + 1 + 1) wr d5 d1 d2 (hS.below hbel) (hL.below hbel) (by omega) (by omega) (by omega) n1 n2 (by omega) (by omega)).mono ?_
        rintro e wp ⟨x0, nn0, rfl, hN⟩
        obtain ⟨f5, ff, fz, fo, fb⟩ := pick_step wr wp _ _ _ nn0 d5 hN
        clear hN
        have d3n : wp.heap[A + 1 + 1 + 1]? = some (.cells #[.slice none 0 0, .int .i64 0] 27) := (ff _ (by omega)).trans d3
        have hTn : wp.heap[A + 1 + 1 + 1 + 1]? = some (.cells #[.slice ga k gc, .int .i64 0] 27) := (ff _ (by omega)).trans hT
        have hownn := fo _ _ _ _ (by omega) hown
        have hbeln := fb w (by have := HA.out; omega) hbel
        clear f5 ff fz fo fb t0 t1 u0 u1 u2 d1 d2 d3 d5 hT
        obtain ⟨t0, t1⟩ : wp.cell? ⟨A + 1 + 1 + 1 + 1, 0, none⟩ = some (.slice ga k gc) ∧ wp.cell? ⟨A + 1 + 1 + 1 + 1, 1, none⟩ = some (.int .i64 0) := by refine ⟨?_, ?_⟩ <;> simp [World.cell?, hTn]
        have tf : ∀ o, wp.frozen? ⟨A + 1 + 1 + 1 + 1, o, none⟩ = false := fun o => by simp [World.frozen?, hTn]
        obtain ⟨u0, u1⟩ : wp.cell? ⟨A + 1 + 1 + 1, 0, none⟩ = some (.slice none 0 0) ∧ wp.cell? ⟨A + 1 + 1 + 1, 1, none⟩ = some (.int .i64 0) := by refine ⟨?_, ?_⟩ <;> simp [World.cell?, d3n]
        have u2 : ∀ o, wp.frozen? ⟨A + 1 + 1 + 1, o, none⟩ = false := fun o => by simp [World.frozen?, d3n]
        clear d3n hTn
        go_wp2_with fail
        have hA' := HA.out
        refine bodyPost_ret (v := .agg #[.slice ga k gc, .int .i64 x0]) (by clear hA'; simp [results, Try.results28, go_sem, u0, u1, u2, t0, t1, tf]) rfl (other_fin w (wp.setCell ⟨A + 1 + 1 + 1 + 1, 1, none⟩ (.int .i64 x0)) A k gc x0 ga _ _ P hA' (hbeln.setCell (by simp; omega) _) ?_ hP hPk)
        refine hownn.kept (setCell_grown _ ⟨A + 1 + 1 + 1 + 1, 1, none⟩ _) ?_
        cases e : (Value.slice ga k gc).ownBlock with
        | none => exact .inl rfl
        | some t => exact .inr (fun e2 => by have h4 := hgo t e; have h5 : t = A + 1 + 1 + 1 + 1 := Option.some.inj e2; omega)
end Go.Proofs.Ytoiapnokgpeipaa
