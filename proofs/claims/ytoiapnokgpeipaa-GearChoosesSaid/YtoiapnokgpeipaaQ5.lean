/- The reference's Choose. -/
import Derived.Test.YtoiapnokgpeipaaQ2
namespace Go.Proofs.Ytoiapnokgpeipaa
set_option linter.unusedSimpArgs false
open Go.RowKit Go.Maps

def exB2 (t r : Int) (x : List (Int × Int) × Int) : Bool := prodW (drns x.1) * r == prodW (drvs x.1) * t
def stepC (t r : Int) (b : Option (List (Int × Int) × Int)) (x : List (Int × Int) × Int) : Option (List (Int × Int) × Int) :=
  match b with
  | none => if exB2 t r x then some x else none
  | some y => if exB2 t r x && beforeB x.1 x.2 y.1 y.2 then some x else some y
def pickC (t r : Int) (M : List (List (Int × Int) × Int)) : Option (List (Int × Int) × Int) := M.foldl (stepC t r) none
theorem pickC_succ (t r : Int) (M : List (List (Int × Int) × Int)) (i : Nat) (h : i < M.length) : pickC t r (M.take (i + 1)) = stepC t r (pickC t r (M.take i)) (M.getD i ([], 0)) := by
  unfold pickC
  rw [List.take_succ_eq_append_getElem h, List.foldl_append]
  simp [List.getD, h]
/-- what the reference's Choose answers -/
def refCC (S : List (Int × Int)) (t r p o : Int) (same : Bool) : Int × Option (List (Int × Int) × Int) :=
  if stockB S && gearB t r p o then (match pickC t r (allR S p o same) with | none => (4, none) | some x => (0, some x)) else (1, none)
def RefIs (C : Int × Option (List (Int × Int) × Int)) (w : World) (e : Ending) (w' : World) : Prop := Below w.heap.size w w' ∧
  match C with
  | (c, none) => e = .returned (.tuple #[.agg #[.slice none 0 0, .int .i64 0], .int .i64 0, .int .i64 c])
  | (_, some x) => ∃ a cp, e = .returned (.tuple #[.agg #[.slice a x.1.length cp, .int .i64 x.2], .int .i64 (wheelsN x.1 x.2), .int .i64 0]) ∧ WheelsAt w' (.slice a x.1.length cp) x.1
theorem allR_able {S : List (Int × Int)} {p o : Int} {same : Bool} {x : List (Int × Int) × Int} (h : x ∈ allR S p o same) : ableC S p o same x.1 x.2 = 0 := by
  unfold allR at h
  obtain ⟨B, _, h⟩ := List.mem_flatMap.1 h
  unfold ableL at h
  obtain ⟨i, _, h⟩ := List.mem_flatMap.1 h
  split at h
  · rename_i h1
    rw [List.mem_singleton.1 h]; exact h1
  · simp at h
def BestI (t r : Int) (M : List (List (Int × Int) × Int)) (i : Nat) (b : Int) : Prop := (pickC t r (M.take i) = none ∧ b = -1) ∨ ∃ j : Nat, j < i ∧ b = j ∧ pickC t r (M.take i) = some (M.getD j ([], 0))
theorem trains_cells {w : World} {a : Option Addr} {n c : Nat} {M : List (List (Int × Int) × Int)} (h : TrainsAt w (.slice a n c) M) {i : Nat} (hi : i < M.length) : ∃ g b d, a = some ⟨g, 0, none⟩ ∧ g < w.heap.size ∧ w.cell? ⟨g, i * 2, none⟩ = some (.slice b (M.getD i ([], 0)).1.length d) ∧ w.cell? ⟨g, i * 2 + 1, none⟩ = some (.int .i64 (M.getD i ([], 0)).2) ∧ PairRow w (.slice b (M.getD i ([], 0)).1.length d) (M.getD i ([], 0)).1 := by
  obtain ⟨a', cap, e, h⟩ := h
  simp only [Value.slice.injEq] at e
  obtain ⟨rfl, _, _⟩ := e
  exact h i hi

theorem stepC_of (t r : Int) (pk : Option (List (Int × Int) × Int)) (x : List (Int × Int) × Int) (q : Bool) (h : (match pk with | none => exB2 t r x | some y => exB2 t r x && beforeB x.1 x.2 y.1 y.2) = q) : stepC t r pk x = if q = true then some x else pk := by
  unfold stepC
  cases pk with
  | none => simp only at h ⊢; rw [h]
  | some y => simp only at h ⊢; rw [h]
theorem wheels_two {X : World} {a : Option Addr} {n c : Nat} {P : List (Int × Int)} (h : WheelsAt X (.slice a n c) P) (R : Nat) (u v : Value) (hne : ∀ b off, a = some ⟨b, off, none⟩ → P ≠ [] → b ≠ R) : WheelsAt ((X.setCell ⟨R, 0, none⟩ u).setCell ⟨R, 1, none⟩ v) (.slice a n c) P :=
  wheels_same h (by simp) (fun j hj => (Below.heap_setCell _ _ _ _ hj).trans (Below.heap_setCell _ _ _ _ hj)) (fun b off hP e => hne b off e hP)
set_option maxRecDepth 100000 in
set_option maxHeartbeats 6400000 in
theorem refChoose_any (S : List (Int × Int)) (sv : Value) (t r p o : Int) (same : Bool) (w : World) (hS : WheelsAt w sv S) (h4 : stockB S = true → S.length ≤ 4) :
    Calls Try.prog 18 #[sv, .agg #[.int .i64 t, .int .i64 r, .bool same, .int .i64 p, .int .i64 o]] w (RefIs (refCC S t r p o same) w) := by
  obtain ⟨sa, sc, rfl⟩ := hS.shape
  obtain ⟨C, hCC⟩ : ∃ C, C = refCC S t r p o same := ⟨_, rfl⟩
  rw [← hCC]
  have HCC := Lib.hid hCC
  clear hCC
  obtain ⟨W0, hW0⟩ : ∃ W0, W0 = (w.alloc (.cells #[.int .i64 t, .int .i64 r, .bool same, .int .i64 p, .int .i64 o] 24)).alloc (.cells #[.slice none 0 0, .int .i64 0] 27) := ⟨_, rfl⟩
  have hb0 : Below w.heap.size w W0 := by rw [hW0]; exact ((Below.refl _ _).alloc (Nat.le_refl _) _).alloc (by simp) _
  have hG : W0.heap[w.heap.size]? = some (.cells #[.int .i64 t, .int .i64 r, .bool same, .int .i64 p, .int .i64 o] 24) := by rw [hW0, Below.heap_alloc _ _ _ (by simp)]; exact (MapKept.heap_alloc w _).1
  have hR : W0.heap[w.heap.size + 1]? = some (.cells #[.slice none 0 0, .int .i64 0] 27) := by
    have := (MapKept.heap_alloc (w.alloc (.cells #[.int .i64 t, .int .i64 r, .bool same, .int .i64 p, .int .i64 o] 24)) (.cells #[.slice none 0 0, .int .i64 0] 27)).1
    rw [hW0]; simpa using this
  have hz0 : w.heap.size + 2 ≤ W0.heap.size := by rw [hW0]; simp
  have hrs := refStock_any S (.slice sa S.length sc) W0 (hS.below hb0)
  obtain ⟨st, hst⟩ : ∃ st, stockB S = st := ⟨_, rfl⟩
  rw [hst] at hrs h4
  have HRS := Lib.hid hrs
  have HST := Lib.hid hst
  have H4 := Lib.hid h4
  clear hrs hst h4
  go_enter Try.func18, Try.ntmps18
  go_wp2_with fail
  rw [← hW0]
  clear hW0
  refine HRS.out.mono ?_
  rintro e w2 ⟨rfl, hb2⟩
  clear HRS
  replace hG := (hb2.block w.heap.size (by omega)).trans hG
  replace hR := (hb2.block (w.heap.size + 1) (by omega)).trans hR
  replace hb0 := hb0.trans (hb2.mono (by omega))
  replace hz0 := Nat.le_trans hz0 hb2.size
  clear hb2
  cases st with
  | false =>
    have hC : C = (1, none) := by rw [HCC.out]; unfold refCC; rw [HST.out]; rfl
    have HC := Lib.hid hC
    obtain ⟨z0, z1, zf⟩ := rcells hR
    clear hC hS hG hR
    go_wp2
    refine bodyPost_ret (v := .tuple #[.agg #[.slice none 0 0, .int .i64 0], .int .i64 0, .int .i64 1]) (by simp [results, Try.results18, go_sem, z0, z1]) rfl ⟨?_, by rw [HC.out]⟩
    exact (hb0.setCell (by simp) _).setCell (by simp) _
  | true =>
  have h4 := H4.out rfl
  have hrg := refGearing_any t r p o same w2
  obtain ⟨ge, hge⟩ : ∃ ge, gearB t r p o = ge := ⟨_, rfl⟩
  rw [hge] at hrg
  have HRG := Lib.hid hrg
  have HGE := Lib.hid hge
  clear hrg hge H4
  obtain ⟨g0, g1, g2, g3, g4⟩ := gcells hG
  go_wp2_with fail
  refine HRG.out.mono ?_
  rintro e w3 ⟨rfl, hb3⟩
  clear HRG g0 g1 g2 g3 g4
  replace hG := (hb3.block w.heap.size (by omega)).trans hG
  replace hR := (hb3.block (w.heap.size + 1) (by omega)).trans hR
  replace hb0 := hb0.trans (hb3.mono (by omega))
  replace hz0 := Nat.le_trans hz0 hb3.size
  clear hb3
  cases ge with
  | false =>
    have hC : C = (1, none) := by rw [HCC.out]; unfold refCC; rw [HST.out, HGE.out]; rfl
    have HC := Lib.hid hC
    obtain ⟨z0, z1, zf⟩ := rcells hR
    clear hC hS hG hR
    go_wp2
    refine bodyPost_ret (v := .tuple #[.agg #[.slice none 0 0, .int .i64 0], .int .i64 0, .int .i64 1]) (by simp [results, Try.results18, go_sem, z0, z1]) rfl ⟨?_, by rw [HC.out]⟩
    exact (hb0.setCell (by simp) _).setCell (by simp) _
  | true =>
  have hgi := gearB_iff.1 HGE.out
  have ht2 : 1 ≤ t ∧ t ≤ 1000 := ⟨hgi.1, hgi.2.1⟩
  have hr2 : 1 ≤ r ∧ r ≤ 1000 := ⟨hgi.2.2.1, hgi.2.2.2.1⟩
  have hp2 : 0 ≤ p ∧ p ≤ 3 := ⟨hgi.2.2.2.2.1, hgi.2.2.2.2.2.1⟩
  have ho2 : 0 ≤ o ∧ o ≤ 200 := hgi.2.2.2.2.2.2
  have hal := all_any S (.slice sa S.length sc) t r p o same w3 (hS.below hb0) h4 hp2 ho2
  obtain ⟨M, hM⟩ : ∃ M, M = allR S p o same := ⟨_, rfl⟩
  rw [← hM] at hal
  have HAL := Lib.hid hal
  have HM := Lib.hid hM
  obtain ⟨g0, g1, g2, g3, g4⟩ := gcells hG
  clear hal hM hgi
  go_wp2_with fail
  refine HAL.out.mono ?_
  rintro e w4 ⟨lv, rfl, hT, hfr, hb4⟩
  obtain ⟨la, lc, rfl⟩ : ∃ a c, lv = .slice a M.length c := by obtain ⟨a, c, e, _⟩ := hT; exact ⟨a, c, e⟩
  clear HAL g0 g1 g2 g3 g4
  replace hG := (hb4.block w.heap.size (by omega)).trans hG
  replace hR := (hb4.block (w.heap.size + 1) (by omega)).trans hR
  replace hb0 := hb0.trans (hb4.mono (by omega))
  have hfr2 : ∀ g off n c, Value.slice la M.length lc = .slice (some ⟨g, off, none⟩) n c → w.heap.size + 1 < g := fun g off n c e => by have := hfr g off n c e; omega
  replace hz0 := Nat.le_trans hz0 hb4.size
  clear hb4 hfr
  obtain ⟨N, hN⟩ : ∃ N, N = M.length := ⟨_, rfl⟩
  rw [← hN] at hT hfr2 ⊢
  have hN4 : N ≤ 4611686018427387904 := by have := allR_len S p o same h4 hp2.2; rw [← HM.out] at this; omega
  have HN := Lib.hid hN
  have HT := Lib.hid hT
  have HFR := Lib.hid hfr2
  have HG := Lib.hid hG
  have HR := Lib.hid hR
  clear hN hT hfr2 hG hR
  go_wp2_with fail
  go_loopw [8, 9] (fun bv c wr => ∃ (i : Nat) (b : Int), i ≤ N ∧ c = .int .i64 i ∧ bv = .int .i64 b ∧ BestI t r M i b ∧ Below w4.heap.size w4 wr) (fun _ c _ => N - (intOf c).toNat)
  case atStart => exact ⟨0, -1, by omega, rfl, rfl, .inl ⟨rfl, rfl⟩, Below.refl _ _⟩
  case round =>
    obtain ⟨i, b, hi, rfl, rfl, hbest, hbel⟩ := hrel
    have hws := hbel.size
    have i0 : (0 : Int) ≤ (i : Int) := by omega
    by_cases hil : i < N
    · have i2 : (i : Int) < (N : Int) := by omega
      go_upto_region 8 with fail
      have hiM : i < M.length := by have := HN.out; omega
      have hTr := HT.out.below hbel
      obtain ⟨lg, lb, ld, e0, hlg, c0, c1, hWi⟩ := trains_cells hTr hiM
      subst e0
      obtain ⟨x, hx⟩ : ∃ x, x = M.getD i ([], 0) := ⟨_, rfl⟩
      rw [← hx] at c0 c1 hWi
      have hxm : x ∈ M := by rw [hx]; simp [List.getD, hiM]
      rw [HM.out] at hxm
      have hbx := able_bd hp2.2 (allR_able hxm)
      have hpl := (pairsErr_zero (ableC_zero (allR_able hxm)).1).1
      have hG := (hbel.block w.heap.size (by omega)).trans HG.out
      obtain ⟨P1, i1⟩ := x
      have hex := fun X hX => refExact_any P1 (.slice lb P1.length ld) t r p o i1 same X (hWi.1.below hX) ht2 hr2 hbx.1 hbx.2
      obtain ⟨ex, hexe⟩ : ∃ ex, exB2 t r (P1, i1) = ex := ⟨_, rfl⟩
      have hexe' : (prodW (drns P1) * r == prodW (drvs P1) * t) = ex := hexe
      simp only [hexe'] at hex
      have HEX := Lib.hid hex
      have HX := Lib.hid hx
      have HXE := Lib.hid hexe
      have HWI := Lib.hid hWi
      have HB := Lib.hid hbest
      have HTR := Lib.hid hTr
      have HPL := Lib.hid hpl
      clear hex hexe hexe' hx hWi hxm hbx hpl hTr
      go_cut [48] (fun v wx => v = .bool (match pickC t r (M.take i) with | none => ex | some y => ex && beforeB P1 i1 y.1 y.2) ∧ Below wr.heap.size wr wx)
      case first =>
        cases ex with
        | false =>
          have hres : (match pickC t r (M.take i) with | none => false | some y => false && beforeB P1 i1 y.1 y.2) = false := by cases pickC t r (M.take i) <;> rfl
          have HRES := Lib.hid hres
          clear hres hbest
          refine wp_region_held_drew (S := fun w' => w'.heap[w.heap.size]? = some (.cells #[.int .i64 t, .int .i64 r, .bool same, .int .i64 p, .int .i64 o] 24) ∧ w'.cell? ⟨lg, i * 2, none⟩ = some (.slice lb P1.length ld) ∧ w'.cell? ⟨lg, i * 2 + 1, none⟩ = some (.int .i64 i1)) (by kernel_rfl) ⟨hG, c0, c1⟩ (fun hHeld => ?_)
          obtain ⟨X0, hX0⟩ : ∃ X, X = wr.drew := ⟨_, rfl⟩
          have hbX : Below wr.heap.size wr X0 := by rw [hX0]; exact (Below.refl _ _).drew
          rw [← hX0] at hHeld ⊢
          have hH := Lib.hid hHeld
          clear hX0 hHeld
          refine wpAnyH_take (i := 0) (oi := _) (v := ?_) rfl (by kernel_rfl) (by kernel_rfl) (by kernel_rfl) (fun _ _ _ h => h) (Or.inl ⟨by rfl, ?_⟩) hH.out ?_
          rotate_left
          · intro w1 hSw
            obtain ⟨hSa, s5, s6⟩ := hSw
            obtain ⟨s0, s1, s2, s3, s4⟩ := gcells hSa
            clear hSa
            go_simp; with_reducible rfl
          simp only [List.getElem_toArray, List.getElem_cons_succ, List.getElem_cons_zero, Act.put, List.setIfInBounds_toArray, List.set_cons_zero, List.set_cons_succ]
          refine wpAnyH_take (i := 1) (oi := _) (v := ?_) rfl (by kernel_rfl) (by kernel_rfl) (by kernel_rfl) (fun _ _ _ h => h) (Or.inl ⟨by rfl, ?_⟩) hH.out ?_
          rotate_left
          · intro w1 hSw
            obtain ⟨hSa, s5, s6⟩ := hSw
            obtain ⟨s0, s1, s2, s3, s4⟩ := gcells hSa
            clear hSa
            go_simp; with_reducible rfl
          simp only [List.getElem_toArray, List.getElem_cons_succ, List.getElem_cons_zero, Act.put, List.setIfInBounds_toArray, List.set_cons_zero, List.set_cons_succ]
          refine wpAnyH_take (i := 2) (oi := _) (v := ?_) rfl (by kernel_rfl) (by kernel_rfl) (by kernel_rfl) (fun _ _ _ h => h) (Or.inl ⟨by rfl, ?_⟩) hH.out ?_
          rotate_left
          · intro w1 hSw
            obtain ⟨hSa, s5, s6⟩ := hSw
            obtain ⟨s0, s1, s2, s3, s4⟩ := gcells hSa
            clear hSa
            go_simp; with_reducible rfl
          simp only [List.getElem_toArray, List.getElem_cons_succ, List.getElem_cons_zero, Act.put, List.setIfInBounds_toArray, List.set_cons_zero, List.set_cons_succ]
          refine wpAnyH_take (i := 3) (oi := _) (v := ?_) rfl (by kernel_rfl) (by kernel_rfl) (by kernel_rfl) (fun _ _ _ h => h) (Or.inl ⟨by rfl, ?_⟩) hH.out ?_
          rotate_left
          · intro w1 hSw
            obtain ⟨hSa, s5, s6⟩ := hSw
            obtain ⟨s0, s1, s2, s3, s4⟩ := gcells hSa
            clear hSa
            go_simp; with_reducible rfl
          simp only [List.getElem_toArray, List.getElem_cons_succ, List.getElem_cons_zero, Act.put, List.setIfInBounds_toArray, List.set_cons_zero, List.set_cons_succ]
          refine wpAnyH_take (i := 4) (oi := _) (v := ?_) rfl (by kernel_rfl) (by kernel_rfl) (by kernel_rfl) (fun _ _ _ h => h) (Or.inl ⟨by rfl, ?_⟩) hH.out ?_
          rotate_left
          · intro w1 hSw
            obtain ⟨hSa, s5, s6⟩ := hSw
            obtain ⟨s0, s1, s2, s3, s4⟩ := gcells hSa
            clear hSa
            go_simp; with_reducible rfl
          simp only [List.getElem_toArray, List.getElem_cons_succ, List.getElem_cons_zero, Act.put, List.setIfInBounds_toArray, List.set_cons_zero, List.set_cons_succ]
          refine wpAnyH_all (rs := [5]) (by kernel_rfl) (by simp) ?_
          intro i hi; obtain rfl := List.mem_singleton.1 hi; clear hi
          refine wpOp_step rfl (fun K3 hK3 => ?_)
          have HK3 := Lib.hid hK3
          clear hK3
          rw [if_pos (by rfl)]
          go_simp
          refine (HEX.out _ hbX).mono ?_
          rintro e X1 ⟨rfl, hb⟩
          have hzz := hbX.size
          replace hH := Lib.hid (And.intro ((hb.block w.heap.size (by omega)).trans hH.out.1) (And.intro ((hb.cell (p := ⟨lg, _, none⟩) (by simp; omega)).trans hH.out.2.1) ((hb.cell (p := ⟨lg, _, none⟩) (by simp; omega)).trans hH.out.2.2)))
          replace hbX := hbX.trans (hb.mono hzz)
          clear hb hzz
          refine HK3.out _ _ ⟨hH.out, ?_⟩
          clear HK3 K3
          try simp only [List.getElem_toArray, List.getElem_cons_succ, List.getElem_cons_zero, Act.put, List.setIfInBounds_toArray, List.set_cons_zero, List.set_cons_succ]
          refine wpAnyH_take (i := 6) (oi := _) (v := ?_) rfl (by kernel_rfl) (by kernel_rfl) (by kernel_rfl) (fun _ _ _ h => h) (Or.inl ⟨by rfl, ?_⟩) hH.out ?_
          rotate_left
          · intro w1 hSw
            obtain ⟨hSa, s5, s6⟩ := hSw
            obtain ⟨s0, s1, s2, s3, s4⟩ := gcells hSa
            clear hSa
            go_simp; with_reducible rfl
          simp only [List.getElem_toArray, List.getElem_cons_succ, List.getElem_cons_zero, Act.put, List.setIfInBounds_toArray, List.set_cons_zero, List.set_cons_succ]
          refine wpAnyH_take (i := 7) (oi := _) (v := undef) rfl (by kernel_rfl) (by kernel_rfl) (by kernel_rfl) (fun _ _ _ h => h) (Or.inr ⟨by rfl, rfl⟩) hH.out ?_
          simp only [List.getElem_toArray, List.getElem_cons_succ, List.getElem_cons_zero, Act.put, List.setIfInBounds_toArray, List.set_cons_zero, List.set_cons_succ]
          refine wpAnyH_take (i := 8) (oi := _) (v := undef) rfl (by kernel_rfl) (by kernel_rfl) (by kernel_rfl) (fun _ _ _ h => h) (Or.inr ⟨by rfl, rfl⟩) hH.out ?_
          simp only [List.getElem_toArray, List.getElem_cons_succ, List.getElem_cons_zero, Act.put, List.setIfInBounds_toArray, List.set_cons_zero, List.set_cons_succ]
          refine wpAnyH_take (i := 9) (oi := _) (v := undef) rfl (by kernel_rfl) (by kernel_rfl) (by kernel_rfl) (fun _ _ _ h => h) (Or.inr ⟨by rfl, rfl⟩) hH.out ?_
          simp only [List.getElem_toArray, List.getElem_cons_succ, List.getElem_cons_zero, Act.put, List.setIfInBounds_toArray, List.set_cons_zero, List.set_cons_succ]
          refine wpAnyH_take (i := 10) (oi := _) (v := undef) rfl (by kernel_rfl) (by kernel_rfl) (by kernel_rfl) (fun _ _ _ h => h) (Or.inr ⟨by rfl, rfl⟩) hH.out ?_
          simp only [List.getElem_toArray, List.getElem_cons_succ, List.getElem_cons_zero, Act.put, List.setIfInBounds_toArray, List.set_cons_zero, List.set_cons_succ]
          refine wpAnyH_take (i := 11) (oi := _) (v := undef) rfl (by kernel_rfl) (by kernel_rfl) (by kernel_rfl) (fun _ _ _ h => h) (Or.inr ⟨by rfl, rfl⟩) hH.out ?_
          simp only [List.getElem_toArray, List.getElem_cons_succ, List.getElem_cons_zero, Act.put, List.setIfInBounds_toArray, List.set_cons_zero, List.set_cons_succ]
          refine wpAnyH_take (i := 12) (oi := _) (v := undef) rfl (by kernel_rfl) (by kernel_rfl) (by kernel_rfl) (fun _ _ _ h => h) (Or.inr ⟨by rfl, rfl⟩) hH.out ?_
          simp only [List.getElem_toArray, List.getElem_cons_succ, List.getElem_cons_zero, Act.put, List.setIfInBounds_toArray, List.set_cons_zero, List.set_cons_succ]
          refine wpAnyH_take (i := 13) (oi := _) (v := undef) rfl (by kernel_rfl) (by kernel_rfl) (by kernel_rfl) (fun _ _ _ h => h) (Or.inr ⟨by rfl, rfl⟩) hH.out ?_
          simp only [List.getElem_toArray, List.getElem_cons_succ, List.getElem_cons_zero, Act.put, List.setIfInBounds_toArray, List.set_cons_zero, List.set_cons_succ]
          refine wpAnyH_take (i := 14) (oi := _) (v := undef) rfl (by kernel_rfl) (by kernel_rfl) (by kernel_rfl) (fun _ _ _ h => h) (Or.inr ⟨by rfl, rfl⟩) hH.out ?_
          simp only [List.getElem_toArray, List.getElem_cons_succ, List.getElem_cons_zero, Act.put, List.setIfInBounds_toArray, List.set_cons_zero, List.set_cons_succ]
          refine wpAnyH_take (i := 15) (oi := _) (v := undef) rfl (by kernel_rfl) (by kernel_rfl) (by kernel_rfl) (fun _ _ _ h => h) (Or.inr ⟨by rfl, rfl⟩) hH.out ?_
          simp only [List.getElem_toArray, List.getElem_cons_succ, List.getElem_cons_zero, Act.put, List.setIfInBounds_toArray, List.set_cons_zero, List.set_cons_succ]
          refine wpAnyH_take (i := 16) (oi := _) (v := undef) rfl (by kernel_rfl) (by kernel_rfl) (by kernel_rfl) (fun _ _ _ h => h) (Or.inr ⟨by rfl, rfl⟩) hH.out ?_
          simp only [List.getElem_toArray, List.getElem_cons_succ, List.getElem_cons_zero, Act.put, List.setIfInBounds_toArray, List.set_cons_zero, List.set_cons_succ]
          refine wpAnyH_take (i := 17) (oi := _) (v := undef) rfl (by kernel_rfl) (by kernel_rfl) (by kernel_rfl) (fun _ _ _ h => h) (Or.inr ⟨by rfl, rfl⟩) hH.out ?_
          simp only [List.getElem_toArray, List.getElem_cons_succ, List.getElem_cons_zero, Act.put, List.setIfInBounds_toArray, List.set_cons_zero, List.set_cons_succ]
          refine wpAnyH_take (i := 18) (oi := _) (v := undef) rfl (by kernel_rfl) (by kernel_rfl) (by kernel_rfl) (fun _ _ _ h => h) (Or.inr ⟨by rfl, rfl⟩) hH.out ?_
          simp only [List.getElem_toArray, List.getElem_cons_succ, List.getElem_cons_zero, Act.put, List.setIfInBounds_toArray, List.set_cons_zero, List.set_cons_succ]
          refine wpAnyH_take (i := 19) (oi := _) (v := undef) rfl (by kernel_rfl) (by kernel_rfl) (by kernel_rfl) (fun _ _ _ h => h) (Or.inr ⟨by rfl, rfl⟩) hH.out ?_
          simp only [List.getElem_toArray, List.getElem_cons_succ, List.getElem_cons_zero, Act.put, List.setIfInBounds_toArray, List.set_cons_zero, List.set_cons_succ]
          refine wpAnyH_take (i := 20) (oi := _) (v := ?_) rfl (by kernel_rfl) (by kernel_rfl) (by kernel_rfl) (fun _ _ _ h => h) (Or.inl ⟨by rfl, ?_⟩) hH.out ?_
          rotate_left
          · intro w1 hSw
            obtain ⟨hSa, s5, s6⟩ := hSw
            obtain ⟨s0, s1, s2, s3, s4⟩ := gcells hSa
            clear hSa
            go_simp; with_reducible rfl
          simp only [List.getElem_toArray, List.getElem_cons_succ, List.getElem_cons_zero, Act.put, List.setIfInBounds_toArray, List.set_cons_zero, List.set_cons_succ]
          refine wpAnyH_done (by kernel_rfl) ?_ _
          go_wp2_with fail
          go_meet
          exact ⟨by rw [HRES.out], hbX⟩
        | true =>
          rcases hbest with ⟨hpk, rfl⟩ | ⟨j, hji, rfl, hpk⟩
          · have HRES := Lib.hid hpk
            clear hpk
            have b9 : (-1 : Int) < 0 := by omega
            refine wp_region_held_drew (S := fun w' => w'.heap[w.heap.size]? = some (.cells #[.int .i64 t, .int .i64 r, .bool same, .int .i64 p, .int .i64 o] 24) ∧ w'.cell? ⟨lg, i * 2, none⟩ = some (.slice lb P1.length ld) ∧ w'.cell? ⟨lg, i * 2 + 1, none⟩ = some (.int .i64 i1)) (by kernel_rfl) ⟨hG, c0, c1⟩ (fun hHeld => ?_)
            obtain ⟨X0, hX0⟩ : ∃ X, X = wr.drew := ⟨_, rfl⟩
            have hbX : Below wr.heap.size wr X0 := by rw [hX0]; exact (Below.refl _ _).drew
            rw [← hX0] at hHeld ⊢
            have hH := Lib.hid hHeld
            clear hX0 hHeld
            refine wpAnyH_take (i := 0) (oi := _) (v := ?_) rfl (by kernel_rfl) (by kernel_rfl) (by kernel_rfl) (fun _ _ _ h => h) (Or.inl ⟨by rfl, ?_⟩) hH.out ?_
            rotate_left
            · intro w1 hSw
              obtain ⟨hSa, s5, s6⟩ := hSw
              obtain ⟨s0, s1, s2, s3, s4⟩ := gcells hSa
              clear hSa
              go_simp; with_reducible rfl
            simp only [List.getElem_toArray, List.getElem_cons_succ, List.getElem_cons_zero, Act.put, List.setIfInBounds_toArray, List.set_cons_zero, List.set_cons_succ]
            refine wpAnyH_take (i := 1) (oi := _) (v := ?_) rfl (by kernel_rfl) (by kernel_rfl) (by kernel_rfl) (fun _ _ _ h => h) (Or.inl ⟨by rfl, ?_⟩) hH.out ?_
            rotate_left
            · intro w1 hSw
              obtain ⟨hSa, s5, s6⟩ := hSw
              obtain ⟨s0, s1, s2, s3, s4⟩ := gcells hSa
              clear hSa
              go_simp; with_reducible rfl
            simp only [List.getElem_toArray, List.getElem_cons_succ, List.getElem_cons_zero, Act.put, List.setIfInBounds_toArray, List.set_cons_zero, List.set_cons_succ]
            refine wpAnyH_take (i := 2) (oi := _) (v := ?_) rfl (by kernel_rfl) (by kernel_rfl) (by kernel_rfl) (fun _ _ _ h => h) (Or.inl ⟨by rfl, ?_⟩) hH.out ?_
            rotate_left
            · intro w1 hSw
              obtain ⟨hSa, s5, s6⟩ := hSw
              obtain ⟨s0, s1, s2, s3, s4⟩ := gcells hSa
              clear hSa
              go_simp; with_reducible rfl
            simp only [List.getElem_toArray, List.getElem_cons_succ, List.getElem_cons_zero, Act.put, List.setIfInBounds_toArray, List.set_cons_zero, List.set_cons_succ]
            refine wpAnyH_take (i := 3) (oi := _) (v := ?_) rfl (by kernel_rfl) (by kernel_rfl) (by kernel_rfl) (fun _ _ _ h => h) (Or.inl ⟨by rfl, ?_⟩) hH.out ?_
            rotate_left
            · intro w1 hSw
              obtain ⟨hSa, s5, s6⟩ := hSw
              obtain ⟨s0, s1, s2, s3, s4⟩ := gcells hSa
              clear hSa
              go_simp; with_reducible rfl
            simp only [List.getElem_toArray, List.getElem_cons_succ, List.getElem_cons_zero, Act.put, List.setIfInBounds_toArray, List.set_cons_zero, List.set_cons_succ]
            refine wpAnyH_take (i := 4) (oi := _) (v := ?_) rfl (by kernel_rfl) (by kernel_rfl) (by kernel_rfl) (fun _ _ _ h => h) (Or.inl ⟨by rfl, ?_⟩) hH.out ?_
            rotate_left
            · intro w1 hSw
              obtain ⟨hSa, s5, s6⟩ := hSw
              obtain ⟨s0, s1, s2, s3, s4⟩ := gcells hSa
              clear hSa
              go_simp; with_reducible rfl
            simp only [List.getElem_toArray, List.getElem_cons_succ, List.getElem_cons_zero, Act.put, List.setIfInBounds_toArray, List.set_cons_zero, List.set_cons_succ]
            refine wpAnyH_all (rs := [5]) (by kernel_rfl) (by simp) ?_
            intro i hi; obtain rfl := List.mem_singleton.1 hi; clear hi
            refine wpOp_step rfl (fun K3 hK3 => ?_)
            have HK3 := Lib.hid hK3
            clear hK3
            rw [if_pos (by rfl)]
            go_simp
            refine (HEX.out _ hbX).mono ?_
            rintro e X1 ⟨rfl, hb⟩
            have hzz := hbX.size
            replace hH := Lib.hid (And.intro ((hb.block w.heap.size (by omega)).trans hH.out.1) (And.intro ((hb.cell (p := ⟨lg, _, none⟩) (by simp; omega)).trans hH.out.2.1) ((hb.cell (p := ⟨lg, _, none⟩) (by simp; omega)).trans hH.out.2.2)))
            replace hbX := hbX.trans (hb.mono hzz)
            clear hb hzz
            refine HK3.out _ _ ⟨hH.out, ?_⟩
            clear HK3 K3
            try simp only [List.getElem_toArray, List.getElem_cons_succ, List.getElem_cons_zero, Act.put, List.setIfInBounds_toArray, List.set_cons_zero, List.set_cons_succ]
            refine wpAnyH_take (i := 6) (oi := _) (v := ?_) rfl (by kernel_rfl) (by kernel_rfl) (by kernel_rfl) (fun _ _ _ h => h) (Or.inl ⟨by rfl, ?_⟩) hH.out ?_
            rotate_left
            · intro w1 hSw
              obtain ⟨hSa, s5, s6⟩ := hSw
              obtain ⟨s0, s1, s2, s3, s4⟩ := gcells hSa
              clear hSa
              go_simp; with_reducible rfl
            simp only [List.getElem_toArray, List.getElem_cons_succ, List.getElem_cons_zero, Act.put, List.setIfInBounds_toArray, List.set_cons_zero, List.set_cons_succ]
            refine wpAnyH_take (i := 7) (oi := _) (v := ?_) rfl (by kernel_rfl) (by kernel_rfl) (by kernel_rfl) (fun _ _ _ h => h) (Or.inl ⟨by rfl, ?_⟩) hH.out ?_
            rotate_left
            · intro w1 hSw
              obtain ⟨hSa, s5, s6⟩ := hSw
              obtain ⟨s0, s1, s2, s3, s4⟩ := gcells hSa
              clear hSa
              go_simp; with_reducible rfl
            simp only [List.getElem_toArray, List.getElem_cons_succ, List.getElem_cons_zero, Act.put, List.setIfInBounds_toArray, List.set_cons_zero, List.set_cons_succ]
            refine wpAnyH_take (i := 8) (oi := _) (v := ?_) rfl (by kernel_rfl) (by kernel_rfl) (by kernel_rfl) (fun _ _ _ h => h) (Or.inl ⟨by rfl, ?_⟩) hH.out ?_
            rotate_left
            · intro w1 hSw
              obtain ⟨hSa, s5, s6⟩ := hSw
              obtain ⟨s0, s1, s2, s3, s4⟩ := gcells hSa
              clear hSa
              go_simp; with_reducible rfl
            simp only [List.getElem_toArray, List.getElem_cons_succ, List.getElem_cons_zero, Act.put, List.setIfInBounds_toArray, List.set_cons_zero, List.set_cons_succ]
            refine wpAnyH_take (i := 9) (oi := _) (v := ?_) rfl (by kernel_rfl) (by kernel_rfl) (by kernel_rfl) (fun _ _ _ h => h) (Or.inl ⟨by rfl, ?_⟩) hH.out ?_
            rotate_left
            · intro w1 hSw
              obtain ⟨hSa, s5, s6⟩ := hSw
              obtain ⟨s0, s1, s2, s3, s4⟩ := gcells hSa
              clear hSa
              go_simp; with_reducible rfl
            simp only [List.getElem_toArray, List.getElem_cons_succ, List.getElem_cons_zero, Act.put, List.setIfInBounds_toArray, List.set_cons_zero, List.set_cons_succ]
            refine wpAnyH_take (i := 10) (oi := _) (v := undef) rfl (by kernel_rfl) (by kernel_rfl) (by kernel_rfl) (fun _ _ _ h => h) (Or.inr ⟨by rfl, rfl⟩) hH.out ?_
            simp only [List.getElem_toArray, List.getElem_cons_succ, List.getElem_cons_zero, Act.put, List.setIfInBounds_toArray, List.set_cons_zero, List.set_cons_succ]
            refine wpAnyH_take (i := 11) (oi := _) (v := undef) rfl (by kernel_rfl) (by kernel_rfl) (by kernel_rfl) (fun _ _ _ h => h) (Or.inr ⟨by rfl, rfl⟩) hH.out ?_
            simp only [List.getElem_toArray, List.getElem_cons_succ, List.getElem_cons_zero, Act.put, List.setIfInBounds_toArray, List.set_cons_zero, List.set_cons_succ]
            refine wpAnyH_take (i := 12) (oi := _) (v := undef) rfl (by kernel_rfl) (by kernel_rfl) (by kernel_rfl) (fun _ _ _ h => h) (Or.inr ⟨by rfl, rfl⟩) hH.out ?_
            simp only [List.getElem_toArray, List.getElem_cons_succ, List.getElem_cons_zero, Act.put, List.setIfInBounds_toArray, List.set_cons_zero, List.set_cons_succ]
            refine wpAnyH_take (i := 13) (oi := _) (v := undef) rfl (by kernel_rfl) (by kernel_rfl) (by kernel_rfl) (fun _ _ _ h => h) (Or.inr ⟨by rfl, rfl⟩) hH.out ?_
            simp only [List.getElem_toArray, List.getElem_cons_succ, List.getElem_cons_zero, Act.put, List.setIfInBounds_toArray, List.set_cons_zero, List.set_cons_succ]
            refine wpAnyH_take (i := 14) (oi := _) (v := undef) rfl (by kernel_rfl) (by kernel_rfl) (by kernel_rfl) (fun _ _ _ h => h) (Or.inr ⟨by rfl, rfl⟩) hH.out ?_
            simp only [List.getElem_toArray, List.getElem_cons_succ, List.getElem_cons_zero, Act.put, List.setIfInBounds_toArray, List.set_cons_zero, List.set_cons_succ]
            refine wpAnyH_take (i := 15) (oi := _) (v := undef) rfl (by kernel_rfl) (by kernel_rfl) (by kernel_rfl) (fun _ _ _ h => h) (Or.inr ⟨by rfl, rfl⟩) hH.out ?_
            simp only [List.getElem_toArray, List.getElem_cons_succ, List.getElem_cons_zero, Act.put, List.setIfInBounds_toArray, List.set_cons_zero, List.set_cons_succ]
            refine wpAnyH_take (i := 16) (oi := _) (v := undef) rfl (by kernel_rfl) (by kernel_rfl) (by kernel_rfl) (fun _ _ _ h => h) (Or.inr ⟨by rfl, rfl⟩) hH.out ?_
            simp only [List.getElem_toArray, List.getElem_cons_succ, List.getElem_cons_zero, Act.put, List.setIfInBounds_toArray, List.set_cons_zero, List.set_cons_succ]
            refine wpAnyH_take (i := 17) (oi := _) (v := undef) rfl (by kernel_rfl) (by kernel_rfl) (by kernel_rfl) (fun _ _ _ h => h) (Or.inr ⟨by rfl, rfl⟩) hH.out ?_
            simp only [List.getElem_toArray, List.getElem_cons_succ, List.getElem_cons_zero, Act.put, List.setIfInBounds_toArray, List.set_cons_zero, List.set_cons_succ]
            refine wpAnyH_take (i := 18) (oi := _) (v := undef) rfl (by kernel_rfl) (by kernel_rfl) (by kernel_rfl) (fun _ _ _ h => h) (Or.inr ⟨by rfl, rfl⟩) hH.out ?_
            simp only [List.getElem_toArray, List.getElem_cons_succ, List.getElem_cons_zero, Act.put, List.setIfInBounds_toArray, List.set_cons_zero, List.set_cons_succ]
            refine wpAnyH_take (i := 19) (oi := _) (v := ?_) rfl (by kernel_rfl) (by kernel_rfl) (by kernel_rfl) (fun _ _ _ h => h) (Or.inl ⟨by rfl, ?_⟩) hH.out ?_
            rotate_left
            · intro w1 hSw
              obtain ⟨hSa, s5, s6⟩ := hSw
              obtain ⟨s0, s1, s2, s3, s4⟩ := gcells hSa
              clear hSa
              go_simp; with_reducible rfl
            simp only [List.getElem_toArray, List.getElem_cons_succ, List.getElem_cons_zero, Act.put, List.setIfInBounds_toArray, List.set_cons_zero, List.set_cons_succ]
            refine wpAnyH_take (i := 20) (oi := _) (v := ?_) rfl (by kernel_rfl) (by kernel_rfl) (by kernel_rfl) (fun _ _ _ h => h) (Or.inl ⟨by rfl, ?_⟩) hH.out ?_
            rotate_left
            · intro w1 hSw
              obtain ⟨hSa, s5, s6⟩ := hSw
              obtain ⟨s0, s1, s2, s3, s4⟩ := gcells hSa
              clear hSa
              go_simp; with_reducible rfl
            simp only [List.getElem_toArray, List.getElem_cons_succ, List.getElem_cons_zero, Act.put, List.setIfInBounds_toArray, List.set_cons_zero, List.set_cons_succ]
            refine wpAnyH_done (by kernel_rfl) ?_ _
            go_wp2_with fail
            go_meet
            exact ⟨by rw [HRES.out], hbX⟩
          · have hjM : j < M.length := by omega
            obtain ⟨lg', yb, yd, e0, _, c2, c3, hWj⟩ := trains_cells HTR.out hjM
            simp only [Option.some.injEq, Addr.mk.injEq, and_true] at e0
            subst e0
            obtain ⟨y, hy⟩ : ∃ y, y = M.getD j ([], 0) := ⟨_, rfl⟩
            rw [← hy] at c2 c3 hWj hpk
            have hym : y ∈ M := by rw [hy]; simp [List.getD, hjM]
            rw [HM.out] at hym
            have hpl2 := (pairsErr_zero (ableC_zero (allR_able hym)).1).1
            obtain ⟨P2, i2'⟩ := y
            have hbf := fun X hX => before_any P1 P2 (.slice lb P1.length ld) (.slice yb P2.length yd) i1 i2' X (HWI.out.1.below hX) (hWj.1.below hX) (by have := HPL.out; simp at this; omega) (by simp at hpl2; omega)
            obtain ⟨bf, hbfe⟩ : ∃ bf, beforeB P1 i1 P2 i2' = bf := ⟨_, rfl⟩
            simp only [hbfe] at hbf
            have HBF := Lib.hid hbf
            have HRES := Lib.hid hpk
            have HBE := Lib.hid hbfe
            have b9 : ¬ (j : Int) < 0 := by omega
            have b8 : (0 : Int) ≤ (j : Int) := by omega
            have b7 : (j : Int) < (N : Int) := by omega
            clear hpk hbf hbfe hWj hym hpl2 hy
            refine wp_region_held_drew (S := fun w' => w'.heap[w.heap.size]? = some (.cells #[.int .i64 t, .int .i64 r, .bool same, .int .i64 p, .int .i64 o] 24) ∧ w'.cell? ⟨lg, i * 2, none⟩ = some (.slice lb P1.length ld) ∧ w'.cell? ⟨lg, i * 2 + 1, none⟩ = some (.int .i64 i1) ∧ w'.cell? ⟨lg, j * 2, none⟩ = some (.slice yb P2.length yd) ∧ w'.cell? ⟨lg, j * 2 + 1, none⟩ = some (.int .i64 i2')) (by kernel_rfl) ⟨hG, c0, c1, c2, c3⟩ (fun hHeld => ?_)
            obtain ⟨X0, hX0⟩ : ∃ X, X = wr.drew := ⟨_, rfl⟩
            have hbX : Below wr.heap.size wr X0 := by rw [hX0]; exact (Below.refl _ _).drew
            rw [← hX0] at hHeld ⊢
            have hH := Lib.hid hHeld
            clear hX0 hHeld
            refine wpAnyH_take (i := 0) (oi := _) (v := ?_) rfl (by kernel_rfl) (by kernel_rfl) (by kernel_rfl) (fun _ _ _ h => h) (Or.inl ⟨by rfl, ?_⟩) hH.out ?_
            rotate_left
            · intro w1 hSw
              obtain ⟨hSa, s5, s6, s7, s8⟩ := hSw
              obtain ⟨s0, s1, s2, s3, s4⟩ := gcells hSa
              clear hSa
              go_simp; with_reducible rfl
            simp only [List.getElem_toArray, List.getElem_cons_succ, List.getElem_cons_zero, Act.put, List.setIfInBounds_toArray, List.set_cons_zero, List.set_cons_succ]
            refine wpAnyH_take (i := 1) (oi := _) (v := ?_) rfl (by kernel_rfl) (by kernel_rfl) (by kernel_rfl) (fun _ _ _ h => h) (Or.inl ⟨by rfl, ?_⟩) hH.out ?_
            rotate_left
            · intro w1 hSw
              obtain ⟨hSa, s5, s6, s7, s8⟩ := hSw
              obtain ⟨s0, s1, s2, s3, s4⟩ := gcells hSa
              clear hSa
              go_simp; with_reducible rfl
            simp only [List.getElem_toArray, List.getElem_cons_succ, List.getElem_cons_zero, Act.put, List.setIfInBounds_toArray, List.set_cons_zero, List.set_cons_succ]
            refine wpAnyH_take (i := 2) (oi := _) (v := ?_) rfl (by kernel_rfl) (by kernel_rfl) (by kernel_rfl) (fun _ _ _ h => h) (Or.inl ⟨by rfl, ?_⟩) hH.out ?_
            rotate_left
            · intro w1 hSw
              obtain ⟨hSa, s5, s6, s7, s8⟩ := hSw
              obtain ⟨s0, s1, s2, s3, s4⟩ := gcells hSa
              clear hSa
              go_simp; with_reducible rfl
            simp only [List.getElem_toArray, List.getElem_cons_succ, List.getElem_cons_zero, Act.put, List.setIfInBounds_toArray, List.set_cons_zero, List.set_cons_succ]
            refine wpAnyH_take (i := 3) (oi := _) (v := ?_) rfl (by kernel_rfl) (by kernel_rfl) (by kernel_rfl) (fun _ _ _ h => h) (Or.inl ⟨by rfl, ?_⟩) hH.out ?_
            rotate_left
            · intro w1 hSw
              obtain ⟨hSa, s5, s6, s7, s8⟩ := hSw
              obtain ⟨s0, s1, s2, s3, s4⟩ := gcells hSa
              clear hSa
              go_simp; with_reducible rfl
            simp only [List.getElem_toArray, List.getElem_cons_succ, List.getElem_cons_zero, Act.put, List.setIfInBounds_toArray, List.set_cons_zero, List.set_cons_succ]
            refine wpAnyH_take (i := 4) (oi := _) (v := ?_) rfl (by kernel_rfl) (by kernel_rfl) (by kernel_rfl) (fun _ _ _ h => h) (Or.inl ⟨by rfl, ?_⟩) hH.out ?_
            rotate_left
            · intro w1 hSw
              obtain ⟨hSa, s5, s6, s7, s8⟩ := hSw
              obtain ⟨s0, s1, s2, s3, s4⟩ := gcells hSa
              clear hSa
              go_simp; with_reducible rfl
            simp only [List.getElem_toArray, List.getElem_cons_succ, List.getElem_cons_zero, Act.put, List.setIfInBounds_toArray, List.set_cons_zero, List.set_cons_succ]
            refine wpAnyH_all (rs := [5]) (by kernel_rfl) (by simp) ?_
            intro i hi; obtain rfl := List.mem_singleton.1 hi; clear hi
            refine wpOp_step rfl (fun K3 hK3 => ?_)
            have HK3 := Lib.hid hK3
            clear hK3
            rw [if_pos (by rfl)]
            go_simp
            refine (HEX.out _ hbX).mono ?_
            rintro e X1 ⟨rfl, hb⟩
            have hzz := hbX.size
            replace hH := Lib.hid (And.intro ((hb.block w.heap.size (by omega)).trans hH.out.1) (And.intro ((hb.cell (p := ⟨lg, _, none⟩) (by simp; omega)).trans hH.out.2.1) (And.intro ((hb.cell (p := ⟨lg, _, none⟩) (by simp; omega)).trans hH.out.2.2.1) (And.intro ((hb.cell (p := ⟨lg, _, none⟩) (by simp; omega)).trans hH.out.2.2.2.1) ((hb.cell (p := ⟨lg, _, none⟩) (by simp; omega)).trans hH.out.2.2.2.2)))))
            replace hbX := hbX.trans (hb.mono hzz)
            clear hb hzz
            refine HK3.out _ _ ⟨hH.out, ?_⟩
            clear HK3 K3
            try simp only [List.getElem_toArray, List.getElem_cons_succ, List.getElem_cons_zero, Act.put, List.setIfInBounds_toArray, List.set_cons_zero, List.set_cons_succ]
            refine wpAnyH_take (i := 6) (oi := _) (v := ?_) rfl (by kernel_rfl) (by kernel_rfl) (by kernel_rfl) (fun _ _ _ h => h) (Or.inl ⟨by rfl, ?_⟩) hH.out ?_
            rotate_left
            · intro w1 hSw
              obtain ⟨hSa, s5, s6, s7, s8⟩ := hSw
              obtain ⟨s0, s1, s2, s3, s4⟩ := gcells hSa
              clear hSa
              go_simp; with_reducible rfl
            simp only [List.getElem_toArray, List.getElem_cons_succ, List.getElem_cons_zero, Act.put, List.setIfInBounds_toArray, List.set_cons_zero, List.set_cons_succ]
            refine wpAnyH_take (i := 7) (oi := _) (v := ?_) rfl (by kernel_rfl) (by kernel_rfl) (by kernel_rfl) (fun _ _ _ h => h) (Or.inl ⟨by rfl, ?_⟩) hH.out ?_
            rotate_left
            · intro w1 hSw
              obtain ⟨hSa, s5, s6, s7, s8⟩ := hSw
              obtain ⟨s0, s1, s2, s3, s4⟩ := gcells hSa
              clear hSa
              go_simp; with_reducible rfl
            simp only [List.getElem_toArray, List.getElem_cons_succ, List.getElem_cons_zero, Act.put, List.setIfInBounds_toArray, List.set_cons_zero, List.set_cons_succ]
            refine wpAnyH_take (i := 8) (oi := _) (v := ?_) rfl (by kernel_rfl) (by kernel_rfl) (by kernel_rfl) (fun _ _ _ h => h) (Or.inl ⟨by rfl, ?_⟩) hH.out ?_
            rotate_left
            · intro w1 hSw
              obtain ⟨hSa, s5, s6, s7, s8⟩ := hSw
              obtain ⟨s0, s1, s2, s3, s4⟩ := gcells hSa
              clear hSa
              go_simp; with_reducible rfl
            simp only [List.getElem_toArray, List.getElem_cons_succ, List.getElem_cons_zero, Act.put, List.setIfInBounds_toArray, List.set_cons_zero, List.set_cons_succ]
            refine wpAnyH_take (i := 9) (oi := _) (v := ?_) rfl (by kernel_rfl) (by kernel_rfl) (by kernel_rfl) (fun _ _ _ h => h) (Or.inl ⟨by rfl, ?_⟩) hH.out ?_
            rotate_left
            · intro w1 hSw
              obtain ⟨hSa, s5, s6, s7, s8⟩ := hSw
              obtain ⟨s0, s1, s2, s3, s4⟩ := gcells hSa
              clear hSa
              go_simp; with_reducible rfl
            simp only [List.getElem_toArray, List.getElem_cons_succ, List.getElem_cons_zero, Act.put, List.setIfInBounds_toArray, List.set_cons_zero, List.set_cons_succ]
            refine wpAnyH_take (i := 10) (oi := _) (v := ?_) rfl (by kernel_rfl) (by kernel_rfl) (by kernel_rfl) (fun _ _ _ h => h) (Or.inl ⟨by rfl, ?_⟩) hH.out ?_
            rotate_left
            · intro w1 hSw
              obtain ⟨hSa, s5, s6, s7, s8⟩ := hSw
              obtain ⟨s0, s1, s2, s3, s4⟩ := gcells hSa
              clear hSa
              go_simp; with_reducible rfl
            simp only [List.getElem_toArray, List.getElem_cons_succ, List.getElem_cons_zero, Act.put, List.setIfInBounds_toArray, List.set_cons_zero, List.set_cons_succ]
            refine wpAnyH_take (i := 11) (oi := _) (v := ?_) rfl (by kernel_rfl) (by kernel_rfl) (by kernel_rfl) (fun _ _ _ h => h) (Or.inl ⟨by rfl, ?_⟩) hH.out ?_
            rotate_left
            · intro w1 hSw
              obtain ⟨hSa, s5, s6, s7, s8⟩ := hSw
              obtain ⟨s0, s1, s2, s3, s4⟩ := gcells hSa
              clear hSa
              go_simp; with_reducible rfl
            simp only [List.getElem_toArray, List.getElem_cons_succ, List.getElem_cons_zero, Act.put, List.setIfInBounds_toArray, List.set_cons_zero, List.set_cons_succ]
            refine wpAnyH_take (i := 12) (oi := _) (v := ?_) rfl (by kernel_rfl) (by kernel_rfl) (by kernel_rfl) (fun _ _ _ h => h) (Or.inl ⟨by rfl, ?_⟩) hH.out ?_
            rotate_left
            · intro w1 hSw
              obtain ⟨hSa, s5, s6, s7, s8⟩ := hSw
              obtain ⟨s0, s1, s2, s3, s4⟩ := gcells hSa
              clear hSa
              go_simp; with_reducible rfl
            simp only [List.getElem_toArray, List.getElem_cons_succ, List.getElem_cons_zero, Act.put, List.setIfInBounds_toArray, List.set_cons_zero, List.set_cons_succ]
            refine wpAnyH_take (i := 13) (oi := _) (v := ?_) rfl (by kernel_rfl) (by kernel_rfl) (by kernel_rfl) (fun _ _ _ h => h) (Or.inl ⟨by rfl, ?_⟩) hH.out ?_
            rotate_left
            · intro w1 hSw
              obtain ⟨hSa, s5, s6, s7, s8⟩ := hSw
              obtain ⟨s0, s1, s2, s3, s4⟩ := gcells hSa
              clear hSa
              go_simp; with_reducible rfl
            simp only [List.getElem_toArray, List.getElem_cons_succ, List.getElem_cons_zero, Act.put, List.setIfInBounds_toArray, List.set_cons_zero, List.set_cons_succ]
            refine wpAnyH_take (i := 14) (oi := _) (v := ?_) rfl (by kernel_rfl) (by kernel_rfl) (by kernel_rfl) (fun _ _ _ h => h) (Or.inl ⟨by rfl, ?_⟩) hH.out ?_
            rotate_left
            · intro w1 hSw
              obtain ⟨hSa, s5, s6, s7, s8⟩ := hSw
              obtain ⟨s0, s1, s2, s3, s4⟩ := gcells hSa
              clear hSa
              go_simp; with_reducible rfl
            simp only [List.getElem_toArray, List.getElem_cons_succ, List.getElem_cons_zero, Act.put, List.setIfInBounds_toArray, List.set_cons_zero, List.set_cons_succ]
            refine wpAnyH_take (i := 15) (oi := _) (v := ?_) rfl (by kernel_rfl) (by kernel_rfl) (by kernel_rfl) (fun _ _ _ h => h) (Or.inl ⟨by rfl, ?_⟩) hH.out ?_
            rotate_left
            · intro w1 hSw
              obtain ⟨hSa, s5, s6, s7, s8⟩ := hSw
              obtain ⟨s0, s1, s2, s3, s4⟩ := gcells hSa
              clear hSa
              go_simp; with_reducible rfl
            simp only [List.getElem_toArray, List.getElem_cons_succ, List.getElem_cons_zero, Act.put, List.setIfInBounds_toArray, List.set_cons_zero, List.set_cons_succ]
            refine wpAnyH_take (i := 16) (oi := _) (v := ?_) rfl (by kernel_rfl) (by kernel_rfl) (by kernel_rfl) (fun _ _ _ h => h) (Or.inl ⟨by rfl, ?_⟩) hH.out ?_
            rotate_left
            · intro w1 hSw
              obtain ⟨hSa, s5, s6, s7, s8⟩ := hSw
              obtain ⟨s0, s1, s2, s3, s4⟩ := gcells hSa
              clear hSa
              go_simp; with_reducible rfl
            simp only [List.getElem_toArray, List.getElem_cons_succ, List.getElem_cons_zero, Act.put, List.setIfInBounds_toArray, List.set_cons_zero, List.set_cons_succ]
            refine wpAnyH_take (i := 17) (oi := _) (v := ?_) rfl (by kernel_rfl) (by kernel_rfl) (by kernel_rfl) (fun _ _ _ h => h) (Or.inl ⟨by rfl, ?_⟩) hH.out ?_
            rotate_left
            · intro w1 hSw
              obtain ⟨hSa, s5, s6, s7, s8⟩ := hSw
              obtain ⟨s0, s1, s2, s3, s4⟩ := gcells hSa
              clear hSa
              go_simp; with_reducible rfl
            simp only [List.getElem_toArray, List.getElem_cons_succ, List.getElem_cons_zero, Act.put, List.setIfInBounds_toArray, List.set_cons_zero, List.set_cons_succ]
            refine wpAnyH_all (rs := [18]) (by kernel_rfl) (by simp) ?_
            intro i hi; obtain rfl := List.mem_singleton.1 hi; clear hi
            refine wpOp_step rfl (fun K3 hK3 => ?_)
            have HK3 := Lib.hid hK3
            clear hK3
            rw [if_pos (by rfl)]
            go_simp
            refine (HBF.out _ hbX).mono ?_
            rintro e X2 ⟨rfl, hb⟩
            have hzz := hbX.size
            replace hH := Lib.hid (And.intro ((hb.block w.heap.size (by omega)).trans hH.out.1) (And.intro ((hb.cell (p := ⟨lg, _, none⟩) (by simp; omega)).trans hH.out.2.1) (And.intro ((hb.cell (p := ⟨lg, _, none⟩) (by simp; omega)).trans hH.out.2.2.1) (And.intro ((hb.cell (p := ⟨lg, _, none⟩) (by simp; omega)).trans hH.out.2.2.2.1) ((hb.cell (p := ⟨lg, _, none⟩) (by simp; omega)).trans hH.out.2.2.2.2)))))
            replace hbX := hbX.trans (hb.mono hzz)
            clear hb hzz
            refine HK3.out _ _ ⟨hH.out, ?_⟩
            clear HK3 K3
            try simp only [List.getElem_toArray, List.getElem_cons_succ, List.getElem_cons_zero, Act.put, List.setIfInBounds_toArray, List.set_cons_zero, List.set_cons_succ]
            refine wpAnyH_take (i := 19) (oi := _) (v := ?_) rfl (by kernel_rfl) (by kernel_rfl) (by kernel_rfl) (fun _ _ _ h => h) (Or.inl ⟨by rfl, ?_⟩) hH.out ?_
            rotate_left
            · intro w1 hSw
              obtain ⟨hSa, s5, s6, s7, s8⟩ := hSw
              obtain ⟨s0, s1, s2, s3, s4⟩ := gcells hSa
              clear hSa
              go_simp; with_reducible rfl
            simp only [List.getElem_toArray, List.getElem_cons_succ, List.getElem_cons_zero, Act.put, List.setIfInBounds_toArray, List.set_cons_zero, List.set_cons_succ]
            refine wpAnyH_take (i := 20) (oi := _) (v := ?_) rfl (by kernel_rfl) (by kernel_rfl) (by kernel_rfl) (fun _ _ _ h => h) (Or.inl ⟨by rfl, ?_⟩) hH.out ?_
            rotate_left
            · intro w1 hSw
              obtain ⟨hSa, s5, s6, s7, s8⟩ := hSw
              obtain ⟨s0, s1, s2, s3, s4⟩ := gcells hSa
              clear hSa
              go_simp; with_reducible rfl
            simp only [List.getElem_toArray, List.getElem_cons_succ, List.getElem_cons_zero, Act.put, List.setIfInBounds_toArray, List.set_cons_zero, List.set_cons_succ]
            refine wpAnyH_done (by kernel_rfl) ?_ _
            go_wp2_with fail
            go_meet
            exact ⟨by rw [HRES.out]; show _ = Value.bool (true && beforeB P1 i1 P2 i2'); rw [HBE.out]; rfl, hbX⟩
      case rest =>
        obtain ⟨rfl, hbX⟩ := hcut
        obtain ⟨q, hq⟩ : ∃ q, (match pickC t r (M.take i) with | none => ex | some y => ex && beforeB P1 i1 y.1 y.2) = q := ⟨_, rfl⟩
        rw [hq]
        have hst := stepC_of t r (pickC t r (M.take i)) (P1, i1) q (by rw [HXE.out]; exact hq)
        have hps := pickC_succ t r M i hiM
        rw [← HX.out, hst] at hps
        have HPS := Lib.hid hps
        have hbn := hbel.trans (hbX.mono hws)
        clear hq hst hps hbX hbest c0 c1 hG hws hbel
        cases q with
        | true =>
          go_wp2_with fail
          go_roundw
          case rel => exact ⟨i + 1, (i : Int), by omega, by go_num, rfl, .inr ⟨i, by omega, rfl, by rw [HPS.out, if_pos rfl, HX.out]⟩, hbn⟩
          case measure => simp [intOf]; omega
        | false =>
          go_wp2_with fail
          go_roundw
          case rel => exact ⟨i + 1, b, by omega, by go_num, rfl, by
            rcases HB.out with ⟨h1, h2⟩ | ⟨j, h1, h2, h3⟩
            · exact .inl ⟨by rw [HPS.out, if_neg (by simp)]; exact h1, h2⟩
            · exact .inr ⟨j, by omega, h2, by rw [HPS.out, if_neg (by simp)]; exact h3⟩, hbn⟩
          case measure => simp [intOf]; omega
    · have i2 : ¬ (i : Int) < (N : Int) := by omega
      obtain rfl : i = N := by omega
      have hbw := hb0.trans (hbel.mono (by omega))
      have hR := (hbel.block (w.heap.size + 1) (by omega)).trans HR.out
      have hzr : w.heap.size + 2 ≤ wr.heap.size := by omega
      rcases hbest with ⟨hpk, rfl⟩ | ⟨j, hji, rfl, hpk⟩
      · have hC : C = (4, none) := by rw [HCC.out]; unfold refCC; rw [HST.out, HGE.out, ← HM.out]; rw [HN.out, List.take_length] at hpk; rw [hpk]; rfl
        have HC := Lib.hid hC
        have b9 : (-1 : Int) < 0 := by omega
        obtain ⟨z0, z1, zf⟩ := rcells hR
        clear hC hpk hR hbel
        go_wp2
        refine bodyPost_ret (v := .tuple #[.agg #[.slice none 0 0, .int .i64 0], .int .i64 0, .int .i64 4]) (by simp [results, Try.results18, go_sem, z0, z1]) rfl ⟨?_, by rw [HC.out]⟩
        exact (hbw.setCell (by simp) _).setCell (by simp) _
      · have hjM : j < M.length := by have := HN.out; omega
        have b9 : ¬ (j : Int) < 0 := by omega
        have b8 : (0 : Int) ≤ (j : Int) := by omega
        have b7 : (j : Int) < (i : Int) := by omega
        obtain ⟨lg, yb, yd, e0, hlg, c2, c3, hWj⟩ := trains_cells (HT.out.below hbel) hjM
        subst e0
        have hgR : w.heap.size + 1 < lg := HFR.out lg 0 _ _ rfl
        obtain ⟨y, hy⟩ : ∃ y, y = M.getD j ([], 0) := ⟨_, rfl⟩
        rw [← hy] at c2 c3 hWj hpk
        have hym : y ∈ M := by rw [hy]; simp [List.getD, hjM]
        rw [HM.out] at hym
        have hpl2 := (pairsErr_zero (ableC_zero (allR_able hym)).1).1
        obtain ⟨P2, i2'⟩ := y
        have hC : C = (0, some (P2, i2')) := by rw [HCC.out]; unfold refCC; rw [HST.out, HGE.out, ← HM.out]; rw [HN.out, List.take_length] at hpk; rw [hpk]; rfl
        have HC := Lib.hid hC
        have hwh := fun X => wheels_any P2 yb yd P2.length i2' X rfl (by simp at hpl2; omega)
        obtain ⟨wn, hwn⟩ : ∃ wn, wheelsN P2 i2' = wn := ⟨_, rfl⟩
        simp only [hwn] at hwh
        have HWH := Lib.hid hwh
        have HWN := Lib.hid hwn
        have HWJ := Lib.hid hWj
        clear hC hpk hwh hwn hym hpl2 hy hWj
        go_upto_region 12 with fail
        refine wp_region_held_drew (S := fun w' => w'.cell? ⟨lg, j * 2, none⟩ = some (.slice yb P2.length yd) ∧ w'.cell? ⟨lg, j * 2 + 1, none⟩ = some (.int .i64 i2')) (by kernel_rfl) ⟨c2, c3⟩ (fun hHeld => ?_)
        obtain ⟨X0, hX0⟩ : ∃ X, X = wr.drew := ⟨_, rfl⟩
        have hbX : Below wr.heap.size wr X0 := by rw [hX0]; exact (Below.refl _ _).drew
        rw [← hX0] at hHeld ⊢
        have hH := Lib.hid hHeld
        clear hX0 hHeld
        refine wpAnyH_take (i := 0) (oi := _) (v := ?_) rfl (by kernel_rfl) (by kernel_rfl) (by kernel_rfl) (fun _ _ _ h => h) (Or.inl ⟨by rfl, ?_⟩) hH.out ?_
        rotate_left
        · intro w1 hSw
          obtain ⟨s7, s8⟩ := hSw
          go_simp; with_reducible rfl
        simp only [List.getElem_toArray, List.getElem_cons_succ, List.getElem_cons_zero, Act.put, List.setIfInBounds_toArray, List.set_cons_zero, List.set_cons_succ]
        refine wpAnyH_take (i := 1) (oi := _) (v := ?_) rfl (by kernel_rfl) (by kernel_rfl) (by kernel_rfl) (fun _ _ _ h => h) (Or.inl ⟨by rfl, ?_⟩) hH.out ?_
        rotate_left
        · intro w1 hSw
          obtain ⟨s7, s8⟩ := hSw
          go_simp; with_reducible rfl
        simp only [List.getElem_toArray, List.getElem_cons_succ, List.getElem_cons_zero, Act.put, List.setIfInBounds_toArray, List.set_cons_zero, List.set_cons_succ]
        refine wpAnyH_take (i := 2) (oi := _) (v := ?_) rfl (by kernel_rfl) (by kernel_rfl) (by kernel_rfl) (fun _ _ _ h => h) (Or.inl ⟨by rfl, ?_⟩) hH.out ?_
        rotate_left
        · intro w1 hSw
          obtain ⟨s7, s8⟩ := hSw
          go_simp; with_reducible rfl
        simp only [List.getElem_toArray, List.getElem_cons_succ, List.getElem_cons_zero, Act.put, List.setIfInBounds_toArray, List.set_cons_zero, List.set_cons_succ]
        refine wpAnyH_take (i := 3) (oi := _) (v := ?_) rfl (by kernel_rfl) (by kernel_rfl) (by kernel_rfl) (fun _ _ _ h => h) (Or.inl ⟨by rfl, ?_⟩) hH.out ?_
        rotate_left
        · intro w1 hSw
          obtain ⟨s7, s8⟩ := hSw
          go_simp; with_reducible rfl
        simp only [List.getElem_toArray, List.getElem_cons_succ, List.getElem_cons_zero, Act.put, List.setIfInBounds_toArray, List.set_cons_zero, List.set_cons_succ]
        refine wpAnyH_take (i := 4) (oi := _) (v := ?_) rfl (by kernel_rfl) (by kernel_rfl) (by kernel_rfl) (fun _ _ _ h => h) (Or.inl ⟨by rfl, ?_⟩) hH.out ?_
        rotate_left
        · intro w1 hSw
          obtain ⟨s7, s8⟩ := hSw
          go_simp; with_reducible rfl
        simp only [List.getElem_toArray, List.getElem_cons_succ, List.getElem_cons_zero, Act.put, List.setIfInBounds_toArray, List.set_cons_zero, List.set_cons_succ]
        refine wpAnyH_take (i := 5) (oi := _) (v := ?_) rfl (by kernel_rfl) (by kernel_rfl) (by kernel_rfl) (fun _ _ _ h => h) (Or.inl ⟨by rfl, ?_⟩) hH.out ?_
        rotate_left
        · intro w1 hSw
          obtain ⟨s7, s8⟩ := hSw
          go_simp; with_reducible rfl
        simp only [List.getElem_toArray, List.getElem_cons_succ, List.getElem_cons_zero, Act.put, List.setIfInBounds_toArray, List.set_cons_zero, List.set_cons_succ]
        refine wpAnyH_take (i := 6) (oi := _) (v := ?_) rfl (by kernel_rfl) (by kernel_rfl) (by kernel_rfl) (fun _ _ _ h => h) (Or.inl ⟨by rfl, ?_⟩) hH.out ?_
        rotate_left
        · intro w1 hSw
          obtain ⟨s7, s8⟩ := hSw
          go_simp; with_reducible rfl
        simp only [List.getElem_toArray, List.getElem_cons_succ, List.getElem_cons_zero, Act.put, List.setIfInBounds_toArray, List.set_cons_zero, List.set_cons_succ]
        refine wpAnyH_take (i := 7) (oi := _) (v := ?_) rfl (by kernel_rfl) (by kernel_rfl) (by kernel_rfl) (fun _ _ _ h => h) (Or.inl ⟨by rfl, ?_⟩) hH.out ?_
        rotate_left
        · intro w1 hSw
          obtain ⟨s7, s8⟩ := hSw
          go_simp; with_reducible rfl
        simp only [List.getElem_toArray, List.getElem_cons_succ, List.getElem_cons_zero, Act.put, List.setIfInBounds_toArray, List.set_cons_zero, List.set_cons_succ]
        refine wpAnyH_all (rs := [8]) (by kernel_rfl) (by simp) ?_
        intro i hi; obtain rfl := List.mem_singleton.1 hi; clear hi
        refine wpOp_step rfl (fun K3 hK3 => ?_)
        have HK3 := Lib.hid hK3
        clear hK3
        rw [if_pos (by rfl)]
        go_simp
        refine (HWH.out _).mono ?_
        rintro e X1 ⟨rfl, hb⟩
        have hzz := hbX.size
        replace hH := Lib.hid (And.intro ((hb.cell (p := ⟨lg, _, none⟩) (by simp; omega)).trans hH.out.1) ((hb.cell (p := ⟨lg, _, none⟩) (by simp; omega)).trans hH.out.2))
        replace hbX := hbX.trans (hb.mono hzz)
        clear hb hzz
        refine HK3.out _ _ ⟨hH.out, ?_⟩
        clear HK3 K3
        try simp only [List.getElem_toArray, List.getElem_cons_succ, List.getElem_cons_zero, Act.put, List.setIfInBounds_toArray, List.set_cons_zero, List.set_cons_succ]
        refine wpAnyH_all (rs := [9]) (by kernel_rfl) (by simp) ?_
        intro i hi; obtain rfl := List.mem_singleton.1 hi; clear hi
        refine wpOp_step rfl (fun K3 hK3 => ?_)
        have HK3 := Lib.hid hK3
        clear hK3
        rw [if_pos (by rfl)]
        obtain ⟨z0, z1, zf⟩ := rcells ((hbX.block (w.heap.size + 1) (by omega)).trans hR)
        go_simp
        have hne : lg ≠ w.heap.size + 1 := by omega
        have hk2 : ((X1.setCell ⟨w.heap.size + 1, 0, none⟩ (.slice yb P2.length yd)).setCell ⟨w.heap.size + 1, 1, none⟩ (.int .i64 i2')).heap[lg]? = X1.heap[lg]? := (Below.heap_setCell _ _ _ _ hne).trans (Below.heap_setCell _ _ _ _ hne)
        replace hH := Lib.hid (And.intro ((World.cell?_of_block (a := ⟨lg, _, none⟩) hk2).trans hH.out.1) ((World.cell?_of_block (a := ⟨lg, _, none⟩) hk2).trans hH.out.2))
        refine HK3.out _ _ ⟨hH.out, ?_⟩
        clear HK3 K3
        try simp only [List.getElem_toArray, List.getElem_cons_succ, List.getElem_cons_zero, Act.put, List.setIfInBounds_toArray, List.set_cons_zero, List.set_cons_succ]
        refine wpAnyH_take (i := 10) (oi := _) (v := ?_) rfl (by kernel_rfl) (by kernel_rfl) (by kernel_rfl) (fun _ _ _ h => h) (Or.inl ⟨by rfl, ?_⟩) hH.out ?_
        rotate_left
        · intro w1 hSw
          obtain ⟨s7, s8⟩ := hSw
          go_simp; with_reducible rfl
        simp only [List.getElem_toArray, List.getElem_cons_succ, List.getElem_cons_zero, Act.put, List.setIfInBounds_toArray, List.set_cons_zero, List.set_cons_succ]
        refine wpAnyH_take (i := 11) (oi := _) (v := ?_) rfl (by kernel_rfl) (by kernel_rfl) (by kernel_rfl) (fun _ _ _ h => h) (Or.inl ⟨by rfl, ?_⟩) hH.out ?_
        rotate_left
        · intro w1 hSw
          obtain ⟨s7, s8⟩ := hSw
          go_simp; with_reducible rfl
        simp only [List.getElem_toArray, List.getElem_cons_succ, List.getElem_cons_zero, Act.put, List.setIfInBounds_toArray, List.set_cons_zero, List.set_cons_succ]
        refine wpAnyH_done (by kernel_rfl) ?_ _
        go_wp2
        refine bodyPost_ret (v := .tuple #[.agg #[.slice yb P2.length yd, .int .i64 i2'], .int .i64 wn, .int .i64 0]) (by simp [results, Try.results18, go_sem, z0, z1]) rfl ⟨?_, ?_⟩
        · have hb := hbw.trans (hbX.mono (by omega))
          exact (hb.setCell (by simp) _).setCell (by simp) _
        · rw [HC.out]
          refine ⟨yb, yd, by rw [HWN.out], ?_⟩
          have hP1 := HWJ.out.keep (Keep.below hbX (Nat.le_refl _))
          refine wheels_two hP1.1 (w.heap.size + 1) _ _ (fun b off e hP e2 => ?_)
          subst e
          subst e2
          obtain ⟨cs, hcs⟩ := hP1.2 _ _ _ _ rfl hP
          have := ((hbX.block (w.heap.size + 1) (by omega)).trans hR).symm.trans hcs
          simp at this
end Go.Proofs.Ytoiapnokgpeipaa

/- The reference's Near. -/
namespace Go.Proofs.Ytoiapnokgpeipaa
set_option linter.unusedSimpArgs false
open Go.RowKit Go.Maps

def nearerN (t r : Int) (x y : List (Int × Int) × Int) : Bool :=
  decide (distB (exA t r x.1) * exB r y.1 < distB (exA t r y.1) * exB r x.1) || (distB (exA t r x.1) * exB r y.1 == distB (exA t r y.1) * exB r x.1) && beforeB x.1 x.2 y.1 y.2
def stepN (t r : Int) (b : Option (List (Int × Int) × Int)) (x : List (Int × Int) × Int) : Option (List (Int × Int) × Int) :=
  match b with
  | none => some x
  | some y => if nearerN t r x y = true then some x else some y
def pickN (t r : Int) (M : List (List (Int × Int) × Int)) : Option (List (Int × Int) × Int) := M.foldl (stepN t r) none
theorem pickN_succ (t r : Int) (M : List (List (Int × Int) × Int)) (i : Nat) (h : i < M.length) : pickN t r (M.take (i + 1)) = stepN t r (pickN t r (M.take i)) (M.getD i ([], 0)) := by
  unfold pickN
  rw [List.take_succ_eq_append_getElem h, List.foldl_append]
  simp [List.getD, h]
/-- what the reference's Near answers -/
def refNC (S : List (Int × Int)) (t r p o : Int) (same : Bool) : Int × Option (List (Int × Int) × Int) :=
  if stockB S && gearB t r p o then (match pickN t r (allR S p o same) with | none => (4, none) | some x => (0, some x)) else (1, none)
def RefNearIs (t r : Int) (C : Int × Option (List (Int × Int) × Int)) (w : World) (e : Ending) (w' : World) : Prop := Below w.heap.size w w' ∧
  match C with
  | (c, none) => e = .returned (.tuple #[.agg #[.slice none 0 0, .int .i64 0], .int .i64 0, .int .i64 c])
  | (_, some x) => ∃ a cp, e = .returned (.tuple #[.agg #[.slice a x.1.length cp, .int .i64 x.2], .int .i64 (exA t r x.1 * 1000000 / exB r x.1), .int .i64 0]) ∧ WheelsAt w' (.slice a x.1.length cp) x.1
def BestN (t r : Int) (M : List (List (Int × Int) × Int)) (i : Nat) (b : Int) : Prop := (pickN t r (M.take i) = none ∧ b = -1) ∨ ∃ j : Nat, j < i ∧ b = j ∧ pickN t r (M.take i) = some (M.getD j ([], 0))
set_option maxRecDepth 100000 in
set_option maxHeartbeats 800000 in
theorem amount_dist (n D : Int) (w : World) (h0 : -1000000000 ≤ n) (h1 : n ≤ 1000000000) (hD : D = distB n) : Calls Try.prog 53 #[.int .i64 n] w fun e w' => e = .returned (.int .i64 D) ∧ w = w' := by
  have e : wrap64 (-n) = -n := by unfold wrap64; omega
  refine (amount_any n w).mono ?_
  rintro e2 w' ⟨rfl, rfl⟩
  refine ⟨?_, rfl⟩
  rw [e, hD, max_dist]

set_option maxRecDepth 100000 in
set_option maxHeartbeats 12800000 in
theorem refNear_any (S : List (Int × Int)) (sv : Value) (t r p o : Int) (same : Bool) (w : World) (hS : WheelsAt w sv S) (h4 : stockB S = true → S.length ≤ 4) :
    Calls Try.prog 20 #[sv, .agg #[.int .i64 t, .int .i64 r, .bool same, .int .i64 p, .int .i64 o]] w (RefNearIs t r (refNC S t r p o same) w) := by
  obtain ⟨sa, sc, rfl⟩ := hS.shape
  obtain ⟨C, hCC⟩ : ∃ C, C = refNC S t r p o same := ⟨_, rfl⟩
  rw [← hCC]
  have HCC := Lib.hid hCC
  clear hCC
  obtain ⟨W0, hW0⟩ : ∃ W0, W0 = (w.alloc (.cells #[.int .i64 t, .int .i64 r, .bool same, .int .i64 p, .int .i64 o] 24)).alloc (.cells #[.slice none 0 0, .int .i64 0] 27) := ⟨_, rfl⟩
  have hb0 : Below w.heap.size w W0 := by rw [hW0]; exact ((Below.refl _ _).alloc (Nat.le_refl _) _).alloc (by simp) _
  have hG : W0.heap[w.heap.size]? = some (.cells #[.int .i64 t, .int .i64 r, .bool same, .int .i64 p, .int .i64 o] 24) := by rw [hW0, Below.heap_alloc _ _ _ (by simp)]; exact (MapKept.heap_alloc w _).1
  have hR : W0.heap[w.heap.size + 1]? = some (.cells #[.slice none 0 0, .int .i64 0] 27) := by
    have := (MapKept.heap_alloc (w.alloc (.cells #[.int .i64 t, .int .i64 r, .bool same, .int .i64 p, .int .i64 o] 24)) (.cells #[.slice none 0 0, .int .i64 0] 27)).1
    rw [hW0]; simpa using this
  have hz0 : w.heap.size + 2 ≤ W0.heap.size := by rw [hW0]; simp
  have hrs := refStock_any S (.slice sa S.length sc) W0 (hS.below hb0)
  obtain ⟨st, hst⟩ : ∃ st, stockB S = st := ⟨_, rfl⟩
  rw [hst] at hrs h4
  have HRS := Lib.hid hrs
  have HST := Lib.hid hst
  have H4 := Lib.hid h4
  clear hrs hst h4
  go_enter Try.func20, Try.ntmps20
  go_wp2_with fail
  rw [← hW0]
  clear hW0
  refine HRS.out.mono ?_
  rintro e w2 ⟨rfl, hb2⟩
  clear HRS
  replace hG := (hb2.block w.heap.size (by omega)).trans hG
  replace hR := (hb2.block (w.heap.size + 1) (by omega)).trans hR
  replace hb0 := hb0.trans (hb2.mono (by omega))
  replace hz0 := Nat.le_trans hz0 hb2.size
  clear hb2
  cases st with
  | false =>
    have hC : C = (1, none) := by rw [HCC.out]; unfold refNC; rw [HST.out]; rfl
    have HC := Lib.hid hC
    obtain ⟨z0, z1, zf⟩ := rcells hR
    clear hC hS hG hR
    go_wp2
    refine bodyPost_ret (v := .tuple #[.agg #[.slice none 0 0, .int .i64 0], .int .i64 0, .int .i64 1]) (by simp [results, Try.results20, go_sem, z0, z1]) rfl ⟨?_, by rw [HC.out]⟩
    exact (hb0.setCell (by simp) _).setCell (by simp) _
  | true =>
  have h4 := H4.out rfl
  have hrg := refGearing_any t r p o same w2
  obtain ⟨ge, hge⟩ : ∃ ge, gearB t r p o = ge := ⟨_, rfl⟩
  rw [hge] at hrg
  have HRG := Lib.hid hrg
  have HGE := Lib.hid hge
  clear hrg hge H4
  obtain ⟨g0, g1, g2, g3, g4⟩ := gcells hG
  go_wp2_with fail
  refine HRG.out.mono ?_
  rintro e w3 ⟨rfl, hb3⟩
  clear HRG g0 g1 g2 g3 g4
  replace hG := (hb3.block w.heap.size (by omega)).trans hG
  replace hR := (hb3.block (w.heap.size + 1) (by omega)).trans hR
  replace hb0 := hb0.trans (hb3.mono (by omega))
  replace hz0 := Nat.le_trans hz0 hb3.size
  clear hb3
  cases ge with
  | false =>
    have hC : C = (1, none) := by rw [HCC.out]; unfold refNC; rw [HST.out, HGE.out]; rfl
    have HC := Lib.hid hC
    obtain ⟨z0, z1, zf⟩ := rcells hR
    clear hC hS hG hR
    go_wp2
    refine bodyPost_ret (v := .tuple #[.agg #[.slice none 0 0, .int .i64 0], .int .i64 0, .int .i64 1]) (by simp [results, Try.results20, go_sem, z0, z1]) rfl ⟨?_, by rw [HC.out]⟩
    exact (hb0.setCell (by simp) _).setCell (by simp) _
  | true =>
  have hgi := gearB_iff.1 HGE.out
  have ht2 : 1 ≤ t ∧ t ≤ 1000 := ⟨hgi.1, hgi.2.1⟩
  have hr2 : 1 ≤ r ∧ r ≤ 1000 := ⟨hgi.2.2.1, hgi.2.2.2.1⟩
  have hp2 : 0 ≤ p ∧ p ≤ 3 := ⟨hgi.2.2.2.2.1, hgi.2.2.2.2.2.1⟩
  have ho2 : 0 ≤ o ∧ o ≤ 200 := hgi.2.2.2.2.2.2
  have hal := all_any S (.slice sa S.length sc) t r p o same w3 (hS.below hb0) h4 hp2 ho2
  obtain ⟨M, hM⟩ : ∃ M, M = allR S p o same := ⟨_, rfl⟩
  rw [← hM] at hal
  have HAL := Lib.hid hal
  have HM := Lib.hid hM
  obtain ⟨g0, g1, g2, g3, g4⟩ := gcells hG
  clear hal hM hgi
  go_wp2_with fail
  refine HAL.out.mono ?_
  rintro e w4 ⟨lv, rfl, hT, hfr, hb4⟩
  obtain ⟨la, lc, rfl⟩ : ∃ a c, lv = .slice a M.length c := by obtain ⟨a, c, e, _⟩ := hT; exact ⟨a, c, e⟩
  clear HAL g0 g1 g2 g3 g4
  replace hG := (hb4.block w.heap.size (by omega)).trans hG
  replace hR := (hb4.block (w.heap.size + 1) (by omega)).trans hR
  replace hb0 := hb0.trans (hb4.mono (by omega))
  have hfr2 : ∀ g off n c, Value.slice la M.length lc = .slice (some ⟨g, off, none⟩) n c → w.heap.size + 1 < g := fun g off n c e => by have := hfr g off n c e; omega
  replace hz0 := Nat.le_trans hz0 hb4.size
  clear hb4 hfr
  obtain ⟨N, hN⟩ : ∃ N, N = M.length := ⟨_, rfl⟩
  rw [← hN] at hT hfr2 ⊢
  have hN4 : N ≤ 4611686018427387904 := by have := allR_len S p o same h4 hp2.2; rw [← HM.out] at this; omega
  have HN := Lib.hid hN
  have HT := Lib.hid hT
  have HFR := Lib.hid hfr2
  have HG := Lib.hid hG
  have HR := Lib.hid hR
  clear hN hT hfr2 hG hR
  go_wp2_with fail
  go_loopw [8, 9] (fun bv c wr => ∃ (i : Nat) (b : Int), i ≤ N ∧ c = .int .i64 i ∧ bv = .int .i64 b ∧ BestN t r M i b ∧ Below w4.heap.size w4 wr) (fun _ c _ => N - (intOf c).toNat)
  case atStart => exact ⟨0, -1, by omega, rfl, rfl, .inl ⟨rfl, rfl⟩, Below.refl _ _⟩
  case round =>
    obtain ⟨i, b, hi, rfl, rfl, hbest, hbel⟩ := hrel
    have hws := hbel.size
    have i0 : (0 : Int) ≤ (i : Int) := by omega
    by_cases hil : i < N
    · have i2 : (i : Int) < (N : Int) := by omega
      have hiM : i < M.length := by have := HN.out; omega
      rcases hbest with ⟨hpk, rfl⟩ | ⟨j, hji, rfl, hpk⟩
      · have hps := pickN_succ t r M i hiM
        rw [hpk] at hps
        have HPS := Lib.hid hps
        have b9 : (-1 : Int) < 0 := by omega
        clear hps hpk
        go_wp2_with fail
        go_roundw
        case rel => exact ⟨i + 1, (i : Int), by omega, by go_num, rfl, .inr ⟨i, by omega, rfl, HPS.out⟩, hbel⟩
        case measure => simp [intOf]; omega
      · have b9 : ¬ (j : Int) < 0 := by omega
        have b8 : (0 : Int) ≤ (j : Int) := by omega
        have b7 : (j : Int) < (N : Int) := by omega
        have hjM : j < M.length := by omega
        have hTr := HT.out.below hbel
        obtain ⟨lg, lb, ld, e0, hlg, c0, c1, hWi⟩ := trains_cells hTr hiM
        subst e0
        obtain ⟨lg', yb, yd, e0, _, c2, c3, hWj⟩ := trains_cells hTr hjM
        simp only [Option.some.injEq, Addr.mk.injEq, and_true] at e0
        subst e0
        obtain ⟨x, hx⟩ : ∃ x, x = M.getD i ([], 0) := ⟨_, rfl⟩
        rw [← hx] at c0 c1 hWi
        have hxm : x ∈ M := by rw [hx]; simp [List.getD, hiM]
        rw [HM.out] at hxm
        obtain ⟨y, hy⟩ : ∃ y, y = M.getD j ([], 0) := ⟨_, rfl⟩
        rw [← hy] at c2 c3 hWj hpk
        have hym : y ∈ M := by rw [hy]; simp [List.getD, hjM]
        rw [HM.out] at hym
        have hbx := able_bd hp2.2 (allR_able hxm)
        have hby := able_bd hp2.2 (allR_able hym)
        have hpl := (pairsErr_zero (ableC_zero (allR_able hxm)).1).1
        have hpl2 := (pairsErr_zero (ableC_zero (allR_able hym)).1).1
        have hG := (hbel.block w.heap.size (by omega)).trans HG.out
        obtain ⟨P1, i1⟩ := x
        obtain ⟨P2, i2'⟩ := y
        have ha1 := ex_bd (t := t) (r := r) ht2 hr2 hbx.1 hbx.2
        have ha2 := ex_bd (t := t) (r := r) ht2 hr2 hby.1 hby.2
        have hx1 := fun X hX => excess_gen t r p o same P1 (.slice lb P1.length ld) i1 X (hWi.1.below hX) ht2 hr2 hbx.1 hbx.2
        have hx2 := fun X hX => excess_gen t r p o same P2 (.slice yb P2.length yd) i2' X (hWj.1.below hX) ht2 hr2 hby.1 hby.2
        have hnn : nearerN t r (P1, i1) (P2, i2') = (decide (distB (exA t r P1) * exB r P2 < distB (exA t r P2) * exB r P1) || (distB (exA t r P1) * exB r P2 == distB (exA t r P2) * exB r P1) && beforeB P1 i1 P2 i2') := rfl
        obtain ⟨A1, hA1⟩ : ∃ A, exA t r P1 = A := ⟨_, rfl⟩
        obtain ⟨E1, hE1⟩ : ∃ A, exB r P1 = A := ⟨_, rfl⟩
        obtain ⟨A2, hA2⟩ : ∃ A, exA t r P2 = A := ⟨_, rfl⟩
        obtain ⟨E2, hE2⟩ : ∃ A, exB r P2 = A := ⟨_, rfl⟩
        rw [hA1, hE1, hA2, hE2] at hnn
        rw [hA1, hE1] at ha1
        rw [hA2, hE2] at ha2
        simp only [hA1, hE1] at hx1
        simp only [hA2, hE2] at hx2
        have hd1 := distB_bd ha1.1 ha1.2.1
        have hd2 := distB_bd ha2.1 ha2.2.1
        have hm1 := fun X => amount_dist A1 (distB A1) X ha1.1 ha1.2.1 rfl
        have hm2 := fun X => amount_dist A2 (distB A2) X ha2.1 ha2.2.1 rfl
        obtain ⟨D1, hD1⟩ : ∃ D, distB A1 = D := ⟨_, rfl⟩
        obtain ⟨D2, hD2⟩ : ∃ D, distB A2 = D := ⟨_, rfl⟩
        rw [hD1, hD2] at hnn
        rw [hD1] at hd1
        rw [hD2] at hd2
        simp only [hD1] at hm1
        simp only [hD2] at hm2
        have q1 := mul_bd hd1.1 hd1.2 (show 0 ≤ E2 by omega) ha2.2.2.2
        have q2 := mul_bd hd2.1 hd2.2 (show 0 ≤ E1 by omega) ha1.2.2.2
        obtain ⟨H1, hH1⟩ : ∃ H, D1 * E2 = H := ⟨_, rfl⟩
        obtain ⟨H2, hH2⟩ : ∃ H, D2 * E1 = H := ⟨_, rfl⟩
        rw [hH1, hH2] at hnn
        rw [hH1] at q1
        rw [hH2] at q2
        have w1' : wrap64 (D1 * E2) = H1 := by rw [hH1]; exact IntWalk.wrap64_in _ (by omega)
        have w2' : wrap64 (D2 * E1) = H2 := by rw [hH2]; exact IntWalk.wrap64_in _ (by omega)
        have hbf := fun X hX => before_any P1 P2 (.slice lb P1.length ld) (.slice yb P2.length yd) i1 i2' X (hWi.1.below hX) (hWj.1.below hX) (by simp at hpl; omega) (by simp at hpl2; omega)
        obtain ⟨bf, hbfe⟩ : ∃ bf, beforeB P1 i1 P2 i2' = bf := ⟨_, rfl⟩
        simp only [hbfe] at hbf
        rw [hbfe] at hnn
        have HX1 := Lib.hid hx1
        have HX2 := Lib.hid hx2
        have HM1 := Lib.hid hm1
        have HM2 := Lib.hid hm2
        have HBF := Lib.hid hbf
        have HX := Lib.hid hx
        have HY := Lib.hid hy
        have HPK := Lib.hid hpk
        have HNN := Lib.hid hnn
        have HW12 := Lib.hid (And.intro w1' w2')
        clear hx1 hx2 hm1 hm2 hbf hx hy hpk hnn hA1 hE1 hA2 hE2 hD1 hD2 hH1 hH2 hbfe hxm hym hbx hby hpl hpl2 hWi hWj hTr w1' w2' ha1 ha2 hd1 hd2 q1 q2
        go_upto_region 10 with fail
        have HC := Lib.hid (And.intro hG (And.intro c0 (And.intro c1 (And.intro c2 c3))))
        clear hG c0 c1 c2 c3
        go_cut [10, 11] (fun v1 v2 wx => v1 = .int .i64 A1 ∧ v2 = .int .i64 E1 ∧ Below wr.heap.size wr wx)
        case first =>
          refine wp_region_held_drew (S := fun w' => w'.heap[w.heap.size]? = some (.cells #[.int .i64 t, .int .i64 r, .bool same, .int .i64 p, .int .i64 o] 24) ∧ w'.cell? ⟨lg, i * 2, none⟩ = some (.slice lb P1.length ld) ∧ w'.cell? ⟨lg, i * 2 + 1, none⟩ = some (.int .i64 i1)) (by kernel_rfl) ⟨HC.out.1, HC.out.2.1, HC.out.2.2.1⟩ (fun hHeld => ?_)
          obtain ⟨X0, hX0⟩ : ∃ X, X = wr.drew := ⟨_, rfl⟩
          have hbX : Below wr.heap.size wr X0 := by rw [hX0]; exact (Below.refl _ _).drew
          rw [← hX0] at hHeld ⊢
          have hH := Lib.hid hHeld
          clear hX0 hHeld
          refine wpAnyH_take (i := 0) (oi := _) (v := ?_) rfl (by kernel_rfl) (by kernel_rfl) (by kernel_rfl) (fun _ _ _ h => h) (Or.inl ⟨by rfl, ?_⟩) hH.out ?_
          rotate_left
          · intro w1 hSw
            obtain ⟨hSa, s5, s6⟩ := hSw
            obtain ⟨s0, s1, s2, s3, s4⟩ := gcells hSa
            clear hSa
            go_simp; with_reducible rfl
          simp only [List.getElem_toArray, List.getElem_cons_succ, List.getElem_cons_zero, Act.put, List.setIfInBounds_toArray, List.set_cons_zero, List.set_cons_succ]
          refine wpAnyH_take (i := 1) (oi := _) (v := ?_) rfl (by kernel_rfl) (by kernel_rfl) (by kernel_rfl) (fun _ _ _ h => h) (Or.inl ⟨by rfl, ?_⟩) hH.out ?_
          rotate_left
          · intro w1 hSw
            obtain ⟨hSa, s5, s6⟩ := hSw
            obtain ⟨s0, s1, s2, s3, s4⟩ := gcells hSa
            clear hSa
            go_simp; with_reducible rfl
          simp only [List.getElem_toArray, List.getElem_cons_succ, List.getElem_cons_zero, Act.put, List.setIfInBounds_toArray, List.set_cons_zero, List.set_cons_succ]
          refine wpAnyH_take (i := 2) (oi := _) (v := ?_) rfl (by kernel_rfl) (by kernel_rfl) (by kernel_rfl) (fun _ _ _ h => h) (Or.inl ⟨by rfl, ?_⟩) hH.out ?_
          rotate_left
          · intro w1 hSw
            obtain ⟨hSa, s5, s6⟩ := hSw
            obtain ⟨s0, s1, s2, s3, s4⟩ := gcells hSa
            clear hSa
            go_simp; with_reducible rfl
          simp only [List.getElem_toArray, List.getElem_cons_succ, List.getElem_cons_zero, Act.put, List.setIfInBounds_toArray, List.set_cons_zero, List.set_cons_succ]
          refine wpAnyH_take (i := 3) (oi := _) (v := ?_) rfl (by kernel_rfl) (by kernel_rfl) (by kernel_rfl) (fun _ _ _ h => h) (Or.inl ⟨by rfl, ?_⟩) hH.out ?_
          rotate_left
          · intro w1 hSw
            obtain ⟨hSa, s5, s6⟩ := hSw
            obtain ⟨s0, s1, s2, s3, s4⟩ := gcells hSa
            clear hSa
            go_simp; with_reducible rfl
          simp only [List.getElem_toArray, List.getElem_cons_succ, List.getElem_cons_zero, Act.put, List.setIfInBounds_toArray, List.set_cons_zero, List.set_cons_succ]
          refine wpAnyH_take (i := 4) (oi := _) (v := ?_) rfl (by kernel_rfl) (by kernel_rfl) (by kernel_rfl) (fun _ _ _ h => h) (Or.inl ⟨by rfl, ?_⟩) hH.out ?_
          rotate_left
          · intro w1 hSw
            obtain ⟨hSa, s5, s6⟩ := hSw
            obtain ⟨s0, s1, s2, s3, s4⟩ := gcells hSa
            clear hSa
            go_simp; with_reducible rfl
          simp only [List.getElem_toArray, List.getElem_cons_succ, List.getElem_cons_zero, Act.put, List.setIfInBounds_toArray, List.set_cons_zero, List.set_cons_succ]
          refine wpAnyH_all (rs := [5]) (by kernel_rfl) (by simp) ?_
          intro i hi; obtain rfl := List.mem_singleton.1 hi; clear hi
          refine wpOp_step rfl (fun K3 hK3 => ?_)
          have HK3 := Lib.hid hK3
          clear hK3
          rw [if_pos (by rfl)]
          go_simp
          refine (HX1.out _ (hbX)).mono ?_
          rintro e X1 ⟨rfl, hb⟩
          have hzz := hbX.size
          replace hH := Lib.hid (And.intro ((hb.block w.heap.size (by omega)).trans hH.out.1) (And.intro ((hb.cell (p := ⟨lg, _, none⟩) (by simp; omega)).trans hH.out.2.1) ((hb.cell (p := ⟨lg, _, none⟩) (by simp; omega)).trans hH.out.2.2)))
          replace hbX := hbX.trans (hb.mono hzz)
          clear hb hzz
          refine HK3.out _ _ ⟨hH.out, ?_⟩
          clear HK3 K3
          try simp only [List.getElem_toArray, List.getElem_cons_succ, List.getElem_cons_zero, Act.put, List.setIfInBounds_toArray, List.set_cons_zero, List.set_cons_succ]
          refine wpAnyH_take (i := 6) (oi := _) (v := ?_) rfl (by kernel_rfl) (by kernel_rfl) (by kernel_rfl) (fun _ _ _ h => h) (Or.inl ⟨by rfl, ?_⟩) hH.out ?_
          rotate_left
          · intro w1 hSw
            obtain ⟨hSa, s5, s6⟩ := hSw
            obtain ⟨s0, s1, s2, s3, s4⟩ := gcells hSa
            clear hSa
            go_simp; with_reducible rfl
          simp only [List.getElem_toArray, List.getElem_cons_succ, List.getElem_cons_zero, Act.put, List.setIfInBounds_toArray, List.set_cons_zero, List.set_cons_succ]
          refine wpAnyH_take (i := 7) (oi := _) (v := ?_) rfl (by kernel_rfl) (by kernel_rfl) (by kernel_rfl) (fun _ _ _ h => h) (Or.inl ⟨by rfl, ?_⟩) hH.out ?_
          rotate_left
          · intro w1 hSw
            obtain ⟨hSa, s5, s6⟩ := hSw
            obtain ⟨s0, s1, s2, s3, s4⟩ := gcells hSa
            clear hSa
            go_simp; with_reducible rfl
          simp only [List.getElem_toArray, List.getElem_cons_succ, List.getElem_cons_zero, Act.put, List.setIfInBounds_toArray, List.set_cons_zero, List.set_cons_succ]
          refine wpAnyH_take (i := 8) (oi := _) (v := ?_) rfl (by kernel_rfl) (by kernel_rfl) (by kernel_rfl) (fun _ _ _ h => h) (Or.inl ⟨by rfl, ?_⟩) hH.out ?_
          rotate_left
          · intro w1 hSw
            obtain ⟨hSa, s5, s6⟩ := hSw
            obtain ⟨s0, s1, s2, s3, s4⟩ := gcells hSa
            clear hSa
            go_simp; with_reducible rfl
          simp only [List.getElem_toArray, List.getElem_cons_succ, List.getElem_cons_zero, Act.put, List.setIfInBounds_toArray, List.set_cons_zero, List.set_cons_succ]
          refine wpAnyH_take (i := 9) (oi := _) (v := ?_) rfl (by kernel_rfl) (by kernel_rfl) (by kernel_rfl) (fun _ _ _ h => h) (Or.inl ⟨by rfl, ?_⟩) hH.out ?_
          rotate_left
          · intro w1 hSw
            obtain ⟨hSa, s5, s6⟩ := hSw
            obtain ⟨s0, s1, s2, s3, s4⟩ := gcells hSa
            clear hSa
            go_simp; with_reducible rfl
          simp only [List.getElem_toArray, List.getElem_cons_succ, List.getElem_cons_zero, Act.put, List.setIfInBounds_toArray, List.set_cons_zero, List.set_cons_succ]
          refine wpAnyH_take (i := 10) (oi := _) (v := ?_) rfl (by kernel_rfl) (by kernel_rfl) (by kernel_rfl) (fun _ _ _ h => h) (Or.inl ⟨by rfl, ?_⟩) hH.out ?_
          rotate_left
          · intro w1 hSw
            obtain ⟨hSa, s5, s6⟩ := hSw
            obtain ⟨s0, s1, s2, s3, s4⟩ := gcells hSa
            clear hSa
            go_simp; with_reducible rfl
          simp only [List.getElem_toArray, List.getElem_cons_succ, List.getElem_cons_zero, Act.put, List.setIfInBounds_toArray, List.set_cons_zero, List.set_cons_succ]
          refine wpAnyH_done (by kernel_rfl) ?_ _
          go_wp2_with fail
          go_meet
          exact ⟨rfl, rfl, hbX⟩
        case rest =>
        obtain ⟨rfl, rfl, hbA⟩ := hcut
        rename_i wA
        replace HC := Lib.hid (And.intro ((hbA.block w.heap.size (by omega)).trans HC.out.1) (And.intro ((hbA.cell (p := ⟨lg, _, none⟩) hlg).trans HC.out.2.1) (And.intro ((hbA.cell (p := ⟨lg, _, none⟩) hlg).trans HC.out.2.2.1) (And.intro ((hbA.cell (p := ⟨lg, _, none⟩) hlg).trans HC.out.2.2.2.1) ((hbA.cell (p := ⟨lg, _, none⟩) hlg).trans HC.out.2.2.2.2)))))
        have hlA : lg < wc.heap.size := Nat.lt_of_lt_of_le hlg hbA.size
        have hwA := hbA.size
        go_upto_region 11 with fail
        obtain ⟨wd, hwd⟩ : ∃ x : World, x = wc := ⟨_, rfl⟩
        subst hwd
        go_cut [12, 13] (fun v1 v2 wx => v1 = .int .i64 A2 ∧ v2 = .int .i64 E2 ∧ Below wd.heap.size wd wx)
        case first =>
          refine wp_region_held_drew (S := fun w' => w'.heap[w.heap.size]? = some (.cells #[.int .i64 t, .int .i64 r, .bool same, .int .i64 p, .int .i64 o] 24) ∧ w'.cell? ⟨lg, j * 2, none⟩ = some (.slice yb P2.length yd) ∧ w'.cell? ⟨lg, j * 2 + 1, none⟩ = some (.int .i64 i2')) (by kernel_rfl) ⟨HC.out.1, HC.out.2.2.2.1, HC.out.2.2.2.2⟩ (fun hHeld => ?_)
          obtain ⟨X0, hX0⟩ : ∃ X, X = wd.drew := ⟨_, rfl⟩
          have hbX : Below wd.heap.size wd X0 := by rw [hX0]; exact (Below.refl _ _).drew
          rw [← hX0] at hHeld ⊢
          have hH := Lib.hid hHeld
          clear hX0 hHeld
          refine wpAnyH_take (i := 0) (oi := _) (v := ?_) rfl (by kernel_rfl) (by kernel_rfl) (by kernel_rfl) (fun _ _ _ h => h) (Or.inl ⟨by rfl, ?_⟩) hH.out ?_
          rotate_left
          · intro w1 hSw
            obtain ⟨hSa, s5, s6⟩ := hSw
            obtain ⟨s0, s1, s2, s3, s4⟩ := gcells hSa
            clear hSa
            go_simp; with_reducible rfl
          simp only [List.getElem_toArray, List.getElem_cons_succ, List.getElem_cons_zero, Act.put, List.setIfInBounds_toArray, List.set_cons_zero, List.set_cons_succ]
          refine wpAnyH_take (i := 1) (oi := _) (v := ?_) rfl (by kernel_rfl) (by kernel_rfl) (by kernel_rfl) (fun _ _ _ h => h) (Or.inl ⟨by rfl, ?_⟩) hH.out ?_
          rotate_left
          · intro w1 hSw
            obtain ⟨hSa, s5, s6⟩ := hSw
            obtain ⟨s0, s1, s2, s3, s4⟩ := gcells hSa
            clear hSa
            go_simp; with_reducible rfl
          simp only [List.getElem_toArray, List.getElem_cons_succ, List.getElem_cons_zero, Act.put, List.setIfInBounds_toArray, List.set_cons_zero, List.set_cons_succ]
          refine wpAnyH_take (i := 2) (oi := _) (v := ?_) rfl (by kernel_rfl) (by kernel_rfl) (by kernel_rfl) (fun _ _ _ h => h) (Or.inl ⟨by rfl, ?_⟩) hH.out ?_
          rotate_left
          · intro w1 hSw
            obtain ⟨hSa, s5, s6⟩ := hSw
            obtain ⟨s0, s1, s2, s3, s4⟩ := gcells hSa
            clear hSa
            go_simp; with_reducible rfl
          simp only [List.getElem_toArray, List.getElem_cons_succ, List.getElem_cons_zero, Act.put, List.setIfInBounds_toArray, List.set_cons_zero, List.set_cons_succ]
          refine wpAnyH_take (i := 3) (oi := _) (v := ?_) rfl (by kernel_rfl) (by kernel_rfl) (by kernel_rfl) (fun _ _ _ h => h) (Or.inl ⟨by rfl, ?_⟩) hH.out ?_
          rotate_left
          · intro w1 hSw
            obtain ⟨hSa, s5, s6⟩ := hSw
            obtain ⟨s0, s1, s2, s3, s4⟩ := gcells hSa
            clear hSa
            go_simp; with_reducible rfl
          simp only [List.getElem_toArray, List.getElem_cons_succ, List.getElem_cons_zero, Act.put, List.setIfInBounds_toArray, List.set_cons_zero, List.set_cons_succ]
          refine wpAnyH_take (i := 4) (oi := _) (v := ?_) rfl (by kernel_rfl) (by kernel_rfl) (by kernel_rfl) (fun _ _ _ h => h) (Or.inl ⟨by rfl, ?_⟩) hH.out ?_
          rotate_left
          · intro w1 hSw
            obtain ⟨hSa, s5, s6⟩ := hSw
            obtain ⟨s0, s1, s2, s3, s4⟩ := gcells hSa
            clear hSa
            go_simp; with_reducible rfl
          simp only [List.getElem_toArray, List.getElem_cons_succ, List.getElem_cons_zero, Act.put, List.setIfInBounds_toArray, List.set_cons_zero, List.set_cons_succ]
          refine wpAnyH_all (rs := [5]) (by kernel_rfl) (by simp) ?_
          intro i hi; obtain rfl := List.mem_singleton.1 hi; clear hi
          refine wpOp_step rfl (fun K3 hK3 => ?_)
          have HK3 := Lib.hid hK3
          clear hK3
          rw [if_pos (by rfl)]
          go_simp
          refine (HX2.out _ (hbA.trans (hbX.mono hwA))).mono ?_
          rintro e X1 ⟨rfl, hb⟩
          have hzz := hbX.size
          replace hH := Lib.hid (And.intro ((hb.block w.heap.size (by omega)).trans hH.out.1) (And.intro ((hb.cell (p := ⟨lg, _, none⟩) (by simp; omega)).trans hH.out.2.1) ((hb.cell (p := ⟨lg, _, none⟩) (by simp; omega)).trans hH.out.2.2)))
          replace hbX := hbX.trans (hb.mono hzz)
          clear hb hzz
          refine HK3.out _ _ ⟨hH.out, ?_⟩
          clear HK3 K3
          try simp only [List.getElem_toArray, List.getElem_cons_succ, List.getElem_cons_zero, Act.put, List.setIfInBounds_toArray, List.set_cons_zero, List.set_cons_succ]
          refine wpAnyH_take (i := 6) (oi := _) (v := ?_) rfl (by kernel_rfl) (by kernel_rfl) (by kernel_rfl) (fun _ _ _ h => h) (Or.inl ⟨by rfl, ?_⟩) hH.out ?_
          rotate_left
          · intro w1 hSw
            obtain ⟨hSa, s5, s6⟩ := hSw
            obtain ⟨s0, s1, s2, s3, s4⟩ := gcells hSa
            clear hSa
            go_simp; with_reducible rfl
          simp only [List.getElem_toArray, List.getElem_cons_succ, List.getElem_cons_zero, Act.put, List.setIfInBounds_toArray, List.set_cons_zero, List.set_cons_succ]
          refine wpAnyH_take (i := 7) (oi := _) (v := ?_) rfl (by kernel_rfl) (by kernel_rfl) (by kernel_rfl) (fun _ _ _ h => h) (Or.inl ⟨by rfl, ?_⟩) hH.out ?_
          rotate_left
          · intro w1 hSw
            obtain ⟨hSa, s5, s6⟩ := hSw
            obtain ⟨s0, s1, s2, s3, s4⟩ := gcells hSa
            clear hSa
            go_simp; with_reducible rfl
          simp only [List.getElem_toArray, List.getElem_cons_succ, List.getElem_cons_zero, Act.put, List.setIfInBounds_toArray, List.set_cons_zero, List.set_cons_succ]
          refine wpAnyH_take (i := 8) (oi := _) (v := ?_) rfl (by kernel_rfl) (by kernel_rfl) (by kernel_rfl) (fun _ _ _ h => h) (Or.inl ⟨by rfl, ?_⟩) hH.out ?_
          rotate_left
          · intro w1 hSw
            obtain ⟨hSa, s5, s6⟩ := hSw
            obtain ⟨s0, s1, s2, s3, s4⟩ := gcells hSa
            clear hSa
            go_simp; with_reducible rfl
          simp only [List.getElem_toArray, List.getElem_cons_succ, List.getElem_cons_zero, Act.put, List.setIfInBounds_toArray, List.set_cons_zero, List.set_cons_succ]
          refine wpAnyH_take (i := 9) (oi := _) (v := ?_) rfl (by kernel_rfl) (by kernel_rfl) (by kernel_rfl) (fun _ _ _ h => h) (Or.inl ⟨by rfl, ?_⟩) hH.out ?_
          rotate_left
          · intro w1 hSw
            obtain ⟨hSa, s5, s6⟩ := hSw
            obtain ⟨s0, s1, s2, s3, s4⟩ := gcells hSa
            clear hSa
            go_simp; with_reducible rfl
          simp only [List.getElem_toArray, List.getElem_cons_succ, List.getElem_cons_zero, Act.put, List.setIfInBounds_toArray, List.set_cons_zero, List.set_cons_succ]
          refine wpAnyH_take (i := 10) (oi := _) (v := ?_) rfl (by kernel_rfl) (by kernel_rfl) (by kernel_rfl) (fun _ _ _ h => h) (Or.inl ⟨by rfl, ?_⟩) hH.out ?_
          rotate_left
          · intro w1 hSw
            obtain ⟨hSa, s5, s6⟩ := hSw
            obtain ⟨s0, s1, s2, s3, s4⟩ := gcells hSa
            clear hSa
            go_simp; with_reducible rfl
          simp only [List.getElem_toArray, List.getElem_cons_succ, List.getElem_cons_zero, Act.put, List.setIfInBounds_toArray, List.set_cons_zero, List.set_cons_succ]
          refine wpAnyH_done (by kernel_rfl) ?_ _
          go_wp2_with fail
          go_meet
          exact ⟨rfl, rfl, hbX⟩
        case rest =>
        obtain ⟨rfl, rfl, hbB⟩ := hcut
        replace HC := Lib.hid (And.intro ((hbB.block w.heap.size (by omega)).trans HC.out.1) (And.intro ((hbB.cell (p := ⟨lg, _, none⟩) hlA).trans HC.out.2.1) (And.intro ((hbB.cell (p := ⟨lg, _, none⟩) hlA).trans HC.out.2.2.1) (And.intro ((hbB.cell (p := ⟨lg, _, none⟩) hlA).trans HC.out.2.2.2.1) ((hbB.cell (p := ⟨lg, _, none⟩) hlA).trans HC.out.2.2.2.2)))))
        have hlB : lg < wc.heap.size := Nat.lt_of_lt_of_le hlA hbB.size
        have hbAB : Below wr.heap.size wr wc := hbA.trans (hbB.mono hwA)
        clear hbA hbB hlA hwA hlg
        go_wp2_with fail
        refine (HM1.out _).mono ?_
        rintro e wf ⟨rfl, rfl⟩
        go_wp2_with fail
        refine (HM2.out _).mono ?_
        rintro e wf ⟨rfl, rfl⟩
        have w1' := HW12.out.1
        have w2' := HW12.out.2
        go_upto_region 13 with fail
        clear w1' w2'
        try rw [HW12.out.1]
        try rw [HW12.out.2]
        go_cut [83] (fun v wx => v = .bool (nearerN t r (P1, i1) (P2, i2')) ∧ Below wc.heap.size wc wx)
        case first =>
          by_cases hlt : H1 < H2
          · have hr : nearerN t r (P1, i1) (P2, i2') = true := by rw [HNN.out, decide_eq_true hlt]; rfl
            have HRES := Lib.hid hr
            have d1 : decide (H1 < H2) = true := decide_eq_true hlt
            clear hr
            go_quiet (fail)
            go_wp2_with fail
            go_meet
            exact ⟨by rw [HRES.out], below_drewN' (Below.refl _ _) _⟩
          · have d1 : decide (H1 < H2) = false := decide_eq_false hlt
            by_cases heq : H1 = H2
            · have d2 : (H1 == H2) = true := by simp [heq]
              have hr : nearerN t r (P1, i1) (P2, i2') = bf := by rw [HNN.out, d1, d2]; rfl
              have HRES := Lib.hid hr
              clear hr heq
              refine wp_region_held_drew (S := fun w' => w'.cell? ⟨lg, i * 2, none⟩ = some (.slice lb P1.length ld) ∧ w'.cell? ⟨lg, i * 2 + 1, none⟩ = some (.int .i64 i1) ∧ w'.cell? ⟨lg, j * 2, none⟩ = some (.slice yb P2.length yd) ∧ w'.cell? ⟨lg, j * 2 + 1, none⟩ = some (.int .i64 i2')) (by kernel_rfl) ⟨HC.out.2.1, HC.out.2.2.1, HC.out.2.2.2.1, HC.out.2.2.2.2⟩ (fun hHeld => ?_)
              obtain ⟨X0, hX0⟩ : ∃ X, X = wc.drew := ⟨_, rfl⟩
              have hbX : Below wc.heap.size wc X0 := by rw [hX0]; exact (Below.refl _ _).drew
              rw [← hX0] at hHeld ⊢
              have hH := Lib.hid hHeld
              clear hX0 hHeld
              refine wpAnyH_take (i := 0) (oi := _) (v := ?_) rfl (by kernel_rfl) (by kernel_rfl) (by kernel_rfl) (fun _ _ _ h => h) (Or.inl ⟨by rfl, ?_⟩) hH.out ?_
              rotate_left
              · intro w1 hSw
                obtain ⟨s5, s6, s7, s8⟩ := hSw
                go_simp; with_reducible rfl
              simp only [List.getElem_toArray, List.getElem_cons_succ, List.getElem_cons_zero, Act.put, List.setIfInBounds_toArray, List.set_cons_zero, List.set_cons_succ]
              refine wpAnyH_take (i := 1) (oi := _) (v := ?_) rfl (by kernel_rfl) (by kernel_rfl) (by kernel_rfl) (fun _ _ _ h => h) (Or.inl ⟨by rfl, ?_⟩) hH.out ?_
              rotate_left
              · intro w1 hSw
                obtain ⟨s5, s6, s7, s8⟩ := hSw
                go_simp; with_reducible rfl
              simp only [List.getElem_toArray, List.getElem_cons_succ, List.getElem_cons_zero, Act.put, List.setIfInBounds_toArray, List.set_cons_zero, List.set_cons_succ]
              refine wpAnyH_take (i := 2) (oi := _) (v := ?_) rfl (by kernel_rfl) (by kernel_rfl) (by kernel_rfl) (fun _ _ _ h => h) (Or.inl ⟨by rfl, ?_⟩) hH.out ?_
              rotate_left
              · intro w1 hSw
                obtain ⟨s5, s6, s7, s8⟩ := hSw
                go_simp; with_reducible rfl
              simp only [List.getElem_toArray, List.getElem_cons_succ, List.getElem_cons_zero, Act.put, List.setIfInBounds_toArray, List.set_cons_zero, List.set_cons_succ]
              refine wpAnyH_take (i := 3) (oi := _) (v := ?_) rfl (by kernel_rfl) (by kernel_rfl) (by kernel_rfl) (fun _ _ _ h => h) (Or.inl ⟨by rfl, ?_⟩) hH.out ?_
              rotate_left
              · intro w1 hSw
                obtain ⟨s5, s6, s7, s8⟩ := hSw
                go_simp; with_reducible rfl
              simp only [List.getElem_toArray, List.getElem_cons_succ, List.getElem_cons_zero, Act.put, List.setIfInBounds_toArray, List.set_cons_zero, List.set_cons_succ]
              refine wpAnyH_take (i := 4) (oi := _) (v := ?_) rfl (by kernel_rfl) (by kernel_rfl) (by kernel_rfl) (fun _ _ _ h => h) (Or.inl ⟨by rfl, ?_⟩) hH.out ?_
              rotate_left
              · intro w1 hSw
                obtain ⟨s5, s6, s7, s8⟩ := hSw
                go_simp; with_reducible rfl
              simp only [List.getElem_toArray, List.getElem_cons_succ, List.getElem_cons_zero, Act.put, List.setIfInBounds_toArray, List.set_cons_zero, List.set_cons_succ]
              refine wpAnyH_take (i := 5) (oi := _) (v := ?_) rfl (by kernel_rfl) (by kernel_rfl) (by kernel_rfl) (fun _ _ _ h => h) (Or.inl ⟨by rfl, ?_⟩) hH.out ?_
              rotate_left
              · intro w1 hSw
                obtain ⟨s5, s6, s7, s8⟩ := hSw
                go_simp; with_reducible rfl
              simp only [List.getElem_toArray, List.getElem_cons_succ, List.getElem_cons_zero, Act.put, List.setIfInBounds_toArray, List.set_cons_zero, List.set_cons_succ]
              refine wpAnyH_take (i := 6) (oi := _) (v := ?_) rfl (by kernel_rfl) (by kernel_rfl) (by kernel_rfl) (fun _ _ _ h => h) (Or.inl ⟨by rfl, ?_⟩) hH.out ?_
              rotate_left
              · intro w1 hSw
                obtain ⟨s5, s6, s7, s8⟩ := hSw
                go_simp; with_reducible rfl
              simp only [List.getElem_toArray, List.getElem_cons_succ, List.getElem_cons_zero, Act.put, List.setIfInBounds_toArray, List.set_cons_zero, List.set_cons_succ]
              refine wpAnyH_take (i := 7) (oi := _) (v := ?_) rfl (by kernel_rfl) (by kernel_rfl) (by kernel_rfl) (fun _ _ _ h => h) (Or.inl ⟨by rfl, ?_⟩) hH.out ?_
              rotate_left
              · intro w1 hSw
                obtain ⟨s5, s6, s7, s8⟩ := hSw
                go_simp; with_reducible rfl
              simp only [List.getElem_toArray, List.getElem_cons_succ, List.getElem_cons_zero, Act.put, List.setIfInBounds_toArray, List.set_cons_zero, List.set_cons_succ]
              refine wpAnyH_take (i := 8) (oi := _) (v := ?_) rfl (by kernel_rfl) (by kernel_rfl) (by kernel_rfl) (fun _ _ _ h => h) (Or.inl ⟨by rfl, ?_⟩) hH.out ?_
              rotate_left
              · intro w1 hSw
                obtain ⟨s5, s6, s7, s8⟩ := hSw
                go_simp; with_reducible rfl
              simp only [List.getElem_toArray, List.getElem_cons_succ, List.getElem_cons_zero, Act.put, List.setIfInBounds_toArray, List.set_cons_zero, List.set_cons_succ]
              refine wpAnyH_take (i := 9) (oi := _) (v := ?_) rfl (by kernel_rfl) (by kernel_rfl) (by kernel_rfl) (fun _ _ _ h => h) (Or.inl ⟨by rfl, ?_⟩) hH.out ?_
              rotate_left
              · intro w1 hSw
                obtain ⟨s5, s6, s7, s8⟩ := hSw
                go_simp; with_reducible rfl
              simp only [List.getElem_toArray, List.getElem_cons_succ, List.getElem_cons_zero, Act.put, List.setIfInBounds_toArray, List.set_cons_zero, List.set_cons_succ]
              refine wpAnyH_take (i := 10) (oi := _) (v := ?_) rfl (by kernel_rfl) (by kernel_rfl) (by kernel_rfl) (fun _ _ _ h => h) (Or.inl ⟨by rfl, ?_⟩) hH.out ?_
              rotate_left
              · intro w1 hSw
                obtain ⟨s5, s6, s7, s8⟩ := hSw
                go_simp; with_reducible rfl
              simp only [List.getElem_toArray, List.getElem_cons_succ, List.getElem_cons_zero, Act.put, List.setIfInBounds_toArray, List.set_cons_zero, List.set_cons_succ]
              refine wpAnyH_take (i := 11) (oi := _) (v := ?_) rfl (by kernel_rfl) (by kernel_rfl) (by kernel_rfl) (fun _ _ _ h => h) (Or.inl ⟨by rfl, ?_⟩) hH.out ?_
              rotate_left
              · intro w1 hSw
                obtain ⟨s5, s6, s7, s8⟩ := hSw
                go_simp; with_reducible rfl
              simp only [List.getElem_toArray, List.getElem_cons_succ, List.getElem_cons_zero, Act.put, List.setIfInBounds_toArray, List.set_cons_zero, List.set_cons_succ]
              refine wpAnyH_take (i := 12) (oi := _) (v := ?_) rfl (by kernel_rfl) (by kernel_rfl) (by kernel_rfl) (fun _ _ _ h => h) (Or.inl ⟨by rfl, ?_⟩) hH.out ?_
              rotate_left
              · intro w1 hSw
                obtain ⟨s5, s6, s7, s8⟩ := hSw
                go_simp; with_reducible rfl
              simp only [List.getElem_toArray, List.getElem_cons_succ, List.getElem_cons_zero, Act.put, List.setIfInBounds_toArray, List.set_cons_zero, List.set_cons_succ]
              refine wpAnyH_take (i := 13) (oi := _) (v := ?_) rfl (by kernel_rfl) (by kernel_rfl) (by kernel_rfl) (fun _ _ _ h => h) (Or.inl ⟨by rfl, ?_⟩) hH.out ?_
              rotate_left
              · intro w1 hSw
                obtain ⟨s5, s6, s7, s8⟩ := hSw
                go_simp; with_reducible rfl
              simp only [List.getElem_toArray, List.getElem_cons_succ, List.getElem_cons_zero, Act.put, List.setIfInBounds_toArray, List.set_cons_zero, List.set_cons_succ]
              refine wpAnyH_take (i := 14) (oi := _) (v := ?_) rfl (by kernel_rfl) (by kernel_rfl) (by kernel_rfl) (fun _ _ _ h => h) (Or.inl ⟨by rfl, ?_⟩) hH.out ?_
              rotate_left
              · intro w1 hSw
                obtain ⟨s5, s6, s7, s8⟩ := hSw
                go_simp; with_reducible rfl
              simp only [List.getElem_toArray, List.getElem_cons_succ, List.getElem_cons_zero, Act.put, List.setIfInBounds_toArray, List.set_cons_zero, List.set_cons_succ]
              refine wpAnyH_take (i := 15) (oi := _) (v := ?_) rfl (by kernel_rfl) (by kernel_rfl) (by kernel_rfl) (fun _ _ _ h => h) (Or.inl ⟨by rfl, ?_⟩) hH.out ?_
              rotate_left
              · intro w1 hSw
                obtain ⟨s5, s6, s7, s8⟩ := hSw
                go_simp; with_reducible rfl
              simp only [List.getElem_toArray, List.getElem_cons_succ, List.getElem_cons_zero, Act.put, List.setIfInBounds_toArray, List.set_cons_zero, List.set_cons_succ]
              refine wpAnyH_all (rs := [16]) (by kernel_rfl) (by simp) ?_
              intro i hi; obtain rfl := List.mem_singleton.1 hi; clear hi
              refine wpOp_step rfl (fun K3 hK3 => ?_)
              have HK3 := Lib.hid hK3
              clear hK3
              rw [if_pos (by rfl)]
              go_simp
              refine (HBF.out _ (hbAB.trans (hbX.mono hbAB.size))).mono ?_
              rintro e X1 ⟨rfl, hb⟩
              have hzz := hbX.size
              replace hH := Lib.hid (And.intro ((hb.cell (p := ⟨lg, _, none⟩) (by simp; omega)).trans hH.out.1) (And.intro ((hb.cell (p := ⟨lg, _, none⟩) (by simp; omega)).trans hH.out.2.1) (And.intro ((hb.cell (p := ⟨lg, _, none⟩) (by simp; omega)).trans hH.out.2.2.1) ((hb.cell (p := ⟨lg, _, none⟩) (by simp; omega)).trans hH.out.2.2.2))))
              replace hbX := hbX.trans (hb.mono hzz)
              clear hb hzz
              refine HK3.out _ _ ⟨hH.out, ?_⟩
              clear HK3 K3
              try simp only [List.getElem_toArray, List.getElem_cons_succ, List.getElem_cons_zero, Act.put, List.setIfInBounds_toArray, List.set_cons_zero, List.set_cons_succ]
              refine wpAnyH_take (i := 17) (oi := _) (v := ?_) rfl (by kernel_rfl) (by kernel_rfl) (by kernel_rfl) (fun _ _ _ h => h) (Or.inl ⟨by rfl, ?_⟩) hH.out ?_
              rotate_left
              · intro w1 hSw
                obtain ⟨s5, s6, s7, s8⟩ := hSw
                go_simp; with_reducible rfl
              simp only [List.getElem_toArray, List.getElem_cons_succ, List.getElem_cons_zero, Act.put, List.setIfInBounds_toArray, List.set_cons_zero, List.set_cons_succ]
              refine wpAnyH_take (i := 18) (oi := _) (v := ?_) rfl (by kernel_rfl) (by kernel_rfl) (by kernel_rfl) (fun _ _ _ h => h) (Or.inl ⟨by rfl, ?_⟩) hH.out ?_
              rotate_left
              · intro w1 hSw
                obtain ⟨s5, s6, s7, s8⟩ := hSw
                go_simp; with_reducible rfl
              simp only [List.getElem_toArray, List.getElem_cons_succ, List.getElem_cons_zero, Act.put, List.setIfInBounds_toArray, List.set_cons_zero, List.set_cons_succ]
              refine wpAnyH_done (by kernel_rfl) ?_ _
              go_wp2_with fail
              go_meet
              exact ⟨by rw [HRES.out], hbX⟩
            · have d2 : (H1 == H2) = false := by simp [heq]
              have hr : nearerN t r (P1, i1) (P2, i2') = false := by rw [HNN.out, d1, d2]; rfl
              have HRES := Lib.hid hr
              clear hr heq
              go_quiet (fail)
              go_wp2_with fail
              go_meet
              exact ⟨by rw [HRES.out], below_drewN' (Below.refl _ _) _⟩
        case rest =>
        obtain ⟨rfl, hbX⟩ := hcut
        obtain ⟨q, hq⟩ : ∃ q, nearerN t r (P1, i1) (P2, i2') = q := ⟨_, rfl⟩
        rw [hq]
        have hps := pickN_succ t r M i hiM
        rw [HPK.out, ← HX.out] at hps
        have hps2 : pickN t r (M.take (i + 1)) = if q = true then some (P1, i1) else some (P2, i2') := by rw [hps, ← hq]; rfl
        have HPS := Lib.hid hps2
        have hbn := (hbel.trans (hbAB.mono hws)).trans (hbX.mono (Nat.le_trans hws hbAB.size))
        clear hq hps hps2 hbX hbAB hws hbel
        cases q with
        | true =>
          go_wp2_with fail
          go_roundw
          case rel => exact ⟨i + 1, (i : Int), by omega, by go_num, rfl, .inr ⟨i, by omega, rfl, by rw [HPS.out, if_pos rfl, HX.out]⟩, hbn⟩
          case measure => simp [intOf]; omega
        | false =>
          go_wp2_with fail
          go_roundw
          case rel => exact ⟨i + 1, (j : Int), by omega, by go_num, rfl, .inr ⟨j, by omega, rfl, by rw [HPS.out, if_neg (by simp), HY.out]⟩, hbn⟩
          case measure => simp [intOf]; omega
    · have i2 : ¬ (i : Int) < (N : Int) := by omega
      obtain rfl : i = N := by omega
      have hbw := hb0.trans (hbel.mono (by omega))
      have hR := (hbel.block (w.heap.size + 1) (by omega)).trans HR.out
      have hzr : w.heap.size + 2 ≤ wr.heap.size := by omega
      rcases hbest with ⟨hpk, rfl⟩ | ⟨j, hji, rfl, hpk⟩
      · have hC : C = (4, none) := by rw [HCC.out]; unfold refNC; rw [HST.out, HGE.out, ← HM.out]; rw [HN.out, List.take_length] at hpk; rw [hpk]; rfl
        have HC := Lib.hid hC
        have b9 : (-1 : Int) < 0 := by omega
        obtain ⟨z0, z1, zf⟩ := rcells hR
        clear hC hpk hR hbel
        go_wp2
        refine bodyPost_ret (v := .tuple #[.agg #[.slice none 0 0, .int .i64 0], .int .i64 0, .int .i64 4]) (by simp [results, Try.results20, go_sem, z0, z1]) rfl ⟨?_, by rw [HC.out]⟩
        exact (hbw.setCell (by simp) _).setCell (by simp) _
      · have hjM : j < M.length := by have := HN.out; omega
        have b9 : ¬ (j : Int) < 0 := by omega
        have b8 : (0 : Int) ≤ (j : Int) := by omega
        have b7 : (j : Int) < (i : Int) := by omega
        obtain ⟨lg, yb, yd, e0, hlg, c2, c3, hWj⟩ := trains_cells (HT.out.below hbel) hjM
        subst e0
        have hgR : w.heap.size + 1 < lg := HFR.out lg 0 _ _ rfl
        obtain ⟨y, hy⟩ : ∃ y, y = M.getD j ([], 0) := ⟨_, rfl⟩
        rw [← hy] at c2 c3 hWj hpk
        have hym : y ∈ M := by rw [hy]; simp [List.getD, hjM]
        rw [HM.out] at hym
        have hby := able_bd hp2.2 (allR_able hym)
        obtain ⟨P2, i2'⟩ := y
        have hC : C = (0, some (P2, i2')) := by rw [HCC.out]; unfold refNC; rw [HST.out, HGE.out, ← HM.out]; rw [HN.out, List.take_length] at hpk; rw [hpk]; rfl
        have HC := Lib.hid hC
        have ha2 := ex_bd (t := t) (r := r) ht2 hr2 hby.1 hby.2
        have hx2 := fun X hX => excess_gen t r p o same P2 (.slice yb P2.length yd) i2' X (hWj.1.below hX) ht2 hr2 hby.1 hby.2
        obtain ⟨A2, hA2⟩ : ∃ A, exA t r P2 = A := ⟨_, rfl⟩
        obtain ⟨E2, hE2⟩ : ∃ A, exB r P2 = A := ⟨_, rfl⟩
        rw [hA2, hE2] at ha2
        simp only [hA2, hE2] at hx2
        have hdn := fun X => down_any (A2 * 1000000) E2 X (by omega) (by omega) (by omega) (by omega)
        have hG := (hbel.block w.heap.size (by omega)).trans HG.out
        have HX2 := Lib.hid hx2
        have HDN := Lib.hid hdn
        have HAE := Lib.hid (And.intro hA2 hE2)
        have HWJ := Lib.hid hWj
        have emul : IntKind.i64.wrap (A2 * 1000000) = A2 * 1000000 := IntWalk.i64_in _ (by omega)
        have HEM := Lib.hid emul
        clear hC hpk hx2 hdn hA2 hE2 hym hby hy hWj ha2 emul
        go_upto_region 17 with fail
        go_cut [16, 17] (fun v1 v2 wx => v1 = .int .i64 A2 ∧ v2 = .int .i64 E2 ∧ Below wr.heap.size wr wx)
        case first =>
          refine wp_region_held_drew (S := fun w' => w'.heap[w.heap.size]? = some (.cells #[.int .i64 t, .int .i64 r, .bool same, .int .i64 p, .int .i64 o] 24) ∧ w'.cell? ⟨lg, j * 2, none⟩ = some (.slice yb P2.length yd) ∧ w'.cell? ⟨lg, j * 2 + 1, none⟩ = some (.int .i64 i2')) (by kernel_rfl) ⟨hG, c2, c3⟩ (fun hHeld => ?_)
          obtain ⟨X0, hX0⟩ : ∃ X, X = wr.drew := ⟨_, rfl⟩
          have hbX : Below wr.heap.size wr X0 := by rw [hX0]; exact (Below.refl _ _).drew
          rw [← hX0] at hHeld ⊢
          have hH := Lib.hid hHeld
          clear hX0 hHeld
          refine wpAnyH_take (i := 0) (oi := _) (v := ?_) rfl (by kernel_rfl) (by kernel_rfl) (by kernel_rfl) (fun _ _ _ h => h) (Or.inl ⟨by rfl, ?_⟩) hH.out ?_
          rotate_left
          · intro w1 hSw
            obtain ⟨hSa, s5, s6⟩ := hSw
            obtain ⟨s0, s1, s2, s3, s4⟩ := gcells hSa
            clear hSa
            go_simp; with_reducible rfl
          simp only [List.getElem_toArray, List.getElem_cons_succ, List.getElem_cons_zero, Act.put, List.setIfInBounds_toArray, List.set_cons_zero, List.set_cons_succ]
          refine wpAnyH_take (i := 1) (oi := _) (v := ?_) rfl (by kernel_rfl) (by kernel_rfl) (by kernel_rfl) (fun _ _ _ h => h) (Or.inl ⟨by rfl, ?_⟩) hH.out ?_
          rotate_left
          · intro w1 hSw
            obtain ⟨hSa, s5, s6⟩ := hSw
            obtain ⟨s0, s1, s2, s3, s4⟩ := gcells hSa
            clear hSa
            go_simp; with_reducible rfl
          simp only [List.getElem_toArray, List.getElem_cons_succ, List.getElem_cons_zero, Act.put, List.setIfInBounds_toArray, List.set_cons_zero, List.set_cons_succ]
          refine wpAnyH_take (i := 2) (oi := _) (v := ?_) rfl (by kernel_rfl) (by kernel_rfl) (by kernel_rfl) (fun _ _ _ h => h) (Or.inl ⟨by rfl, ?_⟩) hH.out ?_
          rotate_left
          · intro w1 hSw
            obtain ⟨hSa, s5, s6⟩ := hSw
            obtain ⟨s0, s1, s2, s3, s4⟩ := gcells hSa
            clear hSa
            go_simp; with_reducible rfl
          simp only [List.getElem_toArray, List.getElem_cons_succ, List.getElem_cons_zero, Act.put, List.setIfInBounds_toArray, List.set_cons_zero, List.set_cons_succ]
          refine wpAnyH_take (i := 3) (oi := _) (v := ?_) rfl (by kernel_rfl) (by kernel_rfl) (by kernel_rfl) (fun _ _ _ h => h) (Or.inl ⟨by rfl, ?_⟩) hH.out ?_
          rotate_left
          · intro w1 hSw
            obtain ⟨hSa, s5, s6⟩ := hSw
            obtain ⟨s0, s1, s2, s3, s4⟩ := gcells hSa
            clear hSa
            go_simp; with_reducible rfl
          simp only [List.getElem_toArray, List.getElem_cons_succ, List.getElem_cons_zero, Act.put, List.setIfInBounds_toArray, List.set_cons_zero, List.set_cons_succ]
          refine wpAnyH_take (i := 4) (oi := _) (v := ?_) rfl (by kernel_rfl) (by kernel_rfl) (by kernel_rfl) (fun _ _ _ h => h) (Or.inl ⟨by rfl, ?_⟩) hH.out ?_
          rotate_left
          · intro w1 hSw
            obtain ⟨hSa, s5, s6⟩ := hSw
            obtain ⟨s0, s1, s2, s3, s4⟩ := gcells hSa
            clear hSa
            go_simp; with_reducible rfl
          simp only [List.getElem_toArray, List.getElem_cons_succ, List.getElem_cons_zero, Act.put, List.setIfInBounds_toArray, List.set_cons_zero, List.set_cons_succ]
          refine wpAnyH_all (rs := [5]) (by kernel_rfl) (by simp) ?_
          intro i hi; obtain rfl := List.mem_singleton.1 hi; clear hi
          refine wpOp_step rfl (fun K3 hK3 => ?_)
          have HK3 := Lib.hid hK3
          clear hK3
          rw [if_pos (by rfl)]
          go_simp
          refine (HX2.out _ (hbX)).mono ?_
          rintro e X1 ⟨rfl, hb⟩
          have hzz := hbX.size
          replace hH := Lib.hid (And.intro ((hb.block w.heap.size (by omega)).trans hH.out.1) (And.intro ((hb.cell (p := ⟨lg, _, none⟩) (by simp; omega)).trans hH.out.2.1) ((hb.cell (p := ⟨lg, _, none⟩) (by simp; omega)).trans hH.out.2.2)))
          replace hbX := hbX.trans (hb.mono hzz)
          clear hb hzz
          refine HK3.out _ _ ⟨hH.out, ?_⟩
          clear HK3 K3
          try simp only [List.getElem_toArray, List.getElem_cons_succ, List.getElem_cons_zero, Act.put, List.setIfInBounds_toArray, List.set_cons_zero, List.set_cons_succ]
          refine wpAnyH_take (i := 6) (oi := _) (v := ?_) rfl (by kernel_rfl) (by kernel_rfl) (by kernel_rfl) (fun _ _ _ h => h) (Or.inl ⟨by rfl, ?_⟩) hH.out ?_
          rotate_left
          · intro w1 hSw
            obtain ⟨hSa, s5, s6⟩ := hSw
            obtain ⟨s0, s1, s2, s3, s4⟩ := gcells hSa
            clear hSa
            go_simp; with_reducible rfl
          simp only [List.getElem_toArray, List.getElem_cons_succ, List.getElem_cons_zero, Act.put, List.setIfInBounds_toArray, List.set_cons_zero, List.set_cons_succ]
          refine wpAnyH_take (i := 7) (oi := _) (v := ?_) rfl (by kernel_rfl) (by kernel_rfl) (by kernel_rfl) (fun _ _ _ h => h) (Or.inl ⟨by rfl, ?_⟩) hH.out ?_
          rotate_left
          · intro w1 hSw
            obtain ⟨hSa, s5, s6⟩ := hSw
            obtain ⟨s0, s1, s2, s3, s4⟩ := gcells hSa
            clear hSa
            go_simp; with_reducible rfl
          simp only [List.getElem_toArray, List.getElem_cons_succ, List.getElem_cons_zero, Act.put, List.setIfInBounds_toArray, List.set_cons_zero, List.set_cons_succ]
          refine wpAnyH_take (i := 8) (oi := _) (v := ?_) rfl (by kernel_rfl) (by kernel_rfl) (by kernel_rfl) (fun _ _ _ h => h) (Or.inl ⟨by rfl, ?_⟩) hH.out ?_
          rotate_left
          · intro w1 hSw
            obtain ⟨hSa, s5, s6⟩ := hSw
            obtain ⟨s0, s1, s2, s3, s4⟩ := gcells hSa
            clear hSa
            go_simp; with_reducible rfl
          simp only [List.getElem_toArray, List.getElem_cons_succ, List.getElem_cons_zero, Act.put, List.setIfInBounds_toArray, List.set_cons_zero, List.set_cons_succ]
          refine wpAnyH_take (i := 9) (oi := _) (v := ?_) rfl (by kernel_rfl) (by kernel_rfl) (by kernel_rfl) (fun _ _ _ h => h) (Or.inl ⟨by rfl, ?_⟩) hH.out ?_
          rotate_left
          · intro w1 hSw
            obtain ⟨hSa, s5, s6⟩ := hSw
            obtain ⟨s0, s1, s2, s3, s4⟩ := gcells hSa
            clear hSa
            go_simp; with_reducible rfl
          simp only [List.getElem_toArray, List.getElem_cons_succ, List.getElem_cons_zero, Act.put, List.setIfInBounds_toArray, List.set_cons_zero, List.set_cons_succ]
          refine wpAnyH_take (i := 10) (oi := _) (v := ?_) rfl (by kernel_rfl) (by kernel_rfl) (by kernel_rfl) (fun _ _ _ h => h) (Or.inl ⟨by rfl, ?_⟩) hH.out ?_
          rotate_left
          · intro w1 hSw
            obtain ⟨hSa, s5, s6⟩ := hSw
            obtain ⟨s0, s1, s2, s3, s4⟩ := gcells hSa
            clear hSa
            go_simp; with_reducible rfl
          simp only [List.getElem_toArray, List.getElem_cons_succ, List.getElem_cons_zero, Act.put, List.setIfInBounds_toArray, List.set_cons_zero, List.set_cons_succ]
          refine wpAnyH_done (by kernel_rfl) ?_ _
          go_wp2_with fail
          go_meet
          exact ⟨rfl, rfl, hbX⟩
        case rest =>
        obtain ⟨rfl, rfl, hbA⟩ := hcut
        have c2' := (hbA.cell (p := ⟨lg, _, none⟩) hlg).trans c2
        have c3' := (hbA.cell (p := ⟨lg, _, none⟩) hlg).trans c3
        replace hR := (hbA.block (w.heap.size + 1) (by omega)).trans hR
        have hlA : lg < wc.heap.size := Nat.lt_of_lt_of_le hlg hbA.size
        have hzA := hbA.size
        clear c2 c3 hG
        go_upto_region 18 with fail
        have emul := HEM.out
        refine wp_region_held_drew (S := fun w' => w'.cell? ⟨lg, j * 2, none⟩ = some (.slice yb P2.length yd) ∧ w'.cell? ⟨lg, j * 2 + 1, none⟩ = some (.int .i64 i2')) (by kernel_rfl) ⟨c2', c3'⟩ (fun hHeld => ?_)
        obtain ⟨X0, hX0⟩ : ∃ X, X = wc.drew := ⟨_, rfl⟩
        have hbX : Below wc.heap.size wc X0 := by rw [hX0]; exact (Below.refl _ _).drew
        rw [← hX0] at hHeld ⊢
        have hH := Lib.hid hHeld
        clear hX0 hHeld
        refine wpAnyH_take (i := 0) (oi := _) (v := ?_) rfl (by kernel_rfl) (by kernel_rfl) (by kernel_rfl) (fun _ _ _ h => h) (Or.inl ⟨by rfl, ?_⟩) hH.out ?_
        rotate_left
        · intro w1 hSw
          obtain ⟨s7, s8⟩ := hSw
          go_simp; with_reducible rfl
        simp only [List.getElem_toArray, List.getElem_cons_succ, List.getElem_cons_zero, Act.put, List.setIfInBounds_toArray, List.set_cons_zero, List.set_cons_succ]
        refine wpAnyH_take (i := 1) (oi := _) (v := ?_) rfl (by kernel_rfl) (by kernel_rfl) (by kernel_rfl) (fun _ _ _ h => h) (Or.inl ⟨by rfl, ?_⟩) hH.out ?_
        rotate_left
        · intro w1 hSw
          obtain ⟨s7, s8⟩ := hSw
          go_simp; with_reducible rfl
        simp only [List.getElem_toArray, List.getElem_cons_succ, List.getElem_cons_zero, Act.put, List.setIfInBounds_toArray, List.set_cons_zero, List.set_cons_succ]
        refine wpAnyH_take (i := 2) (oi := _) (v := ?_) rfl (by kernel_rfl) (by kernel_rfl) (by kernel_rfl) (fun _ _ _ h => h) (Or.inl ⟨by rfl, ?_⟩) hH.out ?_
        rotate_left
        · intro w1 hSw
          obtain ⟨s7, s8⟩ := hSw
          go_simp; with_reducible rfl
        simp only [List.getElem_toArray, List.getElem_cons_succ, List.getElem_cons_zero, Act.put, List.setIfInBounds_toArray, List.set_cons_zero, List.set_cons_succ]
        refine wpAnyH_take (i := 3) (oi := _) (v := ?_) rfl (by kernel_rfl) (by kernel_rfl) (by kernel_rfl) (fun _ _ _ h => h) (Or.inl ⟨by rfl, ?_⟩) hH.out ?_
        rotate_left
        · intro w1 hSw
          obtain ⟨s7, s8⟩ := hSw
          go_simp; with_reducible rfl
        simp only [List.getElem_toArray, List.getElem_cons_succ, List.getElem_cons_zero, Act.put, List.setIfInBounds_toArray, List.set_cons_zero, List.set_cons_succ]
        refine wpAnyH_take (i := 4) (oi := _) (v := ?_) rfl (by kernel_rfl) (by kernel_rfl) (by kernel_rfl) (fun _ _ _ h => h) (Or.inl ⟨by rfl, ?_⟩) hH.out ?_
        rotate_left
        · intro w1 hSw
          obtain ⟨s7, s8⟩ := hSw
          go_simp; with_reducible rfl
        simp only [List.getElem_toArray, List.getElem_cons_succ, List.getElem_cons_zero, Act.put, List.setIfInBounds_toArray, List.set_cons_zero, List.set_cons_succ]
        refine wpAnyH_take (i := 5) (oi := _) (v := ?_) rfl (by kernel_rfl) (by kernel_rfl) (by kernel_rfl) (fun _ _ _ h => h) (Or.inl ⟨by rfl, ?_⟩) hH.out ?_
        rotate_left
        · intro w1 hSw
          obtain ⟨s7, s8⟩ := hSw
          go_simp; with_reducible rfl
        simp only [List.getElem_toArray, List.getElem_cons_succ, List.getElem_cons_zero, Act.put, List.setIfInBounds_toArray, List.set_cons_zero, List.set_cons_succ]
        refine wpAnyH_take (i := 6) (oi := _) (v := ?_) rfl (by kernel_rfl) (by kernel_rfl) (by kernel_rfl) (fun _ _ _ h => h) (Or.inl ⟨by rfl, ?_⟩) hH.out ?_
        rotate_left
        · intro w1 hSw
          obtain ⟨s7, s8⟩ := hSw
          go_simp; with_reducible rfl
        simp only [List.getElem_toArray, List.getElem_cons_succ, List.getElem_cons_zero, Act.put, List.setIfInBounds_toArray, List.set_cons_zero, List.set_cons_succ]
        refine wpAnyH_all (rs := [7]) (by kernel_rfl) (by simp) ?_
        intro i hi; obtain rfl := List.mem_singleton.1 hi; clear hi
        refine wpOp_step rfl (fun K3 hK3 => ?_)
        have HK3 := Lib.hid hK3
        clear hK3
        rw [if_pos (by rfl)]
        go_simp
        refine (HDN.out _).mono ?_
        rintro e X1 ⟨rfl, rfl⟩
        refine HK3.out _ _ ⟨hH.out, ?_⟩
        clear HK3 K3
        try simp only [List.getElem_toArray, List.getElem_cons_succ, List.getElem_cons_zero, Act.put, List.setIfInBounds_toArray, List.set_cons_zero, List.set_cons_succ]
        refine wpAnyH_all (rs := [8]) (by kernel_rfl) (by simp) ?_
        intro i hi; obtain rfl := List.mem_singleton.1 hi; clear hi
        refine wpOp_step rfl (fun K3 hK3 => ?_)
        have HK3 := Lib.hid hK3
        clear hK3
        rw [if_pos (by rfl)]
        obtain ⟨z0, z1, zf⟩ := rcells ((hbX.block (w.heap.size + 1) (by omega)).trans hR)
        go_simp
        have hne : lg ≠ w.heap.size + 1 := by omega
        have hk2 : ((X0.setCell ⟨w.heap.size + 1, 0, none⟩ (.slice yb P2.length yd)).setCell ⟨w.heap.size + 1, 1, none⟩ (.int .i64 i2')).heap[lg]? = X0.heap[lg]? := (Below.heap_setCell _ _ _ _ hne).trans (Below.heap_setCell _ _ _ _ hne)
        replace hH := Lib.hid (And.intro ((World.cell?_of_block (a := ⟨lg, _, none⟩) hk2).trans hH.out.1) ((World.cell?_of_block (a := ⟨lg, _, none⟩) hk2).trans hH.out.2))
        refine HK3.out _ _ ⟨hH.out, ?_⟩
        clear HK3 K3
        try simp only [List.getElem_toArray, List.getElem_cons_succ, List.getElem_cons_zero, Act.put, List.setIfInBounds_toArray, List.set_cons_zero, List.set_cons_succ]
        refine wpAnyH_take (i := 9) (oi := _) (v := ?_) rfl (by kernel_rfl) (by kernel_rfl) (by kernel_rfl) (fun _ _ _ h => h) (Or.inl ⟨by rfl, ?_⟩) hH.out ?_
        rotate_left
        · intro w1 hSw
          obtain ⟨s7, s8⟩ := hSw
          go_simp; with_reducible rfl
        simp only [List.getElem_toArray, List.getElem_cons_succ, List.getElem_cons_zero, Act.put, List.setIfInBounds_toArray, List.set_cons_zero, List.set_cons_succ]
        refine wpAnyH_take (i := 10) (oi := _) (v := ?_) rfl (by kernel_rfl) (by kernel_rfl) (by kernel_rfl) (fun _ _ _ h => h) (Or.inl ⟨by rfl, ?_⟩) hH.out ?_
        rotate_left
        · intro w1 hSw
          obtain ⟨s7, s8⟩ := hSw
          go_simp; with_reducible rfl
        simp only [List.getElem_toArray, List.getElem_cons_succ, List.getElem_cons_zero, Act.put, List.setIfInBounds_toArray, List.set_cons_zero, List.set_cons_succ]
        refine wpAnyH_done (by kernel_rfl) ?_ _
        go_wp2
        refine bodyPost_ret (v := .tuple #[.agg #[.slice yb P2.length yd, .int .i64 i2'], .int .i64 (A2 * 1000000 / E2), .int .i64 0]) (by simp [results, Try.results20, go_sem, z0, z1]) rfl ⟨?_, ?_⟩
        · have hb := (hbw.trans (hbA.mono (by omega))).trans (hbX.mono (by omega))
          exact (hb.setCell (by simp) _).setCell (by simp) _
        · rw [HC.out]
          refine ⟨yb, yd, by rw [HAE.out.1, HAE.out.2], ?_⟩
          have hP1 := (HWJ.out.keep (Keep.below hbA (Nat.le_refl _))).keep (Keep.below hbX (Nat.le_refl _))
          refine wheels_two hP1.1 (w.heap.size + 1) _ _ (fun b off e hP e2 => ?_)
          subst e
          subst e2
          obtain ⟨cs, hcs⟩ := hP1.2 _ _ _ _ rfl hP
          have := ((hbX.block (w.heap.size + 1) (by omega)).trans hR).symm.trans hcs
          simp at this
end Go.Proofs.Ytoiapnokgpeipaa
