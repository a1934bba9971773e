/- Choose. -/
import Derived.Test.YtoiapnokgpeipaaC6
namespace Go.Proofs.Ytoiapnokgpeipaa
set_option linter.unusedSimpArgs false
open Go.RowKit Go.Maps

def chooseC (S : List (Int × Int)) (t r p o : Int) (same : Bool) : Int × Option Tri :=
  if stockB S && gearB t r p o then (match bestP S t r p o same with | none => (4, none) | some u => if u.exactP t r then (0, some u) else (4, none)) else (1, none)
def ChooseIs (c : Int × Option Tri) (w : World) (e : Ending) (w' : World) : Prop :=
  Below w.heap.size w w' ∧ (match c.2 with
    | none => e = .returned (.tuple #[.agg #[.slice none 0 0, .int .i64 0], .int .i64 0, .int .i64 c.1])
    | some u => ∃ x, e = .returned (.tuple #[.agg #[x, .int .i64 u.i], .int .i64 ((usedL (trainP u) u.i).length : Nat), .int .i64 c.1]) ∧ TrainAt w w' x (trainP u))

theorem gcells {X : World} {b : Nat} {t r p o : Int} {same : Bool} (h : X.heap[b]? = some (.cells #[.int .i64 t, .int .i64 r, .bool same, .int .i64 p, .int .i64 o] 24)) :
    X.cell? ⟨b, 0, none⟩ = some (.int .i64 t) ∧ X.cell? ⟨b, 1, none⟩ = some (.int .i64 r) ∧ X.cell? ⟨b, 2, none⟩ = some (.bool same) ∧ X.cell? ⟨b, 3, none⟩ = some (.int .i64 p) ∧ X.cell? ⟨b, 4, none⟩ = some (.int .i64 o) := by
  refine ⟨?_, ?_, ?_, ?_, ?_⟩ <;> simp [World.cell?, h]
theorem rcells {X : World} {b : Nat} {a : Option Addr} {n c : Nat} {i : Int} (h : X.heap[b]? = some (.cells #[.slice a n c, .int .i64 i] 27)) :
    X.cell? ⟨b, 0, none⟩ = some (.slice a n c) ∧ X.cell? ⟨b, 1, none⟩ = some (.int .i64 i) ∧ ∀ q, X.frozen? ⟨b, q, none⟩ = false := by
  refine ⟨?_, ?_, fun q => ?_⟩ <;> simp [World.cell?, World.frozen?, h]

set_option maxRecDepth 100000 in
set_option maxHeartbeats 3200000 in
theorem choose_any (S : List (Int × Int)) (sa : Option Addr) (scap : Nat) (t r p o : Int) (same : Bool) (w : World) (hW : WheelsAt w (.slice sa S.length scap) S) (hsa : ∀ b off, sa = some ⟨b, off, none⟩ → b < w.heap.size) :
    Calls Try.prog 17 #[.slice sa S.length scap, .agg #[.int .i64 t, .int .i64 r, .bool same, .int .i64 p, .int .i64 o]] w (ChooseIs (chooseC S t r p o same) w) := by
  obtain ⟨C, hCC⟩ : ∃ C, C = chooseC S t r p o same := ⟨_, rfl⟩
  rw [← hCC]
  have HCC := Lib.hid hCC
  clear hCC
  obtain ⟨W0, hW0⟩ : ∃ W0, W0 = (w.alloc (.cells #[.int .i64 t, .int .i64 r, .bool same, .int .i64 p, .int .i64 o] 24)).alloc (.cells #[.slice none 0 0, .int .i64 0] 27) := ⟨_, rfl⟩
  have hg0 : Below w.heap.size w W0 := by rw [hW0]; exact ((Below.refl _ _).alloc (Nat.le_refl _) _).alloc (by simp) _
  have hG0 : W0.heap[w.heap.size]? = some (.cells #[.int .i64 t, .int .i64 r, .bool same, .int .i64 p, .int .i64 o] 24) := by rw [hW0, Below.heap_alloc _ _ _ (by simp)]; exact (MapKept.heap_alloc w _).1
  have hR0 : W0.heap[w.heap.size + 1]? = some (.cells #[.slice none 0 0, .int .i64 0] 27) := by
    have := (MapKept.heap_alloc (w.alloc (.cells #[.int .i64 t, .int .i64 r, .bool same, .int .i64 p, .int .i64 o] 24)) (.cells #[.slice none 0 0, .int .i64 0] 27)).1
    rw [hW0]; simpa using this
  have hz0 : W0.heap.size = w.heap.size + 2 := by rw [hW0]; simp
  have hWS0 := hW.below hg0
  have hsa0 : ∀ b off, sa = some ⟨b, off, none⟩ → b < W0.heap.size := fun b off e => by have := hsa b off e; omega
  go_enter Try.func17, Try.ntmps17
  go_wp2_with fail
  rw [← hW0]
  clear hW0
  refine (isStock_any S _ _ hWS0).mono ?_
  rintro e w1 ⟨rfl, hb1⟩
  have hG1 := (hb1.block w.heap.size (by omega)).trans hG0
  have hR1 := (hb1.block (w.heap.size + 1) (by omega)).trans hR0
  have hWS1 := hWS0.below hb1
  have hbw1 : Below w.heap.size w w1 := hg0.trans (hb1.mono (by omega))
  have hz1 : w.heap.size + 2 ≤ w1.heap.size := by have := hb1.size; omega
  have hsa1 : ∀ b off, sa = some ⟨b, off, none⟩ → b < w1.heap.size := fun b off e => by have := hsa b off e; omega
  clear hG0 hR0 hWS0 hsa0
  by_cases hst : stockB S = true
  case neg =>
    replace hst : stockB S = false := by simpa using hst
    have hC : C = (1, none) := by rw [HCC.out]; unfold chooseC; rw [hst]; rfl
    have HC := Lib.hid hC
    obtain ⟨z0, z1, zf⟩ := rcells hR1
    rw [hst]
    clear hC hW hsa hWS1 hG1 hR1
    go_wp2
    refine bodyPost_ret (v := .tuple #[.agg #[.slice none 0 0, .int .i64 0], .int .i64 0, .int .i64 1]) (by simp [results, Try.results17, go_sem, z0, z1]) rfl ⟨?_, by rw [HC.out]⟩
    exact (hbw1.setCell (by simp) _).setCell (by simp) _
  rw [hst]
  obtain ⟨e0, e1, e2, e3, e4⟩ := gcells hG1
  go_wp2_with fail
  refine (isGearing_any t r p o same _).mono ?_
  rintro e w2 ⟨rfl, hb2⟩
  clear e0 e1 e2 e3 e4
  have hG2 := (hb2.block w.heap.size (by omega)).trans hG1
  have hR2 := (hb2.block (w.heap.size + 1) (by omega)).trans hR1
  have hWS2 := hWS1.below hb2
  have hbw2 : Below w.heap.size w w2 := hbw1.trans (hb2.mono (by omega))
  have hz2 : w.heap.size + 2 ≤ w2.heap.size := by have := hb2.size; omega
  clear hG1 hR1 hWS1 hsa1 hb2 hbw1 hb1 hg0
  by_cases hge : gearB t r p o = true
  case neg =>
    replace hge : gearB t r p o = false := by simpa using hge
    have hC : C = (1, none) := by rw [HCC.out]; unfold chooseC; rw [hge, Bool.and_false]; rfl
    have HC := Lib.hid hC
    obtain ⟨z0, z1, zf⟩ := rcells hR2
    rw [hge]
    clear hC hW hsa hWS2 hG2 hR2
    go_wp2
    refine bodyPost_ret (v := .tuple #[.agg #[.slice none 0 0, .int .i64 0], .int .i64 0, .int .i64 1]) (by simp [results, Try.results17, go_sem, z0, z1]) rfl ⟨?_, by rw [HC.out]⟩
    exact (hbw2.setCell (by simp) _).setCell (by simp) _
  rw [hge]
  have hgi := gearB_iff.1 hge
  obtain ⟨e0, e1, e2, e3, e4⟩ := gcells hG2
  go_wp2_with fail
  refine (aimOf_any t r p o same _).mono ?_
  rintro e w3 ⟨rfl, hb3⟩
  clear e0 e1 e2 e3 e4
  have hG3 := (hb3.block w.heap.size (by omega)).trans hG2
  have hR3 := (hb3.block (w.heap.size + 1) (by omega)).trans hR2
  have hWS3 := hWS2.below hb3
  have hbw3 : Below w.heap.size w w3 := hbw2.trans (hb3.mono (by omega))
  have hz3 : w.heap.size + 2 ≤ w3.heap.size := by have := hb3.size; omega
  clear hG2 hR2 hWS2 hbw2 hb3
  have hG4 := hG3
  rw [← Below.heap_alloc w3 (.cells #[.int .i64 t, .int .i64 r] 74) _ (by omega)] at hG4
  have hR4 := hR3
  rw [← Below.heap_alloc w3 (.cells #[.int .i64 t, .int .i64 r] 74) _ (by omega)] at hR4
  have hA4 : (w3.alloc (.cells #[.int .i64 t, .int .i64 r] 74)).heap[w3.heap.size]? = some (.cells #[.int .i64 t, .int .i64 r] 74) := (MapKept.heap_alloc w3 _).1
  have hz4 : (w3.alloc (.cells #[.int .i64 t, .int .i64 r] 74)).heap.size = w3.heap.size + 1 := by simp
  have hb4 : Below w3.heap.size w3 (w3.alloc (.cells #[.int .i64 t, .int .i64 r] 74)) := (Below.refl _ _).alloc (Nat.le_refl _) _
  have hWS4 := hWS3.below hb4
  have hbw4 := hbw3.trans (hb4.mono (by omega))
  obtain ⟨e0, e1, e2, e3, e4⟩ := gcells hG4
  clear hG3 hR3 hWS3 hbw3 hb4
  have hS6 := stockB_teeth hst
  have hsr := search_any S (tlOf S) sa scap t r p o same _ hWS4 ⟨hgi.1, hgi.2.1⟩ ⟨hgi.2.2.1, hgi.2.2.2.1⟩ ⟨hgi.2.2.2.2.1, hgi.2.2.2.2.2.1⟩ hS6 (tlOf_len S) (tlOf_teeth hS6) (fun b off e => by have := hsa b off e; omega)
  have hbok : BestOk (bestP S t r p o same) := searchP_ok _ _ _ _ _ _ _ (by omega)
  have hbc : BestC (bestP S t r p o same) := searchP_c _ _ _ _ _ _ _ (by omega)
  have hPval : C = match bestP S t r p o same with | none => (4, none) | some u => if u.exactP t r then (0, some u) else (4, none) := by rw [HCC.out]; unfold chooseC; rw [hst, hge]; rfl
  change Calls _ _ _ _ (SearchIs (bestP S t r p o same) _) at hsr
  have HPV := Lib.hid hPval
  clear hPval HCC hS6 hW hWS4
  generalize bestP S t r p o same = BP at *
  unfold exactF nearF at hsr
  go_wp2_with fail
  refine hsr.mono ?_
  rintro e w5 ⟨u, fd, rfl, hb5, hpost⟩
  clear hsr e0 e1 e2 e3 e4
  have hR5 := (hb5.block (w.heap.size + 1) (by omega)).trans hR4
  have hA5 := (hb5.block w3.heap.size (by omega)).trans hA4
  have hbw5 : Below w.heap.size w w5 := hbw4.trans (hb5.mono (by omega))
  have hz5 : w3.heap.size + 1 ≤ w5.heap.size := by have := hb5.size; omega
  obtain ⟨W6, hW6⟩ : ∃ W6, W6 = w5.alloc (.cells #[.int .i64 u.a0, .int .i64 u.a1, .int .i64 u.a2, .int .i64 u.a3, .int .i64 u.a4, .int .i64 u.a5, .int .i64 u.c, .int .i64 u.i, .int .i64 u.d, .int .i64 u.n] 87) := ⟨_, rfl⟩
  have hR6 : W6.heap[w.heap.size + 1]? = some (.cells #[.slice none 0 0, .int .i64 0] 27) := by rw [hW6, Below.heap_alloc _ _ _ (by omega)]; exact hR5
  have hA6 : W6.heap[w3.heap.size]? = some (.cells #[.int .i64 t, .int .i64 r] 74) := by rw [hW6, Below.heap_alloc _ _ _ (by omega)]; exact hA5
  have hU6 : W6.heap[w5.heap.size]? = some (.cells #[.int .i64 u.a0, .int .i64 u.a1, .int .i64 u.a2, .int .i64 u.a3, .int .i64 u.a4, .int .i64 u.a5, .int .i64 u.c, .int .i64 u.i, .int .i64 u.d, .int .i64 u.n] 87) := by rw [hW6]; exact (MapKept.heap_alloc w5 _).1
  have hz6 : W6.heap.size = w5.heap.size + 1 := by rw [hW6]; simp
  have hbw6 : Below w.heap.size w W6 := by rw [hW6]; exact hbw5.alloc (by omega) _
  subst hW6
  clear hG4 hR4 hA4 hbw4 hb5 hR5 hbw5
  cases hBP : BP with
  | none =>
    rw [hBP] at hpost
    have hfd : fd = false := hpost
    subst hfd
    have HC : RowKit.Hid (C = (4, none)) := Lib.hid (by rw [HPV.out, hBP])
    clear hBP hpost
    obtain ⟨z0, z1, zf⟩ := rcells hR6
    unfold Tri.val
    go_wp2
    refine bodyPost_ret (v := .tuple #[.agg #[.slice none 0 0, .int .i64 0], .int .i64 0, .int .i64 4]) (by simp [results, Try.results17, go_sem, z0, z1]) rfl ⟨?_, by rw [HC.out]⟩
    exact (hbw6.setCell (by simp) _).setCell (by simp) _
  | some u' =>
    rw [hBP] at hpost
    obtain ⟨hfd, huu⟩ : fd = true ∧ u = u' := hpost
    subst hfd huu
    have hub := hbok _ hBP
    obtain ⟨k, hck, hk3⟩ := hbc _ hBP
    have HK := Lib.hid hck
    clear hck
    have hPv : C = if u.exactP t r then (0, some u) else (4, none) := by rw [HPV.out, hBP]
    have HPv := Lib.hid hPv
    clear HPV hPv hBP hbok hbc
    obtain ⟨a6, a7⟩ : (w5.alloc (.cells #[.int .i64 u.a0, .int .i64 u.a1, .int .i64 u.a2, .int .i64 u.a3, .int .i64 u.a4, .int .i64 u.a5, .int .i64 u.c, .int .i64 u.i, .int .i64 u.d, .int .i64 u.n] 87)).cell? ⟨w3.heap.size, 0, none⟩ = some (.int .i64 t) ∧ (w5.alloc (.cells #[.int .i64 u.a0, .int .i64 u.a1, .int .i64 u.a2, .int .i64 u.a3, .int .i64 u.a4, .int .i64 u.a5, .int .i64 u.c, .int .i64 u.i, .int .i64 u.d, .int .i64 u.n] 87)).cell? ⟨w3.heap.size, 1, none⟩ = some (.int .i64 r) := by
      refine ⟨?_, ?_⟩ <;> simp only [World.cell?, hA6] <;> rfl
    have p6 : w5.cell? ⟨w3.heap.size, 0, none⟩ = some (.int .i64 t) := by simp only [World.cell?, hA5]; rfl
    have p7 : w5.cell? ⟨w3.heap.size, 1, none⟩ = some (.int .i64 r) := by simp only [World.cell?, hA5]; rfl
    have hex := exact_any t r u.d u.n (w5.alloc (.cells #[.int .i64 u.a0, .int .i64 u.a1, .int .i64 u.a2, .int .i64 u.a3, .int .i64 u.a4, .int .i64 u.a5, .int .i64 u.c, .int .i64 u.i, .int .i64 u.d, .int .i64 u.n] 87)) ⟨hgi.1, hgi.2.1⟩ ⟨hgi.2.2.1, hgi.2.2.2.1⟩ ⟨hub.1, hub.2.1⟩ hub.2.2
    have hxe : u.exactP t r = (u.d * t - u.n * r == 0) := rfl
    rw [← hxe] at hex
    clear hxe
    generalize u.exactP t r = ex at *
    unfold Tri.val
    go_wp2_with fail
    refine hex.mono ?_
    rintro e w7 ⟨rfl, hb7⟩
    clear hex a6 a7 p6 p7 hA5
    have hR7 := (hb7.block (w.heap.size + 1) (by omega)).trans hR6
    have hU7 := (hb7.block w5.heap.size (by omega)).trans hU6
    have hbw7 : Below w.heap.size w w7 := hbw6.trans (hb7.mono (by omega))
    have hz7 : w5.heap.size + 1 ≤ w7.heap.size := by have := hb7.size; omega
    clear hA6 hR6 hU6 hbw6 hb7
    obtain ⟨z0, z1, zf⟩ := rcells hR7
    cases ex with
    | false =>
      have HC : RowKit.Hid (C = (4, none)) := Lib.hid (by rw [HPv.out]; rfl)
      go_wp2
      refine bodyPost_ret (v := .tuple #[.agg #[.slice none 0 0, .int .i64 0], .int .i64 0, .int .i64 4]) (by simp [results, Try.results17, go_sem, z0, z1]) rfl ⟨?_, by rw [HC.out]⟩
      exact (hbw7.setCell (by simp) _).setCell (by simp) _
    | true =>
      have HC : RowKit.Hid (C = (0, some u)) := Lib.hid (by rw [HPv.out]; rfl)
      clear HPv
      have htr := train_any u k w7 HK.out hk3
      unfold Tri.val at htr
      have u0 : w7.cell? ⟨w5.heap.size, 0, none⟩ = some (.int .i64 u.a0) := by simp only [World.cell?, hU7]; rfl
      have u1 : w7.cell? ⟨w5.heap.size, 1, none⟩ = some (.int .i64 u.a1) := by simp only [World.cell?, hU7]; rfl
      have u2 : w7.cell? ⟨w5.heap.size, 2, none⟩ = some (.int .i64 u.a2) := by simp only [World.cell?, hU7]; rfl
      have u3 : w7.cell? ⟨w5.heap.size, 3, none⟩ = some (.int .i64 u.a3) := by simp only [World.cell?, hU7]; rfl
      have u4 : w7.cell? ⟨w5.heap.size, 4, none⟩ = some (.int .i64 u.a4) := by simp only [World.cell?, hU7]; rfl
      have u5 : w7.cell? ⟨w5.heap.size, 5, none⟩ = some (.int .i64 u.a5) := by simp only [World.cell?, hU7]; rfl
      have u6 : w7.cell? ⟨w5.heap.size, 6, none⟩ = some (.int .i64 u.c) := by simp only [World.cell?, hU7]; rfl
      have u7 : w7.cell? ⟨w5.heap.size, 7, none⟩ = some (.int .i64 u.i) := by simp only [World.cell?, hU7]; rfl
      have u8 : w7.cell? ⟨w5.heap.size, 8, none⟩ = some (.int .i64 u.d) := by simp only [World.cell?, hU7]; rfl
      have u9 : w7.cell? ⟨w5.heap.size, 9, none⟩ = some (.int .i64 u.n) := by simp only [World.cell?, hU7]; rfl
      go_wp2_with fail
      refine htr.mono ?_
      rintro e w8 ⟨x, rfl, hb8, hd8⟩
      clear htr u0 u1 u2 u3 u4 u5 u6 u7 u8 u9 z0 z1 zf hU7
      obtain ⟨hPL, hPl⟩ := trainP_L u HK.out hk3
      have hP3 : (trainP u).length ≤ 3 := by omega
      rw [← hPL, ← hPl] at hd8
      obtain ⟨N, hN⟩ : ∃ N, (trainP u).length = N := ⟨_, rfl⟩
      rw [hN] at hd8
      obtain ⟨av, cv, rfl⟩ : ∃ av cv, x = .slice av N cv := by
        rcases hd8.2 with ⟨h1, h2⟩ | ⟨g, cap, cur, h1, _⟩
        · rw [h2]; exact ⟨_, _, h1⟩
        · exact ⟨_, _, h1⟩
      have HN := Lib.hid hN
      clear hN hPl hPL
      have hR8 := (hb8.block (w.heap.size + 1) (by omega)).trans hR7
      have hbw8 : Below w.heap.size w w8 := hbw7.trans (hb8.mono (by omega))
      have hz8 : w7.heap.size ≤ w8.heap.size := hb8.size
      obtain ⟨z0, z1, zf⟩ := rcells hR8
      obtain ⟨W9, hW9⟩ : ∃ W9, W9 = (w8.setCell ⟨w.heap.size + 1, 0, none⟩ (.slice av N cv)).setCell ⟨w.heap.size + 1, 1, none⟩ (.int .i64 u.i) := ⟨_, rfl⟩
      have hR9 : W9.heap[w.heap.size + 1]? = some (.cells #[.slice av N cv, .int .i64 u.i] 27) := by
        rw [hW9]
        have h1 := heap_set hR8 0 (.slice av N cv)
        have h2 := heap_set h1 1 (.int .i64 u.i)
        simpa using h2
      have hown : ∀ t, (Value.slice av N cv).ownBlock = some t → w7.heap.size ≤ t ∧ t < w8.heap.size := hd8.lt
      have hnb : (Value.slice av N cv).ownBlock = none ∨ (Value.slice av N cv).ownBlock ≠ some (w.heap.size + 1) := by
        cases e : (Value.slice av N cv).ownBlock with
        | none => exact .inl rfl
        | some t => exact .inr (fun e2 => by have := hown t e; have := Option.some.inj e2; omega)
      have hd9 : W9.ownsRow w7.heap.size 49 2 (.slice av N cv) N ((usedP (trainP u)).map (Value.int .i64)) := by
        rw [hW9]
        exact hd8.kept ((setCell_grown _ ⟨w.heap.size + 1, 0, none⟩ _).trans (setCell_grown _ ⟨w.heap.size + 1, 1, none⟩ _)) hnb
      have hbw9 : Below w.heap.size w W9 := by rw [hW9]; exact (hbw8.setCell (by simp) _).setCell (by simp) _
      have hz9 : W9.heap.size = w8.heap.size := by rw [hW9]; simp
      have HW9 := Lib.hid hW9
      clear hW9
      go_wp2_with fail
      rw [← HW9.out]
      clear HW9 z0 z1 zf hR8 hbw8 hd8 hb8
      refine wp_region_held_drew (S := fun w' => w'.heap[w.heap.size + 1]? = some (.cells #[.slice av N cv, .int .i64 u.i] 27)) (by kernel_rfl) hR9 (fun hHeld => ?_)
      refine wpAnyH_take (i := 0) (oi := _) (v := ?_) rfl (by kernel_rfl) (by kernel_rfl) (by kernel_rfl) (fun _ _ _ h => h) (Or.inl ⟨by rfl, ?_⟩) hHeld ?_
      rotate_left
      · intro w1 hSw
        obtain ⟨z0, z1, zf⟩ := rcells hSw
        clear hSw
        go_simp; with_reducible rfl
      simp only [Act.put, List.setIfInBounds_toArray, List.set_cons_zero, List.set_cons_succ]
      refine wpAnyH_take (i := 1) (oi := _) (v := ?_) rfl (by kernel_rfl) (by kernel_rfl) (by kernel_rfl) (fun _ _ _ h => h) (Or.inl ⟨by rfl, ?_⟩) hHeld ?_
      rotate_left
      · intro w1 hSw
        obtain ⟨z0, z1, zf⟩ := rcells hSw
        clear hSw
        go_simp; with_reducible rfl
      simp only [Act.put, List.setIfInBounds_toArray, List.set_cons_zero, List.set_cons_succ]
      have hwh := wheelsOf_any (trainP u) (.slice av N cv) u.i W9.drew (wheels_own (w := W9.drew) (base := w7.heap.size) (by rw [HN.out]; exact hd9) (by omega)) (by omega)
      refine wpAnyH_all (rs := [2]) (by kernel_rfl) (by simp) ?_
      intro i hi; obtain rfl := List.mem_singleton.1 hi; clear hi
      refine wpOp_step rfl (fun K3 hK3 => ?_)
      have HK3 := Lib.hid hK3
      clear hK3
      rw [if_pos (by rfl)]
      go_simp
      refine hwh.mono ?_
      rintro e w10 ⟨y, rfl, hb10, hd10⟩
      obtain ⟨bv, dv, rfl⟩ : ∃ bv dv, y = .slice bv (usedL (trainP u) u.i).length dv := by
        rcases hd10.2 with ⟨h1, h2⟩ | ⟨g, cap, cur, h1, _⟩
        · rw [h2]; exact ⟨_, _, h1⟩
        · exact ⟨_, _, h1⟩
      have hR10 := (hb10.block (w.heap.size + 1) (by simp; omega)).trans hR9
      refine HK3.out _ _ ⟨hR10, ?_⟩
      clear HK3 K3 hwh
      try simp only [Act.put, List.setIfInBounds_toArray, List.set_cons_zero, List.set_cons_succ]
      obtain ⟨M, hM⟩ : ∃ M, (usedL (trainP u) u.i).length = M := ⟨_, rfl⟩
      have HM := Lib.hid hM
      rw [hM] at hd10 ⊢
      clear hM
      refine wpAnyH_take (i := 3) (oi := _) (v := ?_) rfl (by kernel_rfl) (by kernel_rfl) (by kernel_rfl) (fun _ _ _ h => h) (Or.inl ⟨by rfl, ?_⟩) hR10 ?_
      rotate_left
      · intro w1 hSw
        clear hSw
        go_simp; with_reducible rfl
      simp only [Act.put, List.setIfInBounds_toArray, List.set_cons_zero, List.set_cons_succ]
      refine wpAnyH_all (rs := [4]) (by kernel_rfl) (by simp) ?_
      intro i hi; obtain rfl := List.mem_singleton.1 hi; clear hi
      refine wpOp_step rfl (fun K3 hK3 => ?_)
      have HK3 := Lib.hid hK3
      clear hK3
      rw [if_pos (by rfl)]
      obtain ⟨z0, z1, zf⟩ := rcells hR10
      go_simp
      have hR11 : ((w10.setCell ⟨w.heap.size + 1, 0, none⟩ (.slice av N cv)).setCell ⟨w.heap.size + 1, 1, none⟩ (.int .i64 u.i)).heap[w.heap.size + 1]? = some (.cells #[.slice av N cv, .int .i64 u.i] 27) := by
        have h1 := heap_set hR10 0 (.slice av N cv)
        have h2 := heap_set h1 1 (.int .i64 u.i)
        simpa using h2
      refine HK3.out _ _ ⟨hR11, ?_⟩
      clear HK3 K3
      try simp only [Act.put, List.setIfInBounds_toArray, List.set_cons_zero, List.set_cons_succ]
      refine wpAnyH_take (i := 5) (oi := _) (v := ?_) rfl (by kernel_rfl) (by kernel_rfl) (by kernel_rfl) (fun _ _ _ h => h) (Or.inl ⟨by rfl, ?_⟩) hR11 ?_
      rotate_left
      · intro w1 hSw
        clear hSw
        go_simp; with_reducible rfl
      simp only [List.getElem_toArray, List.getElem_cons_succ, List.getElem_cons_zero, Act.put, List.setIfInBounds_toArray, List.set_cons_zero, List.set_cons_succ]
      refine wpAnyH_take (i := 6) (oi := _) (v := ?_) rfl (by kernel_rfl) (by kernel_rfl) (by kernel_rfl) (fun _ _ _ h => h) (Or.inl ⟨by rfl, ?_⟩) hR11 ?_
      rotate_left
      · intro w1 hSw
        clear hSw
        go_simp; with_reducible rfl
      simp only [List.getElem_toArray, List.getElem_cons_succ, List.getElem_cons_zero, Act.put, List.setIfInBounds_toArray, List.set_cons_zero, List.set_cons_succ]
      refine wpAnyH_done (by kernel_rfl) ?_ _
      go_wp2
      have hb10' : Below W9.heap.size W9 w10 := ⟨hb10.os, hb10.tape, hb10.output, hb10.size, hb10.block⟩
      refine bodyPost_ret (v := .tuple #[.agg #[.slice av N cv, .int .i64 u.i], .int .i64 (M : Nat), .int .i64 0]) (by simp [results, Try.results17, go_sem, z0, z1]) rfl ⟨?_, ?_⟩
      · have hb := hbw9.trans (hb10'.mono (by omega))
        exact (hb.setCell (by simp) _).setCell (by simp) _
      · rw [HC.out]
        refine ⟨_, by rw [HM.out], hP3, ?_⟩
        rw [HN.out]
        refine ownsRow_mono' (base := w7.heap.size) ?_ (by omega)
        exact hd9.kept (((Lib.grownBy_below (World.grownBy.refl _ _) hb10').trans (setCell_grown _ ⟨w.heap.size + 1, 0, none⟩ _)).trans (setCell_grown _ ⟨w.heap.size + 1, 1, none⟩ _)) hnb
end Go.Proofs.Ytoiapnokgpeipaa
