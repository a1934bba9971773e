/- GearOwns: the walk. -/
import Derived.Test.YtoiapnokgpeipaaO1
import Derived.Test.YtoiapnokgpeipaaR6
import Derived.Deep.DeepCutAuto
namespace Go.Proofs.Ytoiapnokgpeipaa
set_option linter.unusedSimpArgs false
open Go.RowKit Go.Maps

/-- an answer of Near -/
def NearOf (t r : Int) (C : Int × Option Tri) (P : List (Int × Int)) (i x ne : Int) : Prop :=
  match C with
  | (c, none) => P = [] ∧ i = 0 ∧ x = 0 ∧ ne = c
  | (c, some u) => trainP u = P ∧ u.i = i ∧ u.milli t r = x ∧ ne = c
theorem nearOf_any (t r : Int) (C : Int × Option Tri) : ∃ P i x ne, NearOf t r C P i x ne := by
  obtain ⟨c, _ | u⟩ := C
  · exact ⟨_, _, _, _, rfl, rfl, rfl, rfl⟩
  · exact ⟨_, _, _, _, rfl, rfl, rfl, rfl⟩
theorem near_gen {S : List (Int × Int)} {t r p o : Int} {same : Bool} {P : List (Int × Int)} {i x ne : Int} (h : NearOf t r (nearC S t r p o same) P i x ne) {sa : Option Addr} {sc : Nat} {w : World} (hW : WheelsAt w (.slice sa S.length sc) S) (hsa : ∀ b off, sa = some ⟨b, off, none⟩ → b < w.heap.size) :
    Calls Try.prog 19 #[.slice sa S.length sc, .agg #[.int .i64 t, .int .i64 r, .bool same, .int .i64 p, .int .i64 o]] w (ChoseG P i x ne w) := by
  refine (near_any S sa sc t r p o same w hW hsa).mono ?_
  revert h
  generalize nearC S t r p o same = C
  obtain ⟨c, _ | u⟩ := C
  · rintro ⟨rfl, rfl, rfl, rfl⟩ e w' ⟨hb, h⟩
    exact ⟨none, 0, h, World.ownsRow_nil _ _ _ _, hb⟩
  · rintro ⟨hP, rfl, rfl, rfl⟩ e w' ⟨hb, x, rfl, h3, hx⟩
    rw [hP] at hx h3
    obtain ⟨a, cap, rfl⟩ := ownsRow_shape hx
    exact ⟨a, cap, rfl, hx, hb⟩
/-- an answer's train has at most three pairs -/
theorem chosen_len {S : List (Int × Int)} {t r p o : Int} {same : Bool} {P : List (Int × Int)} {i nw ne : Int} (h : RowOf (chooseC S t r p o same) P i nw ne) : P.length ≤ 3 := by
  unfold RowOf at h
  revert h
  generalize chooseC S t r p o same = C
  obtain ⟨c, _ | u⟩ := C
  · rintro ⟨rfl, _⟩; simp
  · rintro ⟨rfl, _⟩; unfold trainP; simp; omega
theorem near_len {S : List (Int × Int)} {t r p o : Int} {same : Bool} {P : List (Int × Int)} {i x ne : Int} (h : NearOf t r (nearC S t r p o same) P i x ne) : P.length ≤ 3 := by
  unfold NearOf at h
  revert h
  generalize nearC S t r p o same = C
  obtain ⟨c, _ | u⟩ := C
  · rintro ⟨rfl, _⟩; simp
  · rintro ⟨rfl, _⟩; unfold trainP; simp; omega

theorem wheels_own58 {w : World} {base : Nat} {x : Value} {P : List (Int × Int)} (h : w.ownsRow base 58 2 x P.length ((usedP P).map (Value.int .i64))) (hl : P.length ≤ 1000) : WheelsAt w x P := by
  refine ⟨by unfold maxLen; omega, ?_⟩
  rcases h.2 with ⟨rfl, hn⟩ | ⟨g, cap, cur, rfl, h2, h3, h4, h5, _⟩
  · obtain rfl : P = [] := List.length_eq_zero_iff.1 hn
    exact .inl ⟨rfl, _, _, rfl⟩
  · refine .inr ⟨g, 0, cap, rfl, h4, h5, (Array.getElem?_eq_some_iff.1 h3).1, fun i hi => ?_⟩
    have hul := usedP_len P
    obtain ⟨e1, e2⟩ := usedP_getD P i hi
    refine ⟨?_, ?_⟩
    · rw [h.cellAt (0 + i * 2) (by omega), ← e1, Nat.zero_add]; simp [List.getD, show i * 2 < (usedP P).length by omega]
    · rw [h.cellAt (0 + i * 2 + 1) (by omega), ← e2, Nat.zero_add]; simp [List.getD, show i * 2 + 1 < (usedP P).length by omega]
theorem ownsRow_below {w w' : World} {base : Nat} {e : TypeId} {size n : Nat} {v : Value} {xs : List Value} (h : w.ownsRow base e size v n xs) (hb : Below w.heap.size w w') : w'.ownsRow base e size v n xs :=
  h.kept (Lib.grownBy_below (World.grownBy.refl _ none) hb) (by cases h2 : v.ownBlock with
    | none => exact .inl rfl
    | some q => exact .inr (by simp))
theorem sameB_refl (P : List (Int × Int)) (i : Int) : sameB P i P i = true := by unfold sameB; simp
/-- a row of numbers, as a block -/
def IntRow (W : World) (a : Option Addr) (n : Nat) : Prop := n = 0 ∨ ∃ g cs, a = some ⟨g, 0, none⟩ ∧ W.heap[g]? = some (.cells cs 49 (0, 0)) ∧ n * 2 ≤ cs.size ∧ ∀ q, q < n * 2 → ∃ z, cs[q]? = some (.int .i64 z)
theorem intRow_own {w : World} {base : Nat} {a : Option Addr} {c : Nat} {P : List (Int × Int)} (h : w.ownsRow base 49 2 (.slice a P.length c) P.length ((usedP P).map (Value.int .i64))) : IntRow w a P.length ∧ P.length ≤ c ∨ IntRow w a P.length ∧ P.length = 0 := by
  rcases h.2 with ⟨_, hn⟩ | ⟨g, cap, cur, h1, h2, h3, h4, h5, h6, h7⟩
  · exact .inr ⟨.inl hn, hn⟩
  · simp only [Value.slice.injEq] at h1
    obtain ⟨rfl, _, rfl⟩ := h1
    refine .inl ⟨.inr ⟨g, cur, rfl, h3, by omega, fun q hq => ?_⟩, h4⟩
    have hl : q < (cur.toList.take (P.length * 2)).length := by rw [List.length_take]; simp; omega
    have e : (cur.toList.take (P.length * 2))[q]? = ((usedP P).map (Value.int .i64))[q]? := by rw [h7]
    rw [List.getElem?_take, if_pos hq] at e
    have hq2 : q < (usedP P).length := by rw [usedP_len]; exact hq
    rw [List.getElem?_map, List.getElem?_eq_getElem hq2] at e
    exact ⟨_, by simpa using e⟩
theorem IntRow.same {W W' : World} {a : Option Addr} {n : Nat} (h : IntRow W a n) (hs : ∀ g, a = some ⟨g, 0, none⟩ → W'.heap[g]? = W.heap[g]?) : IntRow W' a n := by
  rcases h with h | ⟨g, cs, rfl, h1, h2⟩
  · exact .inl h
  · exact .inr ⟨g, cs, rfl, (hs g rfl).trans h1, h2⟩
theorem wheels_far {w w' : World} {a : Option Addr} {c : Nat} {S : List (Int × Int)} {row : Option Nat} (h : WheelsAt w (.slice a S.length c) S) (hg : w.grownBy w' row) (hne : ∀ k, (Value.slice a S.length c).ownBlock = some k → row ≠ some k) : WheelsAt w' (.slice a S.length c) S := by
  obtain ⟨hl, ⟨rfl, h⟩ | ⟨b, off, cap, e, hlc, hcm, hlt, hc⟩⟩ := h
  · exact ⟨hl, .inl ⟨rfl, _, _, rfl⟩⟩
  · simp only [Value.slice.injEq] at e
    obtain ⟨rfl, _, rfl⟩ := e
    have hb := hne b rfl
    refine ⟨hl, .inr ⟨b, off, c, rfl, hlc, hcm, Nat.lt_of_lt_of_le hlt hg.size, fun i hi => ?_⟩⟩
    have hblk := hg.block b hlt (Ne.symm hb)
    exact ⟨(World.cell?_of_block (a := ⟨b, _, none⟩) hblk).trans (hc i hi).1, (World.cell?_of_block (a := ⟨b, _, none⟩) hblk).trans (hc i hi).2⟩
theorem nilOk_own {w : World} {base : Nat} {e : TypeId} {size n : Nat} {v : Value} {xs : List Value} (h : w.ownsRow base e size v n xs) : NilOk v := by
  intro m c e2
  rcases h.2 with ⟨h1, _⟩ | ⟨g, cap, cur, h1, _⟩
  · rw [h1] at e2; simp only [Value.slice.injEq] at e2; omega
  · rw [h1] at e2; simp at e2
set_option maxRecDepth 100000 in
set_option maxHeartbeats 12800000 in
theorem ownsLaw_any (S P : List (Int × Int)) (sv pv : Value) (t r p o i : Int) (same : Bool) (w : World) (hS : WheelsAt w sv S) (hP : WheelsAt w pv P) (hss : ∀ b off n c, sv = .slice (some ⟨b, off, none⟩) n c → b < w.heap.size) (hsn : NilOk sv) (hpn : NilOk pv) :
    Calls Try.prog 10 #[sv, .agg #[.int .i64 t, .int .i64 r, .bool same, .int .i64 p, .int .i64 o], .agg #[pv, .int .i64 i]] w
      fun e w' => e = .returned (.bool true) ∧ Below w.heap.size w w' := by
  obtain ⟨pa, pc, rfl⟩ := hP.shape
  obtain ⟨sa, sc, rfl⟩ := hS.shape
  have hpl : P.length ≤ 9223372036854775807 := hP.1
  have hsl : S.length ≤ 9223372036854775807 := hS.1
  obtain ⟨W0, hW0⟩ : ∃ W0, W0 = (w.alloc (.cells #[.int .i64 t, .int .i64 r, .bool same, .int .i64 p, .int .i64 o] 24)).alloc (.cells #[.slice pa P.length pc, .int .i64 i] 27) := ⟨_, rfl⟩
  have hg0 : Below w.heap.size w W0 := by rw [hW0]; exact ((Below.refl _ _).alloc (Nat.le_refl _) _).alloc (by simp) _
  have hG0 : W0.heap[w.heap.size]? = some (.cells #[.int .i64 t, .int .i64 r, .bool same, .int .i64 p, .int .i64 o] 24) := by rw [hW0, Below.heap_alloc _ _ _ (by simp)]; exact (MapKept.heap_alloc w _).1
  have hT0 : W0.heap[w.heap.size + 1]? = some (.cells #[.slice pa P.length pc, .int .i64 i] 27) := by
    have := (MapKept.heap_alloc (w.alloc (.cells #[.int .i64 t, .int .i64 r, .bool same, .int .i64 p, .int .i64 o] 24)) (.cells #[.slice pa P.length pc, .int .i64 i] 27)).1
    rw [hW0]; simpa using this
  have hz0 : W0.heap.size = w.heap.size + 2 := by rw [hW0]; simp
  obtain ⟨f0, f1⟩ := tcells hT0
  have hgr := great_any sa S.length sc 5 W0 hsl
  obtain ⟨gr, hgre⟩ : ∃ gr, greatB S.length 5 = gr := ⟨_, rfl⟩
  rw [hgre] at hgr
  have ha := fun X => alive_any X
  have HA := Lib.hid ha
  clear ha
  go_enter Try.func10, Try.ntmps10
  go_wp2_with fail
  rw [← hW0]
  clear hW0
  refine hgr.mono ?_
  rintro e w1 ⟨rfl, rfl⟩
  clear hgr
  cases gr with
  | true =>
    clear hG0 hT0 f0 f1 hgre
    go_wp2_with fail
    refine (HA.out _).mono ?_
    rintro e w1 ⟨rfl, hb1⟩
    go_wp2
    go_ret
    exact ⟨rfl, hg0.trans (hb1.mono (by omega))⟩
  | false =>
  have hS14 : S.length ≤ 14 := by
    unfold greatB at hgre
    have := of_decide_eq_false hgre
    omega
  clear hgre
  by_cases h20 : 20 < P.length
  · have d : decide (20 < P.length) = true := decide_eq_true h20
    clear hG0 hT0
    go_wp2_with fail
    refine (HA.out _).mono ?_
    rintro e w1 ⟨rfl, hb1⟩
    go_wp2
    go_ret
    exact ⟨rfl, hg0.trans (hb1.mono (by omega))⟩
  have hPl : P.length ≤ 20 := by omega
  go_upto_region 3 with fail
  go_cut [7, 8] (fun v1 v2 wx => WheelsAt wx v1 S ∧ WheelsAt wx v2 P ∧ (∀ k, v1.ownBlock = some k → k < wx.heap.size) ∧ (∀ k, v2.ownBlock = some k → k < wx.heap.size) ∧ wx.heap[w.heap.size + 1]? = some (.cells #[.slice pa P.length pc, .int .i64 i] 27) ∧ wx.heap[w.heap.size]? = some (.cells #[.int .i64 t, .int .i64 r, .bool same, .int .i64 p, .int .i64 o] 24) ∧ Below w.heap.size w wx ∧ w.heap.size + 2 ≤ wx.heap.size)
  case first =>
    refine wp_region_held_drew (S := fun w' => w'.heap[w.heap.size + 1]? = some (.cells #[.slice pa P.length pc, .int .i64 i] 27)) (by kernel_rfl) hT0 (fun hHeld => ?_)
    obtain ⟨X0, hX0⟩ : ∃ X0, X0 = W0.drew := ⟨_, rfl⟩
    have hT : RowKit.Hid (X0.heap[w.heap.size + 1]? = some (.cells #[.slice pa P.length pc, .int .i64 i] 27)) := Lib.hid (by rw [hX0]; exact hT0)
    have hG : RowKit.Hid (X0.heap[w.heap.size]? = some (.cells #[.int .i64 t, .int .i64 r, .bool same, .int .i64 p, .int .i64 o] 24)) := Lib.hid (by rw [hX0]; exact hG0)
    have hbX : Below w.heap.size w X0 := by rw [hX0]; exact hg0.drew
    have hzX : w.heap.size + 2 ≤ X0.heap.size := by rw [hX0]; simp; omega
    rw [← hX0]
    clear hX0 hHeld hT0 hG0 hg0 hz0 f0 f1
    refine wpAnyH_take (i := 1) (oi := _) (v := ?_) rfl (by kernel_rfl) (by kernel_rfl) (by kernel_rfl) (fun _ _ _ h => h) (Or.inl ⟨by rfl, ?_⟩) hT.out ?_
    rotate_left
    · intro w1 hSw
      replace hSw : w1.heap[w.heap.size + 1]? = some (.cells #[.slice pa P.length pc, .int .i64 i] 27) := hSw
      obtain ⟨f0, f1⟩ := tcells hSw
      clear hSw
      go_simp; with_reducible rfl
    simp only [List.getElem_toArray, List.getElem_cons_succ, List.getElem_cons_zero, Act.put, List.setIfInBounds_toArray, List.set_cons_zero, List.set_cons_succ]
    refine wpAnyH_take (i := 4) (oi := _) (v := ?_) rfl (by kernel_rfl) (by kernel_rfl) (by kernel_rfl) (fun _ _ _ h => h) (Or.inl ⟨by rfl, ?_⟩) hT.out ?_
    rotate_left
    · intro w1 hSw
      replace hSw : w1.heap[w.heap.size + 1]? = some (.cells #[.slice pa P.length pc, .int .i64 i] 27) := hSw
      obtain ⟨f0, f1⟩ := tcells hSw
      clear hSw
      go_simp; with_reducible rfl
    simp only [List.getElem_toArray, List.getElem_cons_succ, List.getElem_cons_zero, Act.put, List.setIfInBounds_toArray, List.set_cons_zero, List.set_cons_succ]
    refine wpAnyH_take (i := 5) (oi := _) (v := ?_) rfl (by kernel_rfl) (by kernel_rfl) (by kernel_rfl) (fun _ _ _ h => h) (Or.inl ⟨by rfl, ?_⟩) hT.out ?_
    rotate_left
    · intro w1 hSw
      replace hSw : w1.heap[w.heap.size + 1]? = some (.cells #[.slice pa P.length pc, .int .i64 i] 27) := hSw
      obtain ⟨f0, f1⟩ := tcells hSw
      clear hSw
      go_simp; with_reducible rfl
    simp only [List.getElem_toArray, List.getElem_cons_succ, List.getElem_cons_zero, Act.put, List.setIfInBounds_toArray, List.set_cons_zero, List.set_cons_succ]
    refine wpAnyH_all (rs := [0, 3]) (by kernel_rfl) (by simp) ?_
    intro i hi
    rcases (by simpa using hi : i = 0 ∨ i = 3) with rfl | rfl <;> clear hi
    ·
      refine wpOp_step rfl (fun K3 hK3 => ?_)
      have HK3 := Lib.hid hK3
      clear hK3
      rw [if_pos (by rfl)]
      go_simp
      obtain ⟨g1, eg1⟩ : ∃ g, g = X0.heap.size := ⟨_, rfl⟩
      obtain ⟨x1, eY⟩ : ∃ Y, Y = X0.alloc (.cells #[] 58) := ⟨_, rfl⟩
      have hXY : X0.grownBy x1 none := by rw [eY]; exact World.grownBy_alloc _ _ _
      have h10 : x1.ownsRow (w.heap.size + 2) 58 2 (.slice (some ⟨g1, 0, none⟩) 0 0) 0 [] := by rw [eY, eg1]; exact World.ownsRow_lit X0 #[] 0 (by omega) (by decide) rfl
      have hz' : x1.heap.size = X0.heap.size + 1 := by rw [eY]; simp
      rw [← eY, ← eg1]
      clear eY
      replace hT := Lib.hid ((hXY.block (w.heap.size + 1) (by omega) (by simp; try omega)).trans hT.out)
      replace hG := Lib.hid ((hXY.block w.heap.size (by omega) (by simp; try omega)).trans hG.out)
      replace hbX := hbX.grown hXY (by omega) (fun q hq => by simp at hq; try omega)
      have h1 := h10
      have hgl1 : w.heap.size + 2 ≤ g1 := by omega
      have hgs1 : g1 < x1.heap.size := by omega
      clear h10
      replace hzX : w.heap.size + 2 ≤ x1.heap.size := by omega
      clear hXY hz' eg1
      refine HK3.out _ _ ⟨hT.out, ?_⟩
      clear HK3 K3
      try simp only [List.getElem_toArray, List.getElem_cons_succ, List.getElem_cons_zero, Act.put, List.setIfInBounds_toArray, List.set_cons_zero, List.set_cons_succ]
      refine wpAnyH_all (rs := [2, 3]) (by kernel_rfl) (by simp) ?_
      intro i hi
      rcases (by simpa using hi : i = 2 ∨ i = 3) with rfl | rfl <;> clear hi
      ·
        refine wpOp_step rfl (fun K3 hK3 => ?_)
        have HK3 := Lib.hid hK3
        clear hK3
        rw [if_pos (by rfl)]
        simp only [List.getElem_toArray, List.getElem_cons_succ, List.getElem_cons_zero]
        refine wp_copy (.tmp 36) (.tmp 37) 22 58 (by rfl) Try.underlying22 Try.info58 (w.heap.size + 2) g1 (by rfl) h1 (by rfl) (hS.below hbX) hsn (by omega) hzX ?_
        intro v1 x2 hown1 hXY hat1
        replace hT := Lib.hid ((hXY.block (w.heap.size + 1) (by omega) (by simp; try omega)).trans hT.out)
        replace hG := Lib.hid ((hXY.block w.heap.size (by omega) (by simp; try omega)).trans hG.out)
        replace hbX := hbX.grown hXY (by omega) (fun q hq => by simp at hq; try omega)
        replace hzX := Nat.le_trans hzX hXY.size
        replace h1 := hown1
        clear hown1 hXY
        refine HK3.out _ _ ⟨hT.out, ?_⟩
        clear HK3 K3
        try simp only [List.getElem_toArray, List.getElem_cons_succ, List.getElem_cons_zero, Act.put, List.setIfInBounds_toArray, List.set_cons_zero, List.set_cons_succ]
        refine wpAnyH_all (rs := [3]) (by kernel_rfl) (by simp) ?_
        intro i hi; obtain rfl := List.mem_singleton.1 hi; clear hi
        refine wpOp_step rfl (fun K3 hK3 => ?_)
        have HK3 := Lib.hid hK3
        clear hK3
        rw [if_pos (by rfl)]
        go_simp
        obtain ⟨g2, eg2⟩ : ∃ g, g = x2.heap.size := ⟨_, rfl⟩
        obtain ⟨x3, eY⟩ : ∃ Y, Y = x2.alloc (.cells #[] 49) := ⟨_, rfl⟩
        have hXY : x2.grownBy x3 none := by rw [eY]; exact World.grownBy_alloc _ _ _
        have h20 : x3.ownsRow (w.heap.size + 2) 49 2 (.slice (some ⟨g2, 0, none⟩) 0 0) 0 [] := by rw [eY, eg2]; exact World.ownsRow_lit x2 #[] 0 (by omega) (by decide) rfl
        have hz' : x3.heap.size = x2.heap.size + 1 := by rw [eY]; simp
        rw [← eY, ← eg2]
        clear eY
        replace hT := Lib.hid ((hXY.block (w.heap.size + 1) (by omega) (by simp; try omega)).trans hT.out)
        replace hG := Lib.hid ((hXY.block w.heap.size (by omega) (by simp; try omega)).trans hG.out)
        replace hbX := hbX.grown hXY (by omega) (fun q hq => by simp at hq; try omega)
        have hv2 : v1.ownBlock = none ∨ v1.ownBlock ≠ some g2 := by
          cases e : v1.ownBlock with
          | none => exact .inl rfl
          | some q => exact .inr (fun h => by have := (h1.lt q e).2; simp at h; omega)
        replace h1 := h1.kept hXY (by cases e : v1.ownBlock with
          | none => exact .inl rfl
          | some q => exact .inr (by simp))
        have hgl : w.heap.size + 2 ≤ g2 := by omega
        have hgs : g2 < x3.heap.size := by omega
        have h2 := h20
        clear h20
        replace hzX : w.heap.size + 2 ≤ x3.heap.size := by omega
        clear hXY hz' eg2
        refine HK3.out _ _ ⟨hT.out, ?_⟩
        clear HK3 K3
        try simp only [List.getElem_toArray, List.getElem_cons_succ, List.getElem_cons_zero, Act.put, List.setIfInBounds_toArray, List.set_cons_zero, List.set_cons_succ]
        refine wpAnyH_all (rs := [6]) (by kernel_rfl) (by simp) ?_
        intro i hi; obtain rfl := List.mem_singleton.1 hi; clear hi
        refine wpOp_step rfl (fun K3 hK3 => ?_)
        have HK3 := Lib.hid hK3
        clear hK3
        rw [if_pos (by rfl)]
        simp only [List.getElem_toArray, List.getElem_cons_succ, List.getElem_cons_zero]
        refine wp_copy (.tmp 39) (.tmp 41) 25 49 (by rfl) Try.underlying25 Try.info49 (w.heap.size + 2) g2 (by rfl) h2 (by rfl) (hP.below hbX) hpn (by omega) hzX ?_
        intro v2 x4 hown2 hXY hat2
        replace hT := Lib.hid ((hXY.block (w.heap.size + 1) (by omega) (by simp; try omega)).trans hT.out)
        replace hG := Lib.hid ((hXY.block w.heap.size (by omega) (by simp; try omega)).trans hG.out)
        replace hbX := hbX.grown hXY (by omega) (fun q hq => by simp at hq; try omega)
        replace hzX := Nat.le_trans hzX hXY.size
        have hV1 : WheelsAt x4 v1 S := wheels_own58 (h1.kept hXY hv2) (by omega)
        have hB1 : ∀ k, v1.ownBlock = some k → k < x4.heap.size := fun k hk => ((h1.kept hXY hv2).lt k hk).2
        have hB2 : ∀ k, v2.ownBlock = some k → k < x4.heap.size := fun k hk => (hown2.lt k hk).2
        have hV2 : WheelsAt x4 v2 P := wheels_own hown2 (by omega)
        clear hown2 hXY h1 h2
        refine HK3.out _ _ ⟨hT.out, ?_⟩
        clear HK3 K3
        try simp only [List.getElem_toArray, List.getElem_cons_succ, List.getElem_cons_zero, Act.put, List.setIfInBounds_toArray, List.set_cons_zero, List.set_cons_succ]
        refine wpAnyH_take (i := 7) (oi := _) (v := ?_) rfl (by kernel_rfl) (by kernel_rfl) (by kernel_rfl) (fun _ _ _ h => h) (Or.inl ⟨by rfl, ?_⟩) hT.out ?_
        rotate_left
        · intro w1 hSw
          replace hSw : w1.heap[w.heap.size + 1]? = some (.cells #[.slice pa P.length pc, .int .i64 i] 27) := hSw
          obtain ⟨f0, f1⟩ := tcells hSw
          clear hSw
          go_simp; with_reducible rfl
        simp only [List.getElem_toArray, List.getElem_cons_succ, List.getElem_cons_zero, Act.put, List.setIfInBounds_toArray, List.set_cons_zero, List.set_cons_succ]
        refine wpAnyH_take (i := 8) (oi := _) (v := ?_) rfl (by kernel_rfl) (by kernel_rfl) (by kernel_rfl) (fun _ _ _ h => h) (Or.inl ⟨by rfl, ?_⟩) hT.out ?_
        rotate_left
        · intro w1 hSw
          replace hSw : w1.heap[w.heap.size + 1]? = some (.cells #[.slice pa P.length pc, .int .i64 i] 27) := hSw
          obtain ⟨f0, f1⟩ := tcells hSw
          clear hSw
          go_simp; with_reducible rfl
        simp only [List.getElem_toArray, List.getElem_cons_succ, List.getElem_cons_zero, Act.put, List.setIfInBounds_toArray, List.set_cons_zero, List.set_cons_succ]
        refine wpAnyH_done (by kernel_rfl) ?_ _
        go_wp2_with fail
        go_meet
        exact ⟨hV1, hV2, hB1, hB2, hT.out, hG.out, hbX, hzX⟩
      ·
        refine wpOp_step rfl (fun K3 hK3 => ?_)
        have HK3 := Lib.hid hK3
        clear hK3
        rw [if_pos (by rfl)]
        go_simp
        obtain ⟨g2, eg2⟩ : ∃ g, g = x1.heap.size := ⟨_, rfl⟩
        obtain ⟨x2, eY⟩ : ∃ Y, Y = x1.alloc (.cells #[] 49) := ⟨_, rfl⟩
        have hXY : x1.grownBy x2 none := by rw [eY]; exact World.grownBy_alloc _ _ _
        have h20 : x2.ownsRow (w.heap.size + 2) 49 2 (.slice (some ⟨g2, 0, none⟩) 0 0) 0 [] := by rw [eY, eg2]; exact World.ownsRow_lit x1 #[] 0 (by omega) (by decide) rfl
        have hz' : x2.heap.size = x1.heap.size + 1 := by rw [eY]; simp
        rw [← eY, ← eg2]
        clear eY
        replace hT := Lib.hid ((hXY.block (w.heap.size + 1) (by omega) (by simp; try omega)).trans hT.out)
        replace hG := Lib.hid ((hXY.block w.heap.size (by omega) (by simp; try omega)).trans hG.out)
        replace hbX := hbX.grown hXY (by omega) (fun q hq => by simp at hq; try omega)
        replace h1 := h1.kept hXY (.inr (by simp [Value.ownBlock]))
        have hgg : g1 ≠ g2 := by omega
        have hgl : w.heap.size + 2 ≤ g2 := by omega
        have hgs : g2 < x2.heap.size := by omega
        have h2 := h20
        clear h20
        replace hzX : w.heap.size + 2 ≤ x2.heap.size := by omega
        clear hXY hz' eg2
        refine HK3.out _ _ ⟨hT.out, ?_⟩
        clear HK3 K3
        try simp only [List.getElem_toArray, List.getElem_cons_succ, List.getElem_cons_zero, Act.put, List.setIfInBounds_toArray, List.set_cons_zero, List.set_cons_succ]
        refine wpAnyH_all (rs := [2]) (by kernel_rfl) (by simp) ?_
        intro i hi; obtain rfl := List.mem_singleton.1 hi; clear hi
        refine wpOp_step rfl (fun K3 hK3 => ?_)
        have HK3 := Lib.hid hK3
        clear hK3
        rw [if_pos (by rfl)]
        simp only [List.getElem_toArray, List.getElem_cons_succ, List.getElem_cons_zero]
        refine wp_copy (.tmp 36) (.tmp 37) 22 58 (by rfl) Try.underlying22 Try.info58 (w.heap.size + 2) g1 (by rfl) h1 (by rfl) (hS.below hbX) hsn (by omega) hzX ?_
        intro v1 x3 hown1 hXY hat1
        replace hT := Lib.hid ((hXY.block (w.heap.size + 1) (by omega) (by simp; try omega)).trans hT.out)
        replace hG := Lib.hid ((hXY.block w.heap.size (by omega) (by simp; try omega)).trans hG.out)
        replace hbX := hbX.grown hXY (by omega) (fun q hq => by simp at hq; try omega)
        replace h2 := h2.kept hXY (.inr (by simp [Value.ownBlock]; omega))
        have hv2 : v1.ownBlock = none ∨ v1.ownBlock ≠ some g2 := .inr (fun h => by rcases hat1 with h' | h' <;> (rw [h'] at h; simp at h; omega))
        have hszz := hXY.size
        replace hgs : g2 < x3.heap.size := by omega
        replace hzX := Nat.le_trans hzX hXY.size
        replace h1 := hown1
        clear hown1 hXY
        refine HK3.out _ _ ⟨hT.out, ?_⟩
        clear HK3 K3
        try simp only [List.getElem_toArray, List.getElem_cons_succ, List.getElem_cons_zero, Act.put, List.setIfInBounds_toArray, List.set_cons_zero, List.set_cons_succ]
        refine wpAnyH_all (rs := [6]) (by kernel_rfl) (by simp) ?_
        intro i hi; obtain rfl := List.mem_singleton.1 hi; clear hi
        refine wpOp_step rfl (fun K3 hK3 => ?_)
        have HK3 := Lib.hid hK3
        clear hK3
        rw [if_pos (by rfl)]
        simp only [List.getElem_toArray, List.getElem_cons_succ, List.getElem_cons_zero]
        refine wp_copy (.tmp 39) (.tmp 41) 25 49 (by rfl) Try.underlying25 Try.info49 (w.heap.size + 2) g2 (by rfl) h2 (by rfl) (hP.below hbX) hpn (by omega) hzX ?_
        intro v2 x4 hown2 hXY hat2
        replace hT := Lib.hid ((hXY.block (w.heap.size + 1) (by omega) (by simp; try omega)).trans hT.out)
        replace hG := Lib.hid ((hXY.block w.heap.size (by omega) (by simp; try omega)).trans hG.out)
        replace hbX := hbX.grown hXY (by omega) (fun q hq => by simp at hq; try omega)
        replace hzX := Nat.le_trans hzX hXY.size
        have hV1 : WheelsAt x4 v1 S := wheels_own58 (h1.kept hXY hv2) (by omega)
        have hB1 : ∀ k, v1.ownBlock = some k → k < x4.heap.size := fun k hk => ((h1.kept hXY hv2).lt k hk).2
        have hB2 : ∀ k, v2.ownBlock = some k → k < x4.heap.size := fun k hk => (hown2.lt k hk).2
        have hV2 : WheelsAt x4 v2 P := wheels_own hown2 (by omega)
        clear hown2 hXY h1 h2
        refine HK3.out _ _ ⟨hT.out, ?_⟩
        clear HK3 K3
        try simp only [List.getElem_toArray, List.getElem_cons_succ, List.getElem_cons_zero, Act.put, List.setIfInBounds_toArray, List.set_cons_zero, List.set_cons_succ]
        refine wpAnyH_take (i := 7) (oi := _) (v := ?_) rfl (by kernel_rfl) (by kernel_rfl) (by kernel_rfl) (fun _ _ _ h => h) (Or.inl ⟨by rfl, ?_⟩) hT.out ?_
        rotate_left
        · intro w1 hSw
          replace hSw : w1.heap[w.heap.size + 1]? = some (.cells #[.slice pa P.length pc, .int .i64 i] 27) := hSw
          obtain ⟨f0, f1⟩ := tcells hSw
          clear hSw
          go_simp; with_reducible rfl
        simp only [List.getElem_toArray, List.getElem_cons_succ, List.getElem_cons_zero, Act.put, List.setIfInBounds_toArray, List.set_cons_zero, List.set_cons_succ]
        refine wpAnyH_take (i := 8) (oi := _) (v := ?_) rfl (by kernel_rfl) (by kernel_rfl) (by kernel_rfl) (fun _ _ _ h => h) (Or.inl ⟨by rfl, ?_⟩) hT.out ?_
        rotate_left
        · intro w1 hSw
          replace hSw : w1.heap[w.heap.size + 1]? = some (.cells #[.slice pa P.length pc, .int .i64 i] 27) := hSw
          obtain ⟨f0, f1⟩ := tcells hSw
          clear hSw
          go_simp; with_reducible rfl
        simp only [List.getElem_toArray, List.getElem_cons_succ, List.getElem_cons_zero, Act.put, List.setIfInBounds_toArray, List.set_cons_zero, List.set_cons_succ]
        refine wpAnyH_done (by kernel_rfl) ?_ _
        go_wp2_with fail
        go_meet
        exact ⟨hV1, hV2, hB1, hB2, hT.out, hG.out, hbX, hzX⟩
    ·
      refine wpOp_step rfl (fun K3 hK3 => ?_)
      have HK3 := Lib.hid hK3
      clear hK3
      rw [if_pos (by rfl)]
      go_simp
      obtain ⟨g2, eg2⟩ : ∃ g, g = X0.heap.size := ⟨_, rfl⟩
      obtain ⟨x1, eY⟩ : ∃ Y, Y = X0.alloc (.cells #[] 49) := ⟨_, rfl⟩
      have hXY : X0.grownBy x1 none := by rw [eY]; exact World.grownBy_alloc _ _ _
      have h20 : x1.ownsRow (w.heap.size + 2) 49 2 (.slice (some ⟨g2, 0, none⟩) 0 0) 0 [] := by rw [eY, eg2]; exact World.ownsRow_lit X0 #[] 0 (by omega) (by decide) rfl
      have hz' : x1.heap.size = X0.heap.size + 1 := by rw [eY]; simp
      rw [← eY, ← eg2]
      clear eY
      replace hT := Lib.hid ((hXY.block (w.heap.size + 1) (by omega) (by simp; try omega)).trans hT.out)
      replace hG := Lib.hid ((hXY.block w.heap.size (by omega) (by simp; try omega)).trans hG.out)
      replace hbX := hbX.grown hXY (by omega) (fun q hq => by simp at hq; try omega)
      have hgl : w.heap.size + 2 ≤ g2 := by omega
      have hgs : g2 < x1.heap.size := by omega
      have h2 := h20
      clear h20
      replace hzX : w.heap.size + 2 ≤ x1.heap.size := by omega
      clear hXY hz' eg2
      refine HK3.out _ _ ⟨hT.out, ?_⟩
      clear HK3 K3
      try simp only [List.getElem_toArray, List.getElem_cons_succ, List.getElem_cons_zero, Act.put, List.setIfInBounds_toArray, List.set_cons_zero, List.set_cons_succ]
      refine wpAnyH_all (rs := [0]) (by kernel_rfl) (by simp) ?_
      intro i hi; obtain rfl := List.mem_singleton.1 hi; clear hi
      refine wpOp_step rfl (fun K3 hK3 => ?_)
      have HK3 := Lib.hid hK3
      clear hK3
      rw [if_pos (by rfl)]
      go_simp
      obtain ⟨g1, eg1⟩ : ∃ g, g = x1.heap.size := ⟨_, rfl⟩
      obtain ⟨x2, eY⟩ : ∃ Y, Y = x1.alloc (.cells #[] 58) := ⟨_, rfl⟩
      have hXY : x1.grownBy x2 none := by rw [eY]; exact World.grownBy_alloc _ _ _
      have h10 : x2.ownsRow (w.heap.size + 2) 58 2 (.slice (some ⟨g1, 0, none⟩) 0 0) 0 [] := by rw [eY, eg1]; exact World.ownsRow_lit x1 #[] 0 (by omega) (by decide) rfl
      have hz' : x2.heap.size = x1.heap.size + 1 := by rw [eY]; simp
      rw [← eY, ← eg1]
      clear eY
      replace hT := Lib.hid ((hXY.block (w.heap.size + 1) (by omega) (by simp; try omega)).trans hT.out)
      replace hG := Lib.hid ((hXY.block w.heap.size (by omega) (by simp; try omega)).trans hG.out)
      replace hbX := hbX.grown hXY (by omega) (fun q hq => by simp at hq; try omega)
      replace h2 := h2.kept hXY (.inr (by simp [Value.ownBlock]))
      have hgg : g1 ≠ g2 := by omega
      replace hgs : g2 < x2.heap.size := by omega
      have h1 := h10
      have hgl1 : w.heap.size + 2 ≤ g1 := by omega
      have hgs1 : g1 < x2.heap.size := by omega
      clear h10
      replace hzX : w.heap.size + 2 ≤ x2.heap.size := by omega
      clear hXY hz' eg1
      refine HK3.out _ _ ⟨hT.out, ?_⟩
      clear HK3 K3
      try simp only [List.getElem_toArray, List.getElem_cons_succ, List.getElem_cons_zero, Act.put, List.setIfInBounds_toArray, List.set_cons_zero, List.set_cons_succ]
      refine wpAnyH_all (rs := [2]) (by kernel_rfl) (by simp) ?_
      intro i hi; obtain rfl := List.mem_singleton.1 hi; clear hi
      refine wpOp_step rfl (fun K3 hK3 => ?_)
      have HK3 := Lib.hid hK3
      clear hK3
      rw [if_pos (by rfl)]
      simp only [List.getElem_toArray, List.getElem_cons_succ, List.getElem_cons_zero]
      refine wp_copy (.tmp 36) (.tmp 37) 22 58 (by rfl) Try.underlying22 Try.info58 (w.heap.size + 2) g1 (by rfl) h1 (by rfl) (hS.below hbX) hsn (by omega) hzX ?_
      intro v1 x3 hown1 hXY hat1
      replace hT := Lib.hid ((hXY.block (w.heap.size + 1) (by omega) (by simp; try omega)).trans hT.out)
      replace hG := Lib.hid ((hXY.block w.heap.size (by omega) (by simp; try omega)).trans hG.out)
      replace hbX := hbX.grown hXY (by omega) (fun q hq => by simp at hq; try omega)
      replace h2 := h2.kept hXY (.inr (by simp [Value.ownBlock]; omega))
      have hv2 : v1.ownBlock = none ∨ v1.ownBlock ≠ some g2 := .inr (fun h => by rcases hat1 with h' | h' <;> (rw [h'] at h; simp at h; omega))
      have hszz := hXY.size
      replace hgs : g2 < x3.heap.size := by omega
      replace hzX := Nat.le_trans hzX hXY.size
      replace h1 := hown1
      clear hown1 hXY
      refine HK3.out _ _ ⟨hT.out, ?_⟩
      clear HK3 K3
      try simp only [List.getElem_toArray, List.getElem_cons_succ, List.getElem_cons_zero, Act.put, List.setIfInBounds_toArray, List.set_cons_zero, List.set_cons_succ]
      refine wpAnyH_all (rs := [6]) (by kernel_rfl) (by simp) ?_
      intro i hi; obtain rfl := List.mem_singleton.1 hi; clear hi
      refine wpOp_step rfl (fun K3 hK3 => ?_)
      have HK3 := Lib.hid hK3
      clear hK3
      rw [if_pos (by rfl)]
      simp only [List.getElem_toArray, List.getElem_cons_succ, List.getElem_cons_zero]
      refine wp_copy (.tmp 39) (.tmp 41) 25 49 (by rfl) Try.underlying25 Try.info49 (w.heap.size + 2) g2 (by rfl) h2 (by rfl) (hP.below hbX) hpn (by omega) hzX ?_
      intro v2 x4 hown2 hXY hat2
      replace hT := Lib.hid ((hXY.block (w.heap.size + 1) (by omega) (by simp; try omega)).trans hT.out)
      replace hG := Lib.hid ((hXY.block w.heap.size (by omega) (by simp; try omega)).trans hG.out)
      replace hbX := hbX.grown hXY (by omega) (fun q hq => by simp at hq; try omega)
      replace hzX := Nat.le_trans hzX hXY.size
      have hV1 : WheelsAt x4 v1 S := wheels_own58 (h1.kept hXY hv2) (by omega)
      have hB1 : ∀ k, v1.ownBlock = some k → k < x4.heap.size := fun k hk => ((h1.kept hXY hv2).lt k hk).2
      have hB2 : ∀ k, v2.ownBlock = some k → k < x4.heap.size := fun k hk => (hown2.lt k hk).2
      have hV2 : WheelsAt x4 v2 P := wheels_own hown2 (by omega)
      clear hown2 hXY h1 h2
      refine HK3.out _ _ ⟨hT.out, ?_⟩
      clear HK3 K3
      try simp only [List.getElem_toArray, List.getElem_cons_succ, List.getElem_cons_zero, Act.put, List.setIfInBounds_toArray, List.set_cons_zero, List.set_cons_succ]
      refine wpAnyH_take (i := 7) (oi := _) (v := ?_) rfl (by kernel_rfl) (by kernel_rfl) (by kernel_rfl) (fun _ _ _ h => h) (Or.inl ⟨by rfl, ?_⟩) hT.out ?_
      rotate_left
      · intro w1 hSw
        replace hSw : w1.heap[w.heap.size + 1]? = some (.cells #[.slice pa P.length pc, .int .i64 i] 27) := hSw
        obtain ⟨f0, f1⟩ := tcells hSw
        clear hSw
        go_simp; with_reducible rfl
      simp only [List.getElem_toArray, List.getElem_cons_succ, List.getElem_cons_zero, Act.put, List.setIfInBounds_toArray, List.set_cons_zero, List.set_cons_succ]
      refine wpAnyH_take (i := 8) (oi := _) (v := ?_) rfl (by kernel_rfl) (by kernel_rfl) (by kernel_rfl) (fun _ _ _ h => h) (Or.inl ⟨by rfl, ?_⟩) hT.out ?_
      rotate_left
      · intro w1 hSw
        replace hSw : w1.heap[w.heap.size + 1]? = some (.cells #[.slice pa P.length pc, .int .i64 i] 27) := hSw
        obtain ⟨f0, f1⟩ := tcells hSw
        clear hSw
        go_simp; with_reducible rfl
      simp only [List.getElem_toArray, List.getElem_cons_succ, List.getElem_cons_zero, Act.put, List.setIfInBounds_toArray, List.set_cons_zero, List.set_cons_succ]
      refine wpAnyH_done (by kernel_rfl) ?_ _
      go_wp2_with fail
      go_meet
      exact ⟨hV1, hV2, hB1, hB2, hT.out, hG.out, hbX, hzX⟩
  case rest =>
    obtain ⟨hV1, hV2, hW1, hW2, hT, hG, hbw, hzz⟩ := hcut
    obtain ⟨Z, hZ⟩ : ∃ Z, Z = wc.heap.size := ⟨_, rfl⟩
    rw [← hZ] at hW1 hW2
    have hZl : Z ≤ wc.heap.size := by omega
    have hZg : w.heap.size + 2 ≤ Z := by omega
    clear hZ
    obtain ⟨va, vc, rfl⟩ := hV1.shape
    obtain ⟨vb, vd, rfl⟩ := hV2.shape
    obtain ⟨P1, i1, n1, e1, hrow⟩ := rowOf_any (chooseC S t r p o same)
    obtain ⟨P2, i2, n2, e2, hnear⟩ := nearOf_any t r (nearC S t r p o same)
    have hl1 := chosen_len hrow
    have hl2 := near_len hnear
    have HROW := Lib.hid hrow
    have HNEAR := Lib.hid hnear
    clear hrow hnear
    obtain ⟨g0, g1, g2, g3, g4⟩ := gcells hG
    obtain ⟨f0, f1⟩ := tcells hT
    have hbd := build_any S (.slice sa S.length sc) t r p o same P (.slice pa P.length pc) i wc (hS.below hbw) (hP.below hbw) (fun b off n c e => Nat.lt_of_lt_of_le (hss b off n c e) hbw.size)
    have HBD := Lib.hid hbd
    clear hbd
    go_wp2_with fail
    refine HBD.out.mono ?_
    rintro e w1 ⟨rfl, hb1⟩
    clear HBD g0 g1 g2 g3 g4 f0 f1
    replace hG := (hb1.block w.heap.size (by omega)).trans hG
    replace hT := (hb1.block (w.heap.size + 1) (by omega)).trans hT
    replace hV1 := hV1.below hb1
    replace hV2 := hV2.below hb1
    replace hbw := hbw.trans (hb1.mono (by omega))
    replace hzz := Nat.le_trans hzz hb1.size
    replace hZl := Nat.le_trans hZl hb1.size
    clear hb1
    obtain ⟨f0, f1⟩ := tcells hT
    have hrd := rounds_any P (.slice pa P.length pc) i 5 w1 (hP.below hbw)
    have HRD := Lib.hid hrd
    clear hrd
    go_wp2_with fail
    refine HRD.out.mono ?_
    rintro e w2 ⟨rfl, hb2⟩
    clear HRD f0 f1
    replace hG := (hb2.block w.heap.size (by omega)).trans hG
    replace hT := (hb2.block (w.heap.size + 1) (by omega)).trans hT
    replace hV1 := hV1.below hb2
    replace hV2 := hV2.below hb2
    replace hbw := hbw.trans (hb2.mono (by omega))
    replace hzz := Nat.le_trans hzz hb2.size
    replace hZl := Nat.le_trans hZl hb2.size
    clear hb2
    obtain ⟨g0, g1, g2, g3, g4⟩ := gcells hG
    have hch := chose_gen HROW.out (hS.below hbw) (fun b off e => Nat.lt_of_lt_of_le (hss b off S.length sc (by rw [e])) hbw.size)
    have HCH := Lib.hid hch
    clear hch
    go_wp2_with fail
    refine HCH.out.mono ?_
    rintro e w3 ⟨a3, c3, rfl, hown3, hb3⟩
    clear HCH g0 g1 g2 g3 g4
    have hw23 := hb3.size
    have hgA : ∀ k, (Value.slice a3 P1.length c3).ownBlock = some k → Z ≤ k ∧ k < w3.heap.size := fun k hk => ⟨Nat.le_trans hZl (hown3.lt k hk).1, (hown3.lt k hk).2⟩
    replace hG := (hb3.block w.heap.size (by omega)).trans hG
    replace hT := (hb3.block (w.heap.size + 1) (by omega)).trans hT
    replace hV1 := hV1.below hb3
    replace hV2 := hV2.below hb3
    replace hbw := hbw.trans (hb3.mono (by omega))
    replace hzz := Nat.le_trans hzz hb3.size
    replace hZl := Nat.le_trans hZl hb3.size
    clear hb3
    obtain ⟨W4, hW4, hb4, hA, hz4⟩ := box27 w3 (.slice a3 P1.length c3) i1
    obtain ⟨A, hAe⟩ : ∃ A, A = w3.heap.size := ⟨_, rfl⟩
    have hAg : w.heap.size + 2 ≤ A := by omega
    have hZA : Z ≤ A := by omega
    rw [← hAe] at hgA
    obtain ⟨g0, g1, g2, g3, g4⟩ := gcells ((hb4.block w.heap.size (by omega)).trans hG)
    rw [hW4] at g0 g1 g2 g3 g4
    go_wp2_with fail
    rw [← hW4, ← hAe]
    clear hW4 g0 g1 g2 g3 g4
    have hw34 := hb4.size
    replace hown3 := ownsRow_below hown3 hb4
    replace hG := (hb4.block w.heap.size (by omega)).trans hG
    replace hT := (hb4.block (w.heap.size + 1) (by omega)).trans hT
    replace hV1 := hV1.below hb4
    replace hV2 := hV2.below hb4
    replace hbw := hbw.trans (hb4.mono (by omega))
    replace hzz := Nat.le_trans hzz hb4.size
    replace hZl := Nat.le_trans hZl hb4.size
    clear hb4
    rw [← hAe] at hA hz4
    have hAz : A < W4.heap.size := by omega
    clear hw34 hw23 hz4 hAe
    have hnr := near_gen HNEAR.out (hS.below hbw) (fun b off e => Nat.lt_of_lt_of_le (hss b off S.length sc (by rw [e])) hbw.size)
    have HNR := Lib.hid hnr
    clear hnr
    refine HNR.out.mono ?_
    rintro e w5 ⟨a5, c5, rfl, hown5, hb5⟩
    have hgB : ∀ k, (Value.slice a5 P2.length c5).ownBlock = some k → A < k ∧ k < w5.heap.size := fun k hk => ⟨Nat.lt_of_lt_of_le hAz (hown5.lt k hk).1, (hown5.lt k hk).2⟩
    clear HNR
    replace hown3 := ownsRow_below hown3 hb5
    replace hG := (hb5.block w.heap.size (by omega)).trans hG
    replace hT := (hb5.block (w.heap.size + 1) (by omega)).trans hT
    replace hA := (hb5.block A (by omega)).trans hA
    replace hV1 := hV1.below hb5
    replace hV2 := hV2.below hb5
    replace hbw := hbw.trans (hb5.mono (by omega))
    replace hzz := Nat.le_trans hzz hb5.size
    replace hZl := Nat.le_trans hZl hb5.size
    replace hAz := Nat.lt_of_lt_of_le hAz hb5.size
    clear hb5
    obtain ⟨W6, hW6, hb6, hB, hz6⟩ := box27 w5 (.slice a5 P2.length c5) i2
    obtain ⟨B, hBe⟩ : ∃ B, B = w5.heap.size := ⟨_, rfl⟩
    have HW6 := Lib.hid hW6
    have HBe := Lib.hid hBe
    rw [← hBe] at hB hz6 hgB
    have hBA : A < B := by omega
    have hw56 := hb6.size
    clear hW6 hBe
    go_upto_region 8 with fail
    rw [← HW6.out, ← HBe.out]
    clear HW6 HBe
    have hBz : B < W6.heap.size := by omega
    replace hown3 := ownsRow_below hown3 hb6
    replace hown5 := ownsRow_below hown5 hb6
    replace hG := (hb6.block w.heap.size (by omega)).trans hG
    replace hT := (hb6.block (w.heap.size + 1) (by omega)).trans hT
    replace hA := (hb6.block A (by omega)).trans hA
    replace hV1 := hV1.below hb6
    replace hV2 := hV2.below hb6
    replace hbw := hbw.trans (hb6.mono (by omega))
    replace hzz := Nat.le_trans hzz hb6.size
    replace hZl := Nat.le_trans hZl hb6.size
    replace hAz := Nat.lt_of_lt_of_le hAz hb6.size
    clear hb6
    clear hw56 hz6
    have hP1 : WheelsAt W6 (.slice a3 P1.length c3) P1 := wheels_own hown3 (by omega)
    have hP2 : WheelsAt W6 (.slice a5 P2.length c5) P2 := wheels_own hown5 (by omega)
    have hn1 := nilOk_own hown3
    have hn2 := nilOk_own hown5
    go_cut [15, 16] (fun v1 v2 wx => WheelsAt wx v1 P1 ∧ WheelsAt wx v2 P2 ∧ (∀ k, v1.ownBlock = some k → B < k) ∧ (∀ k, v2.ownBlock = some k → B < k) ∧ Below W6.heap.size W6 wx)
    case first =>
      refine wp_region_held_drew (S := fun w' => w'.heap[A]? = some (.cells #[.slice a3 P1.length c3, .int .i64 i1] 27) ∧ w'.heap[B]? = some (.cells #[.slice a5 P2.length c5, .int .i64 i2] 27)) (by kernel_rfl) ⟨hA, hB⟩ (fun hHeld => ?_)
      obtain ⟨y0, hy0⟩ : ∃ y0, y0 = W6.drew := ⟨_, rfl⟩
      have hbX : Below W6.heap.size W6 y0 := by rw [hy0]; exact (Below.refl _ _).drew
      have hzX : W6.heap.size ≤ y0.heap.size := by rw [hy0]; simp
      rw [← hy0]
      clear hy0 hHeld
      refine wpAnyH_take (i := 1) (oi := _) (v := ?_) rfl (by kernel_rfl) (by kernel_rfl) (by kernel_rfl) (fun _ _ _ h => h) (Or.inl ⟨by rfl, ?_⟩) ⟨(hbX.block A hAz).trans hA, (hbX.block B hBz).trans hB⟩ ?_
      rotate_left
      · intro w1 hSw
        replace hSw : w1.heap[A]? = some (.cells #[.slice a3 P1.length c3, .int .i64 i1] 27) ∧ w1.heap[B]? = some (.cells #[.slice a5 P2.length c5, .int .i64 i2] 27) := hSw
        obtain ⟨hSa, hSb⟩ := hSw
        obtain ⟨f0, f1⟩ := tcells hSa
        obtain ⟨k0, k1⟩ := tcells hSb
        clear hSa hSb
        go_simp; with_reducible rfl
      simp only [List.getElem_toArray, List.getElem_cons_succ, List.getElem_cons_zero, Act.put, List.setIfInBounds_toArray, List.set_cons_zero, List.set_cons_succ]
      refine wpAnyH_take (i := 2) (oi := _) (v := ?_) rfl (by kernel_rfl) (by kernel_rfl) (by kernel_rfl) (fun _ _ _ h => h) (Or.inl ⟨by rfl, ?_⟩) ⟨(hbX.block A hAz).trans hA, (hbX.block B hBz).trans hB⟩ ?_
      rotate_left
      · intro w1 hSw
        replace hSw : w1.heap[A]? = some (.cells #[.slice a3 P1.length c3, .int .i64 i1] 27) ∧ w1.heap[B]? = some (.cells #[.slice a5 P2.length c5, .int .i64 i2] 27) := hSw
        obtain ⟨hSa, hSb⟩ := hSw
        obtain ⟨f0, f1⟩ := tcells hSa
        obtain ⟨k0, k1⟩ := tcells hSb
        clear hSa hSb
        go_simp; with_reducible rfl
      simp only [List.getElem_toArray, List.getElem_cons_succ, List.getElem_cons_zero, Act.put, List.setIfInBounds_toArray, List.set_cons_zero, List.set_cons_succ]
      refine wpAnyH_take (i := 5) (oi := _) (v := ?_) rfl (by kernel_rfl) (by kernel_rfl) (by kernel_rfl) (fun _ _ _ h => h) (Or.inl ⟨by rfl, ?_⟩) ⟨(hbX.block A hAz).trans hA, (hbX.block B hBz).trans hB⟩ ?_
      rotate_left
      · intro w1 hSw
        replace hSw : w1.heap[A]? = some (.cells #[.slice a3 P1.length c3, .int .i64 i1] 27) ∧ w1.heap[B]? = some (.cells #[.slice a5 P2.length c5, .int .i64 i2] 27) := hSw
        obtain ⟨hSa, hSb⟩ := hSw
        obtain ⟨f0, f1⟩ := tcells hSa
        obtain ⟨k0, k1⟩ := tcells hSb
        clear hSa hSb
        go_simp; with_reducible rfl
      simp only [List.getElem_toArray, List.getElem_cons_succ, List.getElem_cons_zero, Act.put, List.setIfInBounds_toArray, List.set_cons_zero, List.set_cons_succ]
      refine wpAnyH_take (i := 6) (oi := _) (v := ?_) rfl (by kernel_rfl) (by kernel_rfl) (by kernel_rfl) (fun _ _ _ h => h) (Or.inl ⟨by rfl, ?_⟩) ⟨(hbX.block A hAz).trans hA, (hbX.block B hBz).trans hB⟩ ?_
      rotate_left
      · intro w1 hSw
        replace hSw : w1.heap[A]? = some (.cells #[.slice a3 P1.length c3, .int .i64 i1] 27) ∧ w1.heap[B]? = some (.cells #[.slice a5 P2.length c5, .int .i64 i2] 27) := hSw
        obtain ⟨hSa, hSb⟩ := hSw
        obtain ⟨f0, f1⟩ := tcells hSa
        obtain ⟨k0, k1⟩ := tcells hSb
        clear hSa hSb
        go_simp; with_reducible rfl
      simp only [List.getElem_toArray, List.getElem_cons_succ, List.getElem_cons_zero, Act.put, List.setIfInBounds_toArray, List.set_cons_zero, List.set_cons_succ]
      refine wpAnyH_all (rs := [0, 4]) (by kernel_rfl) (by simp) ?_
      intro i hi
      rcases (by simpa using hi : i = 0 ∨ i = 4) with rfl | rfl <;> clear hi
      ·
        refine wpOp_step rfl (fun K3 hK3 => ?_)
        have HK3 := Lib.hid hK3
        clear hK3
        rw [if_pos (by rfl)]
        go_simp
        obtain ⟨g1, eg1⟩ : ∃ g, g = y0.heap.size := ⟨_, rfl⟩
        obtain ⟨y1, eY⟩ : ∃ Y, Y = y0.alloc (.cells #[] 49) := ⟨_, rfl⟩
        have hXY : y0.grownBy y1 none := by rw [eY]; exact World.grownBy_alloc _ _ _
        have h10 : y1.ownsRow W6.heap.size 49 2 (.slice (some ⟨g1, 0, none⟩) 0 0) 0 [] := by rw [eY, eg1]; exact World.ownsRow_lit y0 #[] 0 (by omega) (by decide) rfl
        have hz' : y1.heap.size = y0.heap.size + 1 := by rw [eY]; simp
        rw [← eY, ← eg1]
        clear eY
        replace hbX := hbX.grown hXY (by omega) (fun q hq => by simp at hq; try omega)
        have h1 := h10
        have hgl1 : W6.heap.size ≤ g1 := by omega
        have hgs1 : g1 < y1.heap.size := by omega
        clear h10
        replace hzX : W6.heap.size ≤ y1.heap.size := by omega
        clear hXY hz' eg1
        refine HK3.out _ _ ⟨⟨(hbX.block A hAz).trans hA, (hbX.block B hBz).trans hB⟩, ?_⟩
        clear HK3 K3
        try simp only [List.getElem_toArray, List.getElem_cons_succ, List.getElem_cons_zero, Act.put, List.setIfInBounds_toArray, List.set_cons_zero, List.set_cons_succ]
        refine wpAnyH_all (rs := [3, 4]) (by kernel_rfl) (by simp) ?_
        intro i hi
        rcases (by simpa using hi : i = 3 ∨ i = 4) with rfl | rfl <;> clear hi
        ·
          refine wpOp_step rfl (fun K3 hK3 => ?_)
          have HK3 := Lib.hid hK3
          clear hK3
          rw [if_pos (by rfl)]
          simp only [List.getElem_toArray, List.getElem_cons_succ, List.getElem_cons_zero]
          refine wp_copy (.tmp 63) (.tmp 65) 25 49 (by rfl) Try.underlying25 Try.info49 W6.heap.size g1 (by rfl) h1 (by rfl) (hP1.below hbX) hn1 (by omega) hzX ?_
          intro v1 y2 hown1 hXY hat1
          replace hbX := hbX.grown hXY (by omega) (fun q hq => by simp at hq; try omega)
          replace hzX := Nat.le_trans hzX hXY.size
          replace h1 := hown1
          clear hown1 hXY
          refine HK3.out _ _ ⟨⟨(hbX.block A hAz).trans hA, (hbX.block B hBz).trans hB⟩, ?_⟩
          clear HK3 K3
          try simp only [List.getElem_toArray, List.getElem_cons_succ, List.getElem_cons_zero, Act.put, List.setIfInBounds_toArray, List.set_cons_zero, List.set_cons_succ]
          refine wpAnyH_all (rs := [4]) (by kernel_rfl) (by simp) ?_
          intro i hi; obtain rfl := List.mem_singleton.1 hi; clear hi
          refine wpOp_step rfl (fun K3 hK3 => ?_)
          have HK3 := Lib.hid hK3
          clear hK3
          rw [if_pos (by rfl)]
          go_simp
          obtain ⟨g2, eg2⟩ : ∃ g, g = y2.heap.size := ⟨_, rfl⟩
          obtain ⟨y3, eY⟩ : ∃ Y, Y = y2.alloc (.cells #[] 49) := ⟨_, rfl⟩
          have hXY : y2.grownBy y3 none := by rw [eY]; exact World.grownBy_alloc _ _ _
          have h20 : y3.ownsRow W6.heap.size 49 2 (.slice (some ⟨g2, 0, none⟩) 0 0) 0 [] := by rw [eY, eg2]; exact World.ownsRow_lit y2 #[] 0 (by omega) (by decide) rfl
          have hz' : y3.heap.size = y2.heap.size + 1 := by rw [eY]; simp
          rw [← eY, ← eg2]
          clear eY
          replace hbX := hbX.grown hXY (by omega) (fun q hq => by simp at hq; try omega)
          have hv2 : v1.ownBlock = none ∨ v1.ownBlock ≠ some g2 := by
            cases e : v1.ownBlock with
            | none => exact .inl rfl
            | some q => exact .inr (fun h => by have := (h1.lt q e).2; simp at h; omega)
          replace h1 := h1.kept hXY (by cases e : v1.ownBlock with
            | none => exact .inl rfl
            | some q => exact .inr (by simp))
          have hgl : W6.heap.size ≤ g2 := by omega
          have hgs : g2 < y3.heap.size := by omega
          have h2 := h20
          clear h20
          replace hzX : W6.heap.size ≤ y3.heap.size := by omega
          clear hXY hz' eg2
          refine HK3.out _ _ ⟨⟨(hbX.block A hAz).trans hA, (hbX.block B hBz).trans hB⟩, ?_⟩
          clear HK3 K3
          try simp only [List.getElem_toArray, List.getElem_cons_succ, List.getElem_cons_zero, Act.put, List.setIfInBounds_toArray, List.set_cons_zero, List.set_cons_succ]
          refine wpAnyH_all (rs := [7]) (by kernel_rfl) (by simp) ?_
          intro i hi; obtain rfl := List.mem_singleton.1 hi; clear hi
          refine wpOp_step rfl (fun K3 hK3 => ?_)
          have HK3 := Lib.hid hK3
          clear hK3
          rw [if_pos (by rfl)]
          simp only [List.getElem_toArray, List.getElem_cons_succ, List.getElem_cons_zero]
          refine wp_copy (.tmp 67) (.tmp 69) 25 49 (by rfl) Try.underlying25 Try.info49 W6.heap.size g2 (by rfl) h2 (by rfl) (hP2.below hbX) hn2 (by omega) hzX ?_
          intro v2 y4 hown2 hXY hat2
          replace hbX := hbX.grown hXY (by omega) (fun q hq => by simp at hq; try omega)
          replace hzX := Nat.le_trans hzX hXY.size
          have hV1' := wheels_own (h1.kept hXY hv2) (by omega)
          have hV2' := wheels_own hown2 (by omega)
          have hB1' : ∀ k, v1.ownBlock = some k → W6.heap.size ≤ k := fun k hk => (h1.lt k hk).1
          have hB2' : ∀ k, v2.ownBlock = some k → W6.heap.size ≤ k := fun k hk => (hown2.lt k hk).1
          clear hown2 hXY h1 h2
          refine HK3.out _ _ ⟨⟨(hbX.block A hAz).trans hA, (hbX.block B hBz).trans hB⟩, ?_⟩
          clear HK3 K3
          try simp only [List.getElem_toArray, List.getElem_cons_succ, List.getElem_cons_zero, Act.put, List.setIfInBounds_toArray, List.set_cons_zero, List.set_cons_succ]
          refine wpAnyH_take (i := 8) (oi := _) (v := ?_) rfl (by kernel_rfl) (by kernel_rfl) (by kernel_rfl) (fun _ _ _ h => h) (Or.inl ⟨by rfl, ?_⟩) ⟨(hbX.block A hAz).trans hA, (hbX.block B hBz).trans hB⟩ ?_
          rotate_left
          · intro w1 hSw
            replace hSw : w1.heap[A]? = some (.cells #[.slice a3 P1.length c3, .int .i64 i1] 27) ∧ w1.heap[B]? = some (.cells #[.slice a5 P2.length c5, .int .i64 i2] 27) := hSw
            obtain ⟨hSa, hSb⟩ := hSw
            obtain ⟨f0, f1⟩ := tcells hSa
            obtain ⟨k0, k1⟩ := tcells hSb
            clear hSa hSb
            go_simp; with_reducible rfl
          simp only [List.getElem_toArray, List.getElem_cons_succ, List.getElem_cons_zero, Act.put, List.setIfInBounds_toArray, List.set_cons_zero, List.set_cons_succ]
          refine wpAnyH_take (i := 9) (oi := _) (v := ?_) rfl (by kernel_rfl) (by kernel_rfl) (by kernel_rfl) (fun _ _ _ h => h) (Or.inl ⟨by rfl, ?_⟩) ⟨(hbX.block A hAz).trans hA, (hbX.block B hBz).trans hB⟩ ?_
          rotate_left
          · intro w1 hSw
            replace hSw : w1.heap[A]? = some (.cells #[.slice a3 P1.length c3, .int .i64 i1] 27) ∧ w1.heap[B]? = some (.cells #[.slice a5 P2.length c5, .int .i64 i2] 27) := hSw
            obtain ⟨hSa, hSb⟩ := hSw
            obtain ⟨f0, f1⟩ := tcells hSa
            obtain ⟨k0, k1⟩ := tcells hSb
            clear hSa hSb
            go_simp; with_reducible rfl
          simp only [List.getElem_toArray, List.getElem_cons_succ, List.getElem_cons_zero, Act.put, List.setIfInBounds_toArray, List.set_cons_zero, List.set_cons_succ]
          refine wpAnyH_done (by kernel_rfl) ?_ _
          go_wp2_with fail
          go_meet
          exact ⟨hV1', hV2', fun k hk => Nat.lt_of_lt_of_le hBz (hB1' k hk), fun k hk => Nat.lt_of_lt_of_le hBz (hB2' k hk), hbX⟩
        ·
          refine wpOp_step rfl (fun K3 hK3 => ?_)
          have HK3 := Lib.hid hK3
          clear hK3
          rw [if_pos (by rfl)]
          go_simp
          obtain ⟨g2, eg2⟩ : ∃ g, g = y1.heap.size := ⟨_, rfl⟩
          obtain ⟨y2, eY⟩ : ∃ Y, Y = y1.alloc (.cells #[] 49) := ⟨_, rfl⟩
          have hXY : y1.grownBy y2 none := by rw [eY]; exact World.grownBy_alloc _ _ _
          have h20 : y2.ownsRow W6.heap.size 49 2 (.slice (some ⟨g2, 0, none⟩) 0 0) 0 [] := by rw [eY, eg2]; exact World.ownsRow_lit y1 #[] 0 (by omega) (by decide) rfl
          have hz' : y2.heap.size = y1.heap.size + 1 := by rw [eY]; simp
          rw [← eY, ← eg2]
          clear eY
          replace hbX := hbX.grown hXY (by omega) (fun q hq => by simp at hq; try omega)
          replace h1 := h1.kept hXY (.inr (by simp [Value.ownBlock]))
          have hgg : g1 ≠ g2 := by omega
          have hgl : W6.heap.size ≤ g2 := by omega
          have hgs : g2 < y2.heap.size := by omega
          have h2 := h20
          clear h20
          replace hzX : W6.heap.size ≤ y2.heap.size := by omega
          clear hXY hz' eg2
          refine HK3.out _ _ ⟨⟨(hbX.block A hAz).trans hA, (hbX.block B hBz).trans hB⟩, ?_⟩
          clear HK3 K3
          try simp only [List.getElem_toArray, List.getElem_cons_succ, List.getElem_cons_zero, Act.put, List.setIfInBounds_toArray, List.set_cons_zero, List.set_cons_succ]
          refine wpAnyH_all (rs := [3]) (by kernel_rfl) (by simp) ?_
          intro i hi; obtain rfl := List.mem_singleton.1 hi; clear hi
          refine wpOp_step rfl (fun K3 hK3 => ?_)
          have HK3 := Lib.hid hK3
          clear hK3
          rw [if_pos (by rfl)]
          simp only [List.getElem_toArray, List.getElem_cons_succ, List.getElem_cons_zero]
          refine wp_copy (.tmp 63) (.tmp 65) 25 49 (by rfl) Try.underlying25 Try.info49 W6.heap.size g1 (by rfl) h1 (by rfl) (hP1.below hbX) hn1 (by omega) hzX ?_
          intro v1 y3 hown1 hXY hat1
          replace hbX := hbX.grown hXY (by omega) (fun q hq => by simp at hq; try omega)
          replace h2 := h2.kept hXY (.inr (by simp [Value.ownBlock]; omega))
          have hv2 : v1.ownBlock = none ∨ v1.ownBlock ≠ some g2 := .inr (fun h => by rcases hat1 with h' | h' <;> (rw [h'] at h; simp at h; omega))
          have hszz := hXY.size
          replace hgs : g2 < y3.heap.size := by omega
          replace hzX := Nat.le_trans hzX hXY.size
          replace h1 := hown1
          clear hown1 hXY
          refine HK3.out _ _ ⟨⟨(hbX.block A hAz).trans hA, (hbX.block B hBz).trans hB⟩, ?_⟩
          clear HK3 K3
          try simp only [List.getElem_toArray, List.getElem_cons_succ, List.getElem_cons_zero, Act.put, List.setIfInBounds_toArray, List.set_cons_zero, List.set_cons_succ]
          refine wpAnyH_all (rs := [7]) (by kernel_rfl) (by simp) ?_
          intro i hi; obtain rfl := List.mem_singleton.1 hi; clear hi
          refine wpOp_step rfl (fun K3 hK3 => ?_)
          have HK3 := Lib.hid hK3
          clear hK3
          rw [if_pos (by rfl)]
          simp only [List.getElem_toArray, List.getElem_cons_succ, List.getElem_cons_zero]
          refine wp_copy (.tmp 67) (.tmp 69) 25 49 (by rfl) Try.underlying25 Try.info49 W6.heap.size g2 (by rfl) h2 (by rfl) (hP2.below hbX) hn2 (by omega) hzX ?_
          intro v2 y4 hown2 hXY hat2
          replace hbX := hbX.grown hXY (by omega) (fun q hq => by simp at hq; try omega)
          replace hzX := Nat.le_trans hzX hXY.size
          have hV1' := wheels_own (h1.kept hXY hv2) (by omega)
          have hV2' := wheels_own hown2 (by omega)
          have hB1' : ∀ k, v1.ownBlock = some k → W6.heap.size ≤ k := fun k hk => (h1.lt k hk).1
          have hB2' : ∀ k, v2.ownBlock = some k → W6.heap.size ≤ k := fun k hk => (hown2.lt k hk).1
          clear hown2 hXY h1 h2
          refine HK3.out _ _ ⟨⟨(hbX.block A hAz).trans hA, (hbX.block B hBz).trans hB⟩, ?_⟩
          clear HK3 K3
          try simp only [List.getElem_toArray, List.getElem_cons_succ, List.getElem_cons_zero, Act.put, List.setIfInBounds_toArray, List.set_cons_zero, List.set_cons_succ]
          refine wpAnyH_take (i := 8) (oi := _) (v := ?_) rfl (by kernel_rfl) (by kernel_rfl) (by kernel_rfl) (fun _ _ _ h => h) (Or.inl ⟨by rfl, ?_⟩) ⟨(hbX.block A hAz).trans hA, (hbX.block B hBz).trans hB⟩ ?_
          rotate_left
          · intro w1 hSw
            replace hSw : w1.heap[A]? = some (.cells #[.slice a3 P1.length c3, .int .i64 i1] 27) ∧ w1.heap[B]? = some (.cells #[.slice a5 P2.length c5, .int .i64 i2] 27) := hSw
            obtain ⟨hSa, hSb⟩ := hSw
            obtain ⟨f0, f1⟩ := tcells hSa
            obtain ⟨k0, k1⟩ := tcells hSb
            clear hSa hSb
            go_simp; with_reducible rfl
          simp only [List.getElem_toArray, List.getElem_cons_succ, List.getElem_cons_zero, Act.put, List.setIfInBounds_toArray, List.set_cons_zero, List.set_cons_succ]
          refine wpAnyH_take (i := 9) (oi := _) (v := ?_) rfl (by kernel_rfl) (by kernel_rfl) (by kernel_rfl) (fun _ _ _ h => h) (Or.inl ⟨by rfl, ?_⟩) ⟨(hbX.block A hAz).trans hA, (hbX.block B hBz).trans hB⟩ ?_
          rotate_left
          · intro w1 hSw
            replace hSw : w1.heap[A]? = some (.cells #[.slice a3 P1.length c3, .int .i64 i1] 27) ∧ w1.heap[B]? = some (.cells #[.slice a5 P2.length c5, .int .i64 i2] 27) := hSw
            obtain ⟨hSa, hSb⟩ := hSw
            obtain ⟨f0, f1⟩ := tcells hSa
            obtain ⟨k0, k1⟩ := tcells hSb
            clear hSa hSb
            go_simp; with_reducible rfl
          simp only [List.getElem_toArray, List.getElem_cons_succ, List.getElem_cons_zero, Act.put, List.setIfInBounds_toArray, List.set_cons_zero, List.set_cons_succ]
          refine wpAnyH_done (by kernel_rfl) ?_ _
          go_wp2_with fail
          go_meet
          exact ⟨hV1', hV2', fun k hk => Nat.lt_of_lt_of_le hBz (hB1' k hk), fun k hk => Nat.lt_of_lt_of_le hBz (hB2' k hk), hbX⟩
      ·
        refine wpOp_step rfl (fun K3 hK3 => ?_)
        have HK3 := Lib.hid hK3
        clear hK3
        rw [if_pos (by rfl)]
        go_simp
        obtain ⟨g2, eg2⟩ : ∃ g, g = y0.heap.size := ⟨_, rfl⟩
        obtain ⟨y1, eY⟩ : ∃ Y, Y = y0.alloc (.cells #[] 49) := ⟨_, rfl⟩
        have hXY : y0.grownBy y1 none := by rw [eY]; exact World.grownBy_alloc _ _ _
        have h20 : y1.ownsRow W6.heap.size 49 2 (.slice (some ⟨g2, 0, none⟩) 0 0) 0 [] := by rw [eY, eg2]; exact World.ownsRow_lit y0 #[] 0 (by omega) (by decide) rfl
        have hz' : y1.heap.size = y0.heap.size + 1 := by rw [eY]; simp
        rw [← eY, ← eg2]
        clear eY
        replace hbX := hbX.grown hXY (by omega) (fun q hq => by simp at hq; try omega)
        have hgl : W6.heap.size ≤ g2 := by omega
        have hgs : g2 < y1.heap.size := by omega
        have h2 := h20
        clear h20
        replace hzX : W6.heap.size ≤ y1.heap.size := by omega
        clear hXY hz' eg2
        refine HK3.out _ _ ⟨⟨(hbX.block A hAz).trans hA, (hbX.block B hBz).trans hB⟩, ?_⟩
        clear HK3 K3
        try simp only [List.getElem_toArray, List.getElem_cons_succ, List.getElem_cons_zero, Act.put, List.setIfInBounds_toArray, List.set_cons_zero, List.set_cons_succ]
        refine wpAnyH_all (rs := [0]) (by kernel_rfl) (by simp) ?_
        intro i hi; obtain rfl := List.mem_singleton.1 hi; clear hi
        refine wpOp_step rfl (fun K3 hK3 => ?_)
        have HK3 := Lib.hid hK3
        clear hK3
        rw [if_pos (by rfl)]
        go_simp
        obtain ⟨g1, eg1⟩ : ∃ g, g = y1.heap.size := ⟨_, rfl⟩
        obtain ⟨y2, eY⟩ : ∃ Y, Y = y1.alloc (.cells #[] 49) := ⟨_, rfl⟩
        have hXY : y1.grownBy y2 none := by rw [eY]; exact World.grownBy_alloc _ _ _
        have h10 : y2.ownsRow W6.heap.size 49 2 (.slice (some ⟨g1, 0, none⟩) 0 0) 0 [] := by rw [eY, eg1]; exact World.ownsRow_lit y1 #[] 0 (by omega) (by decide) rfl
        have hz' : y2.heap.size = y1.heap.size + 1 := by rw [eY]; simp
        rw [← eY, ← eg1]
        clear eY
        replace hbX := hbX.grown hXY (by omega) (fun q hq => by simp at hq; try omega)
        replace h2 := h2.kept hXY (.inr (by simp [Value.ownBlock]))
        have hgg : g1 ≠ g2 := by omega
        replace hgs : g2 < y2.heap.size := by omega
        have h1 := h10
        have hgl1 : W6.heap.size ≤ g1 := by omega
        have hgs1 : g1 < y2.heap.size := by omega
        clear h10
        replace hzX : W6.heap.size ≤ y2.heap.size := by omega
        clear hXY hz' eg1
        refine HK3.out _ _ ⟨⟨(hbX.block A hAz).trans hA, (hbX.block B hBz).trans hB⟩, ?_⟩
        clear HK3 K3
        try simp only [List.getElem_toArray, List.getElem_cons_succ, List.getElem_cons_zero, Act.put, List.setIfInBounds_toArray, List.set_cons_zero, List.set_cons_succ]
        refine wpAnyH_all (rs := [3]) (by kernel_rfl) (by simp) ?_
        intro i hi; obtain rfl := List.mem_singleton.1 hi; clear hi
        refine wpOp_step rfl (fun K3 hK3 => ?_)
        have HK3 := Lib.hid hK3
        clear hK3
        rw [if_pos (by rfl)]
        simp only [List.getElem_toArray, List.getElem_cons_succ, List.getElem_cons_zero]
        refine wp_copy (.tmp 63) (.tmp 65) 25 49 (by rfl) Try.underlying25 Try.info49 W6.heap.size g1 (by rfl) h1 (by rfl) (hP1.below hbX) hn1 (by omega) hzX ?_
        intro v1 y3 hown1 hXY hat1
        replace hbX := hbX.grown hXY (by omega) (fun q hq => by simp at hq; try omega)
        replace h2 := h2.kept hXY (.inr (by simp [Value.ownBlock]; omega))
        have hv2 : v1.ownBlock = none ∨ v1.ownBlock ≠ some g2 := .inr (fun h => by rcases hat1 with h' | h' <;> (rw [h'] at h; simp at h; omega))
        have hszz := hXY.size
        replace hgs : g2 < y3.heap.size := by omega
        replace hzX := Nat.le_trans hzX hXY.size
        replace h1 := hown1
        clear hown1 hXY
        refine HK3.out _ _ ⟨⟨(hbX.block A hAz).trans hA, (hbX.block B hBz).trans hB⟩, ?_⟩
        clear HK3 K3
        try simp only [List.getElem_toArray, List.getElem_cons_succ, List.getElem_cons_zero, Act.put, List.setIfInBounds_toArray, List.set_cons_zero, List.set_cons_succ]
        refine wpAnyH_all (rs := [7]) (by kernel_rfl) (by simp) ?_
        intro i hi; obtain rfl := List.mem_singleton.1 hi; clear hi
        refine wpOp_step rfl (fun K3 hK3 => ?_)
        have HK3 := Lib.hid hK3
        clear hK3
        rw [if_pos (by rfl)]
        simp only [List.getElem_toArray, List.getElem_cons_succ, List.getElem_cons_zero]
        refine wp_copy (.tmp 67) (.tmp 69) 25 49 (by rfl) Try.underlying25 Try.info49 W6.heap.size g2 (by rfl) h2 (by rfl) (hP2.below hbX) hn2 (by omega) hzX ?_
        intro v2 y4 hown2 hXY hat2
        replace hbX := hbX.grown hXY (by omega) (fun q hq => by simp at hq; try omega)
        replace hzX := Nat.le_trans hzX hXY.size
        have hV1' := wheels_own (h1.kept hXY hv2) (by omega)
        have hV2' := wheels_own hown2 (by omega)
        have hB1' : ∀ k, v1.ownBlock = some k → W6.heap.size ≤ k := fun k hk => (h1.lt k hk).1
        have hB2' : ∀ k, v2.ownBlock = some k → W6.heap.size ≤ k := fun k hk => (hown2.lt k hk).1
        clear hown2 hXY h1 h2
        refine HK3.out _ _ ⟨⟨(hbX.block A hAz).trans hA, (hbX.block B hBz).trans hB⟩, ?_⟩
        clear HK3 K3
        try simp only [List.getElem_toArray, List.getElem_cons_succ, List.getElem_cons_zero, Act.put, List.setIfInBounds_toArray, List.set_cons_zero, List.set_cons_succ]
        refine wpAnyH_take (i := 8) (oi := _) (v := ?_) rfl (by kernel_rfl) (by kernel_rfl) (by kernel_rfl) (fun _ _ _ h => h) (Or.inl ⟨by rfl, ?_⟩) ⟨(hbX.block A hAz).trans hA, (hbX.block B hBz).trans hB⟩ ?_
        rotate_left
        · intro w1 hSw
          replace hSw : w1.heap[A]? = some (.cells #[.slice a3 P1.length c3, .int .i64 i1] 27) ∧ w1.heap[B]? = some (.cells #[.slice a5 P2.length c5, .int .i64 i2] 27) := hSw
          obtain ⟨hSa, hSb⟩ := hSw
          obtain ⟨f0, f1⟩ := tcells hSa
          obtain ⟨k0, k1⟩ := tcells hSb
          clear hSa hSb
          go_simp; with_reducible rfl
        simp only [List.getElem_toArray, List.getElem_cons_succ, List.getElem_cons_zero, Act.put, List.setIfInBounds_toArray, List.set_cons_zero, List.set_cons_succ]
        refine wpAnyH_take (i := 9) (oi := _) (v := ?_) rfl (by kernel_rfl) (by kernel_rfl) (by kernel_rfl) (fun _ _ _ h => h) (Or.inl ⟨by rfl, ?_⟩) ⟨(hbX.block A hAz).trans hA, (hbX.block B hBz).trans hB⟩ ?_
        rotate_left
        · intro w1 hSw
          replace hSw : w1.heap[A]? = some (.cells #[.slice a3 P1.length c3, .int .i64 i1] 27) ∧ w1.heap[B]? = some (.cells #[.slice a5 P2.length c5, .int .i64 i2] 27) := hSw
          obtain ⟨hSa, hSb⟩ := hSw
          obtain ⟨f0, f1⟩ := tcells hSa
          obtain ⟨k0, k1⟩ := tcells hSb
          clear hSa hSb
          go_simp; with_reducible rfl
        simp only [List.getElem_toArray, List.getElem_cons_succ, List.getElem_cons_zero, Act.put, List.setIfInBounds_toArray, List.set_cons_zero, List.set_cons_succ]
        refine wpAnyH_done (by kernel_rfl) ?_ _
        go_wp2_with fail
        go_meet
        exact ⟨hV1', hV2', fun k hk => Nat.lt_of_lt_of_le hBz (hB1' k hk), fun k hk => Nat.lt_of_lt_of_le hBz (hB2' k hk), hbX⟩
    case rest =>
      obtain ⟨hF1, hF2, hK1, hK2, hb7⟩ := hcut
      obtain ⟨vf, vg, rfl⟩ := hF1.shape
      obtain ⟨vh, vi, rfl⟩ := hF2.shape
      clear hP1 hP2 hn1 hn2
      replace hown3 := ownsRow_below hown3 hb7
      replace hown5 := ownsRow_below hown5 hb7
      replace hG := (hb7.block w.heap.size (by omega)).trans hG
      replace hT := (hb7.block (w.heap.size + 1) (by omega)).trans hT
      replace hA := (hb7.block A (by omega)).trans hA
      replace hB := (hb7.block B (by omega)).trans hB
      replace hV1 := hV1.below hb7
      replace hV2 := hV2.below hb7
      replace hbw := hbw.trans (hb7.mono (by omega))
      replace hzz := Nat.le_trans hzz hb7.size
      replace hZl := Nat.le_trans hZl hb7.size
      replace hAz := Nat.lt_of_lt_of_le hAz hb7.size
      replace hBz := Nat.lt_of_lt_of_le hBz hb7.size
      clear hb7
      have hR1 : IntRow wc a3 P1.length := (intRow_own hown3).elim (·.1) (·.1)
      have hR2 : IntRow wc a5 P2.length := (intRow_own hown5).elim (·.1) (·.1)
      have hc3 : P1.length ≤ c3 ∨ P1.length = 0 := (intRow_own hown3).elim (fun h => .inl h.2) (fun h => .inr h.2)
      have hc5 : P2.length ≤ c5 ∨ P2.length = 0 := (intRow_own hown5).elim (fun h => .inl h.2) (fun h => .inr h.2)
      have hm3 : c3 ≤ 9223372036854775807 ∨ P1.length = 0 := by
        rcases hown3.2 with ⟨_, h⟩ | ⟨g, cap, cur, h1, _, _, _, h5, _⟩
        · exact .inr h
        · simp only [Value.slice.injEq] at h1; obtain ⟨_, _, rfl⟩ := h1; exact .inl h5
      have hm5 : c5 ≤ 9223372036854775807 ∨ P2.length = 0 := by
        rcases hown5.2 with ⟨_, h⟩ | ⟨g, cap, cur, h1, _, _, _, h5, _⟩
        · exact .inr h
        · simp only [Value.slice.injEq] at h1; obtain ⟨_, _, rfl⟩ := h1; exact .inl h5
      have hb5 : ∀ k, (Value.slice a5 P2.length c5).ownBlock = some k → k < wc.heap.size := fun k hk => (hown5.lt k hk).2
      clear hown3 hown5
      have hgA' : ∀ k, (Value.slice a3 P1.length c3).ownBlock = some k → w.heap.size + 2 ≤ k ∧ Z ≤ k ∧ k < A ∧ k < wc.heap.size := fun k hk => by have := hgA k hk; omega
      have hgB' : ∀ k, (Value.slice a5 P2.length c5).ownBlock = some k → w.heap.size + 2 ≤ k ∧ Z ≤ k ∧ A < k ∧ k < B := fun k hk => by have := hgB k hk; omega
      obtain ⟨f0, f1⟩ := tcells hA
      go_wp2_with fail
      clear f0 f1
      go_loopw [74] (fun c wr => ∃ j : Nat, j ≤ P1.length ∧ c = .int .i64 j ∧ wc.grownBy wr (Value.slice a3 P1.length c3).ownBlock ∧ IntRow wr a3 P1.length) (fun c _ => P1.length - (intOf c).toNat)
      case atStart => exact ⟨0, by omega, rfl, World.grownBy.refl _ _, hR1⟩
      case round =>
        obtain ⟨j, hj, rfl, hg, hir⟩ := hrel
        by_cases hlt : j < P1.length
        · rcases hir with h0 | ⟨g, cs, rfl, hcs, hsz, hint⟩
          · omega
          obtain ⟨z, hz⟩ := hint (j * 2) (by omega)
          have hgl : g < wc.heap.size ∧ g < wr.heap.size := ⟨by have := hgA' g rfl; omega, (Array.getElem?_eq_some_iff.1 hcs).1⟩
          obtain ⟨f0, f1⟩ := tcells ((hg.block A (by omega) (fun e => by have := hgA' _ e.symm; omega)).trans hA)
          have k0 : wr.cell? ⟨g, j * 2, none⟩ = some (.int .i64 z) := by simp [World.cell?, hcs, hz]
          have kf : wr.frozen? ⟨g, j * 2, none⟩ = false := by simp [World.frozen?, hcs]
          have i1 : (0 : Int) ≤ (j : Int) := by omega
          have i2 : (j : Int) < (P1.length : Int) := by omega
          have hs2 := setCell_grown wr ⟨g, j * 2, none⟩ (.int .i64 (-1))
          have hs3 := heap_set hcs (j * 2) (.int .i64 (-1))
          have HS3 := Lib.hid hs3
          have HINT := Lib.hid hint
          clear hs3 hint hcs hz
          go_wp2
          go_roundw
          case rel =>
            refine ⟨j + 1, by omega, by go_num, hg.trans hs2, .inr ⟨g, cs.setIfInBounds (j * 2) (.int .i64 (-1)), rfl, HS3.out, by simp; omega, fun q hq => ?_⟩⟩
            by_cases e : q = j * 2
            · subst e; refine ⟨-1, ?_⟩; rw [Array.getElem?_setIfInBounds]; simp; omega
            · obtain ⟨z', hz'⟩ := HINT.out q hq
              exact ⟨z', by rw [Array.getElem?_setIfInBounds_ne (Ne.symm e)]; exact hz'⟩
          case measure => simp [intOf]; omega
        · have hgA2 : ∀ k, (Value.slice a3 P1.length c3).ownBlock = some k → w.heap.size + 2 ≤ k ∧ Z ≤ k ∧ k < A := fun k hk => by have := hgA' k hk; omega
          obtain ⟨wd, rfl⟩ : ∃ wd : World, wd = wr := ⟨_, rfl⟩
          replace hG := (hg.block w.heap.size (by omega) (fun e => by have := hgA2 _ e.symm; omega)).trans hG
          replace hT := (hg.block (w.heap.size + 1) (by omega) (fun e => by have := hgA2 _ e.symm; omega)).trans hT
          replace hA := (hg.block A (by omega) (fun e => by have := hgA2 _ e.symm; omega)).trans hA
          replace hB := (hg.block B (by omega) (fun e => by have := hgA2 _ e.symm; omega)).trans hB
          replace hV1 := wheels_far hV1 hg (fun k hk e => by have h1 := hgA2 _ e; have h2 := hW1 _ hk; omega)
          replace hV2 := wheels_far hV2 hg (fun k hk e => by have h1 := hgA2 _ e; have h2 := hW2 _ hk; omega)
          replace hF1 := wheels_far hF1 hg (fun k hk e => by have h1 := hgA2 _ e; have h2 := hK1 _ hk; omega)
          replace hF2 := wheels_far hF2 hg (fun k hk e => by have h1 := hgA2 _ e; have h2 := hK2 _ hk; omega)
          replace hbw := hbw.grown hg (by omega) (fun k hk => by have := hgA2 _ hk; omega)
          replace hzz := Nat.le_trans hzz hg.size
          replace hZl := Nat.le_trans hZl hg.size
          replace hAz := Nat.lt_of_lt_of_le hAz hg.size
          replace hBz := Nat.lt_of_lt_of_le hBz hg.size
          replace hR2 := hR2.same (W' := wd) (fun g e => hg.block g (hb5 g (by rw [e]; rfl)) (fun e2 => by have := hgA2 _ e2.symm; have := hgB' g (by rw [e]; rfl); omega))
          clear hg hir hR1
          obtain ⟨f0, f1⟩ := tcells hB
          go_wp2_with fail
          clear f0 f1
          go_loopw [86] (fun c wr => ∃ j : Nat, j ≤ P2.length ∧ c = .int .i64 j ∧ wd.grownBy wr (Value.slice a5 P2.length c5).ownBlock ∧ IntRow wr a5 P2.length) (fun c _ => P2.length - (intOf c).toNat)
          case atStart => exact ⟨0, by omega, rfl, World.grownBy.refl _ _, hR2⟩
          case round =>
            obtain ⟨j, hj, rfl, hg, hir⟩ := hrel
            by_cases hlt : j < P2.length
            · rcases hir with h0 | ⟨g, cs, rfl, hcs, hsz, hint⟩
              · omega
              obtain ⟨z, hz⟩ := hint (j * 2) (by omega)
              have hgl : g < wd.heap.size ∧ g < wr.heap.size := ⟨by have := hgB' g rfl; omega, (Array.getElem?_eq_some_iff.1 hcs).1⟩
              obtain ⟨f0, f1⟩ := tcells ((hg.block B (by omega) (fun e => by have := hgB' _ e.symm; omega)).trans hB)
              have k0 : wr.cell? ⟨g, j * 2, none⟩ = some (.int .i64 z) := by simp [World.cell?, hcs, hz]
              have kf : wr.frozen? ⟨g, j * 2, none⟩ = false := by simp [World.frozen?, hcs]
              have i1 : (0 : Int) ≤ (j : Int) := by omega
              have i2 : (j : Int) < (P2.length : Int) := by omega
              have hs2 := setCell_grown wr ⟨g, j * 2, none⟩ (.int .i64 (-1))
              have hs3 := heap_set hcs (j * 2) (.int .i64 (-1))
              have HS3 := Lib.hid hs3
              have HINT := Lib.hid hint
              clear hs3 hint hcs hz
              go_wp2
              go_roundw
              case rel =>
                refine ⟨j + 1, by omega, by go_num, hg.trans hs2, .inr ⟨g, cs.setIfInBounds (j * 2) (.int .i64 (-1)), rfl, HS3.out, by simp; omega, fun q hq => ?_⟩⟩
                by_cases e : q = j * 2
                · subst e; refine ⟨-1, ?_⟩; rw [Array.getElem?_setIfInBounds]; simp; omega
                · obtain ⟨z', hz'⟩ := HINT.out q hq
                  exact ⟨z', by rw [Array.getElem?_setIfInBounds_ne (Ne.symm e)]; exact hz'⟩
              case measure => simp [intOf]; omega
            · have hgB2 : ∀ k, (Value.slice a5 P2.length c5).ownBlock = some k → w.heap.size + 2 ≤ k ∧ Z ≤ k ∧ A < k ∧ k < B := fun k hk => by have := hgB' k hk; omega
              obtain ⟨we, rfl⟩ : ∃ we : World, we = wr := ⟨_, rfl⟩
              replace hG := (hg.block w.heap.size (by omega) (fun e => by have := hgB2 _ e.symm; omega)).trans hG
              replace hT := (hg.block (w.heap.size + 1) (by omega) (fun e => by have := hgB2 _ e.symm; omega)).trans hT
              replace hA := (hg.block A (by omega) (fun e => by have := hgB2 _ e.symm; omega)).trans hA
              replace hB := (hg.block B (by omega) (fun e => by have := hgB2 _ e.symm; omega)).trans hB
              replace hV1 := wheels_far hV1 hg (fun k hk e => by have h1 := hgB2 _ e; have h2 := hW1 _ hk; omega)
              replace hV2 := wheels_far hV2 hg (fun k hk e => by have h1 := hgB2 _ e; have h2 := hW2 _ hk; omega)
              replace hF1 := wheels_far hF1 hg (fun k hk e => by have h1 := hgB2 _ e; have h2 := hK1 _ hk; omega)
              replace hF2 := wheels_far hF2 hg (fun k hk e => by have h1 := hgB2 _ e; have h2 := hK2 _ hk; omega)
              replace hbw := hbw.grown hg (by omega) (fun k hk => by have := hgB2 _ hk; omega)
              replace hzz := Nat.le_trans hzz hg.size
              replace hZl := Nat.le_trans hZl hg.size
              replace hAz := Nat.lt_of_lt_of_le hAz hg.size
              replace hBz := Nat.lt_of_lt_of_le hBz hg.size
              clear hg hir hR2 hgA hgA' hgA2 hgB hgB' hgB2 hc3 hc5 hm3 hm5
              obtain ⟨g0, g1, g2, g3, g4⟩ := gcells hG
              have hch := chose_gen HROW.out (hS.below hbw) (fun b off e => Nat.lt_of_lt_of_le (hss b off S.length sc (by rw [e])) hbw.size)
              have HCH := Lib.hid hch
              clear hch
              go_wp2_with fail
              refine HCH.out.mono ?_
              rintro e w9 ⟨a9, c9, rfl, hown9, hb9⟩
              clear HCH g0 g1 g2 g3 g4
              replace hG := (hb9.block w.heap.size (by omega)).trans hG
              replace hT := (hb9.block (w.heap.size + 1) (by omega)).trans hT
              replace hA := (hb9.block A (by omega)).trans hA
              replace hB := (hb9.block B (by omega)).trans hB
              replace hV1 := hV1.below hb9
              replace hV2 := hV2.below hb9
              replace hF1 := hF1.below hb9
              replace hF2 := hF2.below hb9
              replace hbw := hbw.trans (hb9.mono (by omega))
              replace hzz := Nat.le_trans hzz hb9.size
              replace hZl := Nat.le_trans hZl hb9.size
              replace hAz := Nat.lt_of_lt_of_le hAz hb9.size
              replace hBz := Nat.lt_of_lt_of_le hBz hb9.size
              clear hb9
              have hC1 : WheelsAt w9 (.slice a9 P1.length c9) P1 := wheels_own hown9 (by omega)
              clear hown9
              obtain ⟨Wa, hWa, hba, hC, hza⟩ := box27 w9 (.slice a9 P1.length c9) i1
              obtain ⟨C, hCe⟩ : ∃ C, C = w9.heap.size := ⟨_, rfl⟩
              rw [← hCe] at hC hza
              obtain ⟨g0, g1, g2, g3, g4⟩ := gcells ((hba.block w.heap.size (by omega)).trans hG)
              rw [hWa] at g0 g1 g2 g3 g4
              go_wp2_with fail
              rw [← hWa, ← hCe]
              clear hWa g0 g1 g2 g3 g4
              have hCz : C < Wa.heap.size := by omega
              clear hCe
              replace hG := (hba.block w.heap.size (by omega)).trans hG
              replace hT := (hba.block (w.heap.size + 1) (by omega)).trans hT
              replace hA := (hba.block A (by omega)).trans hA
              replace hB := (hba.block B (by omega)).trans hB
              replace hV1 := hV1.below hba
              replace hV2 := hV2.below hba
              replace hF1 := hF1.below hba
              replace hF2 := hF2.below hba
              replace hC1 := hC1.below hba
              replace hbw := hbw.trans (hba.mono (by omega))
              replace hzz := Nat.le_trans hzz hba.size
              replace hZl := Nat.le_trans hZl hba.size
              replace hAz := Nat.lt_of_lt_of_le hAz hba.size
              replace hBz := Nat.lt_of_lt_of_le hBz hba.size
              clear hba
              clear hza
              have hnr := near_gen HNEAR.out (hS.below hbw) (fun b off e => Nat.lt_of_lt_of_le (hss b off S.length sc (by rw [e])) hbw.size)
              have HNR := Lib.hid hnr
              clear hnr
              refine HNR.out.mono ?_
              rintro e wb ⟨ab, cb, rfl, hownb, hbb⟩
              clear HNR HROW HNEAR
              replace hG := (hbb.block w.heap.size (by omega)).trans hG
              replace hT := (hbb.block (w.heap.size + 1) (by omega)).trans hT
              replace hA := (hbb.block A (by omega)).trans hA
              replace hB := (hbb.block B (by omega)).trans hB
              replace hC := (hbb.block C (by omega)).trans hC
              replace hV1 := hV1.below hbb
              replace hV2 := hV2.below hbb
              replace hF1 := hF1.below hbb
              replace hF2 := hF2.below hbb
              replace hC1 := hC1.below hbb
              replace hbw := hbw.trans (hbb.mono (by omega))
              replace hzz := Nat.le_trans hzz hbb.size
              replace hZl := Nat.le_trans hZl hbb.size
              replace hAz := Nat.lt_of_lt_of_le hAz hbb.size
              replace hBz := Nat.lt_of_lt_of_le hBz hbb.size
              replace hCz := Nat.lt_of_lt_of_le hCz hbb.size
              clear hbb
              have hD1 : WheelsAt wb (.slice ab P2.length cb) P2 := wheels_own hownb (by omega)
              clear hownb
              obtain ⟨Wd, hWd, hbd, hD, hzd⟩ := box27 wb (.slice ab P2.length cb) i2
              obtain ⟨D, hDe⟩ : ∃ D, D = wb.heap.size := ⟨_, rfl⟩
              rw [← hDe] at hD hzd
              go_wp2_with fail
              rw [← hWd, ← hDe]
              clear hWd
              have hDz : D < Wd.heap.size := by omega
              clear hDe
              replace hG := (hbd.block w.heap.size (by omega)).trans hG
              replace hT := (hbd.block (w.heap.size + 1) (by omega)).trans hT
              replace hA := (hbd.block A (by omega)).trans hA
              replace hB := (hbd.block B (by omega)).trans hB
              replace hC := (hbd.block C (by omega)).trans hC
              replace hV1 := hV1.below hbd
              replace hV2 := hV2.below hbd
              replace hF1 := hF1.below hbd
              replace hF2 := hF2.below hbd
              replace hC1 := hC1.below hbd
              replace hD1 := hD1.below hbd
              replace hbw := hbw.trans (hbd.mono (by omega))
              replace hzz := Nat.le_trans hzz hbd.size
              replace hZl := Nat.le_trans hZl hbd.size
              replace hAz := Nat.lt_of_lt_of_le hAz hbd.size
              replace hBz := Nat.lt_of_lt_of_le hBz hbd.size
              replace hCz := Nat.lt_of_lt_of_le hCz hbd.size
              clear hbd
              clear hzd
              go_loopw [111] (fun c wr => ∃ j : Nat, j ≤ S.length ∧ c = .int .i64 j ∧ Below Wd.heap.size Wd wr) (fun c _ => S.length - (intOf c).toNat)
              case atStart => exact ⟨0, by omega, rfl, Below.refl _ _⟩
              case round =>
                obtain ⟨j, hj, rfl, hbel⟩ := hrel
                by_cases hlt : j < S.length
                · obtain ⟨b1, o1, rfl, _, hx1, hx2, hx3, hxc⟩ := (hV1.below hbel).at rfl (by omega)
                  obtain ⟨b2, o2, rfl, _, hy1, hy2, hy3, hyc⟩ := ((hS.below hbw).below hbel).at rfl (by omega)
                  obtain ⟨c0, c1⟩ := hxc j hlt
                  obtain ⟨d0, d1⟩ := hyc j hlt
                  obtain ⟨⟨x, y⟩, hxy⟩ : ∃ x, S.getD j (0, 0) = x := ⟨_, rfl⟩
                  rw [hxy] at c0 c1 d0 d1
                  have i1 : (0 : Int) ≤ (j : Int) := by omega
                  have i2 : (j : Int) < (S.length : Int) := by omega
                  clear hxy hxc hyc
                  go_wp2
                  go_quiet (fail)
                  go_wp2
                  go_roundw
                  case rel => exact ⟨j + 1, by omega, by go_num, below_drewN' hbel _⟩
                  case measure => simp [intOf]; omega
                · obtain ⟨wf, rfl⟩ : ∃ wf : World, wf = wr := ⟨_, rfl⟩
                  replace hG := (hbel.block w.heap.size (by omega)).trans hG
                  replace hT := (hbel.block (w.heap.size + 1) (by omega)).trans hT
                  replace hA := (hbel.block A (by omega)).trans hA
                  replace hB := (hbel.block B (by omega)).trans hB
                  replace hC := (hbel.block C (by omega)).trans hC
                  replace hD := (hbel.block D (by omega)).trans hD
                  replace hV1 := hV1.below hbel
                  replace hV2 := hV2.below hbel
                  replace hF1 := hF1.below hbel
                  replace hF2 := hF2.below hbel
                  replace hC1 := hC1.below hbel
                  replace hD1 := hD1.below hbel
                  replace hbw := hbw.trans (hbel.mono (by omega))
                  replace hzz := Nat.le_trans hzz hbel.size
                  replace hZl := Nat.le_trans hZl hbel.size
                  replace hAz := Nat.lt_of_lt_of_le hAz hbel.size
                  replace hBz := Nat.lt_of_lt_of_le hBz hbel.size
                  replace hCz := Nat.lt_of_lt_of_le hCz hbel.size
                  replace hDz := Nat.lt_of_lt_of_le hDz hbel.size
                  clear hbel
                  go_wp2_with fail
                  go_loopw [126] (fun c wr => ∃ j : Nat, j ≤ P.length ∧ c = .int .i64 j ∧ Below wf.heap.size wf wr) (fun c _ => P.length - (intOf c).toNat)
                  case atStart => exact ⟨0, by omega, rfl, Below.refl _ _⟩
                  case round =>
                    obtain ⟨j, hj, rfl, hbel⟩ := hrel
                    by_cases hlt : j < P.length
                    · obtain ⟨b1, o1, rfl, _, hx1, hx2, hx3, hxc⟩ := (hV2.below hbel).at rfl (by omega)
                      obtain ⟨f0, f1⟩ := tcells ((hbel.block (w.heap.size + 1) (by omega)).trans hT)
                      obtain ⟨b2, o2, rfl, _, hy1, hy2, hy3, hyc⟩ := ((hP.below hbw).below hbel).at rfl (by omega)
                      obtain ⟨c0, c1⟩ := hxc j hlt
                      obtain ⟨d0, d1⟩ := hyc j hlt
                      obtain ⟨⟨x, y⟩, hxy⟩ : ∃ x, P.getD j (0, 0) = x := ⟨_, rfl⟩
                      rw [hxy] at c0 c1 d0 d1
                      have i1 : (0 : Int) ≤ (j : Int) := by omega
                      have i2 : (j : Int) < (P.length : Int) := by omega
                      clear hxy hxc hyc
                      go_wp2
                      go_quiet (fail)
                      go_wp2
                      go_roundw
                      case rel => exact ⟨j + 1, by omega, by go_num, below_drewN' hbel _⟩
                      case measure => simp [intOf]; omega
                    · obtain ⟨wg, rfl⟩ : ∃ wg : World, wg = wr := ⟨_, rfl⟩
                      replace hG := (hbel.block w.heap.size (by omega)).trans hG
                      replace hT := (hbel.block (w.heap.size + 1) (by omega)).trans hT
                      replace hA := (hbel.block A (by omega)).trans hA
                      replace hB := (hbel.block B (by omega)).trans hB
                      replace hC := (hbel.block C (by omega)).trans hC
                      replace hD := (hbel.block D (by omega)).trans hD
                      replace hV1 := hV1.below hbel
                      replace hV2 := hV2.below hbel
                      replace hF1 := hF1.below hbel
                      replace hF2 := hF2.below hbel
                      replace hC1 := hC1.below hbel
                      replace hD1 := hD1.below hbel
                      replace hbw := hbw.trans (hbel.mono (by omega))
                      replace hzz := Nat.le_trans hzz hbel.size
                      replace hZl := Nat.le_trans hZl hbel.size
                      replace hAz := Nat.lt_of_lt_of_le hAz hbel.size
                      replace hBz := Nat.lt_of_lt_of_le hBz hbel.size
                      replace hCz := Nat.lt_of_lt_of_le hCz hbel.size
                      replace hDz := Nat.lt_of_lt_of_le hDz hbel.size
                      clear hbel
                      obtain ⟨k0, k1⟩ := tcells hC
                      obtain ⟨f0, f1⟩ := tcells hA
                      have hs1 := same_any P1 P1 (.slice a9 P1.length c9) (.slice vf P1.length vg) i1 i1 wg hC1 hF1
                      rw [sameB_refl] at hs1
                      have HS1 := Lib.hid hs1
                      clear hs1
                      go_wp2_with fail
                      refine HS1.out.mono ?_
                      rintro e wh ⟨rfl, hbh⟩
                      clear HS1 k0 k1 f0 f1
                      replace hG := (hbh.block w.heap.size (by omega)).trans hG
                      replace hT := (hbh.block (w.heap.size + 1) (by omega)).trans hT
                      replace hA := (hbh.block A (by omega)).trans hA
                      replace hB := (hbh.block B (by omega)).trans hB
                      replace hC := (hbh.block C (by omega)).trans hC
                      replace hD := (hbh.block D (by omega)).trans hD
                      replace hV1 := hV1.below hbh
                      replace hV2 := hV2.below hbh
                      replace hF1 := hF1.below hbh
                      replace hF2 := hF2.below hbh
                      replace hC1 := hC1.below hbh
                      replace hD1 := hD1.below hbh
                      replace hbw := hbw.trans (hbh.mono (by omega))
                      replace hzz := Nat.le_trans hzz hbh.size
                      replace hZl := Nat.le_trans hZl hbh.size
                      replace hAz := Nat.lt_of_lt_of_le hAz hbh.size
                      replace hBz := Nat.lt_of_lt_of_le hBz hbh.size
                      replace hCz := Nat.lt_of_lt_of_le hCz hbh.size
                      replace hDz := Nat.lt_of_lt_of_le hDz hbh.size
                      clear hbh
                      obtain ⟨k0, k1⟩ := tcells hD
                      obtain ⟨f0, f1⟩ := tcells hB
                      have hs2 := same_any P2 P2 (.slice ab P2.length cb) (.slice vh P2.length vi) i2 i2 wh hD1 hF2
                      rw [sameB_refl] at hs2
                      have HS2 := Lib.hid hs2
                      clear hs2
                      go_wp2_with fail
                      refine HS2.out.mono ?_
                      rintro e wi ⟨rfl, hbi⟩
                      clear HS2 k0 k1 f0 f1
                      replace hG := (hbi.block w.heap.size (by omega)).trans hG
                      replace hT := (hbi.block (w.heap.size + 1) (by omega)).trans hT
                      replace hA := (hbi.block A (by omega)).trans hA
                      replace hB := (hbi.block B (by omega)).trans hB
                      replace hC := (hbi.block C (by omega)).trans hC
                      replace hD := (hbi.block D (by omega)).trans hD
                      replace hV1 := hV1.below hbi
                      replace hV2 := hV2.below hbi
                      replace hF1 := hF1.below hbi
                      replace hF2 := hF2.below hbi
                      replace hC1 := hC1.below hbi
                      replace hD1 := hD1.below hbi
                      replace hbw := hbw.trans (hbi.mono (by omega))
                      replace hzz := Nat.le_trans hzz hbi.size
                      replace hZl := Nat.le_trans hZl hbi.size
                      replace hAz := Nat.lt_of_lt_of_le hAz hbi.size
                      replace hBz := Nat.lt_of_lt_of_le hBz hbi.size
                      replace hCz := Nat.lt_of_lt_of_le hCz hbi.size
                      replace hDz := Nat.lt_of_lt_of_le hDz hbi.size
                      clear hbi
                      go_wp2_with fail
                      refine (HA.out _).mono ?_
                      rintro e wj ⟨rfl, hbj⟩
                      go_wp2
                      go_ret
                      exact ⟨rfl, hbw.trans (hbj.mono (by omega))⟩
end Go.Proofs.Ytoiapnokgpeipaa
