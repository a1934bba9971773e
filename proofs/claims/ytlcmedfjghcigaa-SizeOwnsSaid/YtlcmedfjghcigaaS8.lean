/- Size: the walk of SizeOwns. -/
import Derived.Test.YtlcmedfjghcigaaA18
import Derived.Test.YtlcmedfjghcigaaA17
import Derived.Test.YtlcmedfjghcigaaA19
import Derived.Test.YtlcmedfjghcigaaA14
import Derived.Test.YtlcmedfjghcigaaG4
import Derived.Test.YtlcmedfjghcigaaA21
namespace Go.Proofs.Ytlcmedfjghcigaa
set_option linter.unusedSimpArgs false
set_option linter.unusedVariables false
open Go.RowKit Go.Maps Go.BigFrame

theorem own_none (v : Value) : v.ownBlock = none ∨ v.ownBlock ≠ none := Classical.em _
/-- what lives through SizeOwns -/
structure OW (h : Hs) (a1 : Option Addr) (c1 : Nat) (a2 : Option Addr) (c2 : Nat) (l : List Sz) (la : Option Addr) (lc : Nat) (x7 : Option Addr) (k7 : Nat) (x8 : Option Addr) (k8 : Nat) (x9 : Option Addr) (k9 P : Nat) (w wr : World) : Prop where
  fb : Below w.heap.size w wr
  fp : wr.heap[P]? = some (.cells #[.int .i64 h.head, .int .i64 h.drip, .slice a1 h.tp.length c1, .slice a2 h.rl.length c2] 25 (0, 0))
  fh : HsAt wr h a1 c1 a2 c2
  fl : TabAt 4 szC wr (.slice la l.length lc) l
  f7 : TabAt 3 tpC wr (.slice x7 h.tp.length k7) h.tp
  f8 : TabAt 2 rlC wr (.slice x8 h.rl.length k8) h.rl
  f9 : TabAt 4 szC wr (.slice x9 l.length k9) l
theorem OW.next {h : Hs} {a1 : Option Addr} {c1 : Nat} {a2 : Option Addr} {c2 : Nat} {l : List Sz} {la : Option Addr} {lc : Nat} {x7 : Option Addr} {k7 : Nat} {x8 : Option Addr} {k8 : Nat} {x9 : Option Addr} {k9 P : Nat} {w wr w' : World} (k : OW h a1 c1 a2 c2 l la lc x7 k7 x8 k8 x9 k9 P w wr) (hb : Below wr.heap.size wr w') : OW h a1 c1 a2 c2 l la lc x7 k7 x8 k8 x9 k9 P w w' :=
  ⟨k.fb.trans (hb.mono k.fb.size), box_step (w0 := w) k.fp hb, k.fh.below hb, k.fl.below hb, k.f7.below hb, k.f8.below hb, k.f9.below hb⟩
theorem Try.info52 : (Try.prog.info? 52).map (fun i => (i.zero, i.size, i.bytes)) = some (some (.agg #[.int .i64 0, .int .i64 0, .int .i64 0]), 3, 24) := by kernel_rfl
theorem Try.info65 : (Try.prog.info? 65).map (fun i => (i.zero, i.size, i.bytes)) = some (some (.agg #[.int .i64 0, .int .i64 0]), 2, 16) := by kernel_rfl
theorem Try.info27 : (Try.prog.info? 27).map (fun i => (i.zero, i.size, i.bytes)) = some (some (.agg #[.int .i64 0, .int .i64 0, .int .i64 0, .int .i64 0]), 4, 32) := by kernel_rfl
set_option maxRecDepth 100000 in
set_option maxHeartbeats 6400000 in
theorem owns_law (h : Hs) (a1 : Option Addr) (c1 : Nat) (a2 : Option Addr) (c2 : Nat) (l : List Sz) (v : Value) (loss : Int) (w : World) (hh : HsAt w h a1 c1 a2 c2) (hl : TabAt 4 szC w v l) (nt : NilOk (.slice a1 h.tp.length c1)) (nr : NilOk (.slice a2 h.rl.length c2)) (nl : NilOk v) : Calls Try.prog 11 #[hsV h a1 c1 a2 c2, v, .int .i64 loss] w fun e w' => e = .returned (.bool true) ∧ Below w.heap.size w w' := by
  obtain ⟨la, lc, rfl⟩ := hl.shape
  have mt : h.tp.length ≤ 9223372036854775807 := hh.tp.1
  have mr : h.rl.length ≤ 9223372036854775807 := hh.rl.1
  have ml : l.length ≤ 9223372036854775807 := hl.1
  obtain ⟨W0, hW0⟩ : ∃ X, X = w.alloc (.cells #[.int .i64 h.head, .int .i64 h.drip, .slice a1 h.tp.length c1, .slice a2 h.rl.length c2] 25) := ⟨_, rfl⟩
  have hal : W0 = al w [(.cells #[.int .i64 h.head, .int .i64 h.drip, .slice a1 h.tp.length c1, .slice a2 h.rl.length c2] 25)] := hW0
  have hb0 : Below w.heap.size w W0 := by rw [hal]; exact al_below w _ (Nat.le_refl _)
  have hs0 : W0.heap.size = w.heap.size + 1 := by rw [hal]; exact al_size w _
  have hr0 : W0.heap[w.heap.size]? = some (.cells #[.int .i64 h.head, .int .i64 h.drip, .slice a1 h.tp.length c1, .slice a2 h.rl.length c2] 25 (0, 0)) := by rw [hal]; exact al_get w _ 0 _ rfl
  obtain ⟨P, hP0⟩ : ∃ x, w.heap.size = x := ⟨_, rfl⟩
  rw [hP0] at hr0 hs0
  clear hal
  have HB0 := Lib.hid hb0
  have H0 := Lib.hid hr0
  have hh0 := hh.below hb0
  have HH0 := Lib.hid hh0
  have HL0 := Lib.hid (hl.below hb0)
  have HNT := Lib.hid nt
  have HNR := Lib.hid nr
  have HNL := Lib.hid nl
  have KG := Lib.hid (great_any h a1 c1 a2 c2 7 W0 hh0)
  have KA := Lib.hid alive_any
  obtain ⟨g, hg⟩ : ∃ g, greatB h 7 = g := ⟨_, rfl⟩
  rw [hg] at KG
  have HGB := Lib.hid hg
  obtain ⟨y0, y1, y2, y3⟩ := four_cells hr0
  clear hb0 hr0 hs0 hh hh0 hl hg nt nr nl
  have EV : hsV h a1 c1 a2 c2 = .agg #[.int .i64 h.head, .int .i64 h.drip, .slice a1 h.tp.length c1, .slice a2 h.rl.length c2] := rfl
  have HEV := Lib.hid EV
  rw [EV] at KG ⊢
  clear EV
  go_enter Try.func11, Try.ntmps11
  go_upto_region 1 with fail
  rw [← hW0]
  clear hW0 hP0
  cases g with
  | true =>
    go_wp2_with (go_at_call 12; fail)
    refine KG.out.mono ?_
    rintro e w2 ⟨rfl, hb2⟩
    have HB2 := Lib.hid (HB0.out.trans (hb2.mono HB0.out.size))
    have h2 := box_step (w0 := w) H0.out hb2
    have hh2 := HH0.out.below hb2
    have hl2 := HL0.out.below hb2
    have H2 := Lib.hid h2
    have HH2 := Lib.hid hh2
    have HL2 := Lib.hid hl2
    clear hb2 y0 y1 y2 y3
    clear h2 hh2 hl2
    go_wp2_with (go_at_call 13; fail)
    refine (KA.out _).mono ?_
    rintro e9 w3 ⟨rfl, hbz⟩
    go_wp2
    go_ret
    exact ⟨rfl, HB2.out.trans (hbz.mono HB2.out.size)⟩
  | false =>
  by_cases hl18 : 18 < l.length
  · have hg1 : ((l.length : Int) > 18) := by omega
    go_wp2_with (go_at_call 12; fail)
    refine KG.out.mono ?_
    rintro e w2 ⟨rfl, hb2⟩
    have HB2 := Lib.hid (HB0.out.trans (hb2.mono HB0.out.size))
    have h2 := box_step (w0 := w) H0.out hb2
    have hh2 := HH0.out.below hb2
    have hl2 := HL0.out.below hb2
    have H2 := Lib.hid h2
    have HH2 := Lib.hid hh2
    have HL2 := Lib.hid hl2
    clear hb2 y0 y1 y2 y3
    clear h2 hh2 hl2
    go_wp2_with (go_at_call 13; fail)
    refine (KA.out _).mono ?_
    rintro e9 w3 ⟨rfl, hbz⟩
    go_wp2
    go_ret
    exact ⟨rfl, HB2.out.trans (hbz.mono HB2.out.size)⟩
  · have hg1 : decide ((18 : Int) < (l.length : Int)) = false := by simp; omega
    have hg1b : decide (18 < l.length) = false := by simp; omega
    have hg1c : ¬ ((l.length : Int) > 18) := by omega
    go_wp2_with (go_at_call 12; fail)
    refine KG.out.mono ?_
    rintro e w2 ⟨rfl, hb2⟩
    have HB2 := Lib.hid (HB0.out.trans (hb2.mono HB0.out.size))
    have h2 := box_step (w0 := w) H0.out hb2
    have hh2 := HH0.out.below hb2
    have hl2 := HL0.out.below hb2
    have H2 := Lib.hid h2
    have HH2 := Lib.hid hh2
    have HL2 := Lib.hid hl2
    clear hb2 y0 y1 y2 y3
    have ht17 : h.tp.length ≤ 1000 ∧ h.rl.length ≤ 1000 := by
      have := HGB.out
      unfold greatB at this
      simp only [Bool.or_eq_false_iff, decide_eq_false_iff_not] at this
      omega
    clear h2 hh2 hl2
    go_upto_region 3 with fail
    go_cut [7, 8, 9] (fun p7 p8 p9 wc => TabAt 3 tpC wc p7 h.tp ∧ TabAt 2 rlC wc p8 h.rl ∧ TabAt 4 szC wc p9 l ∧ Below w2.heap.size w2 wc)
    case first =>
      refine wp_region_held_drew (S := fun w' => w'.heap[P]? = some (.cells #[.int .i64 h.head, .int .i64 h.drip, .slice a1 h.tp.length c1, .slice a2 h.rl.length c2] 25 (0, 0))) (by kernel_rfl) H2.out (fun hHeld => ?_)
      obtain ⟨Y0, hY0⟩ : ∃ X, X = w2.drew := ⟨_, rfl⟩
      have hbX : Below w2.heap.size w2 Y0 := by rw [hY0]; exact (Below.refl _ _).drew
      rw [← hY0] at hHeld ⊢
      have hH := Lib.hid hHeld
      have hPl : P < w2.heap.size := (Array.getElem?_eq_some_iff.1 H2.out).1
      clear hY0 hHeld
      refine wpAnyH_take (i := 1) (oi := _) (v := ?_) rfl (by kernel_rfl) (by kernel_rfl) (by kernel_rfl) (fun _ _ _ h => h) (Or.inl ⟨by rfl, ?_⟩) hH.out ?_
      rotate_left
      · intro w1 hSw
        obtain ⟨y0, y1, y2, y3⟩ := four_cells hSw
        clear hSw
        go_simp; with_reducible rfl
      simp only [List.getElem_toArray, List.getElem_cons_succ, List.getElem_cons_zero, Act.put, List.setIfInBounds_toArray, List.set_cons_zero, List.set_cons_succ]
      refine wpAnyH_take (i := 2) (oi := _) (v := ?_) rfl (by kernel_rfl) (by kernel_rfl) (by kernel_rfl) (fun _ _ _ h => h) (Or.inl ⟨by rfl, ?_⟩) hH.out ?_
      rotate_left
      · intro w1 hSw
        obtain ⟨y0, y1, y2, y3⟩ := four_cells hSw
        clear hSw
        go_simp; with_reducible rfl
      simp only [List.getElem_toArray, List.getElem_cons_succ, List.getElem_cons_zero, Act.put, List.setIfInBounds_toArray, List.set_cons_zero, List.set_cons_succ]
      refine wpAnyH_take (i := 5) (oi := _) (v := ?_) rfl (by kernel_rfl) (by kernel_rfl) (by kernel_rfl) (fun _ _ _ h => h) (Or.inl ⟨by rfl, ?_⟩) hH.out ?_
      rotate_left
      · intro w1 hSw
        obtain ⟨y0, y1, y2, y3⟩ := four_cells hSw
        clear hSw
        go_simp; with_reducible rfl
      simp only [List.getElem_toArray, List.getElem_cons_succ, List.getElem_cons_zero, Act.put, List.setIfInBounds_toArray, List.set_cons_zero, List.set_cons_succ]
      refine wpAnyH_take (i := 6) (oi := _) (v := ?_) rfl (by kernel_rfl) (by kernel_rfl) (by kernel_rfl) (fun _ _ _ h => h) (Or.inl ⟨by rfl, ?_⟩) hH.out ?_
      rotate_left
      · intro w1 hSw
        obtain ⟨y0, y1, y2, y3⟩ := four_cells hSw
        clear hSw
        go_simp; with_reducible rfl
      simp only [List.getElem_toArray, List.getElem_cons_succ, List.getElem_cons_zero, Act.put, List.setIfInBounds_toArray, List.set_cons_zero, List.set_cons_succ]
      refine wpAnyH_take (i := 9) (oi := _) (v := ?_) rfl (by kernel_rfl) (by kernel_rfl) (by kernel_rfl) (fun _ _ _ h => h) (Or.inl ⟨by rfl, ?_⟩) hH.out ?_
      rotate_left
      · intro w1 hSw
        obtain ⟨y0, y1, y2, y3⟩ := four_cells hSw
        clear hSw
        go_simp; with_reducible rfl
      simp only [List.getElem_toArray, List.getElem_cons_succ, List.getElem_cons_zero, Act.put, List.setIfInBounds_toArray, List.set_cons_zero, List.set_cons_succ]
      refine wpAnyH_all (rs := [0, 4, 8]) (by kernel_rfl) (by simp) ?_
      intro i hi
      rcases List.mem_cons.1 hi with rfl | hi
      ·
        refine wpOp_step rfl (fun K3 hK3 => ?_)
        have HK3 := Lib.hid hK3
        clear hK3
        rw [if_pos (by rfl)]
        go_simp
        obtain ⟨g1, eg1⟩ : ∃ g, g = Y0.heap.size := ⟨_, rfl⟩
        obtain ⟨Y1, eY⟩ : ∃ Y, Y = Y0.alloc (.cells #[] 52) := ⟨_, rfl⟩
        have hXY : Y0.grownBy Y1 none := by rw [eY]; exact World.grownBy_alloc _ _ _
        have h1 : Y1.ownsRow w2.heap.size 52 3 (.slice (some ⟨g1, 0, none⟩) 0 0) 0 [] := by rw [eY, eg1]; exact World.ownsRow_lit Y0 #[] 0 hbX.size (by decide) rfl
        rw [← eY, ← eg1]
        clear eY
        replace hH := Lib.hid ((hXY.block P (Array.getElem?_eq_some_iff.1 hH.out).1 (by simp)).trans hH.out)
        replace hbX := hbX.grown hXY hbX.size (fun q hq => by cases hq)
        clear hXY eg1
        refine HK3.out _ _ ⟨hH.out, ?_⟩
        clear HK3 K3
        try simp only [List.getElem_toArray, List.getElem_cons_succ, List.getElem_cons_zero, Act.put, List.setIfInBounds_toArray, List.set_cons_zero, List.set_cons_succ]
        refine wpAnyH_all (rs := [3, 4, 8]) (by kernel_rfl) (by simp) ?_
        intro i hi
        rcases List.mem_cons.1 hi with rfl | hi
        ·
          refine wpOp_step rfl (fun K3 hK3 => ?_)
          have HK3 := Lib.hid hK3
          clear hK3
          rw [if_pos (by rfl)]
          simp only [List.getElem_toArray, List.getElem_cons_succ, List.getElem_cons_zero]
          refine wp_copyT (.tmp 21) (.tmp 23) 22 52 3 24 (.agg #[.int .i64 0, .int .i64 0, .int .i64 0]) tpC Try.underlying22 Try.info52 rfl (by decide) (by decide) (by rfl) w2.heap.size g1 (by rfl) h1 (by rfl) (HH2.out.tp.below hbX) HNT.out ht17.1 hbX.size ?_
          intro v1 Y2 ho1 hXY
          replace hH := Lib.hid ((hXY.block P (Array.getElem?_eq_some_iff.1 hH.out).1 (fun e => by have := (h1.lt P e.symm).1; omega)).trans hH.out)
          replace hbX := hbX.grown hXY hbX.size (fun q hq => (h1.lt q hq).1)
          replace h1 := ho1
          clear hXY ho1
          refine HK3.out _ _ ⟨hH.out, ?_⟩
          clear HK3 K3
          try simp only [List.getElem_toArray, List.getElem_cons_succ, List.getElem_cons_zero, Act.put, List.setIfInBounds_toArray, List.set_cons_zero, List.set_cons_succ]
          refine wpAnyH_all (rs := [4, 8]) (by kernel_rfl) (by simp) ?_
          intro i hi
          rcases List.mem_cons.1 hi with rfl | hi
          ·
            refine wpOp_step rfl (fun K3 hK3 => ?_)
            have HK3 := Lib.hid hK3
            clear hK3
            rw [if_pos (by rfl)]
            go_simp
            obtain ⟨g2, eg2⟩ : ∃ g, g = Y2.heap.size := ⟨_, rfl⟩
            obtain ⟨Y3, eY⟩ : ∃ Y, Y = Y2.alloc (.cells #[] 65) := ⟨_, rfl⟩
            have hXY : Y2.grownBy Y3 none := by rw [eY]; exact World.grownBy_alloc _ _ _
            have h2 : Y3.ownsRow w2.heap.size 65 2 (.slice (some ⟨g2, 0, none⟩) 0 0) 0 [] := by rw [eY, eg2]; exact World.ownsRow_lit Y2 #[] 0 hbX.size (by decide) rfl
            rw [← eY, ← eg2]
            clear eY
            replace h1 := h1.kept hXY (own_none _)
            replace hH := Lib.hid ((hXY.block P (Array.getElem?_eq_some_iff.1 hH.out).1 (by simp)).trans hH.out)
            replace hbX := hbX.grown hXY hbX.size (fun q hq => by cases hq)
            clear hXY eg2
            refine HK3.out _ _ ⟨hH.out, ?_⟩
            clear HK3 K3
            try simp only [List.getElem_toArray, List.getElem_cons_succ, List.getElem_cons_zero, Act.put, List.setIfInBounds_toArray, List.set_cons_zero, List.set_cons_succ]
            refine wpAnyH_all (rs := [7, 8]) (by kernel_rfl) (by simp) ?_
            intro i hi
            rcases List.mem_cons.1 hi with rfl | hi
            ·
              refine wpOp_step rfl (fun K3 hK3 => ?_)
              have HK3 := Lib.hid hK3
              clear hK3
              rw [if_pos (by rfl)]
              simp only [List.getElem_toArray, List.getElem_cons_succ, List.getElem_cons_zero]
              refine wp_copyT (.tmp 25) (.tmp 27) 23 65 2 16 (.agg #[.int .i64 0, .int .i64 0]) rlC Try.underlying23 Try.info65 rfl (by decide) (by decide) (by rfl) w2.heap.size g2 (by rfl) h2 (by rfl) (HH2.out.rl.below hbX) HNR.out ht17.2 hbX.size ?_
              intro v2 Y4 ho2 hXY
              replace h1 := h1.kept hXY (own_apart h1 h2 (by decide))
              replace hH := Lib.hid ((hXY.block P (Array.getElem?_eq_some_iff.1 hH.out).1 (fun e => by have := (h2.lt P e.symm).1; omega)).trans hH.out)
              replace hbX := hbX.grown hXY hbX.size (fun q hq => (h2.lt q hq).1)
              replace h2 := ho2
              clear hXY ho2
              refine HK3.out _ _ ⟨hH.out, ?_⟩
              clear HK3 K3
              try simp only [List.getElem_toArray, List.getElem_cons_succ, List.getElem_cons_zero, Act.put, List.setIfInBounds_toArray, List.set_cons_zero, List.set_cons_succ]
              refine wpAnyH_all (rs := [8]) (by kernel_rfl) (by simp) ?_
              intro i hi
              obtain rfl := List.mem_singleton.1 hi; clear hi
              refine wpOp_step rfl (fun K3 hK3 => ?_)
              have HK3 := Lib.hid hK3
              clear hK3
              rw [if_pos (by rfl)]
              go_simp
              obtain ⟨g3, eg3⟩ : ∃ g, g = Y4.heap.size := ⟨_, rfl⟩
              obtain ⟨Y5, eY⟩ : ∃ Y, Y = Y4.alloc (.cells #[] 27) := ⟨_, rfl⟩
              have hXY : Y4.grownBy Y5 none := by rw [eY]; exact World.grownBy_alloc _ _ _
              have h3 : Y5.ownsRow w2.heap.size 27 4 (.slice (some ⟨g3, 0, none⟩) 0 0) 0 [] := by rw [eY, eg3]; exact World.ownsRow_lit Y4 #[] 0 hbX.size (by decide) rfl
              rw [← eY, ← eg3]
              clear eY
              replace h1 := h1.kept hXY (own_none _)
              replace h2 := h2.kept hXY (own_none _)
              replace hH := Lib.hid ((hXY.block P (Array.getElem?_eq_some_iff.1 hH.out).1 (by simp)).trans hH.out)
              replace hbX := hbX.grown hXY hbX.size (fun q hq => by cases hq)
              clear hXY eg3
              refine HK3.out _ _ ⟨hH.out, ?_⟩
              clear HK3 K3
              try simp only [List.getElem_toArray, List.getElem_cons_succ, List.getElem_cons_zero, Act.put, List.setIfInBounds_toArray, List.set_cons_zero, List.set_cons_succ]
              refine wpAnyH_all (rs := [10]) (by kernel_rfl) (by simp) ?_
              intro i hi
              obtain rfl := List.mem_singleton.1 hi; clear hi
              refine wpOp_step rfl (fun K3 hK3 => ?_)
              have HK3 := Lib.hid hK3
              clear hK3
              rw [if_pos (by rfl)]
              simp only [List.getElem_toArray, List.getElem_cons_succ, List.getElem_cons_zero]
              refine wp_copyT (.tmp 29) (.tmp 30) 38 27 4 32 (.agg #[.int .i64 0, .int .i64 0, .int .i64 0, .int .i64 0]) szC Try.underlying38 Try.info27 rfl (by decide) (by decide) (by rfl) w2.heap.size g3 (by rfl) h3 (by rfl) (HL2.out.below hbX) HNL.out (by omega) hbX.size ?_
              intro v3 Y6 ho3 hXY
              replace h1 := h1.kept hXY (own_apart h1 h3 (by decide))
              replace h2 := h2.kept hXY (own_apart h2 h3 (by decide))
              replace hH := Lib.hid ((hXY.block P (Array.getElem?_eq_some_iff.1 hH.out).1 (fun e => by have := (h3.lt P e.symm).1; omega)).trans hH.out)
              replace hbX := hbX.grown hXY hbX.size (fun q hq => (h3.lt q hq).1)
              replace h3 := ho3
              clear hXY ho3
              refine HK3.out _ _ ⟨hH.out, ?_⟩
              clear HK3 K3
              try simp only [List.getElem_toArray, List.getElem_cons_succ, List.getElem_cons_zero, Act.put, List.setIfInBounds_toArray, List.set_cons_zero, List.set_cons_succ]
              refine wpAnyH_take (i := 11) (oi := _) (v := ?_) rfl (by kernel_rfl) (by kernel_rfl) (by kernel_rfl) (fun _ _ _ h => h) (Or.inl ⟨by rfl, ?_⟩) hH.out ?_
              rotate_left
              · intro w1 hSw
                obtain ⟨y0, y1, y2, y3⟩ := four_cells hSw
                clear hSw
                go_simp; with_reducible rfl
              simp only [List.getElem_toArray, List.getElem_cons_succ, List.getElem_cons_zero, Act.put, List.setIfInBounds_toArray, List.set_cons_zero, List.set_cons_succ]
              refine wpAnyH_take (i := 12) (oi := _) (v := ?_) rfl (by kernel_rfl) (by kernel_rfl) (by kernel_rfl) (fun _ _ _ h => h) (Or.inl ⟨by rfl, ?_⟩) hH.out ?_
              rotate_left
              · intro w1 hSw
                obtain ⟨y0, y1, y2, y3⟩ := four_cells hSw
                clear hSw
                go_simp; with_reducible rfl
              simp only [List.getElem_toArray, List.getElem_cons_succ, List.getElem_cons_zero, Act.put, List.setIfInBounds_toArray, List.set_cons_zero, List.set_cons_succ]
              refine wpAnyH_take (i := 13) (oi := _) (v := ?_) rfl (by kernel_rfl) (by kernel_rfl) (by kernel_rfl) (fun _ _ _ h => h) (Or.inl ⟨by rfl, ?_⟩) hH.out ?_
              rotate_left
              · intro w1 hSw
                obtain ⟨y0, y1, y2, y3⟩ := four_cells hSw
                clear hSw
                go_simp; with_reducible rfl
              simp only [List.getElem_toArray, List.getElem_cons_succ, List.getElem_cons_zero, Act.put, List.setIfInBounds_toArray, List.set_cons_zero, List.set_cons_succ]
              refine wpAnyH_done (by kernel_rfl) ?_ _
              go_wp2
              go_meet
              case rel => exact ⟨tab_of_own h1 rfl (by unfold maxLen; omega), tab_of_own h2 rfl (by unfold maxLen; omega), tab_of_own h3 rfl (by unfold maxLen; omega), hbX⟩
            ·
              obtain rfl := List.mem_singleton.1 hi; clear hi
              refine wpOp_step rfl (fun K3 hK3 => ?_)
              have HK3 := Lib.hid hK3
              clear hK3
              rw [if_pos (by rfl)]
              go_simp
              obtain ⟨g3, eg3⟩ : ∃ g, g = Y3.heap.size := ⟨_, rfl⟩
              obtain ⟨Y7, eY⟩ : ∃ Y, Y = Y3.alloc (.cells #[] 27) := ⟨_, rfl⟩
              have hXY : Y3.grownBy Y7 none := by rw [eY]; exact World.grownBy_alloc _ _ _
              have h3 : Y7.ownsRow w2.heap.size 27 4 (.slice (some ⟨g3, 0, none⟩) 0 0) 0 [] := by rw [eY, eg3]; exact World.ownsRow_lit Y3 #[] 0 hbX.size (by decide) rfl
              rw [← eY, ← eg3]
              clear eY
              replace h1 := h1.kept hXY (own_none _)
              replace h2 := h2.kept hXY (own_none _)
              replace hH := Lib.hid ((hXY.block P (Array.getElem?_eq_some_iff.1 hH.out).1 (by simp)).trans hH.out)
              replace hbX := hbX.grown hXY hbX.size (fun q hq => by cases hq)
              clear hXY eg3
              refine HK3.out _ _ ⟨hH.out, ?_⟩
              clear HK3 K3
              try simp only [List.getElem_toArray, List.getElem_cons_succ, List.getElem_cons_zero, Act.put, List.setIfInBounds_toArray, List.set_cons_zero, List.set_cons_succ]
              refine wpAnyH_all (rs := [7]) (by kernel_rfl) (by simp) ?_
              intro i hi
              obtain rfl := List.mem_singleton.1 hi; clear hi
              refine wpOp_step rfl (fun K3 hK3 => ?_)
              have HK3 := Lib.hid hK3
              clear hK3
              rw [if_pos (by rfl)]
              simp only [List.getElem_toArray, List.getElem_cons_succ, List.getElem_cons_zero]
              refine wp_copyT (.tmp 25) (.tmp 27) 23 65 2 16 (.agg #[.int .i64 0, .int .i64 0]) rlC Try.underlying23 Try.info65 rfl (by decide) (by decide) (by rfl) w2.heap.size g2 (by rfl) h2 (by rfl) (HH2.out.rl.below hbX) HNR.out ht17.2 hbX.size ?_
              intro v2 Y8 ho2 hXY
              replace h1 := h1.kept hXY (own_apart h1 h2 (by decide))
              replace h3 := h3.kept hXY (own_apart h3 h2 (by decide))
              replace hH := Lib.hid ((hXY.block P (Array.getElem?_eq_some_iff.1 hH.out).1 (fun e => by have := (h2.lt P e.symm).1; omega)).trans hH.out)
              replace hbX := hbX.grown hXY hbX.size (fun q hq => (h2.lt q hq).1)
              replace h2 := ho2
              clear hXY ho2
              refine HK3.out _ _ ⟨hH.out, ?_⟩
              clear HK3 K3
              try simp only [List.getElem_toArray, List.getElem_cons_succ, List.getElem_cons_zero, Act.put, List.setIfInBounds_toArray, List.set_cons_zero, List.set_cons_succ]
              refine wpAnyH_all (rs := [10]) (by kernel_rfl) (by simp) ?_
              intro i hi
              obtain rfl := List.mem_singleton.1 hi; clear hi
              refine wpOp_step rfl (fun K3 hK3 => ?_)
              have HK3 := Lib.hid hK3
              clear hK3
              rw [if_pos (by rfl)]
              simp only [List.getElem_toArray, List.getElem_cons_succ, List.getElem_cons_zero]
              refine wp_copyT (.tmp 29) (.tmp 30) 38 27 4 32 (.agg #[.int .i64 0, .int .i64 0, .int .i64 0, .int .i64 0]) szC Try.underlying38 Try.info27 rfl (by decide) (by decide) (by rfl) w2.heap.size g3 (by rfl) h3 (by rfl) (HL2.out.below hbX) HNL.out (by omega) hbX.size ?_
              intro v3 Y9 ho3 hXY
              replace h1 := h1.kept hXY (own_apart h1 h3 (by decide))
              replace h2 := h2.kept hXY (own_apart h2 h3 (by decide))
              replace hH := Lib.hid ((hXY.block P (Array.getElem?_eq_some_iff.1 hH.out).1 (fun e => by have := (h3.lt P e.symm).1; omega)).trans hH.out)
              replace hbX := hbX.grown hXY hbX.size (fun q hq => (h3.lt q hq).1)
              replace h3 := ho3
              clear hXY ho3
              refine HK3.out _ _ ⟨hH.out, ?_⟩
              clear HK3 K3
              try simp only [List.getElem_toArray, List.getElem_cons_succ, List.getElem_cons_zero, Act.put, List.setIfInBounds_toArray, List.set_cons_zero, List.set_cons_succ]
              refine wpAnyH_take (i := 11) (oi := _) (v := ?_) rfl (by kernel_rfl) (by kernel_rfl) (by kernel_rfl) (fun _ _ _ h => h) (Or.inl ⟨by rfl, ?_⟩) hH.out ?_
              rotate_left
              · intro w1 hSw
                obtain ⟨y0, y1, y2, y3⟩ := four_cells hSw
                clear hSw
                go_simp; with_reducible rfl
              simp only [List.getElem_toArray, List.getElem_cons_succ, List.getElem_cons_zero, Act.put, List.setIfInBounds_toArray, List.set_cons_zero, List.set_cons_succ]
              refine wpAnyH_take (i := 12) (oi := _) (v := ?_) rfl (by kernel_rfl) (by kernel_rfl) (by kernel_rfl) (fun _ _ _ h => h) (Or.inl ⟨by rfl, ?_⟩) hH.out ?_
              rotate_left
              · intro w1 hSw
                obtain ⟨y0, y1, y2, y3⟩ := four_cells hSw
                clear hSw
                go_simp; with_reducible rfl
              simp only [List.getElem_toArray, List.getElem_cons_succ, List.getElem_cons_zero, Act.put, List.setIfInBounds_toArray, List.set_cons_zero, List.set_cons_succ]
              refine wpAnyH_take (i := 13) (oi := _) (v := ?_) rfl (by kernel_rfl) (by kernel_rfl) (by kernel_rfl) (fun _ _ _ h => h) (Or.inl ⟨by rfl, ?_⟩) hH.out ?_
              rotate_left
              · intro w1 hSw
                obtain ⟨y0, y1, y2, y3⟩ := four_cells hSw
                clear hSw
                go_simp; with_reducible rfl
              simp only [List.getElem_toArray, List.getElem_cons_succ, List.getElem_cons_zero, Act.put, List.setIfInBounds_toArray, List.set_cons_zero, List.set_cons_succ]
              refine wpAnyH_done (by kernel_rfl) ?_ _
              go_wp2
              go_meet
              case rel => exact ⟨tab_of_own h1 rfl (by unfold maxLen; omega), tab_of_own h2 rfl (by unfold maxLen; omega), tab_of_own h3 rfl (by unfold maxLen; omega), hbX⟩
          ·
            obtain rfl := List.mem_singleton.1 hi; clear hi
            refine wpOp_step rfl (fun K3 hK3 => ?_)
            have HK3 := Lib.hid hK3
            clear hK3
            rw [if_pos (by rfl)]
            go_simp
            obtain ⟨g3, eg3⟩ : ∃ g, g = Y2.heap.size := ⟨_, rfl⟩
            obtain ⟨Y10, eY⟩ : ∃ Y, Y = Y2.alloc (.cells #[] 27) := ⟨_, rfl⟩
            have hXY : Y2.grownBy Y10 none := by rw [eY]; exact World.grownBy_alloc _ _ _
            have h3 : Y10.ownsRow w2.heap.size 27 4 (.slice (some ⟨g3, 0, none⟩) 0 0) 0 [] := by rw [eY, eg3]; exact World.ownsRow_lit Y2 #[] 0 hbX.size (by decide) rfl
            rw [← eY, ← eg3]
            clear eY
            replace h1 := h1.kept hXY (own_none _)
            replace hH := Lib.hid ((hXY.block P (Array.getElem?_eq_some_iff.1 hH.out).1 (by simp)).trans hH.out)
            replace hbX := hbX.grown hXY hbX.size (fun q hq => by cases hq)
            clear hXY eg3
            refine HK3.out _ _ ⟨hH.out, ?_⟩
            clear HK3 K3
            try simp only [List.getElem_toArray, List.getElem_cons_succ, List.getElem_cons_zero, Act.put, List.setIfInBounds_toArray, List.set_cons_zero, List.set_cons_succ]
            refine wpAnyH_all (rs := [4]) (by kernel_rfl) (by simp) ?_
            intro i hi
            obtain rfl := List.mem_singleton.1 hi; clear hi
            refine wpOp_step rfl (fun K3 hK3 => ?_)
            have HK3 := Lib.hid hK3
            clear hK3
            rw [if_pos (by rfl)]
            go_simp
            obtain ⟨g2, eg2⟩ : ∃ g, g = Y10.heap.size := ⟨_, rfl⟩
            obtain ⟨Y11, eY⟩ : ∃ Y, Y = Y10.alloc (.cells #[] 65) := ⟨_, rfl⟩
            have hXY : Y10.grownBy Y11 none := by rw [eY]; exact World.grownBy_alloc _ _ _
            have h2 : Y11.ownsRow w2.heap.size 65 2 (.slice (some ⟨g2, 0, none⟩) 0 0) 0 [] := by rw [eY, eg2]; exact World.ownsRow_lit Y10 #[] 0 hbX.size (by decide) rfl
            rw [← eY, ← eg2]
            clear eY
            replace h1 := h1.kept hXY (own_none _)
            replace h3 := h3.kept hXY (own_none _)
            replace hH := Lib.hid ((hXY.block P (Array.getElem?_eq_some_iff.1 hH.out).1 (by simp)).trans hH.out)
            replace hbX := hbX.grown hXY hbX.size (fun q hq => by cases hq)
            clear hXY eg2
            refine HK3.out _ _ ⟨hH.out, ?_⟩
            clear HK3 K3
            try simp only [List.getElem_toArray, List.getElem_cons_succ, List.getElem_cons_zero, Act.put, List.setIfInBounds_toArray, List.set_cons_zero, List.set_cons_succ]
            refine wpAnyH_all (rs := [7]) (by kernel_rfl) (by simp) ?_
            intro i hi
            obtain rfl := List.mem_singleton.1 hi; clear hi
            refine wpOp_step rfl (fun K3 hK3 => ?_)
            have HK3 := Lib.hid hK3
            clear hK3
            rw [if_pos (by rfl)]
            simp only [List.getElem_toArray, List.getElem_cons_succ, List.getElem_cons_zero]
            refine wp_copyT (.tmp 25) (.tmp 27) 23 65 2 16 (.agg #[.int .i64 0, .int .i64 0]) rlC Try.underlying23 Try.info65 rfl (by decide) (by decide) (by rfl) w2.heap.size g2 (by rfl) h2 (by rfl) (HH2.out.rl.below hbX) HNR.out ht17.2 hbX.size ?_
            intro v2 Y12 ho2 hXY
            replace h1 := h1.kept hXY (own_apart h1 h2 (by decide))
            replace h3 := h3.kept hXY (own_apart h3 h2 (by decide))
            replace hH := Lib.hid ((hXY.block P (Array.getElem?_eq_some_iff.1 hH.out).1 (fun e => by have := (h2.lt P e.symm).1; omega)).trans hH.out)
            replace hbX := hbX.grown hXY hbX.size (fun q hq => (h2.lt q hq).1)
            replace h2 := ho2
            clear hXY ho2
            refine HK3.out _ _ ⟨hH.out, ?_⟩
            clear HK3 K3
            try simp only [List.getElem_toArray, List.getElem_cons_succ, List.getElem_cons_zero, Act.put, List.setIfInBounds_toArray, List.set_cons_zero, List.set_cons_succ]
            refine wpAnyH_all (rs := [10]) (by kernel_rfl) (by simp) ?_
            intro i hi
            obtain rfl := List.mem_singleton.1 hi; clear hi
            refine wpOp_step rfl (fun K3 hK3 => ?_)
            have HK3 := Lib.hid hK3
            clear hK3
            rw [if_pos (by rfl)]
            simp only [List.getElem_toArray, List.getElem_cons_succ, List.getElem_cons_zero]
            refine wp_copyT (.tmp 29) (.tmp 30) 38 27 4 32 (.agg #[.int .i64 0, .int .i64 0, .int .i64 0, .int .i64 0]) szC Try.underlying38 Try.info27 rfl (by decide) (by decide) (by rfl) w2.heap.size g3 (by rfl) h3 (by rfl) (HL2.out.below hbX) HNL.out (by omega) hbX.size ?_
            intro v3 Y13 ho3 hXY
            replace h1 := h1.kept hXY (own_apart h1 h3 (by decide))
            replace h2 := h2.kept hXY (own_apart h2 h3 (by decide))
            replace hH := Lib.hid ((hXY.block P (Array.getElem?_eq_some_iff.1 hH.out).1 (fun e => by have := (h3.lt P e.symm).1; omega)).trans hH.out)
            replace hbX := hbX.grown hXY hbX.size (fun q hq => (h3.lt q hq).1)
            replace h3 := ho3
            clear hXY ho3
            refine HK3.out _ _ ⟨hH.out, ?_⟩
            clear HK3 K3
            try simp only [List.getElem_toArray, List.getElem_cons_succ, List.getElem_cons_zero, Act.put, List.setIfInBounds_toArray, List.set_cons_zero, List.set_cons_succ]
            refine wpAnyH_take (i := 11) (oi := _) (v := ?_) rfl (by kernel_rfl) (by kernel_rfl) (by kernel_rfl) (fun _ _ _ h => h) (Or.inl ⟨by rfl, ?_⟩) hH.out ?_
            rotate_left
            · intro w1 hSw
              obtain ⟨y0, y1, y2, y3⟩ := four_cells hSw
              clear hSw
              go_simp; with_reducible rfl
            simp only [List.getElem_toArray, List.getElem_cons_succ, List.getElem_cons_zero, Act.put, List.setIfInBounds_toArray, List.set_cons_zero, List.set_cons_succ]
            refine wpAnyH_take (i := 12) (oi := _) (v := ?_) rfl (by kernel_rfl) (by kernel_rfl) (by kernel_rfl) (fun _ _ _ h => h) (Or.inl ⟨by rfl, ?_⟩) hH.out ?_
            rotate_left
            · intro w1 hSw
              obtain ⟨y0, y1, y2, y3⟩ := four_cells hSw
              clear hSw
              go_simp; with_reducible rfl
            simp only [List.getElem_toArray, List.getElem_cons_succ, List.getElem_cons_zero, Act.put, List.setIfInBounds_toArray, List.set_cons_zero, List.set_cons_succ]
            refine wpAnyH_take (i := 13) (oi := _) (v := ?_) rfl (by kernel_rfl) (by kernel_rfl) (by kernel_rfl) (fun _ _ _ h => h) (Or.inl ⟨by rfl, ?_⟩) hH.out ?_
            rotate_left
            · intro w1 hSw
              obtain ⟨y0, y1, y2, y3⟩ := four_cells hSw
              clear hSw
              go_simp; with_reducible rfl
            simp only [List.getElem_toArray, List.getElem_cons_succ, List.getElem_cons_zero, Act.put, List.setIfInBounds_toArray, List.set_cons_zero, List.set_cons_succ]
            refine wpAnyH_done (by kernel_rfl) ?_ _
            go_wp2
            go_meet
            case rel => exact ⟨tab_of_own h1 rfl (by unfold maxLen; omega), tab_of_own h2 rfl (by unfold maxLen; omega), tab_of_own h3 rfl (by unfold maxLen; omega), hbX⟩
        rcases List.mem_cons.1 hi with rfl | hi
        ·
          refine wpOp_step rfl (fun K3 hK3 => ?_)
          have HK3 := Lib.hid hK3
          clear hK3
          rw [if_pos (by rfl)]
          go_simp
          obtain ⟨g2, eg2⟩ : ∃ g, g = Y1.heap.size := ⟨_, rfl⟩
          obtain ⟨Y14, eY⟩ : ∃ Y, Y = Y1.alloc (.cells #[] 65) := ⟨_, rfl⟩
          have hXY : Y1.grownBy Y14 none := by rw [eY]; exact World.grownBy_alloc _ _ _
          have h2 : Y14.ownsRow w2.heap.size 65 2 (.slice (some ⟨g2, 0, none⟩) 0 0) 0 [] := by rw [eY, eg2]; exact World.ownsRow_lit Y1 #[] 0 hbX.size (by decide) rfl
          rw [← eY, ← eg2]
          clear eY
          replace h1 := h1.kept hXY (own_none _)
          replace hH := Lib.hid ((hXY.block P (Array.getElem?_eq_some_iff.1 hH.out).1 (by simp)).trans hH.out)
          replace hbX := hbX.grown hXY hbX.size (fun q hq => by cases hq)
          clear hXY eg2
          refine HK3.out _ _ ⟨hH.out, ?_⟩
          clear HK3 K3
          try simp only [List.getElem_toArray, List.getElem_cons_succ, List.getElem_cons_zero, Act.put, List.setIfInBounds_toArray, List.set_cons_zero, List.set_cons_succ]
          refine wpAnyH_all (rs := [3, 8]) (by kernel_rfl) (by simp) ?_
          intro i hi
          rcases List.mem_cons.1 hi with rfl | hi
          ·
            refine wpOp_step rfl (fun K3 hK3 => ?_)
            have HK3 := Lib.hid hK3
            clear hK3
            rw [if_pos (by rfl)]
            simp only [List.getElem_toArray, List.getElem_cons_succ, List.getElem_cons_zero]
            refine wp_copyT (.tmp 21) (.tmp 23) 22 52 3 24 (.agg #[.int .i64 0, .int .i64 0, .int .i64 0]) tpC Try.underlying22 Try.info52 rfl (by decide) (by decide) (by rfl) w2.heap.size g1 (by rfl) h1 (by rfl) (HH2.out.tp.below hbX) HNT.out ht17.1 hbX.size ?_
            intro v1 Y15 ho1 hXY
            replace h2 := h2.kept hXY (own_apart h2 h1 (by decide))
            replace hH := Lib.hid ((hXY.block P (Array.getElem?_eq_some_iff.1 hH.out).1 (fun e => by have := (h1.lt P e.symm).1; omega)).trans hH.out)
            replace hbX := hbX.grown hXY hbX.size (fun q hq => (h1.lt q hq).1)
            replace h1 := ho1
            clear hXY ho1
            refine HK3.out _ _ ⟨hH.out, ?_⟩
            clear HK3 K3
            try simp only [List.getElem_toArray, List.getElem_cons_succ, List.getElem_cons_zero, Act.put, List.setIfInBounds_toArray, List.set_cons_zero, List.set_cons_succ]
            refine wpAnyH_all (rs := [7, 8]) (by kernel_rfl) (by simp) ?_
            intro i hi
            rcases List.mem_cons.1 hi with rfl | hi
            ·
              refine wpOp_step rfl (fun K3 hK3 => ?_)
              have HK3 := Lib.hid hK3
              clear hK3
              rw [if_pos (by rfl)]
              simp only [List.getElem_toArray, List.getElem_cons_succ, List.getElem_cons_zero]
              refine wp_copyT (.tmp 25) (.tmp 27) 23 65 2 16 (.agg #[.int .i64 0, .int .i64 0]) rlC Try.underlying23 Try.info65 rfl (by decide) (by decide) (by rfl) w2.heap.size g2 (by rfl) h2 (by rfl) (HH2.out.rl.below hbX) HNR.out ht17.2 hbX.size ?_
              intro v2 Y16 ho2 hXY
              replace h1 := h1.kept hXY (own_apart h1 h2 (by decide))
              replace hH := Lib.hid ((hXY.block P (Array.getElem?_eq_some_iff.1 hH.out).1 (fun e => by have := (h2.lt P e.symm).1; omega)).trans hH.out)
              replace hbX := hbX.grown hXY hbX.size (fun q hq => (h2.lt q hq).1)
              replace h2 := ho2
              clear hXY ho2
              refine HK3.out _ _ ⟨hH.out, ?_⟩
              clear HK3 K3
              try simp only [List.getElem_toArray, List.getElem_cons_succ, List.getElem_cons_zero, Act.put, List.setIfInBounds_toArray, List.set_cons_zero, List.set_cons_succ]
              refine wpAnyH_all (rs := [8]) (by kernel_rfl) (by simp) ?_
              intro i hi
              obtain rfl := List.mem_singleton.1 hi; clear hi
              refine wpOp_step rfl (fun K3 hK3 => ?_)
              have HK3 := Lib.hid hK3
              clear hK3
              rw [if_pos (by rfl)]
              go_simp
              obtain ⟨g3, eg3⟩ : ∃ g, g = Y16.heap.size := ⟨_, rfl⟩
              obtain ⟨Y17, eY⟩ : ∃ Y, Y = Y16.alloc (.cells #[] 27) := ⟨_, rfl⟩
              have hXY : Y16.grownBy Y17 none := by rw [eY]; exact World.grownBy_alloc _ _ _
              have h3 : Y17.ownsRow w2.heap.size 27 4 (.slice (some ⟨g3, 0, none⟩) 0 0) 0 [] := by rw [eY, eg3]; exact World.ownsRow_lit Y16 #[] 0 hbX.size (by decide) rfl
              rw [← eY, ← eg3]
              clear eY
              replace h1 := h1.kept hXY (own_none _)
              replace h2 := h2.kept hXY (own_none _)
              replace hH := Lib.hid ((hXY.block P (Array.getElem?_eq_some_iff.1 hH.out).1 (by simp)).trans hH.out)
              replace hbX := hbX.grown hXY hbX.size (fun q hq => by cases hq)
              clear hXY eg3
              refine HK3.out _ _ ⟨hH.out, ?_⟩
              clear HK3 K3
              try simp only [List.getElem_toArray, List.getElem_cons_succ, List.getElem_cons_zero, Act.put, List.setIfInBounds_toArray, List.set_cons_zero, List.set_cons_succ]
              refine wpAnyH_all (rs := [10]) (by kernel_rfl) (by simp) ?_
              intro i hi
              obtain rfl := List.mem_singleton.1 hi; clear hi
              refine wpOp_step rfl (fun K3 hK3 => ?_)
              have HK3 := Lib.hid hK3
              clear hK3
              rw [if_pos (by rfl)]
              simp only [List.getElem_toArray, List.getElem_cons_succ, List.getElem_cons_zero]
              refine wp_copyT (.tmp 29) (.tmp 30) 38 27 4 32 (.agg #[.int .i64 0, .int .i64 0, .int .i64 0, .int .i64 0]) szC Try.underlying38 Try.info27 rfl (by decide) (by decide) (by rfl) w2.heap.size g3 (by rfl) h3 (by rfl) (HL2.out.below hbX) HNL.out (by omega) hbX.size ?_
              intro v3 Y18 ho3 hXY
              replace h1 := h1.kept hXY (own_apart h1 h3 (by decide))
              replace h2 := h2.kept hXY (own_apart h2 h3 (by decide))
              replace hH := Lib.hid ((hXY.block P (Array.getElem?_eq_some_iff.1 hH.out).1 (fun e => by have := (h3.lt P e.symm).1; omega)).trans hH.out)
              replace hbX := hbX.grown hXY hbX.size (fun q hq => (h3.lt q hq).1)
              replace h3 := ho3
              clear hXY ho3
              refine HK3.out _ _ ⟨hH.out, ?_⟩
              clear HK3 K3
              try simp only [List.getElem_toArray, List.getElem_cons_succ, List.getElem_cons_zero, Act.put, List.setIfInBounds_toArray, List.set_cons_zero, List.set_cons_succ]
              refine wpAnyH_take (i := 11) (oi := _) (v := ?_) rfl (by kernel_rfl) (by kernel_rfl) (by kernel_rfl) (fun _ _ _ h => h) (Or.inl ⟨by rfl, ?_⟩) hH.out ?_
              rotate_left
              · intro w1 hSw
                obtain ⟨y0, y1, y2, y3⟩ := four_cells hSw
                clear hSw
                go_simp; with_reducible rfl
              simp only [List.getElem_toArray, List.getElem_cons_succ, List.getElem_cons_zero, Act.put, List.setIfInBounds_toArray, List.set_cons_zero, List.set_cons_succ]
              refine wpAnyH_take (i := 12) (oi := _) (v := ?_) rfl (by kernel_rfl) (by kernel_rfl) (by kernel_rfl) (fun _ _ _ h => h) (Or.inl ⟨by rfl, ?_⟩) hH.out ?_
              rotate_left
              · intro w1 hSw
                obtain ⟨y0, y1, y2, y3⟩ := four_cells hSw
                clear hSw
                go_simp; with_reducible rfl
              simp only [List.getElem_toArray, List.getElem_cons_succ, List.getElem_cons_zero, Act.put, List.setIfInBounds_toArray, List.set_cons_zero, List.set_cons_succ]
              refine wpAnyH_take (i := 13) (oi := _) (v := ?_) rfl (by kernel_rfl) (by kernel_rfl) (by kernel_rfl) (fun _ _ _ h => h) (Or.inl ⟨by rfl, ?_⟩) hH.out ?_
              rotate_left
              · intro w1 hSw
                obtain ⟨y0, y1, y2, y3⟩ := four_cells hSw
                clear hSw
                go_simp; with_reducible rfl
              simp only [List.getElem_toArray, List.getElem_cons_succ, List.getElem_cons_zero, Act.put, List.setIfInBounds_toArray, List.set_cons_zero, List.set_cons_succ]
              refine wpAnyH_done (by kernel_rfl) ?_ _
              go_wp2
              go_meet
              case rel => exact ⟨tab_of_own h1 rfl (by unfold maxLen; omega), tab_of_own h2 rfl (by unfold maxLen; omega), tab_of_own h3 rfl (by unfold maxLen; omega), hbX⟩
            ·
              obtain rfl := List.mem_singleton.1 hi; clear hi
              refine wpOp_step rfl (fun K3 hK3 => ?_)
              have HK3 := Lib.hid hK3
              clear hK3
              rw [if_pos (by rfl)]
              go_simp
              obtain ⟨g3, eg3⟩ : ∃ g, g = Y15.heap.size := ⟨_, rfl⟩
              obtain ⟨Y19, eY⟩ : ∃ Y, Y = Y15.alloc (.cells #[] 27) := ⟨_, rfl⟩
              have hXY : Y15.grownBy Y19 none := by rw [eY]; exact World.grownBy_alloc _ _ _
              have h3 : Y19.ownsRow w2.heap.size 27 4 (.slice (some ⟨g3, 0, none⟩) 0 0) 0 [] := by rw [eY, eg3]; exact World.ownsRow_lit Y15 #[] 0 hbX.size (by decide) rfl
              rw [← eY, ← eg3]
              clear eY
              replace h1 := h1.kept hXY (own_none _)
              replace h2 := h2.kept hXY (own_none _)
              replace hH := Lib.hid ((hXY.block P (Array.getElem?_eq_some_iff.1 hH.out).1 (by simp)).trans hH.out)
              replace hbX := hbX.grown hXY hbX.size (fun q hq => by cases hq)
              clear hXY eg3
              refine HK3.out _ _ ⟨hH.out, ?_⟩
              clear HK3 K3
              try simp only [List.getElem_toArray, List.getElem_cons_succ, List.getElem_cons_zero, Act.put, List.setIfInBounds_toArray, List.set_cons_zero, List.set_cons_succ]
              refine wpAnyH_all (rs := [7]) (by kernel_rfl) (by simp) ?_
              intro i hi
              obtain rfl := List.mem_singleton.1 hi; clear hi
              refine wpOp_step rfl (fun K3 hK3 => ?_)
              have HK3 := Lib.hid hK3
              clear hK3
              rw [if_pos (by rfl)]
              simp only [List.getElem_toArray, List.getElem_cons_succ, List.getElem_cons_zero]
              refine wp_copyT (.tmp 25) (.tmp 27) 23 65 2 16 (.agg #[.int .i64 0, .int .i64 0]) rlC Try.underlying23 Try.info65 rfl (by decide) (by decide) (by rfl) w2.heap.size g2 (by rfl) h2 (by rfl) (HH2.out.rl.below hbX) HNR.out ht17.2 hbX.size ?_
              intro v2 Y20 ho2 hXY
              replace h1 := h1.kept hXY (own_apart h1 h2 (by decide))
              replace h3 := h3.kept hXY (own_apart h3 h2 (by decide))
              replace hH := Lib.hid ((hXY.block P (Array.getElem?_eq_some_iff.1 hH.out).1 (fun e => by have := (h2.lt P e.symm).1; omega)).trans hH.out)
              replace hbX := hbX.grown hXY hbX.size (fun q hq => (h2.lt q hq).1)
              replace h2 := ho2
              clear hXY ho2
              refine HK3.out _ _ ⟨hH.out, ?_⟩
              clear HK3 K3
              try simp only [List.getElem_toArray, List.getElem_cons_succ, List.getElem_cons_zero, Act.put, List.setIfInBounds_toArray, List.set_cons_zero, List.set_cons_succ]
              refine wpAnyH_all (rs := [10]) (by kernel_rfl) (by simp) ?_
              intro i hi
              obtain rfl := List.mem_singleton.1 hi; clear hi
              refine wpOp_step rfl (fun K3 hK3 => ?_)
              have HK3 := Lib.hid hK3
              clear hK3
              rw [if_pos (by rfl)]
              simp only [List.getElem_toArray, List.getElem_cons_succ, List.getElem_cons_zero]
              refine wp_copyT (.tmp 29) (.tmp 30) 38 27 4 32 (.agg #[.int .i64 0, .int .i64 0, .int .i64 0, .int .i64 0]) szC Try.underlying38 Try.info27 rfl (by decide) (by decide) (by rfl) w2.heap.size g3 (by rfl) h3 (by rfl) (HL2.out.below hbX) HNL.out (by omega) hbX.size ?_
              intro v3 Y21 ho3 hXY
              replace h1 := h1.kept hXY (own_apart h1 h3 (by decide))
              replace h2 := h2.kept hXY (own_apart h2 h3 (by decide))
              replace hH := Lib.hid ((hXY.block P (Array.getElem?_eq_some_iff.1 hH.out).1 (fun e => by have := (h3.lt P e.symm).1; omega)).trans hH.out)
              replace hbX := hbX.grown hXY hbX.size (fun q hq => (h3.lt q hq).1)
              replace h3 := ho3
              clear hXY ho3
              refine HK3.out _ _ ⟨hH.out, ?_⟩
              clear HK3 K3
              try simp only [List.getElem_toArray, List.getElem_cons_succ, List.getElem_cons_zero, Act.put, List.setIfInBounds_toArray, List.set_cons_zero, List.set_cons_succ]
              refine wpAnyH_take (i := 11) (oi := _) (v := ?_) rfl (by kernel_rfl) (by kernel_rfl) (by kernel_rfl) (fun _ _ _ h => h) (Or.inl ⟨by rfl, ?_⟩) hH.out ?_
              rotate_left
              · intro w1 hSw
                obtain ⟨y0, y1, y2, y3⟩ := four_cells hSw
                clear hSw
                go_simp; with_reducible rfl
              simp only [List.getElem_toArray, List.getElem_cons_succ, List.getElem_cons_zero, Act.put, List.setIfInBounds_toArray, List.set_cons_zero, List.set_cons_succ]
              refine wpAnyH_take (i := 12) (oi := _) (v := ?_) rfl (by kernel_rfl) (by kernel_rfl) (by kernel_rfl) (fun _ _ _ h => h) (Or.inl ⟨by rfl, ?_⟩) hH.out ?_
              rotate_left
              · intro w1 hSw
                obtain ⟨y0, y1, y2, y3⟩ := four_cells hSw
                clear hSw
                go_simp; with_reducible rfl
              simp only [List.getElem_toArray, List.getElem_cons_succ, List.getElem_cons_zero, Act.put, List.setIfInBounds_toArray, List.set_cons_zero, List.set_cons_succ]
              refine wpAnyH_take (i := 13) (oi := _) (v := ?_) rfl (by kernel_rfl) (by kernel_rfl) (by kernel_rfl) (fun _ _ _ h => h) (Or.inl ⟨by rfl, ?_⟩) hH.out ?_
              rotate_left
              · intro w1 hSw
                obtain ⟨y0, y1, y2, y3⟩ := four_cells hSw
                clear hSw
                go_simp; with_reducible rfl
              simp only [List.getElem_toArray, List.getElem_cons_succ, List.getElem_cons_zero, Act.put, List.setIfInBounds_toArray, List.set_cons_zero, List.set_cons_succ]
              refine wpAnyH_done (by kernel_rfl) ?_ _
              go_wp2
              go_meet
              case rel => exact ⟨tab_of_own h1 rfl (by unfold maxLen; omega), tab_of_own h2 rfl (by unfold maxLen; omega), tab_of_own h3 rfl (by unfold maxLen; omega), hbX⟩
          ·
            obtain rfl := List.mem_singleton.1 hi; clear hi
            refine wpOp_step rfl (fun K3 hK3 => ?_)
            have HK3 := Lib.hid hK3
            clear hK3
            rw [if_pos (by rfl)]
            go_simp
            obtain ⟨g3, eg3⟩ : ∃ g, g = Y14.heap.size := ⟨_, rfl⟩
            obtain ⟨Y22, eY⟩ : ∃ Y, Y = Y14.alloc (.cells #[] 27) := ⟨_, rfl⟩
            have hXY : Y14.grownBy Y22 none := by rw [eY]; exact World.grownBy_alloc _ _ _
            have h3 : Y22.ownsRow w2.heap.size 27 4 (.slice (some ⟨g3, 0, none⟩) 0 0) 0 [] := by rw [eY, eg3]; exact World.ownsRow_lit Y14 #[] 0 hbX.size (by decide) rfl
            rw [← eY, ← eg3]
            clear eY
            replace h1 := h1.kept hXY (own_none _)
            replace h2 := h2.kept hXY (own_none _)
            replace hH := Lib.hid ((hXY.block P (Array.getElem?_eq_some_iff.1 hH.out).1 (by simp)).trans hH.out)
            replace hbX := hbX.grown hXY hbX.size (fun q hq => by cases hq)
            clear hXY eg3
            refine HK3.out _ _ ⟨hH.out, ?_⟩
            clear HK3 K3
            try simp only [List.getElem_toArray, List.getElem_cons_succ, List.getElem_cons_zero, Act.put, List.setIfInBounds_toArray, List.set_cons_zero, List.set_cons_succ]
            refine wpAnyH_all (rs := [3]) (by kernel_rfl) (by simp) ?_
            intro i hi
            obtain rfl := List.mem_singleton.1 hi; clear hi
            refine wpOp_step rfl (fun K3 hK3 => ?_)
            have HK3 := Lib.hid hK3
            clear hK3
            rw [if_pos (by rfl)]
            simp only [List.getElem_toArray, List.getElem_cons_succ, List.getElem_cons_zero]
            refine wp_copyT (.tmp 21) (.tmp 23) 22 52 3 24 (.agg #[.int .i64 0, .int .i64 0, .int .i64 0]) tpC Try.underlying22 Try.info52 rfl (by decide) (by decide) (by rfl) w2.heap.size g1 (by rfl) h1 (by rfl) (HH2.out.tp.below hbX) HNT.out ht17.1 hbX.size ?_
            intro v1 Y23 ho1 hXY
            replace h2 := h2.kept hXY (own_apart h2 h1 (by decide))
            replace h3 := h3.kept hXY (own_apart h3 h1 (by decide))
            replace hH := Lib.hid ((hXY.block P (Array.getElem?_eq_some_iff.1 hH.out).1 (fun e => by have := (h1.lt P e.symm).1; omega)).trans hH.out)
            replace hbX := hbX.grown hXY hbX.size (fun q hq => (h1.lt q hq).1)
            replace h1 := ho1
            clear hXY ho1
            refine HK3.out _ _ ⟨hH.out, ?_⟩
            clear HK3 K3
            try simp only [List.getElem_toArray, List.getElem_cons_succ, List.getElem_cons_zero, Act.put, List.setIfInBounds_toArray, List.set_cons_zero, List.set_cons_succ]
            refine wpAnyH_all (rs := [7]) (by kernel_rfl) (by simp) ?_
            intro i hi
            obtain rfl := List.mem_singleton.1 hi; clear hi
            refine wpOp_step rfl (fun K3 hK3 => ?_)
            have HK3 := Lib.hid hK3
            clear hK3
            rw [if_pos (by rfl)]
            simp only [List.getElem_toArray, List.getElem_cons_succ, List.getElem_cons_zero]
            refine wp_copyT (.tmp 25) (.tmp 27) 23 65 2 16 (.agg #[.int .i64 0, .int .i64 0]) rlC Try.underlying23 Try.info65 rfl (by decide) (by decide) (by rfl) w2.heap.size g2 (by rfl) h2 (by rfl) (HH2.out.rl.below hbX) HNR.out ht17.2 hbX.size ?_
            intro v2 Y24 ho2 hXY
            replace h1 := h1.kept hXY (own_apart h1 h2 (by decide))
            replace h3 := h3.kept hXY (own_apart h3 h2 (by decide))
            replace hH := Lib.hid ((hXY.block P (Array.getElem?_eq_some_iff.1 hH.out).1 (fun e => by have := (h2.lt P e.symm).1; omega)).trans hH.out)
            replace hbX := hbX.grown hXY hbX.size (fun q hq => (h2.lt q hq).1)
            replace h2 := ho2
            clear hXY ho2
            refine HK3.out _ _ ⟨hH.out, ?_⟩
            clear HK3 K3
            try simp only [List.getElem_toArray, List.getElem_cons_succ, List.getElem_cons_zero, Act.put, List.setIfInBounds_toArray, List.set_cons_zero, List.set_cons_succ]
            refine wpAnyH_all (rs := [10]) (by kernel_rfl) (by simp) ?_
            intro i hi
            obtain rfl := List.mem_singleton.1 hi; clear hi
            refine wpOp_step rfl (fun K3 hK3 => ?_)
            have HK3 := Lib.hid hK3
            clear hK3
            rw [if_pos (by rfl)]
            simp only [List.getElem_toArray, List.getElem_cons_succ, List.getElem_cons_zero]
            refine wp_copyT (.tmp 29) (.tmp 30) 38 27 4 32 (.agg #[.int .i64 0, .int .i64 0, .int .i64 0, .int .i64 0]) szC Try.underlying38 Try.info27 rfl (by decide) (by decide) (by rfl) w2.heap.size g3 (by rfl) h3 (by rfl) (HL2.out.below hbX) HNL.out (by omega) hbX.size ?_
            intro v3 Y25 ho3 hXY
            replace h1 := h1.kept hXY (own_apart h1 h3 (by decide))
            replace h2 := h2.kept hXY (own_apart h2 h3 (by decide))
            replace hH := Lib.hid ((hXY.block P (Array.getElem?_eq_some_iff.1 hH.out).1 (fun e => by have := (h3.lt P e.symm).1; omega)).trans hH.out)
            replace hbX := hbX.grown hXY hbX.size (fun q hq => (h3.lt q hq).1)
            replace h3 := ho3
            clear hXY ho3
            refine HK3.out _ _ ⟨hH.out, ?_⟩
            clear HK3 K3
            try simp only [List.getElem_toArray, List.getElem_cons_succ, List.getElem_cons_zero, Act.put, List.setIfInBounds_toArray, List.set_cons_zero, List.set_cons_succ]
            refine wpAnyH_take (i := 11) (oi := _) (v := ?_) rfl (by kernel_rfl) (by kernel_rfl) (by kernel_rfl) (fun _ _ _ h => h) (Or.inl ⟨by rfl, ?_⟩) hH.out ?_
            rotate_left
            · intro w1 hSw
              obtain ⟨y0, y1, y2, y3⟩ := four_cells hSw
              clear hSw
              go_simp; with_reducible rfl
            simp only [List.getElem_toArray, List.getElem_cons_succ, List.getElem_cons_zero, Act.put, List.setIfInBounds_toArray, List.set_cons_zero, List.set_cons_succ]
            refine wpAnyH_take (i := 12) (oi := _) (v := ?_) rfl (by kernel_rfl) (by kernel_rfl) (by kernel_rfl) (fun _ _ _ h => h) (Or.inl ⟨by rfl, ?_⟩) hH.out ?_
            rotate_left
            · intro w1 hSw
              obtain ⟨y0, y1, y2, y3⟩ := four_cells hSw
              clear hSw
              go_simp; with_reducible rfl
            simp only [List.getElem_toArray, List.getElem_cons_succ, List.getElem_cons_zero, Act.put, List.setIfInBounds_toArray, List.set_cons_zero, List.set_cons_succ]
            refine wpAnyH_take (i := 13) (oi := _) (v := ?_) rfl (by kernel_rfl) (by kernel_rfl) (by kernel_rfl) (fun _ _ _ h => h) (Or.inl ⟨by rfl, ?_⟩) hH.out ?_
            rotate_left
            · intro w1 hSw
              obtain ⟨y0, y1, y2, y3⟩ := four_cells hSw
              clear hSw
              go_simp; with_reducible rfl
            simp only [List.getElem_toArray, List.getElem_cons_succ, List.getElem_cons_zero, Act.put, List.setIfInBounds_toArray, List.set_cons_zero, List.set_cons_succ]
            refine wpAnyH_done (by kernel_rfl) ?_ _
            go_wp2
            go_meet
            case rel => exact ⟨tab_of_own h1 rfl (by unfold maxLen; omega), tab_of_own h2 rfl (by unfold maxLen; omega), tab_of_own h3 rfl (by unfold maxLen; omega), hbX⟩
        ·
          obtain rfl := List.mem_singleton.1 hi; clear hi
          refine wpOp_step rfl (fun K3 hK3 => ?_)
          have HK3 := Lib.hid hK3
          clear hK3
          rw [if_pos (by rfl)]
          go_simp
          obtain ⟨g3, eg3⟩ : ∃ g, g = Y1.heap.size := ⟨_, rfl⟩
          obtain ⟨Y26, eY⟩ : ∃ Y, Y = Y1.alloc (.cells #[] 27) := ⟨_, rfl⟩
          have hXY : Y1.grownBy Y26 none := by rw [eY]; exact World.grownBy_alloc _ _ _
          have h3 : Y26.ownsRow w2.heap.size 27 4 (.slice (some ⟨g3, 0, none⟩) 0 0) 0 [] := by rw [eY, eg3]; exact World.ownsRow_lit Y1 #[] 0 hbX.size (by decide) rfl
          rw [← eY, ← eg3]
          clear eY
          replace h1 := h1.kept hXY (own_none _)
          replace hH := Lib.hid ((hXY.block P (Array.getElem?_eq_some_iff.1 hH.out).1 (by simp)).trans hH.out)
          replace hbX := hbX.grown hXY hbX.size (fun q hq => by cases hq)
          clear hXY eg3
          refine HK3.out _ _ ⟨hH.out, ?_⟩
          clear HK3 K3
          try simp only [List.getElem_toArray, List.getElem_cons_succ, List.getElem_cons_zero, Act.put, List.setIfInBounds_toArray, List.set_cons_zero, List.set_cons_succ]
          refine wpAnyH_all (rs := [3, 4]) (by kernel_rfl) (by simp) ?_
          intro i hi
          rcases List.mem_cons.1 hi with rfl | hi
          ·
            refine wpOp_step rfl (fun K3 hK3 => ?_)
            have HK3 := Lib.hid hK3
            clear hK3
            rw [if_pos (by rfl)]
            simp only [List.getElem_toArray, List.getElem_cons_succ, List.getElem_cons_zero]
            refine wp_copyT (.tmp 21) (.tmp 23) 22 52 3 24 (.agg #[.int .i64 0, .int .i64 0, .int .i64 0]) tpC Try.underlying22 Try.info52 rfl (by decide) (by decide) (by rfl) w2.heap.size g1 (by rfl) h1 (by rfl) (HH2.out.tp.below hbX) HNT.out ht17.1 hbX.size ?_
            intro v1 Y27 ho1 hXY
            replace h3 := h3.kept hXY (own_apart h3 h1 (by decide))
            replace hH := Lib.hid ((hXY.block P (Array.getElem?_eq_some_iff.1 hH.out).1 (fun e => by have := (h1.lt P e.symm).1; omega)).trans hH.out)
            replace hbX := hbX.grown hXY hbX.size (fun q hq => (h1.lt q hq).1)
            replace h1 := ho1
            clear hXY ho1
            refine HK3.out _ _ ⟨hH.out, ?_⟩
            clear HK3 K3
            try simp only [List.getElem_toArray, List.getElem_cons_succ, List.getElem_cons_zero, Act.put, List.setIfInBounds_toArray, List.set_cons_zero, List.set_cons_succ]
            refine wpAnyH_all (rs := [4]) (by kernel_rfl) (by simp) ?_
            intro i hi
            obtain rfl := List.mem_singleton.1 hi; clear hi
            refine wpOp_step rfl (fun K3 hK3 => ?_)
            have HK3 := Lib.hid hK3
            clear hK3
            rw [if_pos (by rfl)]
            go_simp
            obtain ⟨g2, eg2⟩ : ∃ g, g = Y27.heap.size := ⟨_, rfl⟩
            obtain ⟨Y28, eY⟩ : ∃ Y, Y = Y27.alloc (.cells #[] 65) := ⟨_, rfl⟩
            have hXY : Y27.grownBy Y28 none := by rw [eY]; exact World.grownBy_alloc _ _ _
            have h2 : Y28.ownsRow w2.heap.size 65 2 (.slice (some ⟨g2, 0, none⟩) 0 0) 0 [] := by rw [eY, eg2]; exact World.ownsRow_lit Y27 #[] 0 hbX.size (by decide) rfl
            rw [← eY, ← eg2]
            clear eY
            replace h1 := h1.kept hXY (own_none _)
            replace h3 := h3.kept hXY (own_none _)
            replace hH := Lib.hid ((hXY.block P (Array.getElem?_eq_some_iff.1 hH.out).1 (by simp)).trans hH.out)
            replace hbX := hbX.grown hXY hbX.size (fun q hq => by cases hq)
            clear hXY eg2
            refine HK3.out _ _ ⟨hH.out, ?_⟩
            clear HK3 K3
            try simp only [List.getElem_toArray, List.getElem_cons_succ, List.getElem_cons_zero, Act.put, List.setIfInBounds_toArray, List.set_cons_zero, List.set_cons_succ]
            refine wpAnyH_all (rs := [7]) (by kernel_rfl) (by simp) ?_
            intro i hi
            obtain rfl := List.mem_singleton.1 hi; clear hi
            refine wpOp_step rfl (fun K3 hK3 => ?_)
            have HK3 := Lib.hid hK3
            clear hK3
            rw [if_pos (by rfl)]
            simp only [List.getElem_toArray, List.getElem_cons_succ, List.getElem_cons_zero]
            refine wp_copyT (.tmp 25) (.tmp 27) 23 65 2 16 (.agg #[.int .i64 0, .int .i64 0]) rlC Try.underlying23 Try.info65 rfl (by decide) (by decide) (by rfl) w2.heap.size g2 (by rfl) h2 (by rfl) (HH2.out.rl.below hbX) HNR.out ht17.2 hbX.size ?_
            intro v2 Y29 ho2 hXY
            replace h1 := h1.kept hXY (own_apart h1 h2 (by decide))
            replace h3 := h3.kept hXY (own_apart h3 h2 (by decide))
            replace hH := Lib.hid ((hXY.block P (Array.getElem?_eq_some_iff.1 hH.out).1 (fun e => by have := (h2.lt P e.symm).1; omega)).trans hH.out)
            replace hbX := hbX.grown hXY hbX.size (fun q hq => (h2.lt q hq).1)
            replace h2 := ho2
            clear hXY ho2
            refine HK3.out _ _ ⟨hH.out, ?_⟩
            clear HK3 K3
            try simp only [List.getElem_toArray, List.getElem_cons_succ, List.getElem_cons_zero, Act.put, List.setIfInBounds_toArray, List.set_cons_zero, List.set_cons_succ]
            refine wpAnyH_all (rs := [10]) (by kernel_rfl) (by simp) ?_
            intro i hi
            obtain rfl := List.mem_singleton.1 hi; clear hi
            refine wpOp_step rfl (fun K3 hK3 => ?_)
            have HK3 := Lib.hid hK3
            clear hK3
            rw [if_pos (by rfl)]
            simp only [List.getElem_toArray, List.getElem_cons_succ, List.getElem_cons_zero]
            refine wp_copyT (.tmp 29) (.tmp 30) 38 27 4 32 (.agg #[.int .i64 0, .int .i64 0, .int .i64 0, .int .i64 0]) szC Try.underlying38 Try.info27 rfl (by decide) (by decide) (by rfl) w2.heap.size g3 (by rfl) h3 (by rfl) (HL2.out.below hbX) HNL.out (by omega) hbX.size ?_
            intro v3 Y30 ho3 hXY
            replace h1 := h1.kept hXY (own_apart h1 h3 (by decide))
            replace h2 := h2.kept hXY (own_apart h2 h3 (by decide))
            replace hH := Lib.hid ((hXY.block P (Array.getElem?_eq_some_iff.1 hH.out).1 (fun e => by have := (h3.lt P e.symm).1; omega)).trans hH.out)
            replace hbX := hbX.grown hXY hbX.size (fun q hq => (h3.lt q hq).1)
            replace h3 := ho3
            clear hXY ho3
            refine HK3.out _ _ ⟨hH.out, ?_⟩
            clear HK3 K3
            try simp only [List.getElem_toArray, List.getElem_cons_succ, List.getElem_cons_zero, Act.put, List.setIfInBounds_toArray, List.set_cons_zero, List.set_cons_succ]
            refine wpAnyH_take (i := 11) (oi := _) (v := ?_) rfl (by kernel_rfl) (by kernel_rfl) (by kernel_rfl) (fun _ _ _ h => h) (Or.inl ⟨by rfl, ?_⟩) hH.out ?_
            rotate_left
            · intro w1 hSw
              obtain ⟨y0, y1, y2, y3⟩ := four_cells hSw
              clear hSw
              go_simp; with_reducible rfl
            simp only [List.getElem_toArray, List.getElem_cons_succ, List.getElem_cons_zero, Act.put, List.setIfInBounds_toArray, List.set_cons_zero, List.set_cons_succ]
            refine wpAnyH_take (i := 12) (oi := _) (v := ?_) rfl (by kernel_rfl) (by kernel_rfl) (by kernel_rfl) (fun _ _ _ h => h) (Or.inl ⟨by rfl, ?_⟩) hH.out ?_
            rotate_left
            · intro w1 hSw
              obtain ⟨y0, y1, y2, y3⟩ := four_cells hSw
              clear hSw
              go_simp; with_reducible rfl
            simp only [List.getElem_toArray, List.getElem_cons_succ, List.getElem_cons_zero, Act.put, List.setIfInBounds_toArray, List.set_cons_zero, List.set_cons_succ]
            refine wpAnyH_take (i := 13) (oi := _) (v := ?_) rfl (by kernel_rfl) (by kernel_rfl) (by kernel_rfl) (fun _ _ _ h => h) (Or.inl ⟨by rfl, ?_⟩) hH.out ?_
            rotate_left
            · intro w1 hSw
              obtain ⟨y0, y1, y2, y3⟩ := four_cells hSw
              clear hSw
              go_simp; with_reducible rfl
            simp only [List.getElem_toArray, List.getElem_cons_succ, List.getElem_cons_zero, Act.put, List.setIfInBounds_toArray, List.set_cons_zero, List.set_cons_succ]
            refine wpAnyH_done (by kernel_rfl) ?_ _
            go_wp2
            go_meet
            case rel => exact ⟨tab_of_own h1 rfl (by unfold maxLen; omega), tab_of_own h2 rfl (by unfold maxLen; omega), tab_of_own h3 rfl (by unfold maxLen; omega), hbX⟩
          ·
            obtain rfl := List.mem_singleton.1 hi; clear hi
            refine wpOp_step rfl (fun K3 hK3 => ?_)
            have HK3 := Lib.hid hK3
            clear hK3
            rw [if_pos (by rfl)]
            go_simp
            obtain ⟨g2, eg2⟩ : ∃ g, g = Y26.heap.size := ⟨_, rfl⟩
            obtain ⟨Y31, eY⟩ : ∃ Y, Y = Y26.alloc (.cells #[] 65) := ⟨_, rfl⟩
            have hXY : Y26.grownBy Y31 none := by rw [eY]; exact World.grownBy_alloc _ _ _
            have h2 : Y31.ownsRow w2.heap.size 65 2 (.slice (some ⟨g2, 0, none⟩) 0 0) 0 [] := by rw [eY, eg2]; exact World.ownsRow_lit Y26 #[] 0 hbX.size (by decide) rfl
            rw [← eY, ← eg2]
            clear eY
            replace h1 := h1.kept hXY (own_none _)
            replace h3 := h3.kept hXY (own_none _)
            replace hH := Lib.hid ((hXY.block P (Array.getElem?_eq_some_iff.1 hH.out).1 (by simp)).trans hH.out)
            replace hbX := hbX.grown hXY hbX.size (fun q hq => by cases hq)
            clear hXY eg2
            refine HK3.out _ _ ⟨hH.out, ?_⟩
            clear HK3 K3
            try simp only [List.getElem_toArray, List.getElem_cons_succ, List.getElem_cons_zero, Act.put, List.setIfInBounds_toArray, List.set_cons_zero, List.set_cons_succ]
            refine wpAnyH_all (rs := [3]) (by kernel_rfl) (by simp) ?_
            intro i hi
            obtain rfl := List.mem_singleton.1 hi; clear hi
            refine wpOp_step rfl (fun K3 hK3 => ?_)
            have HK3 := Lib.hid hK3
            clear hK3
            rw [if_pos (by rfl)]
            simp only [List.getElem_toArray, List.getElem_cons_succ, List.getElem_cons_zero]
            refine wp_copyT (.tmp 21) (.tmp 23) 22 52 3 24 (.agg #[.int .i64 0, .int .i64 0, .int .i64 0]) tpC Try.underlying22 Try.info52 rfl (by decide) (by decide) (by rfl) w2.heap.size g1 (by rfl) h1 (by rfl) (HH2.out.tp.below hbX) HNT.out ht17.1 hbX.size ?_
            intro v1 Y32 ho1 hXY
            replace h2 := h2.kept hXY (own_apart h2 h1 (by decide))
            replace h3 := h3.kept hXY (own_apart h3 h1 (by decide))
            replace hH := Lib.hid ((hXY.block P (Array.getElem?_eq_some_iff.1 hH.out).1 (fun e => by have := (h1.lt P e.symm).1; omega)).trans hH.out)
            replace hbX := hbX.grown hXY hbX.size (fun q hq => (h1.lt q hq).1)
            replace h1 := ho1
            clear hXY ho1
            refine HK3.out _ _ ⟨hH.out, ?_⟩
            clear HK3 K3
            try simp only [List.getElem_toArray, List.getElem_cons_succ, List.getElem_cons_zero, Act.put, List.setIfInBounds_toArray, List.set_cons_zero, List.set_cons_succ]
            refine wpAnyH_all (rs := [7]) (by kernel_rfl) (by simp) ?_
            intro i hi
            obtain rfl := List.mem_singleton.1 hi; clear hi
            refine wpOp_step rfl (fun K3 hK3 => ?_)
            have HK3 := Lib.hid hK3
            clear hK3
            rw [if_pos (by rfl)]
            simp only [List.getElem_toArray, List.getElem_cons_succ, List.getElem_cons_zero]
            refine wp_copyT (.tmp 25) (.tmp 27) 23 65 2 16 (.agg #[.int .i64 0, .int .i64 0]) rlC Try.underlying23 Try.info65 rfl (by decide) (by decide) (by rfl) w2.heap.size g2 (by rfl) h2 (by rfl) (HH2.out.rl.below hbX) HNR.out ht17.2 hbX.size ?_
            intro v2 Y33 ho2 hXY
            replace h1 := h1.kept hXY (own_apart h1 h2 (by decide))
            replace h3 := h3.kept hXY (own_apart h3 h2 (by decide))
            replace hH := Lib.hid ((hXY.block P (Array.getElem?_eq_some_iff.1 hH.out).1 (fun e => by have := (h2.lt P e.symm).1; omega)).trans hH.out)
            replace hbX := hbX.grown hXY hbX.size (fun q hq => (h2.lt q hq).1)
            replace h2 := ho2
            clear hXY ho2
            refine HK3.out _ _ ⟨hH.out, ?_⟩
            clear HK3 K3
            try simp only [List.getElem_toArray, List.getElem_cons_succ, List.getElem_cons_zero, Act.put, List.setIfInBounds_toArray, List.set_cons_zero, List.set_cons_succ]
            refine wpAnyH_all (rs := [10]) (by kernel_rfl) (by simp) ?_
            intro i hi
            obtain rfl := List.mem_singleton.1 hi; clear hi
            refine wpOp_step rfl (fun K3 hK3 => ?_)
            have HK3 := Lib.hid hK3
            clear hK3
            rw [if_pos (by rfl)]
            simp only [List.getElem_toArray, List.getElem_cons_succ, List.getElem_cons_zero]
            refine wp_copyT (.tmp 29) (.tmp 30) 38 27 4 32 (.agg #[.int .i64 0, .int .i64 0, .int .i64 0, .int .i64 0]) szC Try.underlying38 Try.info27 rfl (by decide) (by decide) (by rfl) w2.heap.size g3 (by rfl) h3 (by rfl) (HL2.out.below hbX) HNL.out (by omega) hbX.size ?_
            intro v3 Y34 ho3 hXY
            replace h1 := h1.kept hXY (own_apart h1 h3 (by decide))
            replace h2 := h2.kept hXY (own_apart h2 h3 (by decide))
            replace hH := Lib.hid ((hXY.block P (Array.getElem?_eq_some_iff.1 hH.out).1 (fun e => by have := (h3.lt P e.symm).1; omega)).trans hH.out)
            replace hbX := hbX.grown hXY hbX.size (fun q hq => (h3.lt q hq).1)
            replace h3 := ho3
            clear hXY ho3
            refine HK3.out _ _ ⟨hH.out, ?_⟩
            clear HK3 K3
            try simp only [List.getElem_toArray, List.getElem_cons_succ, List.getElem_cons_zero, Act.put, List.setIfInBounds_toArray, List.set_cons_zero, List.set_cons_succ]
            refine wpAnyH_take (i := 11) (oi := _) (v := ?_) rfl (by kernel_rfl) (by kernel_rfl) (by kernel_rfl) (fun _ _ _ h => h) (Or.inl ⟨by rfl, ?_⟩) hH.out ?_
            rotate_left
            · intro w1 hSw
              obtain ⟨y0, y1, y2, y3⟩ := four_cells hSw
              clear hSw
              go_simp; with_reducible rfl
            simp only [List.getElem_toArray, List.getElem_cons_succ, List.getElem_cons_zero, Act.put, List.setIfInBounds_toArray, List.set_cons_zero, List.set_cons_succ]
            refine wpAnyH_take (i := 12) (oi := _) (v := ?_) rfl (by kernel_rfl) (by kernel_rfl) (by kernel_rfl) (fun _ _ _ h => h) (Or.inl ⟨by rfl, ?_⟩) hH.out ?_
            rotate_left
            · intro w1 hSw
              obtain ⟨y0, y1, y2, y3⟩ := four_cells hSw
              clear hSw
              go_simp; with_reducible rfl
            simp only [List.getElem_toArray, List.getElem_cons_succ, List.getElem_cons_zero, Act.put, List.setIfInBounds_toArray, List.set_cons_zero, List.set_cons_succ]
            refine wpAnyH_take (i := 13) (oi := _) (v := ?_) rfl (by kernel_rfl) (by kernel_rfl) (by kernel_rfl) (fun _ _ _ h => h) (Or.inl ⟨by rfl, ?_⟩) hH.out ?_
            rotate_left
            · intro w1 hSw
              obtain ⟨y0, y1, y2, y3⟩ := four_cells hSw
              clear hSw
              go_simp; with_reducible rfl
            simp only [List.getElem_toArray, List.getElem_cons_succ, List.getElem_cons_zero, Act.put, List.setIfInBounds_toArray, List.set_cons_zero, List.set_cons_succ]
            refine wpAnyH_done (by kernel_rfl) ?_ _
            go_wp2
            go_meet
            case rel => exact ⟨tab_of_own h1 rfl (by unfold maxLen; omega), tab_of_own h2 rfl (by unfold maxLen; omega), tab_of_own h3 rfl (by unfold maxLen; omega), hbX⟩
      rcases List.mem_cons.1 hi with rfl | hi
      ·
        refine wpOp_step rfl (fun K3 hK3 => ?_)
        have HK3 := Lib.hid hK3
        clear hK3
        rw [if_pos (by rfl)]
        go_simp
        obtain ⟨g2, eg2⟩ : ∃ g, g = Y0.heap.size := ⟨_, rfl⟩
        obtain ⟨Y35, eY⟩ : ∃ Y, Y = Y0.alloc (.cells #[] 65) := ⟨_, rfl⟩
        have hXY : Y0.grownBy Y35 none := by rw [eY]; exact World.grownBy_alloc _ _ _
        have h2 : Y35.ownsRow w2.heap.size 65 2 (.slice (some ⟨g2, 0, none⟩) 0 0) 0 [] := by rw [eY, eg2]; exact World.ownsRow_lit Y0 #[] 0 hbX.size (by decide) rfl
        rw [← eY, ← eg2]
        clear eY
        replace hH := Lib.hid ((hXY.block P (Array.getElem?_eq_some_iff.1 hH.out).1 (by simp)).trans hH.out)
        replace hbX := hbX.grown hXY hbX.size (fun q hq => by cases hq)
        clear hXY eg2
        refine HK3.out _ _ ⟨hH.out, ?_⟩
        clear HK3 K3
        try simp only [List.getElem_toArray, List.getElem_cons_succ, List.getElem_cons_zero, Act.put, List.setIfInBounds_toArray, List.set_cons_zero, List.set_cons_succ]
        refine wpAnyH_all (rs := [0, 8]) (by kernel_rfl) (by simp) ?_
        intro i hi
        rcases List.mem_cons.1 hi with rfl | hi
        ·
          refine wpOp_step rfl (fun K3 hK3 => ?_)
          have HK3 := Lib.hid hK3
          clear hK3
          rw [if_pos (by rfl)]
          go_simp
          obtain ⟨g1, eg1⟩ : ∃ g, g = Y35.heap.size := ⟨_, rfl⟩
          obtain ⟨Y36, eY⟩ : ∃ Y, Y = Y35.alloc (.cells #[] 52) := ⟨_, rfl⟩
          have hXY : Y35.grownBy Y36 none := by rw [eY]; exact World.grownBy_alloc _ _ _
          have h1 : Y36.ownsRow w2.heap.size 52 3 (.slice (some ⟨g1, 0, none⟩) 0 0) 0 [] := by rw [eY, eg1]; exact World.ownsRow_lit Y35 #[] 0 hbX.size (by decide) rfl
          rw [← eY, ← eg1]
          clear eY
          replace h2 := h2.kept hXY (own_none _)
          replace hH := Lib.hid ((hXY.block P (Array.getElem?_eq_some_iff.1 hH.out).1 (by simp)).trans hH.out)
          replace hbX := hbX.grown hXY hbX.size (fun q hq => by cases hq)
          clear hXY eg1
          refine HK3.out _ _ ⟨hH.out, ?_⟩
          clear HK3 K3
          try simp only [List.getElem_toArray, List.getElem_cons_succ, List.getElem_cons_zero, Act.put, List.setIfInBounds_toArray, List.set_cons_zero, List.set_cons_succ]
          refine wpAnyH_all (rs := [3, 8]) (by kernel_rfl) (by simp) ?_
          intro i hi
          rcases List.mem_cons.1 hi with rfl | hi
          ·
            refine wpOp_step rfl (fun K3 hK3 => ?_)
            have HK3 := Lib.hid hK3
            clear hK3
            rw [if_pos (by rfl)]
            simp only [List.getElem_toArray, List.getElem_cons_succ, List.getElem_cons_zero]
            refine wp_copyT (.tmp 21) (.tmp 23) 22 52 3 24 (.agg #[.int .i64 0, .int .i64 0, .int .i64 0]) tpC Try.underlying22 Try.info52 rfl (by decide) (by decide) (by rfl) w2.heap.size g1 (by rfl) h1 (by rfl) (HH2.out.tp.below hbX) HNT.out ht17.1 hbX.size ?_
            intro v1 Y37 ho1 hXY
            replace h2 := h2.kept hXY (own_apart h2 h1 (by decide))
            replace hH := Lib.hid ((hXY.block P (Array.getElem?_eq_some_iff.1 hH.out).1 (fun e => by have := (h1.lt P e.symm).1; omega)).trans hH.out)
            replace hbX := hbX.grown hXY hbX.size (fun q hq => (h1.lt q hq).1)
            replace h1 := ho1
            clear hXY ho1
            refine HK3.out _ _ ⟨hH.out, ?_⟩
            clear HK3 K3
            try simp only [List.getElem_toArray, List.getElem_cons_succ, List.getElem_cons_zero, Act.put, List.setIfInBounds_toArray, List.set_cons_zero, List.set_cons_succ]
            refine wpAnyH_all (rs := [7, 8]) (by kernel_rfl) (by simp) ?_
            intro i hi
            rcases List.mem_cons.1 hi with rfl | hi
            ·
              refine wpOp_step rfl (fun K3 hK3 => ?_)
              have HK3 := Lib.hid hK3
              clear hK3
              rw [if_pos (by rfl)]
              simp only [List.getElem_toArray, List.getElem_cons_succ, List.getElem_cons_zero]
              refine wp_copyT (.tmp 25) (.tmp 27) 23 65 2 16 (.agg #[.int .i64 0, .int .i64 0]) rlC Try.underlying23 Try.info65 rfl (by decide) (by decide) (by rfl) w2.heap.size g2 (by rfl) h2 (by rfl) (HH2.out.rl.below hbX) HNR.out ht17.2 hbX.size ?_
              intro v2 Y38 ho2 hXY
              replace h1 := h1.kept hXY (own_apart h1 h2 (by decide))
              replace hH := Lib.hid ((hXY.block P (Array.getElem?_eq_some_iff.1 hH.out).1 (fun e => by have := (h2.lt P e.symm).1; omega)).trans hH.out)
              replace hbX := hbX.grown hXY hbX.size (fun q hq => (h2.lt q hq).1)
              replace h2 := ho2
              clear hXY ho2
              refine HK3.out _ _ ⟨hH.out, ?_⟩
              clear HK3 K3
              try simp only [List.getElem_toArray, List.getElem_cons_succ, List.getElem_cons_zero, Act.put, List.setIfInBounds_toArray, List.set_cons_zero, List.set_cons_succ]
              refine wpAnyH_all (rs := [8]) (by kernel_rfl) (by simp) ?_
              intro i hi
              obtain rfl := List.mem_singleton.1 hi; clear hi
              refine wpOp_step rfl (fun K3 hK3 => ?_)
              have HK3 := Lib.hid hK3
              clear hK3
              rw [if_pos (by rfl)]
              go_simp
              obtain ⟨g3, eg3⟩ : ∃ g, g = Y38.heap.size := ⟨_, rfl⟩
              obtain ⟨Y39, eY⟩ : ∃ Y, Y = Y38.alloc (.cells #[] 27) := ⟨_, rfl⟩
              have hXY : Y38.grownBy Y39 none := by rw [eY]; exact World.grownBy_alloc _ _ _
              have h3 : Y39.ownsRow w2.heap.size 27 4 (.slice (some ⟨g3, 0, none⟩) 0 0) 0 [] := by rw [eY, eg3]; exact World.ownsRow_lit Y38 #[] 0 hbX.size (by decide) rfl
              rw [← eY, ← eg3]
              clear eY
              replace h1 := h1.kept hXY (own_none _)
              replace h2 := h2.kept hXY (own_none _)
              replace hH := Lib.hid ((hXY.block P (Array.getElem?_eq_some_iff.1 hH.out).1 (by simp)).trans hH.out)
              replace hbX := hbX.grown hXY hbX.size (fun q hq => by cases hq)
              clear hXY eg3
              refine HK3.out _ _ ⟨hH.out, ?_⟩
              clear HK3 K3
              try simp only [List.getElem_toArray, List.getElem_cons_succ, List.getElem_cons_zero, Act.put, List.setIfInBounds_toArray, List.set_cons_zero, List.set_cons_succ]
              refine wpAnyH_all (rs := [10]) (by kernel_rfl) (by simp) ?_
              intro i hi
              obtain rfl := List.mem_singleton.1 hi; clear hi
              refine wpOp_step rfl (fun K3 hK3 => ?_)
              have HK3 := Lib.hid hK3
              clear hK3
              rw [if_pos (by rfl)]
              simp only [List.getElem_toArray, List.getElem_cons_succ, List.getElem_cons_zero]
              refine wp_copyT (.tmp 29) (.tmp 30) 38 27 4 32 (.agg #[.int .i64 0, .int .i64 0, .int .i64 0, .int .i64 0]) szC Try.underlying38 Try.info27 rfl (by decide) (by decide) (by rfl) w2.heap.size g3 (by rfl) h3 (by rfl) (HL2.out.below hbX) HNL.out (by omega) hbX.size ?_
              intro v3 Y40 ho3 hXY
              replace h1 := h1.kept hXY (own_apart h1 h3 (by decide))
              replace h2 := h2.kept hXY (own_apart h2 h3 (by decide))
              replace hH := Lib.hid ((hXY.block P (Array.getElem?_eq_some_iff.1 hH.out).1 (fun e => by have := (h3.lt P e.symm).1; omega)).trans hH.out)
              replace hbX := hbX.grown hXY hbX.size (fun q hq => (h3.lt q hq).1)
              replace h3 := ho3
              clear hXY ho3
              refine HK3.out _ _ ⟨hH.out, ?_⟩
              clear HK3 K3
              try simp only [List.getElem_toArray, List.getElem_cons_succ, List.getElem_cons_zero, Act.put, List.setIfInBounds_toArray, List.set_cons_zero, List.set_cons_succ]
              refine wpAnyH_take (i := 11) (oi := _) (v := ?_) rfl (by kernel_rfl) (by kernel_rfl) (by kernel_rfl) (fun _ _ _ h => h) (Or.inl ⟨by rfl, ?_⟩) hH.out ?_
              rotate_left
              · intro w1 hSw
                obtain ⟨y0, y1, y2, y3⟩ := four_cells hSw
                clear hSw
                go_simp; with_reducible rfl
              simp only [List.getElem_toArray, List.getElem_cons_succ, List.getElem_cons_zero, Act.put, List.setIfInBounds_toArray, List.set_cons_zero, List.set_cons_succ]
              refine wpAnyH_take (i := 12) (oi := _) (v := ?_) rfl (by kernel_rfl) (by kernel_rfl) (by kernel_rfl) (fun _ _ _ h => h) (Or.inl ⟨by rfl, ?_⟩) hH.out ?_
              rotate_left
              · intro w1 hSw
                obtain ⟨y0, y1, y2, y3⟩ := four_cells hSw
                clear hSw
                go_simp; with_reducible rfl
              simp only [List.getElem_toArray, List.getElem_cons_succ, List.getElem_cons_zero, Act.put, List.setIfInBounds_toArray, List.set_cons_zero, List.set_cons_succ]
              refine wpAnyH_take (i := 13) (oi := _) (v := ?_) rfl (by kernel_rfl) (by kernel_rfl) (by kernel_rfl) (fun _ _ _ h => h) (Or.inl ⟨by rfl, ?_⟩) hH.out ?_
              rotate_left
              · intro w1 hSw
                obtain ⟨y0, y1, y2, y3⟩ := four_cells hSw
                clear hSw
                go_simp; with_reducible rfl
              simp only [List.getElem_toArray, List.getElem_cons_succ, List.getElem_cons_zero, Act.put, List.setIfInBounds_toArray, List.set_cons_zero, List.set_cons_succ]
              refine wpAnyH_done (by kernel_rfl) ?_ _
              go_wp2
              go_meet
              case rel => exact ⟨tab_of_own h1 rfl (by unfold maxLen; omega), tab_of_own h2 rfl (by unfold maxLen; omega), tab_of_own h3 rfl (by unfold maxLen; omega), hbX⟩
            ·
              obtain rfl := List.mem_singleton.1 hi; clear hi
              refine wpOp_step rfl (fun K3 hK3 => ?_)
              have HK3 := Lib.hid hK3
              clear hK3
              rw [if_pos (by rfl)]
              go_simp
              obtain ⟨g3, eg3⟩ : ∃ g, g = Y37.heap.size := ⟨_, rfl⟩
              obtain ⟨Y41, eY⟩ : ∃ Y, Y = Y37.alloc (.cells #[] 27) := ⟨_, rfl⟩
              have hXY : Y37.grownBy Y41 none := by rw [eY]; exact World.grownBy_alloc _ _ _
              have h3 : Y41.ownsRow w2.heap.size 27 4 (.slice (some ⟨g3, 0, none⟩) 0 0) 0 [] := by rw [eY, eg3]; exact World.ownsRow_lit Y37 #[] 0 hbX.size (by decide) rfl
              rw [← eY, ← eg3]
              clear eY
              replace h1 := h1.kept hXY (own_none _)
              replace h2 := h2.kept hXY (own_none _)
              replace hH := Lib.hid ((hXY.block P (Array.getElem?_eq_some_iff.1 hH.out).1 (by simp)).trans hH.out)
              replace hbX := hbX.grown hXY hbX.size (fun q hq => by cases hq)
              clear hXY eg3
              refine HK3.out _ _ ⟨hH.out, ?_⟩
              clear HK3 K3
              try simp only [List.getElem_toArray, List.getElem_cons_succ, List.getElem_cons_zero, Act.put, List.setIfInBounds_toArray, List.set_cons_zero, List.set_cons_succ]
              refine wpAnyH_all (rs := [7]) (by kernel_rfl) (by simp) ?_
              intro i hi
              obtain rfl := List.mem_singleton.1 hi; clear hi
              refine wpOp_step rfl (fun K3 hK3 => ?_)
              have HK3 := Lib.hid hK3
              clear hK3
              rw [if_pos (by rfl)]
              simp only [List.getElem_toArray, List.getElem_cons_succ, List.getElem_cons_zero]
              refine wp_copyT (.tmp 25) (.tmp 27) 23 65 2 16 (.agg #[.int .i64 0, .int .i64 0]) rlC Try.underlying23 Try.info65 rfl (by decide) (by decide) (by rfl) w2.heap.size g2 (by rfl) h2 (by rfl) (HH2.out.rl.below hbX) HNR.out ht17.2 hbX.size ?_
              intro v2 Y42 ho2 hXY
              replace h1 := h1.kept hXY (own_apart h1 h2 (by decide))
              replace h3 := h3.kept hXY (own_apart h3 h2 (by decide))
              replace hH := Lib.hid ((hXY.block P (Array.getElem?_eq_some_iff.1 hH.out).1 (fun e => by have := (h2.lt P e.symm).1; omega)).trans hH.out)
              replace hbX := hbX.grown hXY hbX.size (fun q hq => (h2.lt q hq).1)
              replace h2 := ho2
              clear hXY ho2
              refine HK3.out _ _ ⟨hH.out, ?_⟩
              clear HK3 K3
              try simp only [List.getElem_toArray, List.getElem_cons_succ, List.getElem_cons_zero, Act.put, List.setIfInBounds_toArray, List.set_cons_zero, List.set_cons_succ]
              refine wpAnyH_all (rs := [10]) (by kernel_rfl) (by simp) ?_
              intro i hi
              obtain rfl := List.mem_singleton.1 hi; clear hi
              refine wpOp_step rfl (fun K3 hK3 => ?_)
              have HK3 := Lib.hid hK3
              clear hK3
              rw [if_pos (by rfl)]
              simp only [List.getElem_toArray, List.getElem_cons_succ, List.getElem_cons_zero]
              refine wp_copyT (.tmp 29) (.tmp 30) 38 27 4 32 (.agg #[.int .i64 0, .int .i64 0, .int .i64 0, .int .i64 0]) szC Try.underlying38 Try.info27 rfl (by decide) (by decide) (by rfl) w2.heap.size g3 (by rfl) h3 (by rfl) (HL2.out.below hbX) HNL.out (by omega) hbX.size ?_
              intro v3 Y43 ho3 hXY
              replace h1 := h1.kept hXY (own_apart h1 h3 (by decide))
              replace h2 := h2.kept hXY (own_apart h2 h3 (by decide))
              replace hH := Lib.hid ((hXY.block P (Array.getElem?_eq_some_iff.1 hH.out).1 (fun e => by have := (h3.lt P e.symm).1; omega)).trans hH.out)
              replace hbX := hbX.grown hXY hbX.size (fun q hq => (h3.lt q hq).1)
              replace h3 := ho3
              clear hXY ho3
              refine HK3.out _ _ ⟨hH.out, ?_⟩
              clear HK3 K3
              try simp only [List.getElem_toArray, List.getElem_cons_succ, List.getElem_cons_zero, Act.put, List.setIfInBounds_toArray, List.set_cons_zero, List.set_cons_succ]
              refine wpAnyH_take (i := 11) (oi := _) (v := ?_) rfl (by kernel_rfl) (by kernel_rfl) (by kernel_rfl) (fun _ _ _ h => h) (Or.inl ⟨by rfl, ?_⟩) hH.out ?_
              rotate_left
              · intro w1 hSw
                obtain ⟨y0, y1, y2, y3⟩ := four_cells hSw
                clear hSw
                go_simp; with_reducible rfl
              simp only [List.getElem_toArray, List.getElem_cons_succ, List.getElem_cons_zero, Act.put, List.setIfInBounds_toArray, List.set_cons_zero, List.set_cons_succ]
              refine wpAnyH_take (i := 12) (oi := _) (v := ?_) rfl (by kernel_rfl) (by kernel_rfl) (by kernel_rfl) (fun _ _ _ h => h) (Or.inl ⟨by rfl, ?_⟩) hH.out ?_
              rotate_left
              · intro w1 hSw
                obtain ⟨y0, y1, y2, y3⟩ := four_cells hSw
                clear hSw
                go_simp; with_reducible rfl
              simp only [List.getElem_toArray, List.getElem_cons_succ, List.getElem_cons_zero, Act.put, List.setIfInBounds_toArray, List.set_cons_zero, List.set_cons_succ]
              refine wpAnyH_take (i := 13) (oi := _) (v := ?_) rfl (by kernel_rfl) (by kernel_rfl) (by kernel_rfl) (fun _ _ _ h => h) (Or.inl ⟨by rfl, ?_⟩) hH.out ?_
              rotate_left
              · intro w1 hSw
                obtain ⟨y0, y1, y2, y3⟩ := four_cells hSw
                clear hSw
                go_simp; with_reducible rfl
              simp only [List.getElem_toArray, List.getElem_cons_succ, List.getElem_cons_zero, Act.put, List.setIfInBounds_toArray, List.set_cons_zero, List.set_cons_succ]
              refine wpAnyH_done (by kernel_rfl) ?_ _
              go_wp2
              go_meet
              case rel => exact ⟨tab_of_own h1 rfl (by unfold maxLen; omega), tab_of_own h2 rfl (by unfold maxLen; omega), tab_of_own h3 rfl (by unfold maxLen; omega), hbX⟩
          ·
            obtain rfl := List.mem_singleton.1 hi; clear hi
            refine wpOp_step rfl (fun K3 hK3 => ?_)
            have HK3 := Lib.hid hK3
            clear hK3
            rw [if_pos (by rfl)]
            go_simp
            obtain ⟨g3, eg3⟩ : ∃ g, g = Y36.heap.size := ⟨_, rfl⟩
            obtain ⟨Y44, eY⟩ : ∃ Y, Y = Y36.alloc (.cells #[] 27) := ⟨_, rfl⟩
            have hXY : Y36.grownBy Y44 none := by rw [eY]; exact World.grownBy_alloc _ _ _
            have h3 : Y44.ownsRow w2.heap.size 27 4 (.slice (some ⟨g3, 0, none⟩) 0 0) 0 [] := by rw [eY, eg3]; exact World.ownsRow_lit Y36 #[] 0 hbX.size (by decide) rfl
            rw [← eY, ← eg3]
            clear eY
            replace h1 := h1.kept hXY (own_none _)
            replace h2 := h2.kept hXY (own_none _)
            replace hH := Lib.hid ((hXY.block P (Array.getElem?_eq_some_iff.1 hH.out).1 (by simp)).trans hH.out)
            replace hbX := hbX.grown hXY hbX.size (fun q hq => by cases hq)
            clear hXY eg3
            refine HK3.out _ _ ⟨hH.out, ?_⟩
            clear HK3 K3
            try simp only [List.getElem_toArray, List.getElem_cons_succ, List.getElem_cons_zero, Act.put, List.setIfInBounds_toArray, List.set_cons_zero, List.set_cons_succ]
            refine wpAnyH_all (rs := [3]) (by kernel_rfl) (by simp) ?_
            intro i hi
            obtain rfl := List.mem_singleton.1 hi; clear hi
            refine wpOp_step rfl (fun K3 hK3 => ?_)
            have HK3 := Lib.hid hK3
            clear hK3
            rw [if_pos (by rfl)]
            simp only [List.getElem_toArray, List.getElem_cons_succ, List.getElem_cons_zero]
            refine wp_copyT (.tmp 21) (.tmp 23) 22 52 3 24 (.agg #[.int .i64 0, .int .i64 0, .int .i64 0]) tpC Try.underlying22 Try.info52 rfl (by decide) (by decide) (by rfl) w2.heap.size g1 (by rfl) h1 (by rfl) (HH2.out.tp.below hbX) HNT.out ht17.1 hbX.size ?_
            intro v1 Y45 ho1 hXY
            replace h2 := h2.kept hXY (own_apart h2 h1 (by decide))
            replace h3 := h3.kept hXY (own_apart h3 h1 (by decide))
            replace hH := Lib.hid ((hXY.block P (Array.getElem?_eq_some_iff.1 hH.out).1 (fun e => by have := (h1.lt P e.symm).1; omega)).trans hH.out)
            replace hbX := hbX.grown hXY hbX.size (fun q hq => (h1.lt q hq).1)
            replace h1 := ho1
            clear hXY ho1
            refine HK3.out _ _ ⟨hH.out, ?_⟩
            clear HK3 K3
            try simp only [List.getElem_toArray, List.getElem_cons_succ, List.getElem_cons_zero, Act.put, List.setIfInBounds_toArray, List.set_cons_zero, List.set_cons_succ]
            refine wpAnyH_all (rs := [7]) (by kernel_rfl) (by simp) ?_
            intro i hi
            obtain rfl := List.mem_singleton.1 hi; clear hi
            refine wpOp_step rfl (fun K3 hK3 => ?_)
            have HK3 := Lib.hid hK3
            clear hK3
            rw [if_pos (by rfl)]
            simp only [List.getElem_toArray, List.getElem_cons_succ, List.getElem_cons_zero]
            refine wp_copyT (.tmp 25) (.tmp 27) 23 65 2 16 (.agg #[.int .i64 0, .int .i64 0]) rlC Try.underlying23 Try.info65 rfl (by decide) (by decide) (by rfl) w2.heap.size g2 (by rfl) h2 (by rfl) (HH2.out.rl.below hbX) HNR.out ht17.2 hbX.size ?_
            intro v2 Y46 ho2 hXY
            replace h1 := h1.kept hXY (own_apart h1 h2 (by decide))
            replace h3 := h3.kept hXY (own_apart h3 h2 (by decide))
            replace hH := Lib.hid ((hXY.block P (Array.getElem?_eq_some_iff.1 hH.out).1 (fun e => by have := (h2.lt P e.symm).1; omega)).trans hH.out)
            replace hbX := hbX.grown hXY hbX.size (fun q hq => (h2.lt q hq).1)
            replace h2 := ho2
            clear hXY ho2
            refine HK3.out _ _ ⟨hH.out, ?_⟩
            clear HK3 K3
            try simp only [List.getElem_toArray, List.getElem_cons_succ, List.getElem_cons_zero, Act.put, List.setIfInBounds_toArray, List.set_cons_zero, List.set_cons_succ]
            refine wpAnyH_all (rs := [10]) (by kernel_rfl) (by simp) ?_
            intro i hi
            obtain rfl := List.mem_singleton.1 hi; clear hi
            refine wpOp_step rfl (fun K3 hK3 => ?_)
            have HK3 := Lib.hid hK3
            clear hK3
            rw [if_pos (by rfl)]
            simp only [List.getElem_toArray, List.getElem_cons_succ, List.getElem_cons_zero]
            refine wp_copyT (.tmp 29) (.tmp 30) 38 27 4 32 (.agg #[.int .i64 0, .int .i64 0, .int .i64 0, .int .i64 0]) szC Try.underlying38 Try.info27 rfl (by decide) (by decide) (by rfl) w2.heap.size g3 (by rfl) h3 (by rfl) (HL2.out.below hbX) HNL.out (by omega) hbX.size ?_
            intro v3 Y47 ho3 hXY
            replace h1 := h1.kept hXY (own_apart h1 h3 (by decide))
            replace h2 := h2.kept hXY (own_apart h2 h3 (by decide))
            replace hH := Lib.hid ((hXY.block P (Array.getElem?_eq_some_iff.1 hH.out).1 (fun e => by have := (h3.lt P e.symm).1; omega)).trans hH.out)
            replace hbX := hbX.grown hXY hbX.size (fun q hq => (h3.lt q hq).1)
            replace h3 := ho3
            clear hXY ho3
            refine HK3.out _ _ ⟨hH.out, ?_⟩
            clear HK3 K3
            try simp only [List.getElem_toArray, List.getElem_cons_succ, List.getElem_cons_zero, Act.put, List.setIfInBounds_toArray, List.set_cons_zero, List.set_cons_succ]
            refine wpAnyH_take (i := 11) (oi := _) (v := ?_) rfl (by kernel_rfl) (by kernel_rfl) (by kernel_rfl) (fun _ _ _ h => h) (Or.inl ⟨by rfl, ?_⟩) hH.out ?_
            rotate_left
            · intro w1 hSw
              obtain ⟨y0, y1, y2, y3⟩ := four_cells hSw
              clear hSw
              go_simp; with_reducible rfl
            simp only [List.getElem_toArray, List.getElem_cons_succ, List.getElem_cons_zero, Act.put, List.setIfInBounds_toArray, List.set_cons_zero, List.set_cons_succ]
            refine wpAnyH_take (i := 12) (oi := _) (v := ?_) rfl (by kernel_rfl) (by kernel_rfl) (by kernel_rfl) (fun _ _ _ h => h) (Or.inl ⟨by rfl, ?_⟩) hH.out ?_
            rotate_left
            · intro w1 hSw
              obtain ⟨y0, y1, y2, y3⟩ := four_cells hSw
              clear hSw
              go_simp; with_reducible rfl
            simp only [List.getElem_toArray, List.getElem_cons_succ, List.getElem_cons_zero, Act.put, List.setIfInBounds_toArray, List.set_cons_zero, List.set_cons_succ]
            refine wpAnyH_take (i := 13) (oi := _) (v := ?_) rfl (by kernel_rfl) (by kernel_rfl) (by kernel_rfl) (fun _ _ _ h => h) (Or.inl ⟨by rfl, ?_⟩) hH.out ?_
            rotate_left
            · intro w1 hSw
              obtain ⟨y0, y1, y2, y3⟩ := four_cells hSw
              clear hSw
              go_simp; with_reducible rfl
            simp only [List.getElem_toArray, List.getElem_cons_succ, List.getElem_cons_zero, Act.put, List.setIfInBounds_toArray, List.set_cons_zero, List.set_cons_succ]
            refine wpAnyH_done (by kernel_rfl) ?_ _
            go_wp2
            go_meet
            case rel => exact ⟨tab_of_own h1 rfl (by unfold maxLen; omega), tab_of_own h2 rfl (by unfold maxLen; omega), tab_of_own h3 rfl (by unfold maxLen; omega), hbX⟩
        ·
          obtain rfl := List.mem_singleton.1 hi; clear hi
          refine wpOp_step rfl (fun K3 hK3 => ?_)
          have HK3 := Lib.hid hK3
          clear hK3
          rw [if_pos (by rfl)]
          go_simp
          obtain ⟨g3, eg3⟩ : ∃ g, g = Y35.heap.size := ⟨_, rfl⟩
          obtain ⟨Y48, eY⟩ : ∃ Y, Y = Y35.alloc (.cells #[] 27) := ⟨_, rfl⟩
          have hXY : Y35.grownBy Y48 none := by rw [eY]; exact World.grownBy_alloc _ _ _
          have h3 : Y48.ownsRow w2.heap.size 27 4 (.slice (some ⟨g3, 0, none⟩) 0 0) 0 [] := by rw [eY, eg3]; exact World.ownsRow_lit Y35 #[] 0 hbX.size (by decide) rfl
          rw [← eY, ← eg3]
          clear eY
          replace h2 := h2.kept hXY (own_none _)
          replace hH := Lib.hid ((hXY.block P (Array.getElem?_eq_some_iff.1 hH.out).1 (by simp)).trans hH.out)
          replace hbX := hbX.grown hXY hbX.size (fun q hq => by cases hq)
          clear hXY eg3
          refine HK3.out _ _ ⟨hH.out, ?_⟩
          clear HK3 K3
          try simp only [List.getElem_toArray, List.getElem_cons_succ, List.getElem_cons_zero, Act.put, List.setIfInBounds_toArray, List.set_cons_zero, List.set_cons_succ]
          refine wpAnyH_all (rs := [0]) (by kernel_rfl) (by simp) ?_
          intro i hi
          obtain rfl := List.mem_singleton.1 hi; clear hi
          refine wpOp_step rfl (fun K3 hK3 => ?_)
          have HK3 := Lib.hid hK3
          clear hK3
          rw [if_pos (by rfl)]
          go_simp
          obtain ⟨g1, eg1⟩ : ∃ g, g = Y48.heap.size := ⟨_, rfl⟩
          obtain ⟨Y49, eY⟩ : ∃ Y, Y = Y48.alloc (.cells #[] 52) := ⟨_, rfl⟩
          have hXY : Y48.grownBy Y49 none := by rw [eY]; exact World.grownBy_alloc _ _ _
          have h1 : Y49.ownsRow w2.heap.size 52 3 (.slice (some ⟨g1, 0, none⟩) 0 0) 0 [] := by rw [eY, eg1]; exact World.ownsRow_lit Y48 #[] 0 hbX.size (by decide) rfl
          rw [← eY, ← eg1]
          clear eY
          replace h2 := h2.kept hXY (own_none _)
          replace h3 := h3.kept hXY (own_none _)
          replace hH := Lib.hid ((hXY.block P (Array.getElem?_eq_some_iff.1 hH.out).1 (by simp)).trans hH.out)
          replace hbX := hbX.grown hXY hbX.size (fun q hq => by cases hq)
          clear hXY eg1
          refine HK3.out _ _ ⟨hH.out, ?_⟩
          clear HK3 K3
          try simp only [List.getElem_toArray, List.getElem_cons_succ, List.getElem_cons_zero, Act.put, List.setIfInBounds_toArray, List.set_cons_zero, List.set_cons_succ]
          refine wpAnyH_all (rs := [3]) (by kernel_rfl) (by simp) ?_
          intro i hi
          obtain rfl := List.mem_singleton.1 hi; clear hi
          refine wpOp_step rfl (fun K3 hK3 => ?_)
          have HK3 := Lib.hid hK3
          clear hK3
          rw [if_pos (by rfl)]
          simp only [List.getElem_toArray, List.getElem_cons_succ, List.getElem_cons_zero]
          refine wp_copyT (.tmp 21) (.tmp 23) 22 52 3 24 (.agg #[.int .i64 0, .int .i64 0, .int .i64 0]) tpC Try.underlying22 Try.info52 rfl (by decide) (by decide) (by rfl) w2.heap.size g1 (by rfl) h1 (by rfl) (HH2.out.tp.below hbX) HNT.out ht17.1 hbX.size ?_
          intro v1 Y50 ho1 hXY
          replace h2 := h2.kept hXY (own_apart h2 h1 (by decide))
          replace h3 := h3.kept hXY (own_apart h3 h1 (by decide))
          replace hH := Lib.hid ((hXY.block P (Array.getElem?_eq_some_iff.1 hH.out).1 (fun e => by have := (h1.lt P e.symm).1; omega)).trans hH.out)
          replace hbX := hbX.grown hXY hbX.size (fun q hq => (h1.lt q hq).1)
          replace h1 := ho1
          clear hXY ho1
          refine HK3.out _ _ ⟨hH.out, ?_⟩
          clear HK3 K3
          try simp only [List.getElem_toArray, List.getElem_cons_succ, List.getElem_cons_zero, Act.put, List.setIfInBounds_toArray, List.set_cons_zero, List.set_cons_succ]
          refine wpAnyH_all (rs := [7]) (by kernel_rfl) (by simp) ?_
          intro i hi
          obtain rfl := List.mem_singleton.1 hi; clear hi
          refine wpOp_step rfl (fun K3 hK3 => ?_)
          have HK3 := Lib.hid hK3
          clear hK3
          rw [if_pos (by rfl)]
          simp only [List.getElem_toArray, List.getElem_cons_succ, List.getElem_cons_zero]
          refine wp_copyT (.tmp 25) (.tmp 27) 23 65 2 16 (.agg #[.int .i64 0, .int .i64 0]) rlC Try.underlying23 Try.info65 rfl (by decide) (by decide) (by rfl) w2.heap.size g2 (by rfl) h2 (by rfl) (HH2.out.rl.below hbX) HNR.out ht17.2 hbX.size ?_
          intro v2 Y51 ho2 hXY
          replace h1 := h1.kept hXY (own_apart h1 h2 (by decide))
          replace h3 := h3.kept hXY (own_apart h3 h2 (by decide))
          replace hH := Lib.hid ((hXY.block P (Array.getElem?_eq_some_iff.1 hH.out).1 (fun e => by have := (h2.lt P e.symm).1; omega)).trans hH.out)
          replace hbX := hbX.grown hXY hbX.size (fun q hq => (h2.lt q hq).1)
          replace h2 := ho2
          clear hXY ho2
          refine HK3.out _ _ ⟨hH.out, ?_⟩
          clear HK3 K3
          try simp only [List.getElem_toArray, List.getElem_cons_succ, List.getElem_cons_zero, Act.put, List.setIfInBounds_toArray, List.set_cons_zero, List.set_cons_succ]
          refine wpAnyH_all (rs := [10]) (by kernel_rfl) (by simp) ?_
          intro i hi
          obtain rfl := List.mem_singleton.1 hi; clear hi
          refine wpOp_step rfl (fun K3 hK3 => ?_)
          have HK3 := Lib.hid hK3
          clear hK3
          rw [if_pos (by rfl)]
          simp only [List.getElem_toArray, List.getElem_cons_succ, List.getElem_cons_zero]
          refine wp_copyT (.tmp 29) (.tmp 30) 38 27 4 32 (.agg #[.int .i64 0, .int .i64 0, .int .i64 0, .int .i64 0]) szC Try.underlying38 Try.info27 rfl (by decide) (by decide) (by rfl) w2.heap.size g3 (by rfl) h3 (by rfl) (HL2.out.below hbX) HNL.out (by omega) hbX.size ?_
          intro v3 Y52 ho3 hXY
          replace h1 := h1.kept hXY (own_apart h1 h3 (by decide))
          replace h2 := h2.kept hXY (own_apart h2 h3 (by decide))
          replace hH := Lib.hid ((hXY.block P (Array.getElem?_eq_some_iff.1 hH.out).1 (fun e => by have := (h3.lt P e.symm).1; omega)).trans hH.out)
          replace hbX := hbX.grown hXY hbX.size (fun q hq => (h3.lt q hq).1)
          replace h3 := ho3
          clear hXY ho3
          refine HK3.out _ _ ⟨hH.out, ?_⟩
          clear HK3 K3
          try simp only [List.getElem_toArray, List.getElem_cons_succ, List.getElem_cons_zero, Act.put, List.setIfInBounds_toArray, List.set_cons_zero, List.set_cons_succ]
          refine wpAnyH_take (i := 11) (oi := _) (v := ?_) rfl (by kernel_rfl) (by kernel_rfl) (by kernel_rfl) (fun _ _ _ h => h) (Or.inl ⟨by rfl, ?_⟩) hH.out ?_
          rotate_left
          · intro w1 hSw
            obtain ⟨y0, y1, y2, y3⟩ := four_cells hSw
            clear hSw
            go_simp; with_reducible rfl
          simp only [List.getElem_toArray, List.getElem_cons_succ, List.getElem_cons_zero, Act.put, List.setIfInBounds_toArray, List.set_cons_zero, List.set_cons_succ]
          refine wpAnyH_take (i := 12) (oi := _) (v := ?_) rfl (by kernel_rfl) (by kernel_rfl) (by kernel_rfl) (fun _ _ _ h => h) (Or.inl ⟨by rfl, ?_⟩) hH.out ?_
          rotate_left
          · intro w1 hSw
            obtain ⟨y0, y1, y2, y3⟩ := four_cells hSw
            clear hSw
            go_simp; with_reducible rfl
          simp only [List.getElem_toArray, List.getElem_cons_succ, List.getElem_cons_zero, Act.put, List.setIfInBounds_toArray, List.set_cons_zero, List.set_cons_succ]
          refine wpAnyH_take (i := 13) (oi := _) (v := ?_) rfl (by kernel_rfl) (by kernel_rfl) (by kernel_rfl) (fun _ _ _ h => h) (Or.inl ⟨by rfl, ?_⟩) hH.out ?_
          rotate_left
          · intro w1 hSw
            obtain ⟨y0, y1, y2, y3⟩ := four_cells hSw
            clear hSw
            go_simp; with_reducible rfl
          simp only [List.getElem_toArray, List.getElem_cons_succ, List.getElem_cons_zero, Act.put, List.setIfInBounds_toArray, List.set_cons_zero, List.set_cons_succ]
          refine wpAnyH_done (by kernel_rfl) ?_ _
          go_wp2
          go_meet
          case rel => exact ⟨tab_of_own h1 rfl (by unfold maxLen; omega), tab_of_own h2 rfl (by unfold maxLen; omega), tab_of_own h3 rfl (by unfold maxLen; omega), hbX⟩
      ·
        obtain rfl := List.mem_singleton.1 hi; clear hi
        refine wpOp_step rfl (fun K3 hK3 => ?_)
        have HK3 := Lib.hid hK3
        clear hK3
        rw [if_pos (by rfl)]
        go_simp
        obtain ⟨g3, eg3⟩ : ∃ g, g = Y0.heap.size := ⟨_, rfl⟩
        obtain ⟨Y53, eY⟩ : ∃ Y, Y = Y0.alloc (.cells #[] 27) := ⟨_, rfl⟩
        have hXY : Y0.grownBy Y53 none := by rw [eY]; exact World.grownBy_alloc _ _ _
        have h3 : Y53.ownsRow w2.heap.size 27 4 (.slice (some ⟨g3, 0, none⟩) 0 0) 0 [] := by rw [eY, eg3]; exact World.ownsRow_lit Y0 #[] 0 hbX.size (by decide) rfl
        rw [← eY, ← eg3]
        clear eY
        replace hH := Lib.hid ((hXY.block P (Array.getElem?_eq_some_iff.1 hH.out).1 (by simp)).trans hH.out)
        replace hbX := hbX.grown hXY hbX.size (fun q hq => by cases hq)
        clear hXY eg3
        refine HK3.out _ _ ⟨hH.out, ?_⟩
        clear HK3 K3
        try simp only [List.getElem_toArray, List.getElem_cons_succ, List.getElem_cons_zero, Act.put, List.setIfInBounds_toArray, List.set_cons_zero, List.set_cons_succ]
        refine wpAnyH_all (rs := [0, 4]) (by kernel_rfl) (by simp) ?_
        intro i hi
        rcases List.mem_cons.1 hi with rfl | hi
        ·
          refine wpOp_step rfl (fun K3 hK3 => ?_)
          have HK3 := Lib.hid hK3
          clear hK3
          rw [if_pos (by rfl)]
          go_simp
          obtain ⟨g1, eg1⟩ : ∃ g, g = Y53.heap.size := ⟨_, rfl⟩
          obtain ⟨Y54, eY⟩ : ∃ Y, Y = Y53.alloc (.cells #[] 52) := ⟨_, rfl⟩
          have hXY : Y53.grownBy Y54 none := by rw [eY]; exact World.grownBy_alloc _ _ _
          have h1 : Y54.ownsRow w2.heap.size 52 3 (.slice (some ⟨g1, 0, none⟩) 0 0) 0 [] := by rw [eY, eg1]; exact World.ownsRow_lit Y53 #[] 0 hbX.size (by decide) rfl
          rw [← eY, ← eg1]
          clear eY
          replace h3 := h3.kept hXY (own_none _)
          replace hH := Lib.hid ((hXY.block P (Array.getElem?_eq_some_iff.1 hH.out).1 (by simp)).trans hH.out)
          replace hbX := hbX.grown hXY hbX.size (fun q hq => by cases hq)
          clear hXY eg1
          refine HK3.out _ _ ⟨hH.out, ?_⟩
          clear HK3 K3
          try simp only [List.getElem_toArray, List.getElem_cons_succ, List.getElem_cons_zero, Act.put, List.setIfInBounds_toArray, List.set_cons_zero, List.set_cons_succ]
          refine wpAnyH_all (rs := [3, 4]) (by kernel_rfl) (by simp) ?_
          intro i hi
          rcases List.mem_cons.1 hi with rfl | hi
          ·
            refine wpOp_step rfl (fun K3 hK3 => ?_)
            have HK3 := Lib.hid hK3
            clear hK3
            rw [if_pos (by rfl)]
            simp only [List.getElem_toArray, List.getElem_cons_succ, List.getElem_cons_zero]
            refine wp_copyT (.tmp 21) (.tmp 23) 22 52 3 24 (.agg #[.int .i64 0, .int .i64 0, .int .i64 0]) tpC Try.underlying22 Try.info52 rfl (by decide) (by decide) (by rfl) w2.heap.size g1 (by rfl) h1 (by rfl) (HH2.out.tp.below hbX) HNT.out ht17.1 hbX.size ?_
            intro v1 Y55 ho1 hXY
            replace h3 := h3.kept hXY (own_apart h3 h1 (by decide))
            replace hH := Lib.hid ((hXY.block P (Array.getElem?_eq_some_iff.1 hH.out).1 (fun e => by have := (h1.lt P e.symm).1; omega)).trans hH.out)
            replace hbX := hbX.grown hXY hbX.size (fun q hq => (h1.lt q hq).1)
            replace h1 := ho1
            clear hXY ho1
            refine HK3.out _ _ ⟨hH.out, ?_⟩
            clear HK3 K3
            try simp only [List.getElem_toArray, List.getElem_cons_succ, List.getElem_cons_zero, Act.put, List.setIfInBounds_toArray, List.set_cons_zero, List.set_cons_succ]
            refine wpAnyH_all (rs := [4]) (by kernel_rfl) (by simp) ?_
            intro i hi
            obtain rfl := List.mem_singleton.1 hi; clear hi
            refine wpOp_step rfl (fun K3 hK3 => ?_)
            have HK3 := Lib.hid hK3
            clear hK3
            rw [if_pos (by rfl)]
            go_simp
            obtain ⟨g2, eg2⟩ : ∃ g, g = Y55.heap.size := ⟨_, rfl⟩
            obtain ⟨Y56, eY⟩ : ∃ Y, Y = Y55.alloc (.cells #[] 65) := ⟨_, rfl⟩
            have hXY : Y55.grownBy Y56 none := by rw [eY]; exact World.grownBy_alloc _ _ _
            have h2 : Y56.ownsRow w2.heap.size 65 2 (.slice (some ⟨g2, 0, none⟩) 0 0) 0 [] := by rw [eY, eg2]; exact World.ownsRow_lit Y55 #[] 0 hbX.size (by decide) rfl
            rw [← eY, ← eg2]
            clear eY
            replace h1 := h1.kept hXY (own_none _)
            replace h3 := h3.kept hXY (own_none _)
            replace hH := Lib.hid ((hXY.block P (Array.getElem?_eq_some_iff.1 hH.out).1 (by simp)).trans hH.out)
            replace hbX := hbX.grown hXY hbX.size (fun q hq => by cases hq)
            clear hXY eg2
            refine HK3.out _ _ ⟨hH.out, ?_⟩
            clear HK3 K3
            try simp only [List.getElem_toArray, List.getElem_cons_succ, List.getElem_cons_zero, Act.put, List.setIfInBounds_toArray, List.set_cons_zero, List.set_cons_succ]
            refine wpAnyH_all (rs := [7]) (by kernel_rfl) (by simp) ?_
            intro i hi
            obtain rfl := List.mem_singleton.1 hi; clear hi
            refine wpOp_step rfl (fun K3 hK3 => ?_)
            have HK3 := Lib.hid hK3
            clear hK3
            rw [if_pos (by rfl)]
            simp only [List.getElem_toArray, List.getElem_cons_succ, List.getElem_cons_zero]
            refine wp_copyT (.tmp 25) (.tmp 27) 23 65 2 16 (.agg #[.int .i64 0, .int .i64 0]) rlC Try.underlying23 Try.info65 rfl (by decide) (by decide) (by rfl) w2.heap.size g2 (by rfl) h2 (by rfl) (HH2.out.rl.below hbX) HNR.out ht17.2 hbX.size ?_
            intro v2 Y57 ho2 hXY
            replace h1 := h1.kept hXY (own_apart h1 h2 (by decide))
            replace h3 := h3.kept hXY (own_apart h3 h2 (by decide))
            replace hH := Lib.hid ((hXY.block P (Array.getElem?_eq_some_iff.1 hH.out).1 (fun e => by have := (h2.lt P e.symm).1; omega)).trans hH.out)
            replace hbX := hbX.grown hXY hbX.size (fun q hq => (h2.lt q hq).1)
            replace h2 := ho2
            clear hXY ho2
            refine HK3.out _ _ ⟨hH.out, ?_⟩
            clear HK3 K3
            try simp only [List.getElem_toArray, List.getElem_cons_succ, List.getElem_cons_zero, Act.put, List.setIfInBounds_toArray, List.set_cons_zero, List.set_cons_succ]
            refine wpAnyH_all (rs := [10]) (by kernel_rfl) (by simp) ?_
            intro i hi
            obtain rfl := List.mem_singleton.1 hi; clear hi
            refine wpOp_step rfl (fun K3 hK3 => ?_)
            have HK3 := Lib.hid hK3
            clear hK3
            rw [if_pos (by rfl)]
            simp only [List.getElem_toArray, List.getElem_cons_succ, List.getElem_cons_zero]
            refine wp_copyT (.tmp 29) (.tmp 30) 38 27 4 32 (.agg #[.int .i64 0, .int .i64 0, .int .i64 0, .int .i64 0]) szC Try.underlying38 Try.info27 rfl (by decide) (by decide) (by rfl) w2.heap.size g3 (by rfl) h3 (by rfl) (HL2.out.below hbX) HNL.out (by omega) hbX.size ?_
            intro v3 Y58 ho3 hXY
            replace h1 := h1.kept hXY (own_apart h1 h3 (by decide))
            replace h2 := h2.kept hXY (own_apart h2 h3 (by decide))
            replace hH := Lib.hid ((hXY.block P (Array.getElem?_eq_some_iff.1 hH.out).1 (fun e => by have := (h3.lt P e.symm).1; omega)).trans hH.out)
            replace hbX := hbX.grown hXY hbX.size (fun q hq => (h3.lt q hq).1)
            replace h3 := ho3
            clear hXY ho3
            refine HK3.out _ _ ⟨hH.out, ?_⟩
            clear HK3 K3
            try simp only [List.getElem_toArray, List.getElem_cons_succ, List.getElem_cons_zero, Act.put, List.setIfInBounds_toArray, List.set_cons_zero, List.set_cons_succ]
            refine wpAnyH_take (i := 11) (oi := _) (v := ?_) rfl (by kernel_rfl) (by kernel_rfl) (by kernel_rfl) (fun _ _ _ h => h) (Or.inl ⟨by rfl, ?_⟩) hH.out ?_
            rotate_left
            · intro w1 hSw
              obtain ⟨y0, y1, y2, y3⟩ := four_cells hSw
              clear hSw
              go_simp; with_reducible rfl
            simp only [List.getElem_toArray, List.getElem_cons_succ, List.getElem_cons_zero, Act.put, List.setIfInBounds_toArray, List.set_cons_zero, List.set_cons_succ]
            refine wpAnyH_take (i := 12) (oi := _) (v := ?_) rfl (by kernel_rfl) (by kernel_rfl) (by kernel_rfl) (fun _ _ _ h => h) (Or.inl ⟨by rfl, ?_⟩) hH.out ?_
            rotate_left
            · intro w1 hSw
              obtain ⟨y0, y1, y2, y3⟩ := four_cells hSw
              clear hSw
              go_simp; with_reducible rfl
            simp only [List.getElem_toArray, List.getElem_cons_succ, List.getElem_cons_zero, Act.put, List.setIfInBounds_toArray, List.set_cons_zero, List.set_cons_succ]
            refine wpAnyH_take (i := 13) (oi := _) (v := ?_) rfl (by kernel_rfl) (by kernel_rfl) (by kernel_rfl) (fun _ _ _ h => h) (Or.inl ⟨by rfl, ?_⟩) hH.out ?_
            rotate_left
            · intro w1 hSw
              obtain ⟨y0, y1, y2, y3⟩ := four_cells hSw
              clear hSw
              go_simp; with_reducible rfl
            simp only [List.getElem_toArray, List.getElem_cons_succ, List.getElem_cons_zero, Act.put, List.setIfInBounds_toArray, List.set_cons_zero, List.set_cons_succ]
            refine wpAnyH_done (by kernel_rfl) ?_ _
            go_wp2
            go_meet
            case rel => exact ⟨tab_of_own h1 rfl (by unfold maxLen; omega), tab_of_own h2 rfl (by unfold maxLen; omega), tab_of_own h3 rfl (by unfold maxLen; omega), hbX⟩
          ·
            obtain rfl := List.mem_singleton.1 hi; clear hi
            refine wpOp_step rfl (fun K3 hK3 => ?_)
            have HK3 := Lib.hid hK3
            clear hK3
            rw [if_pos (by rfl)]
            go_simp
            obtain ⟨g2, eg2⟩ : ∃ g, g = Y54.heap.size := ⟨_, rfl⟩
            obtain ⟨Y59, eY⟩ : ∃ Y, Y = Y54.alloc (.cells #[] 65) := ⟨_, rfl⟩
            have hXY : Y54.grownBy Y59 none := by rw [eY]; exact World.grownBy_alloc _ _ _
            have h2 : Y59.ownsRow w2.heap.size 65 2 (.slice (some ⟨g2, 0, none⟩) 0 0) 0 [] := by rw [eY, eg2]; exact World.ownsRow_lit Y54 #[] 0 hbX.size (by decide) rfl
            rw [← eY, ← eg2]
            clear eY
            replace h1 := h1.kept hXY (own_none _)
            replace h3 := h3.kept hXY (own_none _)
            replace hH := Lib.hid ((hXY.block P (Array.getElem?_eq_some_iff.1 hH.out).1 (by simp)).trans hH.out)
            replace hbX := hbX.grown hXY hbX.size (fun q hq => by cases hq)
            clear hXY eg2
            refine HK3.out _ _ ⟨hH.out, ?_⟩
            clear HK3 K3
            try simp only [List.getElem_toArray, List.getElem_cons_succ, List.getElem_cons_zero, Act.put, List.setIfInBounds_toArray, List.set_cons_zero, List.set_cons_succ]
            refine wpAnyH_all (rs := [3]) (by kernel_rfl) (by simp) ?_
            intro i hi
            obtain rfl := List.mem_singleton.1 hi; clear hi
            refine wpOp_step rfl (fun K3 hK3 => ?_)
            have HK3 := Lib.hid hK3
            clear hK3
            rw [if_pos (by rfl)]
            simp only [List.getElem_toArray, List.getElem_cons_succ, List.getElem_cons_zero]
            refine wp_copyT (.tmp 21) (.tmp 23) 22 52 3 24 (.agg #[.int .i64 0, .int .i64 0, .int .i64 0]) tpC Try.underlying22 Try.info52 rfl (by decide) (by decide) (by rfl) w2.heap.size g1 (by rfl) h1 (by rfl) (HH2.out.tp.below hbX) HNT.out ht17.1 hbX.size ?_
            intro v1 Y60 ho1 hXY
            replace h2 := h2.kept hXY (own_apart h2 h1 (by decide))
            replace h3 := h3.kept hXY (own_apart h3 h1 (by decide))
            replace hH := Lib.hid ((hXY.block P (Array.getElem?_eq_some_iff.1 hH.out).1 (fun e => by have := (h1.lt P e.symm).1; omega)).trans hH.out)
            replace hbX := hbX.grown hXY hbX.size (fun q hq => (h1.lt q hq).1)
            replace h1 := ho1
            clear hXY ho1
            refine HK3.out _ _ ⟨hH.out, ?_⟩
            clear HK3 K3
            try simp only [List.getElem_toArray, List.getElem_cons_succ, List.getElem_cons_zero, Act.put, List.setIfInBounds_toArray, List.set_cons_zero, List.set_cons_succ]
            refine wpAnyH_all (rs := [7]) (by kernel_rfl) (by simp) ?_
            intro i hi
            obtain rfl := List.mem_singleton.1 hi; clear hi
            refine wpOp_step rfl (fun K3 hK3 => ?_)
            have HK3 := Lib.hid hK3
            clear hK3
            rw [if_pos (by rfl)]
            simp only [List.getElem_toArray, List.getElem_cons_succ, List.getElem_cons_zero]
            refine wp_copyT (.tmp 25) (.tmp 27) 23 65 2 16 (.agg #[.int .i64 0, .int .i64 0]) rlC Try.underlying23 Try.info65 rfl (by decide) (by decide) (by rfl) w2.heap.size g2 (by rfl) h2 (by rfl) (HH2.out.rl.below hbX) HNR.out ht17.2 hbX.size ?_
            intro v2 Y61 ho2 hXY
            replace h1 := h1.kept hXY (own_apart h1 h2 (by decide))
            replace h3 := h3.kept hXY (own_apart h3 h2 (by decide))
            replace hH := Lib.hid ((hXY.block P (Array.getElem?_eq_some_iff.1 hH.out).1 (fun e => by have := (h2.lt P e.symm).1; omega)).trans hH.out)
            replace hbX := hbX.grown hXY hbX.size (fun q hq => (h2.lt q hq).1)
            replace h2 := ho2
            clear hXY ho2
            refine HK3.out _ _ ⟨hH.out, ?_⟩
            clear HK3 K3
            try simp only [List.getElem_toArray, List.getElem_cons_succ, List.getElem_cons_zero, Act.put, List.setIfInBounds_toArray, List.set_cons_zero, List.set_cons_succ]
            refine wpAnyH_all (rs := [10]) (by kernel_rfl) (by simp) ?_
            intro i hi
            obtain rfl := List.mem_singleton.1 hi; clear hi
            refine wpOp_step rfl (fun K3 hK3 => ?_)
            have HK3 := Lib.hid hK3
            clear hK3
            rw [if_pos (by rfl)]
            simp only [List.getElem_toArray, List.getElem_cons_succ, List.getElem_cons_zero]
            refine wp_copyT (.tmp 29) (.tmp 30) 38 27 4 32 (.agg #[.int .i64 0, .int .i64 0, .int .i64 0, .int .i64 0]) szC Try.underlying38 Try.info27 rfl (by decide) (by decide) (by rfl) w2.heap.size g3 (by rfl) h3 (by rfl) (HL2.out.below hbX) HNL.out (by omega) hbX.size ?_
            intro v3 Y62 ho3 hXY
            replace h1 := h1.kept hXY (own_apart h1 h3 (by decide))
            replace h2 := h2.kept hXY (own_apart h2 h3 (by decide))
            replace hH := Lib.hid ((hXY.block P (Array.getElem?_eq_some_iff.1 hH.out).1 (fun e => by have := (h3.lt P e.symm).1; omega)).trans hH.out)
            replace hbX := hbX.grown hXY hbX.size (fun q hq => (h3.lt q hq).1)
            replace h3 := ho3
            clear hXY ho3
            refine HK3.out _ _ ⟨hH.out, ?_⟩
            clear HK3 K3
            try simp only [List.getElem_toArray, List.getElem_cons_succ, List.getElem_cons_zero, Act.put, List.setIfInBounds_toArray, List.set_cons_zero, List.set_cons_succ]
            refine wpAnyH_take (i := 11) (oi := _) (v := ?_) rfl (by kernel_rfl) (by kernel_rfl) (by kernel_rfl) (fun _ _ _ h => h) (Or.inl ⟨by rfl, ?_⟩) hH.out ?_
            rotate_left
            · intro w1 hSw
              obtain ⟨y0, y1, y2, y3⟩ := four_cells hSw
              clear hSw
              go_simp; with_reducible rfl
            simp only [List.getElem_toArray, List.getElem_cons_succ, List.getElem_cons_zero, Act.put, List.setIfInBounds_toArray, List.set_cons_zero, List.set_cons_succ]
            refine wpAnyH_take (i := 12) (oi := _) (v := ?_) rfl (by kernel_rfl) (by kernel_rfl) (by kernel_rfl) (fun _ _ _ h => h) (Or.inl ⟨by rfl, ?_⟩) hH.out ?_
            rotate_left
            · intro w1 hSw
              obtain ⟨y0, y1, y2, y3⟩ := four_cells hSw
              clear hSw
              go_simp; with_reducible rfl
            simp only [List.getElem_toArray, List.getElem_cons_succ, List.getElem_cons_zero, Act.put, List.setIfInBounds_toArray, List.set_cons_zero, List.set_cons_succ]
            refine wpAnyH_take (i := 13) (oi := _) (v := ?_) rfl (by kernel_rfl) (by kernel_rfl) (by kernel_rfl) (fun _ _ _ h => h) (Or.inl ⟨by rfl, ?_⟩) hH.out ?_
            rotate_left
            · intro w1 hSw
              obtain ⟨y0, y1, y2, y3⟩ := four_cells hSw
              clear hSw
              go_simp; with_reducible rfl
            simp only [List.getElem_toArray, List.getElem_cons_succ, List.getElem_cons_zero, Act.put, List.setIfInBounds_toArray, List.set_cons_zero, List.set_cons_succ]
            refine wpAnyH_done (by kernel_rfl) ?_ _
            go_wp2
            go_meet
            case rel => exact ⟨tab_of_own h1 rfl (by unfold maxLen; omega), tab_of_own h2 rfl (by unfold maxLen; omega), tab_of_own h3 rfl (by unfold maxLen; omega), hbX⟩
        ·
          obtain rfl := List.mem_singleton.1 hi; clear hi
          refine wpOp_step rfl (fun K3 hK3 => ?_)
          have HK3 := Lib.hid hK3
          clear hK3
          rw [if_pos (by rfl)]
          go_simp
          obtain ⟨g2, eg2⟩ : ∃ g, g = Y53.heap.size := ⟨_, rfl⟩
          obtain ⟨Y63, eY⟩ : ∃ Y, Y = Y53.alloc (.cells #[] 65) := ⟨_, rfl⟩
          have hXY : Y53.grownBy Y63 none := by rw [eY]; exact World.grownBy_alloc _ _ _
          have h2 : Y63.ownsRow w2.heap.size 65 2 (.slice (some ⟨g2, 0, none⟩) 0 0) 0 [] := by rw [eY, eg2]; exact World.ownsRow_lit Y53 #[] 0 hbX.size (by decide) rfl
          rw [← eY, ← eg2]
          clear eY
          replace h3 := h3.kept hXY (own_none _)
          replace hH := Lib.hid ((hXY.block P (Array.getElem?_eq_some_iff.1 hH.out).1 (by simp)).trans hH.out)
          replace hbX := hbX.grown hXY hbX.size (fun q hq => by cases hq)
          clear hXY eg2
          refine HK3.out _ _ ⟨hH.out, ?_⟩
          clear HK3 K3
          try simp only [List.getElem_toArray, List.getElem_cons_succ, List.getElem_cons_zero, Act.put, List.setIfInBounds_toArray, List.set_cons_zero, List.set_cons_succ]
          refine wpAnyH_all (rs := [0]) (by kernel_rfl) (by simp) ?_
          intro i hi
          obtain rfl := List.mem_singleton.1 hi; clear hi
          refine wpOp_step rfl (fun K3 hK3 => ?_)
          have HK3 := Lib.hid hK3
          clear hK3
          rw [if_pos (by rfl)]
          go_simp
          obtain ⟨g1, eg1⟩ : ∃ g, g = Y63.heap.size := ⟨_, rfl⟩
          obtain ⟨Y64, eY⟩ : ∃ Y, Y = Y63.alloc (.cells #[] 52) := ⟨_, rfl⟩
          have hXY : Y63.grownBy Y64 none := by rw [eY]; exact World.grownBy_alloc _ _ _
          have h1 : Y64.ownsRow w2.heap.size 52 3 (.slice (some ⟨g1, 0, none⟩) 0 0) 0 [] := by rw [eY, eg1]; exact World.ownsRow_lit Y63 #[] 0 hbX.size (by decide) rfl
          rw [← eY, ← eg1]
          clear eY
          replace h2 := h2.kept hXY (own_none _)
          replace h3 := h3.kept hXY (own_none _)
          replace hH := Lib.hid ((hXY.block P (Array.getElem?_eq_some_iff.1 hH.out).1 (by simp)).trans hH.out)
          replace hbX := hbX.grown hXY hbX.size (fun q hq => by cases hq)
          clear hXY eg1
          refine HK3.out _ _ ⟨hH.out, ?_⟩
          clear HK3 K3
          try simp only [List.getElem_toArray, List.getElem_cons_succ, List.getElem_cons_zero, Act.put, List.setIfInBounds_toArray, List.set_cons_zero, List.set_cons_succ]
          refine wpAnyH_all (rs := [3]) (by kernel_rfl) (by simp) ?_
          intro i hi
          obtain rfl := List.mem_singleton.1 hi; clear hi
          refine wpOp_step rfl (fun K3 hK3 => ?_)
          have HK3 := Lib.hid hK3
          clear hK3
          rw [if_pos (by rfl)]
          simp only [List.getElem_toArray, List.getElem_cons_succ, List.getElem_cons_zero]
          refine wp_copyT (.tmp 21) (.tmp 23) 22 52 3 24 (.agg #[.int .i64 0, .int .i64 0, .int .i64 0]) tpC Try.underlying22 Try.info52 rfl (by decide) (by decide) (by rfl) w2.heap.size g1 (by rfl) h1 (by rfl) (HH2.out.tp.below hbX) HNT.out ht17.1 hbX.size ?_
          intro v1 Y65 ho1 hXY
          replace h2 := h2.kept hXY (own_apart h2 h1 (by decide))
          replace h3 := h3.kept hXY (own_apart h3 h1 (by decide))
          replace hH := Lib.hid ((hXY.block P (Array.getElem?_eq_some_iff.1 hH.out).1 (fun e => by have := (h1.lt P e.symm).1; omega)).trans hH.out)
          replace hbX := hbX.grown hXY hbX.size (fun q hq => (h1.lt q hq).1)
          replace h1 := ho1
          clear hXY ho1
          refine HK3.out _ _ ⟨hH.out, ?_⟩
          clear HK3 K3
          try simp only [List.getElem_toArray, List.getElem_cons_succ, List.getElem_cons_zero, Act.put, List.setIfInBounds_toArray, List.set_cons_zero, List.set_cons_succ]
          refine wpAnyH_all (rs := [7]) (by kernel_rfl) (by simp) ?_
          intro i hi
          obtain rfl := List.mem_singleton.1 hi; clear hi
          refine wpOp_step rfl (fun K3 hK3 => ?_)
          have HK3 := Lib.hid hK3
          clear hK3
          rw [if_pos (by rfl)]
          simp only [List.getElem_toArray, List.getElem_cons_succ, List.getElem_cons_zero]
          refine wp_copyT (.tmp 25) (.tmp 27) 23 65 2 16 (.agg #[.int .i64 0, .int .i64 0]) rlC Try.underlying23 Try.info65 rfl (by decide) (by decide) (by rfl) w2.heap.size g2 (by rfl) h2 (by rfl) (HH2.out.rl.below hbX) HNR.out ht17.2 hbX.size ?_
          intro v2 Y66 ho2 hXY
          replace h1 := h1.kept hXY (own_apart h1 h2 (by decide))
          replace h3 := h3.kept hXY (own_apart h3 h2 (by decide))
          replace hH := Lib.hid ((hXY.block P (Array.getElem?_eq_some_iff.1 hH.out).1 (fun e => by have := (h2.lt P e.symm).1; omega)).trans hH.out)
          replace hbX := hbX.grown hXY hbX.size (fun q hq => (h2.lt q hq).1)
          replace h2 := ho2
          clear hXY ho2
          refine HK3.out _ _ ⟨hH.out, ?_⟩
          clear HK3 K3
          try simp only [List.getElem_toArray, List.getElem_cons_succ, List.getElem_cons_zero, Act.put, List.setIfInBounds_toArray, List.set_cons_zero, List.set_cons_succ]
          refine wpAnyH_all (rs := [10]) (by kernel_rfl) (by simp) ?_
          intro i hi
          obtain rfl := List.mem_singleton.1 hi; clear hi
          refine wpOp_step rfl (fun K3 hK3 => ?_)
          have HK3 := Lib.hid hK3
          clear hK3
          rw [if_pos (by rfl)]
          simp only [List.getElem_toArray, List.getElem_cons_succ, List.getElem_cons_zero]
          refine wp_copyT (.tmp 29) (.tmp 30) 38 27 4 32 (.agg #[.int .i64 0, .int .i64 0, .int .i64 0, .int .i64 0]) szC Try.underlying38 Try.info27 rfl (by decide) (by decide) (by rfl) w2.heap.size g3 (by rfl) h3 (by rfl) (HL2.out.below hbX) HNL.out (by omega) hbX.size ?_
          intro v3 Y67 ho3 hXY
          replace h1 := h1.kept hXY (own_apart h1 h3 (by decide))
          replace h2 := h2.kept hXY (own_apart h2 h3 (by decide))
          replace hH := Lib.hid ((hXY.block P (Array.getElem?_eq_some_iff.1 hH.out).1 (fun e => by have := (h3.lt P e.symm).1; omega)).trans hH.out)
          replace hbX := hbX.grown hXY hbX.size (fun q hq => (h3.lt q hq).1)
          replace h3 := ho3
          clear hXY ho3
          refine HK3.out _ _ ⟨hH.out, ?_⟩
          clear HK3 K3
          try simp only [List.getElem_toArray, List.getElem_cons_succ, List.getElem_cons_zero, Act.put, List.setIfInBounds_toArray, List.set_cons_zero, List.set_cons_succ]
          refine wpAnyH_take (i := 11) (oi := _) (v := ?_) rfl (by kernel_rfl) (by kernel_rfl) (by kernel_rfl) (fun _ _ _ h => h) (Or.inl ⟨by rfl, ?_⟩) hH.out ?_
          rotate_left
          · intro w1 hSw
            obtain ⟨y0, y1, y2, y3⟩ := four_cells hSw
            clear hSw
            go_simp; with_reducible rfl
          simp only [List.getElem_toArray, List.getElem_cons_succ, List.getElem_cons_zero, Act.put, List.setIfInBounds_toArray, List.set_cons_zero, List.set_cons_succ]
          refine wpAnyH_take (i := 12) (oi := _) (v := ?_) rfl (by kernel_rfl) (by kernel_rfl) (by kernel_rfl) (fun _ _ _ h => h) (Or.inl ⟨by rfl, ?_⟩) hH.out ?_
          rotate_left
          · intro w1 hSw
            obtain ⟨y0, y1, y2, y3⟩ := four_cells hSw
            clear hSw
            go_simp; with_reducible rfl
          simp only [List.getElem_toArray, List.getElem_cons_succ, List.getElem_cons_zero, Act.put, List.setIfInBounds_toArray, List.set_cons_zero, List.set_cons_succ]
          refine wpAnyH_take (i := 13) (oi := _) (v := ?_) rfl (by kernel_rfl) (by kernel_rfl) (by kernel_rfl) (fun _ _ _ h => h) (Or.inl ⟨by rfl, ?_⟩) hH.out ?_
          rotate_left
          · intro w1 hSw
            obtain ⟨y0, y1, y2, y3⟩ := four_cells hSw
            clear hSw
            go_simp; with_reducible rfl
          simp only [List.getElem_toArray, List.getElem_cons_succ, List.getElem_cons_zero, Act.put, List.setIfInBounds_toArray, List.set_cons_zero, List.set_cons_succ]
          refine wpAnyH_done (by kernel_rfl) ?_ _
          go_wp2
          go_meet
          case rel => exact ⟨tab_of_own h1 rfl (by unfold maxLen; omega), tab_of_own h2 rfl (by unfold maxLen; omega), tab_of_own h3 rfl (by unfold maxLen; omega), hbX⟩
    case rest =>
      obtain ⟨t7, t8, t9, hb3⟩ := hcut
      obtain ⟨x7, k7, rfl⟩ := t7.shape
      obtain ⟨x8, k8, rfl⟩ := t8.shape
      obtain ⟨x9, k9, rfl⟩ := t9.shape
      have ow3 : OW h a1 c1 a2 c2 l la lc x7 k7 x8 k8 x9 k9 P w wc := ⟨HB2.out.trans (hb3.mono HB2.out.size), box_step (w0 := w) H2.out hb3, HH2.out.below hb3, HL2.out.below hb3, t7, t8, t9⟩
      have O3 := Lib.hid ow3
      clear t7 t8 t9 hb3 ow3
      obtain ⟨⟨p0, p1, p2, p3⟩, hpk⟩ : ∃ x, peakF h = x := ⟨_, rfl⟩
      obtain ⟨⟨d0, d1⟩, hck⟩ : ∃ x, chooseF h l = x := ⟨_, rfl⟩
      obtain ⟨⟨q0, q1, q2, q3⟩, hqk⟩ : ∃ x, pairR h l = x := ⟨_, rfl⟩
      obtain ⟨⟨f0, f1⟩, hlk⟩ : ∃ x, leastF h loss = x := ⟨_, rfl⟩
      have K1 := Lib.hid (fun X hx => Peak_any h a1 c1 a2 c2 X hx)
      have K2 := Lib.hid (fun X hx hy => Choose_any h a1 c1 a2 c2 l (.slice la l.length lc) X hx hy)
      have K3 := Lib.hid (fun X hx hy => Pair_any h a1 c1 a2 c2 l (.slice la l.length lc) X hx hy)
      have K4 := Lib.hid (fun X hx => Least_any h a1 c1 a2 c2 loss X hx)
      have K5 := Lib.hid (fun z X hx => Starved_any h a1 c1 a2 c2 z X hx)
      rw [hpk, HEV.out] at K1
      rw [hck, HEV.out] at K2
      rw [hqk, HEV.out] at K3
      rw [hlk, HEV.out] at K4
      rw [HEV.out] at K5
      unfold PeakR at K1
      unfold IntR at K2 K4
      unfold FourR at K3
      unfold MixR at K5
      clear hpk hck hqk hlk
      obtain ⟨y0, y1, y2, y3⟩ := four_cells O3.out.fp
      have Kw := Lib.hid (K1.out wc O3.out.fh)
      go_wp2_with (go_at_call 14; fail)
      refine Kw.out.mono ?_
      rintro e w4 ⟨rfl, hbn⟩
      have O4 := Lib.hid (O3.out.next hbn)
      clear hbn y0 y1 y2 y3 Kw
      obtain ⟨y0, y1, y2, y3⟩ := four_cells O4.out.fp
      have Kw := Lib.hid (K2.out w4 O4.out.fh O4.out.fl)
      go_wp2_with (go_at_call 18; fail)
      refine Kw.out.mono ?_
      rintro e w5 ⟨rfl, hbn⟩
      have O5 := Lib.hid (O4.out.next hbn)
      clear hbn y0 y1 y2 y3 Kw
      obtain ⟨y0, y1, y2, y3⟩ := four_cells O5.out.fp
      have Kw := Lib.hid (K3.out w5 O5.out.fh O5.out.fl)
      go_wp2_with (go_at_call 20; fail)
      refine Kw.out.mono ?_
      rintro e w6 ⟨rfl, hbn⟩
      have O6 := Lib.hid (O5.out.next hbn)
      clear hbn y0 y1 y2 y3 Kw
      obtain ⟨y0, y1, y2, y3⟩ := four_cells O6.out.fp
      have Kw := Lib.hid (K4.out w6 O6.out.fh)
      go_wp2_with (go_at_call 22; fail)
      refine Kw.out.mono ?_
      rintro e w7 ⟨rfl, hbn⟩
      have O7 := Lib.hid (O6.out.next hbn)
      clear hbn y0 y1 y2 y3 Kw
      clear K1 K2 K3 K4
      go_upto_if 45 with fail
      go_cut [] (fun wx => OW h a1 c1 a2 c2 l la lc x7 k7 x8 k8 x9 k9 P w wx)
      case first =>
        by_cases hl0 : 0 < l.length
        · have hl0' : (0 : Int) < (l.length : Int) := by omega
          obtain ⟨lb, lo, rfl, hlb, hlc⟩ := O7.out.fl.at hl0
          obtain ⟨y0, y1, y2, y3⟩ := four_cells O7.out.fp
          have z0 := hlc 0 hl0 0 (by omega)
          have z1 := hlc 0 hl0 1 (by omega)
          have z2 := hlc 0 hl0 2 (by omega)
          have z3 := hlc 0 hl0 3 (by omega)
          obtain ⟨z, hz⟩ : ∃ z, l.getD 0 default = z := ⟨_, rfl⟩
          rw [hz, Nat.zero_mul, Nat.add_zero] at z0 z1 z2 z3
          obtain ⟨s0, s1, s2, s3⟩ := z
          simp only [szC, Nat.add_zero] at z0 z1 z2 z3
          have K5z := fun X hx => K5.out ⟨s0, s1, s2, s3⟩ X hx
          obtain ⟨⟨m0, m1, m2⟩, hm⟩ : ∃ m, starvedF h ⟨s0, s1, s2, s3⟩ = m := ⟨_, rfl⟩
          rw [hm] at K5z
          unfold szV at K5z
          simp only [] at K5z
          have C1 := fun d os => Calls.regrown_of (w := w7) (d := d) (os := os) (K5z _ (O7.out.fh.below (below_regrown w7 d os)))
          go_upto_region 9 with fail
          have k0 := cell_regrown y0
          have k1 := cell_regrown y1
          have k2 := cell_regrown y2
          have k3 := cell_regrown y3
          have k4 := cell_regrown z0
          have k5 := cell_regrown z1
          have k6 := cell_regrown z2
          have k7 := cell_regrown z3
          clear y0 y1 y2 y3 z0 z1 z2 z3 hz hm K5z hlc
          refine wp_region_quiet_below (by kernel_rfl) (by kernel_rfl) ?_
          repeat (go_big_quiet_step (first | with_reducible exact C1 _ _))
          refine wpQuiet_nil ?_
          intro w8 hw'
          have hbr : Below w7.heap.size w7 w8 := by obtain ⟨⟨dq, osq⟩, hw''⟩ := hw'; rw [hw'']; exact below_regrown w7 dq osq
          clear hw' C1 k0 k1 k2 k3 k4 k5 k6 k7
          go_wp2
          go_meet
          case rel => exact O7.out.next hbr
        · have hl0' : decide ((0 : Int) < (l.length : Int)) = false := decide_eq_false (by omega)
          have hl0b : ¬ (0 : Int) < (l.length : Int) := by omega
          go_wp2
          go_meet
          case rel => exact O7.out
      case rest =>
        have OC := Lib.hid hcut
        clear hcut O3 O4 O5 O6 O7 K5 H0 HH0 HL0 HH2 HL2 H2 HB0 HB2 HNT HNR HNL KG HGB HEV
        go_wp2_with fail
        go_loopw [53] (fun i wr => ∃ j : Nat, j ≤ h.tp.length ∧ i = .int .i64 j ∧ OW h a1 c1 a2 c2 l la lc x7 k7 x8 k8 x9 k9 P w wr) (fun i _ => h.tp.length - (intOf i).toNat)
        case atStart => exact ⟨0, by omega, rfl, OC.out⟩
        case round =>
          obtain ⟨j, hj, rfl, how⟩ := hrel
          have HO := Lib.hid how
          clear how
          by_cases hlt : j < h.tp.length
          · obtain ⟨lb, lo, e1, hlb, hlx⟩ := HO.out.f7.at (by omega)
            subst e1
            obtain ⟨lb2, lo2, e2, hlb2, hlx2⟩ := HO.out.fh.tp.at (by omega)
            subst e2
            obtain ⟨y0, y1, y2, y3⟩ := four_cells HO.out.fp
            have x0 := hlx j hlt 0 (by omega)
            have u0 := hlx2 j hlt 0 (by omega)
            have x1 := hlx j hlt 1 (by omega)
            have u1 := hlx2 j hlt 1 (by omega)
            have x2 := hlx j hlt 2 (by omega)
            have u2 := hlx2 j hlt 2 (by omega)
            obtain ⟨⟨⟨t0, t1⟩, tn⟩, hrow⟩ : ∃ x : Tp, h.tp.getD j default = x := ⟨_, rfl⟩
            rw [hrow] at x0 u0 x1 u1 x2 u2
            simp only [Nat.add_zero, tpC] at x0 u0 x1 u1 x2 u2
            have ij0 : (0 : Int) ≤ (j : Int) := by omega
            have ij1 : (j : Int) < (h.tp.length : Int) := Int.ofNat_lt.2 hlt
            have w1 : IntKind.i64.wrap ((j : Int) + 1) = (j : Int) + 1 := IntWalk.i64_in _ (by omega)
            clear hrow hlx hlx2 hlb hlb2
            go_upto_region 13 with fail
            have k0 := cell_regrown y0
            have k1 := cell_regrown y1
            have k2 := cell_regrown y2
            have k3 := cell_regrown y3
            have k4 := cell_regrown x0
            have k5 := cell_regrown x1
            have k6 := cell_regrown x2
            have k7 := cell_regrown u0
            have k8 := cell_regrown u1
            have k9 := cell_regrown u2
            clear y0 y1 y2 y3 x0 x1 x2 u0 u1 u2
            refine wp_region_quiet_below (by kernel_rfl) (by kernel_rfl) ?_
            repeat (go_big_quiet_step (fail))
            refine wpQuiet_nil ?_
            intro Y hw'
            have hbr : Below wr.heap.size wr Y := by obtain ⟨⟨dq, osq⟩, hw''⟩ := hw'; rw [hw'']; exact below_regrown wr dq osq
            clear hw' k0 k1 k2 k3 k4 k5 k6 k7 k8 k9
            have HOY := Lib.hid (HO.out.next hbr)
            clear hbr
            go_wp2
            go_roundw
            case rel => exact ⟨j + 1, by omega, by go_num, HOY.out⟩
            case measure => simp [intOf]; omega
          · have i1 : ¬ (j : Int) < (h.tp.length : Int) := by omega
            have hjl : j = h.tp.length := by omega
            have HP1 := HO
            go_wp2_with fail
            clear HO hjl i1 hlt hj
            go_loopw [69] (fun i wr => ∃ j : Nat, j ≤ h.rl.length ∧ i = .int .i64 j ∧ OW h a1 c1 a2 c2 l la lc x7 k7 x8 k8 x9 k9 P w wr) (fun i _ => h.rl.length - (intOf i).toNat)
            case atStart => exact ⟨0, by omega, rfl, HP1.out⟩
            case round =>
              obtain ⟨j, hj, rfl, how⟩ := hrel
              have HO := Lib.hid how
              clear how
              by_cases hlt : j < h.rl.length
              · obtain ⟨lb, lo, e1, hlb, hlx⟩ := HO.out.f8.at (by omega)
                subst e1
                obtain ⟨lb2, lo2, e2, hlb2, hlx2⟩ := HO.out.fh.rl.at (by omega)
                subst e2
                obtain ⟨y0, y1, y2, y3⟩ := four_cells HO.out.fp
                have x0 := hlx j hlt 0 (by omega)
                have u0 := hlx2 j hlt 0 (by omega)
                have x1 := hlx j hlt 1 (by omega)
                have u1 := hlx2 j hlt 1 (by omega)
                obtain ⟨⟨t0, t1⟩, hrow⟩ : ∃ x : Rl, h.rl.getD j default = x := ⟨_, rfl⟩
                rw [hrow] at x0 u0 x1 u1
                simp only [Nat.add_zero, rlC] at x0 u0 x1 u1
                have ij0 : (0 : Int) ≤ (j : Int) := by omega
                have ij1 : (j : Int) < (h.rl.length : Int) := Int.ofNat_lt.2 hlt
                have w1 : IntKind.i64.wrap ((j : Int) + 1) = (j : Int) + 1 := IntWalk.i64_in _ (by omega)
                clear hrow hlx hlx2 hlb hlb2
                go_upto_region 19 with fail
                have k0 := cell_regrown y0
                have k1 := cell_regrown y1
                have k2 := cell_regrown y2
                have k3 := cell_regrown y3
                have k4 := cell_regrown x0
                have k5 := cell_regrown x1
                have k6 := cell_regrown u0
                have k7 := cell_regrown u1
                clear y0 y1 y2 y3 x0 x1 u0 u1
                refine wp_region_quiet_below (by kernel_rfl) (by kernel_rfl) ?_
                repeat (go_big_quiet_step (fail))
                refine wpQuiet_nil ?_
                intro Y hw'
                have hbr : Below wr.heap.size wr Y := by obtain ⟨⟨dq, osq⟩, hw''⟩ := hw'; rw [hw'']; exact below_regrown wr dq osq
                clear hw' k0 k1 k2 k3 k4 k5 k6 k7
                have HOY := Lib.hid (HO.out.next hbr)
                clear hbr
                go_wp2
                go_roundw
                case rel => exact ⟨j + 1, by omega, by go_num, HOY.out⟩
                case measure => simp [intOf]; omega
              · have i1 : ¬ (j : Int) < (h.rl.length : Int) := by omega
                have hjl : j = h.rl.length := by omega
                have HP2 := HO
                go_wp2_with fail
                clear HO hjl i1 hlt hj
                go_loopw [85] (fun i wr => ∃ j : Nat, j ≤ l.length ∧ i = .int .i64 j ∧ OW h a1 c1 a2 c2 l la lc x7 k7 x8 k8 x9 k9 P w wr) (fun i _ => l.length - (intOf i).toNat)
                case atStart => exact ⟨0, by omega, rfl, HP2.out⟩
                case round =>
                  obtain ⟨j, hj, rfl, how⟩ := hrel
                  have HO := Lib.hid how
                  clear how
                  by_cases hlt : j < l.length
                  · obtain ⟨lb, lo, e1, hlb, hlx⟩ := HO.out.f9.at (by omega)
                    subst e1
                    obtain ⟨lb2, lo2, e2, hlb2, hlx2⟩ := HO.out.fl.at (by omega)
                    subst e2
                    obtain ⟨y0, y1, y2, y3⟩ := four_cells HO.out.fp
                    have x0 := hlx j hlt 0 (by omega)
                    have u0 := hlx2 j hlt 0 (by omega)
                    have x1 := hlx j hlt 1 (by omega)
                    have u1 := hlx2 j hlt 1 (by omega)
                    have x2 := hlx j hlt 2 (by omega)
                    have u2 := hlx2 j hlt 2 (by omega)
                    have x3 := hlx j hlt 3 (by omega)
                    have u3 := hlx2 j hlt 3 (by omega)
                    obtain ⟨⟨t0, t1, t2, t3⟩, hrow⟩ : ∃ x : Sz, l.getD j default = x := ⟨_, rfl⟩
                    rw [hrow] at x0 u0 x1 u1 x2 u2 x3 u3
                    simp only [Nat.add_zero, szC] at x0 u0 x1 u1 x2 u2 x3 u3
                    have ij0 : (0 : Int) ≤ (j : Int) := by omega
                    have ij1 : (j : Int) < (l.length : Int) := Int.ofNat_lt.2 hlt
                    have w1 : IntKind.i64.wrap ((j : Int) + 1) = (j : Int) + 1 := IntWalk.i64_in _ (by omega)
                    clear hrow hlx hlx2 hlb hlb2
                    go_upto_region 25 with fail
                    have k0 := cell_regrown y0
                    have k1 := cell_regrown y1
                    have k2 := cell_regrown y2
                    have k3 := cell_regrown y3
                    have k4 := cell_regrown x0
                    have k5 := cell_regrown x1
                    have k6 := cell_regrown x2
                    have k7 := cell_regrown x3
                    have k8 := cell_regrown u0
                    have k9 := cell_regrown u1
                    have k10 := cell_regrown u2
                    have k11 := cell_regrown u3
                    clear y0 y1 y2 y3 x0 x1 x2 x3 u0 u1 u2 u3
                    refine wp_region_quiet_below (by kernel_rfl) (by kernel_rfl) ?_
                    repeat (go_big_quiet_step (fail))
                    refine wpQuiet_nil ?_
                    intro Y hw'
                    have hbr : Below wr.heap.size wr Y := by obtain ⟨⟨dq, osq⟩, hw''⟩ := hw'; rw [hw'']; exact below_regrown wr dq osq
                    clear hw' k0 k1 k2 k3 k4 k5 k6 k7 k8 k9 k10 k11
                    have HOY := Lib.hid (HO.out.next hbr)
                    clear hbr
                    go_wp2
                    go_roundw
                    case rel => exact ⟨j + 1, by omega, by go_num, HOY.out⟩
                    case measure => simp [intOf]; omega
                  · have i1 : ¬ (j : Int) < (l.length : Int) := by omega
                    have hjl : j = l.length := by omega
                    go_wp2_with (go_at_call 13; fail)
                    refine (KA.out _).mono ?_
                    rintro e9 w9 ⟨rfl, hbz⟩
                    go_wp2
                    go_ret
                    exact ⟨rfl, HO.out.fb.trans (hbz.mono HO.out.fb.size)⟩
end Go.Proofs.Ytlcmedfjghcigaa
