/- Size: Pair. -/
import Derived.Test.YtlcmedfjghcigaaA16
namespace Go.Proofs.Ytlcmedfjghcigaa
set_option linter.unusedSimpArgs false
set_option linter.unusedVariables false
open Go.RowKit Go.Maps

theorem pair_bad {h : Hs} {l : List Sz} (k : errF h l ≠ 0) : pairR h l = (0, 0, 0, errF h l) := by unfold pairR; rw [if_neg k]
theorem pair_none {h : Hs} {l : List Sz} (k : errF h l = 0) (e : pairF h l = none) : pairR h l = (0, 0, 0, 4) := by unfold pairR; rw [if_pos k, e]
theorem pair_some {h : Hs} {l : List Sz} {i j : Nat} {p : Int} (k : errF h l = 0) (e : pairF h l = some ((i, j), p)) : pairR h l = (((i : Nat) : Int), ((j : Nat) : Int), p, (0 : Int)) := by unfold pairR; rw [if_pos k, e]
theorem results_tmp4 {fn : Func} {t u v x : Tmp} (h : fn.results = #[.tmp t, .tmp u, .tmp v, .tmp x]) (tmps : Array Value) (P : Program) (w : World) :
    (results fn tmps).run P w = .ok (.tuple #[tmps.getD t undef, tmps.getD u undef, tmps.getD v undef, tmps.getD x undef]) w := by
  simp [results, h]
def FourR (w : World) (r : Int × Int × Int × Int) (e : Ending) (w' : World) : Prop := e = .returned (.tuple #[.int .i64 r.1, .int .i64 r.2.1, .int .i64 r.2.2.1, .int .i64 r.2.2.2]) ∧ Below w.heap.size w w'
set_option maxRecDepth 100000 in
set_option maxHeartbeats 3200000 in
theorem Pair_any (h : Hs) (a1 : Option Addr) (c1 : Nat) (a2 : Option Addr) (c2 : Nat) (l : List Sz) (v : Value) (w : World) (hh : HsAt w h a1 c1 a2 c2) (hl : TabAt 4 szC w v l) : Calls Try.prog 20 #[hsV h a1 c1 a2 c2, v] w (FourR w (pairR h l)) := by
  obtain ⟨la, lc, rfl⟩ := hl.shape
  have mt : h.tp.length ≤ 9223372036854775807 := hh.tp.1
  have ml : l.length ≤ 9223372036854775807 := hl.1
  obtain ⟨W0, hW0⟩ : ∃ X, X = w.alloc (.cells #[.int .i64 h.head, .int .i64 h.drip, .slice a1 h.tp.length c1, .slice a2 h.rl.length c2] 25) := ⟨_, rfl⟩
  have hal : W0 = al w [(.cells #[.int .i64 h.head, .int .i64 h.drip, .slice a1 h.tp.length c1, .slice a2 h.rl.length c2] 25)] := hW0
  have hb0 : Below w.heap.size w W0 := by rw [hal]; exact al_below w _ (Nat.le_refl _)
  have hs0 : W0.heap.size = w.heap.size + 1 := by rw [hal]; exact al_size w _
  have hr0 : W0.heap[w.heap.size]? = some (.cells #[.int .i64 h.head, .int .i64 h.drip, .slice a1 h.tp.length c1, .slice a2 h.rl.length c2] 25 (0, 0)) := by rw [hal]; exact al_get w _ 0 _ rfl
  obtain ⟨P, hP0⟩ : ∃ x, w.heap.size = x := ⟨_, rfl⟩
  rw [hP0] at hr0 hs0
  clear hal
  rw [hP0] at hb0
  have HS := Lib.hid (show w.heap.size = P ∧ W0.heap.size = P + 1 from ⟨by omega, by omega⟩)
  have HB := Lib.hid hb0
  have H0 := Lib.hid hr0
  have hh0 := hh.below (by rw [hP0]; exact hb0)
  have hl0 := hl.below (by rw [hP0]; exact hb0)
  have HH0 := Lib.hid hh0
  have HL0 := Lib.hid hl0
  have KE := Lib.hid (sizesError_any h a1 c1 a2 c2 l _ W0 hh0 hl0)
  have h1 := pair_bad (h := h) (l := l)
  have h2 := pair_none (h := h) (l := l)
  have h3 := fun i j p => pair_some (h := h) (l := l) (i := i) (j := j) (p := p)
  have hz := errF_zero (h := h) (l := l)
  obtain ⟨RR, hRR⟩ : ∃ r, pairR h l = r := ⟨_, rfl⟩
  obtain ⟨E, hE⟩ : ∃ r, errF h l = r := ⟨_, rfl⟩
  rw [hRR] at h1 h2 ⊢
  simp only [hRR, hE] at h3
  rw [hE] at h1 h2 hz KE
  have F1 := Lib.hid h1
  have F2 := Lib.hid h2
  have F3 := Lib.hid h3
  have FZ := Lib.hid hz
  obtain ⟨y0, y1, y2, y3⟩ := four_cells hr0
  clear hb0 hr0 hs0 hh hl hh0 hl0 h1 h2 h3 hRR hE hz
  unfold hsV at *
  by_cases he : E = 0
  · subst he
    have ⟨hok, hsz⟩ := FZ.out rfl
    go_enter Try.func20, Try.ntmps20
    go_upto_region 1 with fail
    rw [← hW0]
    clear hW0 hP0
    go_wp2_with (go_at_call 41; fail)
    refine KE.out.mono ?_
    rintro e w2 ⟨rfl, hb2⟩
    have hp2 := box_step (w0 := w) H0.out hb2
    have hh2 := HH0.out.below hb2
    have HL2 := Lib.hid (HL0.out.below hb2)
    have HB2 := Lib.hid (HB.out.trans (hb2.mono (by have := HS.out; omega)))
    have hs2 : P + 1 ≤ w2.heap.size := by have := hb2.size; have := HS.out; omega
    have KD := Lib.hid (demandOf_any h hok a1 c1 a2 c2 w2 hh2)
    unfold hsV at KD
    clear hb2 y0 y1 y2 y3
    obtain ⟨y0, y1, y2, y3⟩ := four_cells hp2
    go_wp2_with (go_at_call 36; fail)
    refine KD.out.mono ?_
    rintro e w3 ⟨M, rfl, hm3, hb3⟩
    have hd3 := dat_of hh2 hb3 hm3
    have hl3 := HL2.out.below hb3
    have HB3 := Lib.hid (HB2.out.trans (hb3.mono (by omega)))
    have hs3 : P + 1 ≤ w3.heap.size := by have := hb3.size; omega
    have KN := Lib.hid (cheapest_any h hok a1 c1 a2 c2 M l hsz _ w3 hd3 hl3)
    unfold dV setsCells at KN ⊢
    clear hb3 hm3 hd3 hl3 hp2 hh2 y0 y1 y2 y3
    go_wp2_with (go_at_call 47; fail)
    refine KN.out.mono ?_
    rintro e w4 ⟨rfl, hb4⟩
    have HB4 := Lib.hid (HB3.out.trans (hb4.mono (by omega)))
    have hs4 : P + 1 ≤ w4.heap.size := by have := hb4.size; omega
    have hf2 := fun e => F2.out (by simp) e
    have hf3 := fun i j p e => F3.out i j p (by simp) e
    obtain ⟨bv, hbv⟩ : ∃ b, pairF h l = b := ⟨_, rfl⟩
    rw [hbv] at hf2
    simp only [hbv] at hf3
    have HF2 := Lib.hid hf2
    have HF3 := Lib.hid hf3
    rw [hbv]
    unfold bestV
    obtain ⟨R, hR⟩ : ∃ x, w4.heap.size = x := ⟨_, rfl⟩
    obtain ⟨W5, hW5⟩ : ∃ X, w4.alloc (.cells #[.int .i64 (bestI bv), .int .i64 (bestK bv), .int .i64 (bestP bv), .bool (bestF bv)] 94) = X := ⟨_, rfl⟩
    have hb5 : Below w4.heap.size w4 W5 := by rw [← hW5]; exact (Below.refl _ _).alloc (Nat.le_refl _) _
    have hr5 : W5.heap[R]? = some (.cells #[.int .i64 (bestI bv), .int .i64 (bestK bv), .int .i64 (bestP bv), .bool (bestF bv)] 94 (0, 0)) := by rw [← hW5, ← hR]; exact alloc_heap w4 _
    have HB5 := Lib.hid (HB4.out.trans (hb5.mono (by omega)))
    obtain ⟨x0, x1, x2, x3⟩ := four_cells hr5
    clear hb4 hf2 hf3 hbv hb5 hr5
    cases bv with
    | none =>
      have hrr := HF2.out rfl
      subst hrr
      simp only [bestI, bestK, bestP, bestF] at x0 x1 x2 x3 hW5 ⊢
      subst hW5
      go_wp2
      exact bodyPost_ret (results_tmp4 rfl _ _ _) rfl ⟨rfl, by rw [HS.out.1]; exact HB5.out⟩
    | some b =>
      obtain ⟨⟨bi, bk⟩, bp⟩ := b
      have hrr := HF3.out bi bk bp rfl
      subst hrr
      simp only [bestI, bestK, bestP, bestF] at x0 x1 x2 x3 hW5 ⊢
      go_upto_region 7 with fail
      clear hW5 hR
      go_quiet (fail)
      go_wp2
      exact bodyPost_ret (results_tmp4 rfl _ _ _) rfl ⟨rfl, by rw [HS.out.1]; exact below_drewn HB5.out _⟩
  · have hrr := F1.out he
    subst hrr
    have hne : (E != 0) = true := by simpa using he
    go_enter Try.func20, Try.ntmps20
    go_upto_region 1 with fail
    rw [← hW0]
    clear hW0 hP0
    go_wp2_with (go_at_call 41; fail)
    refine KE.out.mono ?_
    rintro e w2 ⟨rfl, hb2⟩
    go_wp2
    exact bodyPost_ret (results_tmp4 rfl _ _ _) rfl ⟨rfl, by rw [HS.out.1]; exact HB.out.trans (hb2.mono (by have := HS.out; omega))⟩
end Go.Proofs.Ytlcmedfjghcigaa
