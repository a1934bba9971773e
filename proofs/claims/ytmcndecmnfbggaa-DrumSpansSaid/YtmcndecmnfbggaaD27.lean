/- Contract: Fit. -/
import Derived.Test.YtmcndecmnfbggaaD26
namespace Go.Proofs.Ytmcndecmnfbggaa
set_option linter.unusedSimpArgs false
set_option linter.unusedVariables false
open Go.RowKit

theorem sorted_apart (figs : List Int) (w : Int) (hw : 0 ≤ w ∧ w ≤ 999) (L : List (Int × Int)) (hp : L.Perm (totalsP w figs st0)) (hs : L.Pairwise (fun a b => a.1 ≤ b.1)) : (∀ x ∈ L, x.1 ≤ x.2) ∧ L.Pairwise (fun a b => a.2 < b.1) := by
  obtain ⟨f1, f2⟩ := totals_form w hw figs st0 (by decide) (by decide) (by decide)
  have f2 := f2 (by decide)
  have hm : ∀ x ∈ L, x.1 ≤ x.2 := fun x hx => (f1 x (hp.mem_iff.1 hx)).1
  have hd : L.Pairwise (fun a b => a.2 < b.1 ∨ b.2 < a.1) := hp.symm.pairwise f2 (fun h => h.symm)
  refine ⟨hm, List.Pairwise.imp_of_mem ?_ (hs.and hd)⟩
  intro a b ha hb ⟨h1, h2⟩
  have := hm a ha
  have := hm b hb
  omega
theorem join_bd (figs : List Int) (w : Int) (hw : 0 ≤ w ∧ w ≤ 999) (h6 : figs.length ≤ 6) (L : List (Int × Int)) (hp : L.Perm (totalsP w figs st0)) (hs : L.Pairwise (fun a b => a.1 ≤ b.1)) : ∀ k, k ≤ L.length → ∀ x ∈ joinP (L.take k), -1000000000000 ≤ x.2 ∧ x.2 ≤ 1000000000000 := by
  obtain ⟨hm, hpw⟩ := sorted_apart figs w hw L hp hs
  intro k hk x hx
  have hc := join_canon (L.take k) canon_empty (fun y hy => hm y (List.mem_of_mem_take hy)) (hpw.sublist (List.take_sublist k L)) (fun s hs => by cases hs)
  have hxx := hc.1 x hx
  have := (hc.2.2 x.2).1 ⟨x, hx, by unfold inS; omega⟩
  simp only [false_or] at this
  obtain ⟨y, hy, hiy⟩ := this
  have hF := (totals_fit figs w hw x.2).1 ⟨y, hp.mem_iff.1 (List.mem_of_mem_take hy), hiy⟩
  have ht := turnP_bd figs.length (by omega)
  obtain ⟨h1, h2, _⟩ := hF
  omega
def SpansRes (w : World) (P : Int → Prop) (e : Ending) (w' : World) : Prop := ∃ v L, e = .returned v ∧ Canon P L ∧ L.length ≤ 1000000 ∧ w'.ownsRow w.heap.size 45 2 v L.length (flatS L) ∧ Below w.heap.size w w'
set_option maxHeartbeats 1600000 in
theorem spansOf_any (figs : List Int) (wi : Int) (hw : 0 ≤ wi ∧ wi ≤ 999) (hf : figsB figs = true) (v : Value) (Bw : Nat) (w : World) (hl : IntsAt w v figs) (hB : w.cell? ⟨Bw, 0, none⟩ = some (.int .i64 wi)) :
    Calls Try.prog 43 #[.agg #[v, .func (.func 56) #[] #[.pointer (some ⟨Bw, 0, none⟩)]]] w (SpansRes w (FitP figs wi)) := by
  have hf2 := hf
  unfold figsB at hf2
  simp only [Bool.and_eq_true, decide_eq_true_eq, List.all_eq_true] at hf2
  obtain ⟨⟨h1, h6⟩, hf9⟩ := hf2
  obtain ⟨a, fc, rfl⟩ := hl.shape
  obtain ⟨fb, off, e0, hbl, hc⟩ := hl.at (by omega)
  subst e0
  have hBl := World.block_lt_of_cell? _ _ hB
  obtain ⟨W0, hW0⟩ : ∃ X, X = w.alloc (.cells #[.slice (some ⟨fb, off, none⟩) figs.length fc, .func (.func 56) #[] #[.pointer (some ⟨Bw, 0, none⟩)]] 71) := ⟨_, rfl⟩
  have hb0 : Below w.heap.size w W0 := by rw [hW0]; exact (Below.refl _ _).alloc (Nat.le_refl _) _
  have hr0 : W0.heap[w.heap.size]? = some (.cells #[.slice (some ⟨fb, off, none⟩) figs.length fc, .func (.func 56) #[] #[.pointer (some ⟨Bw, 0, none⟩)]] 71 (0, 0)) := by rw [hW0]; exact (MapKept.heap_alloc w _).1
  obtain ⟨r0, r1⟩ := two_cells hr0
  have hT := Lib.hid (totalsM_any (.slice (some ⟨fb, off, none⟩) figs.length fc) (.func (.func 56) #[] #[.pointer (some ⟨Bw, 0, none⟩)]) W0)
  have HC := Lib.hid hc
  have HBB := Lib.hid hB
  clear hc hB hl hf
  go_enter Try.func43, Try.ntmps43
  go_wp2_with fail
  rw [← hW0]
  clear hW0
  go_wp2_with fail
  refine hT.out.mono ?_
  rintro e w1 ⟨Sb, Rb, rfl, hR, hS, hb1⟩
  have hbw1 := hb0.trans (hb1.mono hb0.size)
  have hM : Mem figs wi fb off fc Bw w1.heap.size Rb Sb st0 w1 :=
    ⟨hR, hS, fun i hi => (hbw1.cell (p := ⟨fb, off + i, none⟩) hbl).trans (HC.out i hi), (hbw1.cell (p := ⟨Bw, 0, none⟩) hBl).trans HBB.out, Nat.lt_of_lt_of_le hbl hbw1.size, Nat.lt_of_lt_of_le hBl hbw1.size⟩
  have hSF := Lib.hid (sortedFunc_any figs wi hw hf9 fb off fc Bw Rb Sb h6 w1 hM)
  clear r0 r1 hR hS hM
  go_wp2_with fail
  refine hSF.out.mono ?_
  rintro e w2 ⟨sv, M, rfl, hp, hs, hsp, hb2⟩
  have hlim : M.length ≤ 1000000 := by
    rw [hp.length_eq]
    exact Nat.le_trans (totals_len wi figs st0) (Nat.pow_le_pow_right (n := 10) (by decide) h6)
  have hJ := Lib.hid (join_any M sv w2 hsp hlim (join_bd figs wi hw h6 M hp hs))
  have hbw2 := hbw1.trans (hb2.mono hbw1.size)
  have hcan := Lib.hid (fit_canon figs wi hw M hp hs)
  have hjl := joinP_len M M.length (Nat.le_refl _)
  rw [List.take_length] at hjl
  have HP := Lib.hid hp
  clear hp hs hsp
  go_wp2_with fail
  refine hJ.out.mono ?_
  rintro e w3 ⟨v', rfl, ho, hb3⟩
  go_wp2
  go_ret
  exact ⟨v', _, rfl, hcan.out, by show (joinP M).length ≤ _; omega, ownsRow_mono' ho hbw2.size, hbw2.trans (hb3.mono hbw2.size)⟩
def fitErr (figs : List Int) (wi : Int) (L : List (Int × Int)) : Int := if figsB figs = false then 1 else if wi < 0 ∨ 1000 ≤ wi then 2 else if L = [] then 4 else 0
def fitOk (figs : List Int) (wi : Int) : Prop := figsB figs = true ∧ 0 ≤ wi ∧ wi ≤ 999
/-- what Fit returns: all totals, as spans that rise, or why there are none -/
def FitRes (w : World) (figs : List Int) (wi : Int) (e : Ending) (w' : World) : Prop := ∃ v L, e = .returned (.tuple #[v, .int .i64 (fitErr figs wi L)]) ∧ Canon (fun t => fitOk figs wi ∧ FitP figs wi t) L ∧ L.length ≤ 1000000 ∧ w'.ownsRow w.heap.size 45 2 v L.length (flatS L) ∧ Below w.heap.size w w'
set_option maxHeartbeats 1600000 in
theorem fit_any (figs : List Int) (wi : Int) (v : Value) (w : World) (hl : IntsAt w v figs) : Calls Try.prog 17 #[v, .int .i64 wi] w (FitRes w figs wi) := by
  obtain ⟨va, vc, rfl⟩ := hl.shape
  have hempty : ∀ (h : ¬ fitOk figs wi), Canon (fun t => fitOk figs wi ∧ FitP figs wi t) [] := fun h => canon_congr canon_empty (fun t => ⟨fun f => f.elim, fun f => h f.1⟩)
  have ha := areFigures_any figs _ w hl
  obtain ⟨F, hF⟩ : ∃ F, figsB figs = F := ⟨_, rfl⟩
  rw [hF] at ha
  have HA := Lib.hid ha
  have HF := Lib.hid hF
  have HEM := Lib.hid hempty
  clear ha hF hempty
  cases F with
  | false =>
    have H := Lib.hid (show fitErr figs wi [] = 1 by unfold fitErr; rw [if_pos HF.out])
    go_enter Try.func17, Try.ntmps17
    go_wp2_with fail
    refine HA.out.mono ?_
    rintro e w1 ⟨rfl, rfl⟩
    go_wp2
    go_ret2
    exact ⟨_, [], by rw [H.out]; rfl, HEM.out (fun h => by unfold fitOk at h; rw [HF.out] at h; cases h.1), by simp, World.ownsRow_nil _ _ _ _, Below.refl _ _⟩
  | true =>
    by_cases hw : 0 ≤ wi ∧ wi ≤ 999
    rotate_left
    · have H := Lib.hid (show fitErr figs wi [] = 2 by unfold fitErr; rw [if_neg (by rw [HF.out]; simp), if_pos (by omega)])
      have HE := Lib.hid (HEM.out (fun h => hw h.2))
      by_cases h0 : wi < 0
      · clear hw
        go_enter Try.func17, Try.ntmps17
        go_wp2_with fail
        refine HA.out.mono ?_
        rintro e w1 ⟨rfl, rfl⟩
        go_wp2
        go_ret2
        exact ⟨_, [], by rw [H.out]; rfl, HE.out, by simp, World.ownsRow_nil _ _ _ _, Below.refl _ _⟩
      · have h1 : 1000 ≤ wi := by omega
        clear hw
        go_enter Try.func17, Try.ntmps17
        go_wp2_with fail
        refine HA.out.mono ?_
        rintro e w1 ⟨rfl, rfl⟩
        go_wp2
        go_ret2
        exact ⟨_, [], by rw [H.out]; rfl, HE.out, by simp, World.ownsRow_nil _ _ _ _, Below.refl _ _⟩
    · have h0 : ¬ wi < 0 := by omega
      have h1 : ¬ 1000 ≤ wi := by omega
      obtain ⟨W0, hW0⟩ : ∃ X, X = w.alloc (.cells #[.int .i64 wi] 3) := ⟨_, rfl⟩
      have hb0 : Below w.heap.size w W0 := by rw [hW0]; exact (Below.refl _ _).alloc (Nat.le_refl _) _
      have hc0 : W0.cell? ⟨w.heap.size, 0, none⟩ = some (.int .i64 wi) := by rw [hW0]; go_simp
      have HSP := Lib.hid (spansOf_any figs wi hw HF.out _ w.heap.size W0 (hl.below hb0) hc0)
      have HN := Lib.hid (nearWithin_any wi w)
      have HFE := Lib.hid (show ∀ L, fitErr figs wi L = if L = [] then 4 else 0 from fun L => by unfold fitErr; rw [if_neg (by rw [HF.out]; simp), if_neg (by omega)])
      have hok := Lib.hid (show fitOk figs wi from ⟨HF.out, hw⟩)
      clear hw hc0
      go_enter Try.func17, Try.ntmps17
      go_wp2_with fail
      refine HA.out.mono ?_
      rintro e w1 ⟨rfl, rfl⟩
      go_wp2_with fail
      refine HN.out.mono ?_
      rintro e w1 ⟨rfl, hw1⟩
      rw [← hW0] at hw1
      subst hw1
      clear hW0
      go_wp2_with fail
      refine HSP.out.mono ?_
      rintro e w2 ⟨sv, L, rfl, hcan, hlen, ho, hb2⟩
      obtain ⟨sa, sc, rfl⟩ := ownsRow_shape ho
      have hbw := hb0.trans (hb2.mono hb0.size)
      have ho2 := ownsRow_mono' ho hb0.size
      have hc2 := Lib.hid (canon_congr (Q := fun t => fitOk figs wi ∧ FitP figs wi t) hcan (fun t => ⟨fun h => ⟨hok.out, h⟩, fun h => h.2⟩))
      clear ho hcan hb2
      cases L with
      | nil =>
        have H := Lib.hid (show fitErr figs wi [] = 4 by rw [HFE.out]; rfl)
        go_wp2
        go_ret2
        exact ⟨_, [], by rw [H.out]; rfl, hc2.out, by simp, World.ownsRow_nil _ _ _ _, hbw⟩
      | cons x L =>
        have H := Lib.hid (show fitErr figs wi (x :: L) = 0 by rw [HFE.out]; rfl)
        have hn0 : ((((x :: L).length : Nat) : Int) == 0) = false := by simp; omega
        obtain ⟨n, hn⟩ : ∃ n, (x :: L).length = n := ⟨_, rfl⟩
        rw [hn] at ho2 hn0 hlen ⊢
        have HN2 := Lib.hid hn
        clear hn
        go_wp2
        go_ret2
        exact ⟨_, x :: L, by rw [H.out]; rfl, hc2.out, by rw [HN2.out]; exact hlen, by rw [HN2.out]; exact ho2, hbw⟩
end Go.Proofs.Ytmcndecmnfbggaa
