/- Contracts: Places and Run of the document; when two lists are the same. -/
import Derived.Test.YtmcndecmnfbggaaD7
import Derived.Outline
namespace Go.Proofs.Ytmcndecmnfbggaa
set_option linter.unusedSimpArgs false
open Go.RowKit

theorem RowRes.list {w0 w : World} {l : List Int} (hb : w0.heap.size ≤ w.heap.size) {e : Ending} {w' : World} (h : RowRes w l e w') : ∃ v, e = .returned v ∧ w'.ownsRow w0.heap.size 3 1 v l.length (l.map (Value.int .i64)) ∧ Below w.heap.size w w' := by
  obtain ⟨v, h1, h2, h3⟩ := h
  exact ⟨v, h1, ownsRow_mono' h2 hb, h3⟩
set_option maxRecDepth 100000 in
set_option maxHeartbeats 3200000 in
theorem refPlacesF_any (d s t : Int) (w : World) : Calls Try.prog 11 #[.agg #[.int .i64 d, .int .i64 s], .int .i64 t] w (ListRes w (placesRes d s t) (placesErr d s t)) := by
  obtain ⟨W0, hW0⟩ : ∃ X, X = w.alloc (.cells #[.int .i64 d, .int .i64 s] 23) := ⟨_, rfl⟩
  have hb0 : Below w.heap.size w W0 := by rw [hW0]; exact (Below.refl _ _).alloc (Nat.le_refl _) _
  have hr0 : W0.heap[w.heap.size]? = some (.cells #[.int .i64 d, .int .i64 s] 23 (0, 0)) := by rw [hW0]; exact (MapKept.heap_alloc w _).1
  have hz0 : W0.heap.size = w.heap.size + 1 := by rw [hW0]; simp
  obtain ⟨c0, c1⟩ := regcells hr0
  obtain ⟨L, hL⟩ : ∃ L, placesRes d s t = L := ⟨_, rfl⟩
  obtain ⟨E, hE⟩ : ∃ E, placesErr d s t = E := ⟨_, rfl⟩
  obtain ⟨R, hR⟩ : ∃ R, regB d s = R := ⟨_, rfl⟩
  have hr := refRegister_any d s W0
  rw [hR] at hr
  rw [hL, hE]
  have HL := Lib.hid hL
  have HE := Lib.hid hE
  have HR := Lib.hid hR
  have HRR := Lib.hid hr
  have HC := Lib.hid hr0
  have hz := Lib.hid hz0
  clear hL hE hR hr hr0 hz0
  go_enter Try.func11, Try.ntmps11
  go_wp2_with fail
  rw [← hW0]
  clear hW0
  go_wp2_with fail
  refine HRR.out.mono ?_
  rintro e w1 ⟨rfl, hb1⟩
  have hbw1 := hb0.trans (hb1.mono hb0.size)
  have hr1 := (hb1.block w.heap.size (by rw [hz.out]; omega)).trans HC.out
  clear c0 c1 hb1 HRR
  cases R with
  | false =>
    have H1 := Lib.hid (show E = 1 by rw [← HE.out]; unfold placesErr; rw [if_pos HR.out])
    have H2 := Lib.hid (show L = [] by rw [← HL.out]; unfold placesRes; rw [HE.out, H1.out]; rfl)
    go_wp2
    go_ret2
    exact ⟨_, by rw [H1.out]; rfl, by rw [H2.out]; exact World.ownsRow_nil _ _ _ _, hbw1⟩
  | true =>
  obtain ⟨hd, hs0, hs1, hs2⟩ := regB_bd HR.out
  have htb := turnP_bd d hd.2
  have ht := turn_any d w1 hd.2
  obtain ⟨U, hU⟩ : ∃ U, turnP d = U := ⟨_, rfl⟩
  have hin : totB t d = inB t 0 (U - 1) := by rw [← hU]; unfold totB inB; congr 1; simp; omega
  obtain ⟨T, hT⟩ : ∃ T, totB t d = T := ⟨_, rfl⟩
  rw [hT] at hin
  rw [hU] at ht htb
  have HT := Lib.hid hT
  have HTT := Lib.hid ht
  clear hT ht hU hs1
  replace hin := hin.symm
  obtain ⟨c0, c1⟩ := regcells hr1
  go_wp2_with fail
  refine HTT.out.mono ?_
  rintro e w2 ⟨rfl, rfl⟩
  go_wp2_with fail
  refine (in_any _ _ _ _).mono ?_
  rintro e w2 ⟨rfl, rfl⟩
  cases T with
  | false =>
    have H1 := Lib.hid (show E = 2 by rw [← HE.out]; unfold placesErr; rw [if_neg (by rw [HR.out]; simp), if_pos HT.out])
    have H2 := Lib.hid (show L = [] by rw [← HL.out]; unfold placesRes; rw [HE.out, H1.out]; rfl)
    go_wp2
    go_ret2
    exact ⟨_, by rw [H1.out]; rfl, by rw [H2.out]; exact World.ownsRow_nil _ _ _ _, hbw1⟩
  | true =>
  have H1 := Lib.hid (show E = 0 by rw [← HE.out]; unfold placesErr; rw [if_neg (by rw [HR.out]; simp), if_neg (by rw [HT.out]; simp)])
  have H2 := Lib.hid (show L = placesL t d.toNat by rw [← HL.out]; unfold placesRes; rw [HE.out, H1.out]; rfl)
  obtain ⟨ht0, ht1⟩ := totB_bd HT.out hd.2
  go_wp2_with fail
  refine (refPlaces_any d t _ ht0 ht1 hd).mono ?_
  rintro e x2 ⟨v, rfl, hv, hy2⟩
  have hbX2 := hbw1.trans (hy2.mono hbw1.size)
  have hv2 := ownsRow_mono' hv hbw1.size
  clear c0 c1 hy2 hv
  go_wp2
  go_ret2
  exact ⟨v, by rw [H1.out]; rfl, by rw [H2.out, placesL_len] at *; first | exact hv2 | (rw [placesL_len] at hv2; exact hv2), hbX2⟩

theorem getD_eq {l m : List Int} (h : l.length = m.length) (hk : ∀ k, k < l.length → l.getD k 0 = m.getD k 0) : l = m := by
  refine List.ext_getElem h (fun i h1 h2 => ?_)
  have := hk i h1
  simpa [List.getD, h1, h2] using this
def sameB (l m : List Int) : Bool := decide (l = m)
set_option maxRecDepth 100000 in
set_option maxHeartbeats 3200000 in
theorem ints_any (l m : List Int) (u v : Value) (w : World) (hl : IntsAt w u l) (hm : IntsAt w v m) : Calls Try.prog 16 #[u, v] w fun e w' => e = .returned (.bool (sameB l m)) ∧ Below w.heap.size w w' := by
  obtain ⟨a, c, rfl⟩ := hl.shape
  obtain ⟨b, d, rfl⟩ := hm.shape
  have hlm : l.length ≤ 9223372036854775807 := hl.1
  by_cases hn : l.length = m.length
  rotate_left
  · have H := Lib.hid (show sameB l m = false by unfold sameB; simp; intro e; exact hn (by rw [e]))
    have hn1 : (((l.length : Nat) : Int) != (m.length : Nat)) = true := by rw [bne_iff_ne]; omega
    go_enter Try.func16, Try.ntmps16
    go_wp2
    go_ret
    exact ⟨by rw [H.out]; rfl, Below.refl _ _⟩
  have hn1 : (((l.length : Nat) : Int) != (m.length : Nat)) = false := by rw [hn]; simp
  have HN := Lib.hid hn
  obtain ⟨S, hS⟩ : ∃ S, sameB l m = S := ⟨_, rfl⟩
  rw [hS]
  have HS := Lib.hid hS
  clear hS hn
  go_enter Try.func16, Try.ntmps16
  go_wp2
  go_loopw [5] (fun i wr => ∃ k : Nat, k ≤ l.length ∧ i = .int .i64 k ∧ Below w.heap.size w wr ∧ ∀ j, j < k → l.getD j 0 = m.getD j 0) (fun i _ => l.length - (intOf i).toNat)
  case atStart => exact ⟨0, by omega, rfl, Below.refl _ _, fun j hj => by omega⟩
  case round =>
    obtain ⟨k, hk, rfl, hb, hj⟩ := hrel
    have HJ := Lib.hid hj
    clear hj
    by_cases hlt : k < l.length
    · obtain ⟨b1, off1, e1, l1, hc1⟩ := (hl.below hb).at (by omega)
      obtain ⟨b2, off2, e2, l2, hc2⟩ := (hm.below hb).at (by have := HN.out; omega)
      subst e1 e2
      have c1 := hc1 k hlt
      have c2 := hc2 k (by have := HN.out; omega)
      obtain ⟨x, hx⟩ : ∃ x, l.getD k 0 = x := ⟨_, rfl⟩
      obtain ⟨y, hy⟩ : ∃ y, m.getD k 0 = y := ⟨_, rfl⟩
      rw [hx] at c1
      rw [hy] at c2
      have i0 : (0 : Int) ≤ (k : Int) := by omega
      have i1 : (k : Int) < (l.length : Int) := by omega
      have i2 : (k : Int) < (m.length : Int) := by have := HN.out; omega
      have HX := Lib.hid hx
      have HY := Lib.hid hy
      clear hx hy hc1 hc2
      by_cases hxy : x = y
      · have hne : (x != y) = false := by rw [hxy]; simp
        have hs : ∀ j, j < k + 1 → l.getD j 0 = m.getD j 0 := fun j hj => by
          by_cases e : j = k
          · rw [e, HX.out, HY.out, hxy]
          · exact HJ.out j (by omega)
        have HS2 := Lib.hid hs
        clear hs hxy
        go_wp2_with fail
        go_quiet (fail)
        go_wp2
        go_roundw
        case rel => exact ⟨k + 1, by omega, by go_num, below_drewN' hb _, HS2.out⟩
        case measure => simp [intOf]; omega
      · have hne : (x != y) = true := by rw [bne_iff_ne]; exact hxy
        have H := Lib.hid (show S = false by
          rw [← HS.out]; unfold sameB; simp
          intro e; apply hxy; rw [← HX.out, ← HY.out, e])
        clear hxy
        go_wp2_with fail
        go_quiet (fail)
        go_wp2
        go_ret
        exact ⟨by rw [H.out]; rfl, below_drewN' hb _⟩
    · obtain rfl : k = l.length := by omega
      have i1 : ¬ (l.length : Int) < (l.length : Int) := by omega
      have H := Lib.hid (show S = true by rw [← HS.out]; unfold sameB; simp; exact getD_eq HN.out HJ.out)
      go_wp2
      go_ret
      exact ⟨by rw [H.out]; rfl, hb⟩
end Go.Proofs.Ytmcndecmnfbggaa
