/- Size: Choose. -/
import Derived.Test.YtlcmedfjghcigaaA12
import Derived.Lib.QuietBelow
namespace Go.Proofs.Ytlcmedfjghcigaa
set_option linter.unusedSimpArgs false
set_option linter.unusedVariables false
open Go.RowKit Go.Maps

theorem errF_zero {h : Hs} {l : List Sz} (k : errF h l = 0) : hsOk h = true ∧ szsOk l = true := by
  unfold errF at k
  cases h1 : hsOk h with
  | false => rw [h1] at k; simp at k
  | true =>
    cases h2 : szsOk l with
    | false => rw [h1, h2] at k; simp at k
    | true => exact ⟨rfl, rfl⟩
theorem szs_sane {l : List Sz} (k : szsOk l = true) : l.length ≤ 100 ∧ ∀ i, i < l.length → SzSane (l.getD i default) := by
  obtain ⟨h1, h2⟩ := szsOk_iff.1 k
  refine ⟨by omega, fun i hi => ?_⟩
  have := h2 i hi
  unfold SzOkAt at this
  rw [Bool.and_eq_true, ← getD_bang l hi] at this
  exact szOk_sane this.1
theorem choose_bad {h : Hs} {l : List Sz} (k : errF h l ≠ 0) : chooseF h l = (0, errF h l) := by unfold chooseF; rw [if_neg k]
theorem choose_nil {h : Hs} {l : List Sz} (k : errF h l = 0) (e : enoughF h l = []) : chooseF h l = (0, 10) := by unfold chooseF; rw [if_pos k, e]
def hearsAt (h : Hs) (l : List Sz) (i : Nat) : Bool := hearF h l[i]!
theorem choose_cons {h : Hs} {l : List Sz} (k : errF h l = 0) (e : enoughF h l ≠ []) : chooseF h l = (match (enoughF h l).find? (hearsAt h l) with | some i => (((i : Nat) : Int), (0 : Int)) | none => (0, 11)) := by
  unfold chooseF
  rw [if_pos k]
  cases he : enoughF h l with
  | nil => exact absurd he e
  | cons a t => rfl
theorem enough_lt {h : Hs} {l : List Sz} : ∀ j ∈ enoughF h l, j < l.length := fun j hj => by
  unfold enoughF enoughUp at hj
  exact List.mem_range.1 (List.mem_filter.1 hj).1
theorem find_first {p : Nat → Bool} : ∀ {L : List Nat} {k : Nat}, k < L.length → (∀ a, a < k → p (L.getD a default) = false) → p (L.getD k default) = true → L.find? p = some (L.getD k default)
  | [], k, h, _, _ => by simp at h
  | x :: L, 0, _, _, h => by simp at h; simp [h]
  | x :: L, k + 1, h, h1, h2 => by
    have hx : p x = false := by simpa using h1 0 (by omega)
    rw [List.find?_cons, hx]
    exact find_first (L := L) (by simpa using h) (fun a ha => by simpa using h1 (a + 1) (by omega)) (by simpa using h2)
theorem find_no {p : Nat → Bool} {L : List Nat} (h : ∀ a, a < L.length → p (L.getD a default) = false) : L.find? p = none := by
  rw [List.find?_eq_none]
  intro x hx
  obtain ⟨i, hi, rfl⟩ := List.mem_iff_getElem.1 hx
  have := h i hi
  rw [List.getD, List.getElem?_eq_getElem hi] at this
  simpa using this
def IntR (w : World) (r : Int × Int) (e : Ending) (w' : World) : Prop := e = .returned (.tuple #[.int .i64 r.1, .int .i64 r.2]) ∧ Below w.heap.size w w'
set_option maxRecDepth 100000 in
set_option maxHeartbeats 3200000 in
theorem Choose_any (h : Hs) (a1 : Option Addr) (c1 : Nat) (a2 : Option Addr) (c2 : Nat) (l : List Sz) (v : Value) (w : World) (hh : HsAt w h a1 c1 a2 c2) (hl : TabAt 4 szC w v l) : Calls Try.prog 18 #[hsV h a1 c1 a2 c2, v] w (IntR w (chooseF h l)) := by
  obtain ⟨la, lc, rfl⟩ := hl.shape
  have mt : h.tp.length ≤ 9223372036854775807 := hh.tp.1
  have ml : l.length ≤ 9223372036854775807 := hl.1
  obtain ⟨W0, hW0⟩ : ∃ X, X = w.alloc (.cells #[.int .i64 h.head, .int .i64 h.drip, .slice a1 h.tp.length c1, .slice a2 h.rl.length c2] 25) := ⟨_, rfl⟩
  have hal : W0 = al w [(.cells #[.int .i64 h.head, .int .i64 h.drip, .slice a1 h.tp.length c1, .slice a2 h.rl.length c2] 25)] := hW0
  have hb0 : Below w.heap.size w W0 := by rw [hal]; exact al_below w _ (Nat.le_refl _)
  have hs0 : W0.heap.size = w.heap.size + 1 := by rw [hal]; exact al_size w _
  have hr0 : W0.heap[w.heap.size]? = some (.cells #[.int .i64 h.head, .int .i64 h.drip, .slice a1 h.tp.length c1, .slice a2 h.rl.length c2] 25 (0, 0)) := by rw [hal]; exact al_get w _ 0 _ rfl
  obtain ⟨P, hP0⟩ : ∃ x, w.heap.size = x := ⟨_, rfl⟩
  rw [hP0] at hr0 hs0
  clear hal
  rw [hP0] at hb0
  have HS := Lib.hid (show w.heap.size = P ∧ W0.heap.size = P + 1 from ⟨by omega, by omega⟩)
  have HB := Lib.hid hb0
  have H0 := Lib.hid hr0
  have hh0 := hh.below (by rw [hP0]; exact hb0)
  have hl0 := hl.below (by rw [hP0]; exact hb0)
  have HH0 := Lib.hid hh0
  have HL0 := Lib.hid hl0
  have KE := Lib.hid (sizesError_any h a1 c1 a2 c2 l _ W0 hh0 hl0)
  have h1 := choose_bad (h := h) (l := l)
  have h2 := choose_nil (h := h) (l := l)
  have h3 := choose_cons (h := h) (l := l)
  have hz := errF_zero (h := h) (l := l)
  obtain ⟨RR, hRR⟩ : ∃ r, chooseF h l = r := ⟨_, rfl⟩
  obtain ⟨E, hE⟩ : ∃ r, errF h l = r := ⟨_, rfl⟩
  rw [hRR] at h1 h2 h3 ⊢
  rw [hE] at h1 h2 h3 hz KE
  have F1 := Lib.hid h1
  have F2 := Lib.hid h2
  have F3 := Lib.hid h3
  have FZ := Lib.hid hz
  obtain ⟨y0, y1, y2, y3⟩ := four_cells hr0
  clear hb0 hr0 hs0 hh hl hh0 hl0 h1 h2 h3 hRR hE hz
  unfold hsV at *
  by_cases he : E = 0
  · subst he
    have ⟨hok, hsz⟩ := FZ.out rfl
    obtain ⟨hlen, hsane⟩ := szs_sane hsz
    have HSA := Lib.hid hsane
    go_enter Try.func18, Try.ntmps18
    go_upto_region 1 with fail
    rw [← hW0]
    clear hW0 hP0
    go_wp2_with (go_at_call 41; fail)
    refine KE.out.mono ?_
    rintro e w2 ⟨rfl, hb2⟩
    have hp2 := box_step (w0 := w) H0.out hb2
    have hh2 := HH0.out.below hb2
    have HL2 := Lib.hid (HL0.out.below hb2)
    have HB2 := Lib.hid (HB.out.trans (hb2.mono (by have := HS.out; omega)))
    have hs2 : P + 1 ≤ w2.heap.size := by have := hb2.size; have := HS.out; omega
    have KD := Lib.hid (demandOf_any h hok a1 c1 a2 c2 w2 hh2)
    unfold hsV at KD
    clear hb2 y0 y1 y2 y3 hsane
    obtain ⟨y0, y1, y2, y3⟩ := four_cells hp2
    go_wp2_with (go_at_call 36; fail)
    refine KD.out.mono ?_
    rintro e w3 ⟨M, rfl, hm3, hb3⟩
    have hd3 := dat_of hh2 hb3 hm3
    have hl3 := HL2.out.below hb3
    have hp3 := box_step (w0 := w) hp2 hb3
    have HB3 := Lib.hid (HB2.out.trans (hb3.mono (by omega)))
    have hs3 : P + 1 ≤ w3.heap.size := by have := hb3.size; omega
    have KN := Lib.hid (enough_any h hok a1 c1 a2 c2 M l _ hlen HSA.out w3 hd3 hl3)
    unfold dV setsCells at KN ⊢
    have HP3 := Lib.hid hp3
    have HL3 := Lib.hid hl3
    clear hb3 hm3 hd3 hl3 hp3 hp2 hh2 y0 y1 y2 y3
    go_wp2_with (go_at_call 45; fail)
    refine KN.out.mono ?_
    rintro e w4 ⟨u, rfl, hu, _, hb4⟩
    obtain ⟨ua, uc, rfl⟩ := hu.shape
    have hp4 := box_step (w0 := w) HP3.out hb4
    have hl4 := HL3.out.below hb4
    have HB4 := Lib.hid (HB3.out.trans (hb4.mono (by omega)))
    have hs4 : P + 1 ≤ w4.heap.size := by have := hb4.size; omega
    have HP4 := Lib.hid hp4
    have HL4 := Lib.hid hl4
    have HU := Lib.hid hu
    have hen := enough_lt (h := h) (l := l)
    have hef : (enoughF h l).length ≤ l.length := enough_few h l l.length
    have HEN := Lib.hid hen
    have hf2 := fun e => F2.out (by simp) e
    have hf3 := fun e => F3.out (by simp) e
    obtain ⟨EN, hEN⟩ : ∃ x, enoughF h l = x := ⟨_, rfl⟩
    rw [hEN] at HEN hf2 hf3 hef HU
    simp only [hEN]
    have HF2 := Lib.hid hf2
    have HF3 := Lib.hid hf3
    clear hb4 hp4 hl4 hu hen hf2 hf3 hEN
    by_cases hnil : EN = []
    · have hrr := HF2.out hnil
      have hl0 : EN.length = 0 := by rw [hnil]; rfl
      have hl1 : (EN.length : Int) = 0 := by rw [hl0]; rfl
      subst hrr
      clear hnil hl0
      go_wp2
      exact bodyPost_ret (results_tmp2 rfl _ _ _) rfl ⟨rfl, by rw [HS.out.1]; exact HB4.out⟩
    · have hrr := HF3.out hnil
      have hlp : 0 < EN.length := List.length_pos_iff.2 hnil
      have hl1 : ((EN.length : Int) == 0) = false := by simp; omega
      have hl2 : ¬ (EN.length : Int) = 0 := by omega
      have HRR := Lib.hid hrr
      clear hnil hrr
      go_wp2_with fail
      clear hl1 hl2
      go_loopw [25] (fun i wr => ∃ k : Nat, k ≤ EN.length ∧ i = .int .i64 k ∧ (∀ a, a < k → hearsAt h l (EN.getD a default) = false) ∧ P + 1 ≤ wr.heap.size ∧ Below P w wr ∧ wr.heap[P]? = some (.cells #[.int .i64 h.head, .int .i64 h.drip, .slice a1 h.tp.length c1, .slice a2 h.rl.length c2] 25 (0, 0)) ∧ TabAt 4 szC wr (.slice la l.length lc) l ∧ TabAt 1 natC wr (.slice ua EN.length uc) EN) (fun i _ => EN.length - (intOf i).toNat)
      case atStart => exact ⟨0, by omega, rfl, fun a ha => absurd ha (Nat.not_lt_zero _), hs4, HB4.out, HP4.out, HL4.out, HU.out⟩
      case round =>
        obtain ⟨k, hk, rfl, hfo, hsr, hbw, hp, htl, hte⟩ := hrel
        have HFO := Lib.hid hfo
        by_cases hlt : k < EN.length
        · obtain ⟨eb, eo, e1, heb, hex⟩ := hte.at hlp
          subst e1
          have z0 := hex k hlt 0 (by omega)
          have hil : EN.getD k default < l.length := HEN.out _ (by rw [List.getD, List.getElem?_eq_getElem hlt]; exact List.getElem_mem hlt)
          have hfirst := find_first (p := hearsAt h l) hlt HFO.out
          have hha : hearsAt h l (EN.getD k default) = decide ((l.getD (EN.getD k default) default).start ≤ h.drip) := by unfold hearsAt hearF; rw [getD_bang l hil]
          have hnext : hearsAt h l (EN.getD k default) = false → ∀ a, a < k + 1 → hearsAt h l (EN.getD a default) = false := fun hf a ha => by
            by_cases e : a = k
            · rw [e]; exact hf
            · exact HFO.out a (by omega)
          obtain ⟨i, hi⟩ : ∃ i, EN.getD k default = i := ⟨_, rfl⟩
          rw [hi] at z0 hil hfirst hha hnext
          simp only [Nat.add_zero, Nat.mul_one, natC] at z0
          obtain ⟨lb, lo, e2, hlb, hlx⟩ := htl.at (by omega)
          subst e2
          have x0 := hlx i hil 0 (by omega)
          have x1 := hlx i hil 1 (by omega)
          have x2 := hlx i hil 2 (by omega)
          have x3 := hlx i hil 3 (by omega)
          obtain ⟨⟨s0, s1, s2, s3⟩, hrow⟩ : ∃ x : Sz, l.getD i default = x := ⟨_, rfl⟩
          rw [hrow] at x0 x1 x2 x3 hha
          simp only [Nat.add_zero, szC] at x0 x1 x2 x3 hha
          obtain ⟨y0, y1, y2, y3⟩ := four_cells hp
          have k0 := cell_regrown x0
          have k1 := cell_regrown x1
          have k2 := cell_regrown x2
          have k3 := cell_regrown x3
          have k4 := cell_regrown y0
          have k5 := cell_regrown y1
          have k6 := cell_regrown y2
          have k7 := cell_regrown y3
          have kh := fun X => hears_any h.head h.drip undef undef a1 a2 h.tp.length c1 h.rl.length c2 ⟨s0, s1, s2, s3⟩ X
          simp only [szV] at kh
          rw [← hha] at kh
          obtain ⟨b, hb⟩ : ∃ b, hearsAt h l i = b := ⟨_, rfl⟩
          rw [hb] at kh hfirst hnext
          have C1 := fun d os => Calls.regrown_of (w := wr) (d := d) (os := os) (kh _)
          have ik : (k : Int) < (EN.length : Int) := by omega
          have ii0 : (0 : Int) ≤ (i : Int) := by omega
          have ii : (i : Int) < (l.length : Int) := by omega
          have HBW := Lib.hid hbw
          have HP := Lib.hid hp
          have HTL := Lib.hid htl
          have HTE := Lib.hid hte
          have HFI := Lib.hid hfirst
          have HNX := Lib.hid hnext
          clear hex hlx hrow hha hbw hp htl hte hfirst hnext hfo kh hb hi heb hlb
          cases b with
          | true =>
            have HFF := Lib.hid (HFI.out rfl)
            go_upto_region 10 with fail
            clear x0 x1 x2 x3 y0 y1 y2 y3
            refine wp_region_quiet_below (by kernel_rfl) (by kernel_rfl) ?_
            repeat (go_big_quiet_step (first | with_reducible exact C1 _ _))
            refine wpQuiet_nil ?_
            intro _ hw'
            obtain ⟨⟨dq, osq⟩, hw''⟩ := hw'
            subst hw''
            go_wp2
            exact bodyPost_ret (results_tmp2 rfl _ _ _) rfl ⟨by rw [HRR.out, HFF.out]; rfl, by rw [HS.out.1]; exact HBW.out.trans ((below_regrown wr dq osq).mono (by omega))⟩
          | false =>
            have HN2 := Lib.hid (HNX.out rfl)
            go_upto_region 10 with fail
            clear x0 x1 x2 x3 y0 y1 y2 y3
            refine wp_region_quiet_below (by kernel_rfl) (by kernel_rfl) ?_
            repeat (go_big_quiet_step (first | with_reducible exact C1 _ _))
            refine wpQuiet_nil ?_
            intro _ hw'
            obtain ⟨⟨dq, osq⟩, hw''⟩ := hw'
            subst hw''
            have hbr := below_regrown wr dq osq
            have HB5 := Lib.hid (HBW.out.trans (hbr.mono (by omega)))
            have HP5 := Lib.hid (box_step (w0 := w) HP.out hbr)
            have HL5 := Lib.hid (HTL.out.below hbr)
            have HE5 := Lib.hid (HTE.out.below hbr)
            have hs5 := Nat.le_trans hsr hbr.size
            clear hbr
            go_wp2
            go_roundw
            case rel => exact ⟨k + 1, by omega, by go_num, HN2.out, hs5, HB5.out, HP5.out, HL5.out, HE5.out⟩
            case measure => simp [intOf]; omega
        · have hkl : k = EN.length := by omega
          have i1 : ¬ (k : Int) < (EN.length : Int) := by omega
          have HNN := Lib.hid (find_no (p := hearsAt h l) (L := EN) (by rw [← hkl]; exact HFO.out))
          have HBW := Lib.hid hbw
          clear hkl hlt hfo hbw hp htl hte hk
          go_wp2
          exact bodyPost_ret (results_tmp2 rfl _ _ _) rfl ⟨by rw [HRR.out, HNN.out]; rfl, by rw [HS.out.1]; exact HBW.out⟩
  · have hrr := F1.out he
    subst hrr
    have hne : (E != 0) = true := by simpa using he
    go_enter Try.func18, Try.ntmps18
    go_upto_region 1 with fail
    rw [← hW0]
    clear hW0 hP0
    go_wp2_with (go_at_call 41; fail)
    refine KE.out.mono ?_
    rintro e w2 ⟨rfl, hb2⟩
    go_wp2
    exact bodyPost_ret (results_tmp2 rfl _ _ _) rfl ⟨rfl, by rw [HS.out.1]; exact HB.out.trans (hb2.mono (by have := HS.out; omega))⟩
end Go.Proofs.Ytlcmedfjghcigaa
