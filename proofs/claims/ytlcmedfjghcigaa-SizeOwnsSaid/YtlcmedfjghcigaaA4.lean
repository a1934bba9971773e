/- Size: is a house valid? -/
import Derived.Test.YtlcmedfjghcigaaA3
namespace Go.Proofs.Ytlcmedfjghcigaa
set_option linter.unusedSimpArgs false
set_option linter.unusedVariables false
open Go.RowKit

def hsV (h : Hs) (a1 : Option Addr) (c1 : Nat) (a2 : Option Addr) (c2 : Nat) : Value := .agg #[.int .i64 h.head, .int .i64 h.drip, .slice a1 h.tp.length c1, .slice a2 h.rl.length c2]
/-- a house in memory -/
structure HsAt (w : World) (h : Hs) (a1 : Option Addr) (c1 : Nat) (a2 : Option Addr) (c2 : Nat) : Prop where
  tp : TabAt 3 tpC w (.slice a1 h.tp.length c1) h.tp
  rl : TabAt 2 rlC w (.slice a2 h.rl.length c2) h.rl
theorem HsAt.below {w w' : World} {h : Hs} {a1 : Option Addr} {c1 : Nat} {a2 : Option Addr} {c2 : Nat} (k : HsAt w h a1 c1 a2 c2) (hb : Below w.heap.size w w') : HsAt w' h a1 c1 a2 c2 := ⟨k.tp.below hb, k.rl.below hb⟩
theorem all_iff {α : Type} [Inhabited α] {p : α → Bool} {l : List α} : l.all p = true ↔ ∀ i, i < l.length → p (l.getD i default) = true := by
  rw [List.all_eq_true]
  constructor
  · intro h i hi
    rw [List.getD, List.getElem?_eq_getElem hi]
    exact h _ (List.getElem_mem hi)
  · intro h x hx
    obtain ⟨i, hi, rfl⟩ := List.mem_iff_getElem.1 hx
    have := h i hi
    rwa [List.getD, List.getElem?_eq_getElem hi] at this
theorem hsOk_iff {h : Hs} : hsOk h = true ↔ headOk h = true ∧ (∀ i, i < h.tp.length → tapOk (h.tp.getD i default) = true) ∧ ∀ i, i < h.rl.length → ruleOk h.tp.length (h.rl.getD i default) = true := by
  unfold hsOk
  rw [Bool.and_eq_true, Bool.and_eq_true, all_iff, all_iff]
theorem headOk_iff {h : Hs} : headOk h = true ↔ (0 ≤ h.head ∧ h.head ≤ 10000) ∧ (0 ≤ h.drip ∧ h.drip ≤ 1000000) ∧ (1 ≤ h.tp.length ∧ h.tp.length ≤ 10) ∧ h.rl.length ≤ 8 := by
  unfold headOk
  simp only [Bool.and_eq_true, inF_iff, decide_eq_true_eq]
  omega
theorem pow_table {n : Nat} (h : n ≤ 10) : 1 ≤ 2 ^ n ∧ 2 ^ n ≤ 1024 := ⟨Nat.one_le_two_pow, Nat.pow_le_pow_right (by omega) h⟩
set_option maxRecDepth 100000 in
set_option maxHeartbeats 6400000 in
theorem isHouse_any (h : Hs) (a1 : Option Addr) (c1 : Nat) (a2 : Option Addr) (c2 : Nat) (w : World) (hh : HsAt w h a1 c1 a2 c2) : Calls Try.prog 35 #[hsV h a1 c1 a2 c2] w fun e w' => e = .returned (.bool (hsOk h)) ∧ Below w.heap.size w w' := by
  obtain ⟨hd, dr, ts, rs⟩ := h
  have mt : ts.length ≤ 9223372036854775807 := hh.tp.1
  have mr : rs.length ≤ 9223372036854775807 := hh.rl.1
  have HT := Lib.hid hh.tp
  have HR := Lib.hid hh.rl
  have hiff := hsOk_iff (h := ⟨hd, dr, ts, rs⟩)
  have hk : headOk ⟨hd, dr, ts, rs⟩ = (inF hd 0 10000 && (inF dr 0 1000000 && (inF ts.length 1 10 && decide (rs.length ≤ 8)))) := rfl
  have hkk := headOk_iff (h := ⟨hd, dr, ts, rs⟩)
  obtain ⟨R, hR⟩ : ∃ b, hsOk ⟨hd, dr, ts, rs⟩ = b := ⟨_, rfl⟩
  rw [hR] at hiff ⊢
  simp only [] at hiff hkk HT HR
  obtain ⟨W0, hW0⟩ : ∃ X, X = w.alloc (.cells #[.int .i64 hd, .int .i64 dr, .slice a1 ts.length c1, .slice a2 rs.length c2] 25) := ⟨_, rfl⟩
  have hal : W0 = al w [(.cells #[.int .i64 hd, .int .i64 dr, .slice a1 ts.length c1, .slice a2 rs.length c2] 25)] := hW0
  have hb0 : Below w.heap.size w W0 := by rw [hal]; exact al_below w _ (Nat.le_refl _)
  have hs0 : W0.heap.size = w.heap.size + 1 := by rw [hal]; exact al_size w _
  have hr0 : W0.heap[w.heap.size]? = some (.cells #[.int .i64 hd, .int .i64 dr, .slice a1 ts.length c1, .slice a2 rs.length c2] 25 (0, 0)) := by rw [hal]; exact al_get w _ 0 _ rfl
  obtain ⟨P, hP0⟩ : ∃ x, w.heap.size = x := ⟨_, rfl⟩
  rw [hP0] at hr0 hs0
  clear hal
  rw [hP0] at hb0
  have HS := Lib.hid (show w.heap.size = P ∧ W0.heap.size = P + 1 from ⟨by omega, by omega⟩)
  have H0 := Lib.hid hr0
  have HB := Lib.hid hb0
  have k1 := fun X => isFrom_any hd 0 10000 X
  have k2 := fun X => isFrom_any dr 0 1000000 X
  have k3 := fun X => isFrom_any (ts.length : Int) 1 10 X
  obtain ⟨b1, e1⟩ : ∃ b, inF hd 0 10000 = b := ⟨_, rfl⟩
  obtain ⟨b2, e2⟩ : ∃ b, inF dr 0 1000000 = b := ⟨_, rfl⟩
  obtain ⟨b3, e3⟩ : ∃ b, inF ts.length 1 10 = b := ⟨_, rfl⟩
  rw [e1, e2, e3] at hk
  simp only [e1] at k1
  simp only [e2] at k2
  simp only [e3] at k3
  have K1 := Lib.hid k1
  have K2 := Lib.hid k2
  have K3 := Lib.hid k3
  obtain ⟨y0, y1, y2, y3⟩ := four_cells hr0
  have HIFF := Lib.hid hiff
  have HK := Lib.hid hk
  have HKK := Lib.hid hkk
  clear hiff hk hkk k1 k2 k3 e1 e2 e3 hR hb0 hr0 hs0 hh
  unfold hsV
  simp only []
  by_cases hall : b1 = true ∧ b2 = true ∧ b3 = true ∧ rs.length ≤ 8
  · obtain ⟨rfl, rfl, rfl, h8⟩ := hall
    have hko : headOk ⟨hd, dr, ts, rs⟩ = true := by rw [HK.out]; simp [h8]
    have HKO := Lib.hid hko
    have hkp := HKK.out.1 hko
    have h10 : ts.length ≤ 10 := hkp.2.2.1.2
    have hg : decide ((rs.length : Int) > 8) = false := by simp; omega
    have hg2 : decide (8 < (rs.length : Int)) = false := by simp; omega
    clear h8 hko hkp
    go_enter Try.func35, Try.ntmps35
    go_upto_region 1 with fail
    rw [← hW0]
    clear hW0 hP0
    go_wp2_with (go_at_call 48; (first | (with_reducible refine (K1.out _).mono ?_) | (with_reducible refine (K2.out _).mono ?_) | (with_reducible refine (K3.out _).mono ?_)); rintro e w2 ⟨rfl, rfl⟩)
    go_loopw [33] (fun i wr => ∃ j : Nat, j ≤ ts.length ∧ i = .int .i64 j ∧ (∀ a, a < j → tapOk (ts.getD a default) = true) ∧ P < wr.heap.size ∧ Below P w wr ∧ wr.heap[P]? = some (.cells #[.int .i64 hd, .int .i64 dr, .slice a1 ts.length c1, .slice a2 rs.length c2] 25 (0, 0))) (fun i _ => ts.length - (intOf i).toNat)
    case atStart => exact ⟨0, by omega, rfl, fun a ha => absurd ha (Nat.not_lt_zero _), by have := HS.out; omega, HB.out, H0.out⟩
    case round =>
      obtain ⟨j, hj, rfl, hfo, hPs, hbw, hp⟩ := hrel
      have HFO := Lib.hid hfo
      have HBW := Lib.hid hbw
      have HP := Lib.hid hp
      clear hfo hp y0 y1 y2 y3
      by_cases hlt : j < ts.length
      · obtain ⟨lb, lo, e1, hlb, hlx⟩ := HT.out.at (by omega)
        subst e1
        rw [HS.out.1] at hlb
        have x0 := (hbw.cell (p := ⟨lb, lo + j * 3 + 0, none⟩) hlb).trans (hlx j hlt 0 (by omega))
        have x1 := (hbw.cell (p := ⟨lb, lo + j * 3 + 1, none⟩) hlb).trans (hlx j hlt 1 (by omega))
        have x2 := (hbw.cell (p := ⟨lb, lo + j * 3 + 2, none⟩) hlb).trans (hlx j hlt 2 (by omega))
        have hbad : tapOk (ts.getD j default) = false → R = false := fun h => by
          rw [← Bool.not_eq_true, HIFF.out]
          rintro ⟨_, hh, _⟩
          have := hh j hlt
          rw [h] at this; cases this
        have hnx : tapOk (ts.getD j default) = true → ∀ a, a < j + 1 → tapOk (ts.getD a default) = true := fun h a ha => by
          by_cases e : a = j
          · rw [e]; exact h
          · exact HFO.out a (by omega)
        obtain ⟨⟨⟨t0, t1⟩, tn⟩, hrow⟩ : ∃ x : Tp, ts.getD j default = x := ⟨_, rfl⟩
        rw [hrow] at x0 x1 x2 hbad hnx
        simp only [Nat.add_zero, tpC] at x0 x1 x2
        have kt := isTap_any ⟨(t0, t1), tn⟩
        obtain ⟨b, hb⟩ : ∃ b, tapOk ⟨(t0, t1), tn⟩ = b := ⟨_, rfl⟩
        rw [hb] at hbad hnx
        simp only [hb, tpV] at kt
        have ij1 : (j : Int) < (ts.length : Int) := Int.ofNat_lt.2 hlt
        obtain ⟨W1, hW1⟩ : ∃ X, X = wr.alloc (.cells #[.int .i64 t0, .int .i64 t1, .int .i64 tn] 52) := ⟨_, rfl⟩
        have hr1 : W1.heap[wr.heap.size]? = some (.cells #[.int .i64 t0, .int .i64 t1, .int .i64 tn] 52 (0, 0)) := by rw [hW1]; exact alloc_heap wr _
        have hb1 : Below wr.heap.size wr W1 := by rw [hW1]; exact (Below.refl _ _).alloc (Nat.le_refl _) _
        have HP1 := Lib.hid (box_step (w0 := w) HP.out hb1)
        have HB1 := Lib.hid (HBW.out.trans (hb1.mono (by omega)))
        have HS1 := Lib.hid (show P < W1.heap.size by have := hb1.size; omega)
        obtain ⟨d0, d1, d2⟩ := three_cells hr1
        have KT := Lib.hid kt
        have HBAD := Lib.hid hbad
        have HNX := Lib.hid hnx
        clear hlx hrow hb kt hbad hnx hr1 hb1 hbw hPs hlb
        go_upto_region 6 with fail
        rw [← hW1]
        obtain ⟨B, hB⟩ : ∃ B, wr.heap.size = B := ⟨_, rfl⟩
        rw [hB] at d0 d1 d2 ⊢
        clear hW1 hB x0 x1 x2
        go_wp2_with (go_at_call 53; fail)
        refine (KT.out _).mono ?_
        rintro e w2 ⟨rfl, hb2⟩
        have HB2 := Lib.hid (HB1.out.trans (hb2.mono (by have := HS1.out; omega)))
        have HP2 := Lib.hid (box_step (w0 := w) HP1.out hb2)
        have hs2 : P < w2.heap.size := by have := hb2.size; have := HS1.out; omega
        clear hb2 d0 d1 d2
        cases b with
        | false =>
          have hrr := HBAD.out rfl
          subst hrr
          go_wp2
          go_ret
          exact ⟨rfl, by rw [HS.out.1]; exact HB2.out⟩
        | true =>
          have HNX2 := Lib.hid (HNX.out rfl)
          go_wp2
          go_roundw
          case rel => exact ⟨j + 1, by omega, by go_num, HNX2.out, hs2, HB2.out, HP2.out⟩
          case measure => simp [intOf]; omega
      · have hjl : j = ts.length := by omega
        have i1 : ¬ (j : Int) < (ts.length : Int) := by omega
        have HTO := Lib.hid (show ∀ i, i < ts.length → tapOk (ts.getD i default) = true by rw [← hjl]; exact HFO.out)
        have h1t : 1 ≤ ts.length := (HKK.out.1 HKO.out).2.2.1.1
        clear HFO hjl hlt hj hbw
        obtain ⟨y0, y1, y2, y3⟩ := four_cells HP.out
        go_wp2_with fail
        go_loopw [44] (fun i wr => ∃ j : Nat, j ≤ rs.length ∧ i = .int .i64 j ∧ (∀ a, a < j → ruleOk ts.length (rs.getD a default) = true) ∧ P < wr.heap.size ∧ Below P w wr ∧ wr.heap[P]? = some (.cells #[.int .i64 hd, .int .i64 dr, .slice a1 ts.length c1, .slice a2 rs.length c2] 25 (0, 0))) (fun i _ => rs.length - (intOf i).toNat)
        case atStart => exact ⟨0, by omega, rfl, fun a ha => absurd ha (Nat.not_lt_zero _), hPs, HBW.out, HP.out⟩
        case round =>
          clear HBW HP y0 y1 y2 y3 hPs
          obtain ⟨j, hj, rfl, hfo, hPs, hbw, hp⟩ := hrel
          have HFO := Lib.hid hfo
          have HBW := Lib.hid hbw
          have HP := Lib.hid hp
          clear hfo hp
          by_cases hlt : j < rs.length
          · obtain ⟨lb, lo, e1, hlb, hlx⟩ := HR.out.at (by omega)
            subst e1
            rw [HS.out.1] at hlb
            have x0 := (hbw.cell (p := ⟨lb, lo + j * 2 + 0, none⟩) hlb).trans (hlx j hlt 0 (by omega))
            have x1 := (hbw.cell (p := ⟨lb, lo + j * 2 + 1, none⟩) hlb).trans (hlx j hlt 1 (by omega))
            have hbad : ruleOk ts.length (rs.getD j default) = false → R = false := fun h => by
              rw [← Bool.not_eq_true, HIFF.out]
              rintro ⟨_, _, hh⟩
              have := hh j hlt
              rw [h] at this; cases this
            have hnx : ruleOk ts.length (rs.getD j default) = true → ∀ a, a < j + 1 → ruleOk ts.length (rs.getD a default) = true := fun h a ha => by
              by_cases e : a = j
              · rw [e]; exact h
              · exact HFO.out a (by omega)
            obtain ⟨⟨rt, rm⟩, hrow⟩ : ∃ x : Rl, rs.getD j default = x := ⟨_, rfl⟩
            rw [hrow] at x0 x1 hbad hnx
            simp only [Nat.add_zero, rlC] at x0 x1
            have hro : ruleOk ts.length ⟨rt, rm⟩ = (inF rt 0 ((2 ^ ts.length : Nat) - 1) && inF rm 0 10) := rfl
            have q1 := fun X => isFrom_any rt 0 ((2 ^ ts.length : Nat) - 1) X
            have q2 := fun X => isFrom_any rm 0 10 X
            obtain ⟨z, hz⟩ : ∃ z : Nat, 2 ^ ts.length = z := ⟨_, rfl⟩
            have hzb := pow_table h10
            rw [hz] at hzb hro q1
            have hshl : (2 : Int) ^ ts.length = (z : Int) := by rw [← hz]; simp
            obtain ⟨b4, e4⟩ : ∃ b, inF rt 0 ((z : Nat) - 1) = b := ⟨_, rfl⟩
            obtain ⟨b5, e5⟩ : ∃ b, inF rm 0 10 = b := ⟨_, rfl⟩
            rw [e4, e5] at hro
            simp only [e4] at q1
            simp only [e5] at q2
            rw [hro] at hbad hnx
            have ij1 : (j : Int) < (rs.length : Int) := Int.ofNat_lt.2 hlt
            obtain ⟨W1, hW1⟩ : ∃ X, X = wr.alloc (.cells #[.int .i64 rt, .int .i64 rm] 65) := ⟨_, rfl⟩
            have hr1 : W1.heap[wr.heap.size]? = some (.cells #[.int .i64 rt, .int .i64 rm] 65 (0, 0)) := by rw [hW1]; exact alloc_heap wr _
            have hb1 : Below wr.heap.size wr W1 := by rw [hW1]; exact (Below.refl _ _).alloc (Nat.le_refl _) _
            have hp1 := box_step (w0 := w) HP.out hb1
            have HP1 := Lib.hid hp1
            have HB1 := Lib.hid (HBW.out.trans (hb1.mono (by omega)))
            have HS1 := Lib.hid (show P < W1.heap.size by have := hb1.size; omega)
            obtain ⟨d0, d1⟩ := two_cells hr1
            have Q1 := Lib.hid q1
            have Q2 := Lib.hid q2
            have HBAD := Lib.hid hbad
            have HNX := Lib.hid hnx
            have w1 : IntKind.i64.wrap ((z : Int) - 1) = (z : Int) - 1 := IntWalk.i64_in _ (by omega)
            have w2 : IntKind.i64.wrap (z : Int) = (z : Int) := IntWalk.i64_in _ (by omega)
            clear hlx hrow hro q1 q2 e4 e5 hz hbad hnx hr1 hb1 hbw hPs hlb
            go_upto_region 12 with fail
            rw [← hW1]
            obtain ⟨B, hB⟩ : ∃ B, wr.heap.size = B := ⟨_, rfl⟩
            rw [hB] at d0 d1 ⊢
            obtain ⟨y0, y1, y2, y3⟩ := four_cells hp1
            clear hW1 hB x0 x1 y0 y1 y3 hp1
            cases b4 with
            | false =>
              have hrr := HBAD.out rfl
              subst hrr
              go_quiet ((go_at_call 48; with_reducible exact Calls.quiet_of_same ((Q1.out _).mono fun _ _ ⟨a, b⟩ => ⟨a, b.symm⟩)))
              go_wp2
              go_ret
              exact ⟨rfl, by rw [HS.out.1]; exact below_drewn HB1.out _⟩
            | true =>
              cases b5 with
              | false =>
                have hrr := HBAD.out rfl
                subst hrr
                go_quiet ((go_at_call 48; first | with_reducible exact Calls.quiet_of_same ((Q1.out _).mono fun _ _ ⟨a, b⟩ => ⟨a, b.symm⟩) | with_reducible exact Calls.quiet_of_same ((Q2.out _).mono fun _ _ ⟨a, b⟩ => ⟨a, b.symm⟩)))
                go_wp2
                go_ret
                exact ⟨rfl, by rw [HS.out.1]; exact below_drewn HB1.out _⟩
              | true =>
                have HNX2 := Lib.hid (HNX.out rfl)
                go_quiet ((go_at_call 48; first | with_reducible exact Calls.quiet_of_same ((Q1.out _).mono fun _ _ ⟨a, b⟩ => ⟨a, b.symm⟩) | with_reducible exact Calls.quiet_of_same ((Q2.out _).mono fun _ _ ⟨a, b⟩ => ⟨a, b.symm⟩)))
                go_wp2
                go_roundw
                case rel => exact ⟨j + 1, by omega, by go_num, HNX2.out, HS1.out, below_drewn HB1.out _, HP1.out⟩
                case measure => simp [intOf]; omega
          · have hjl : j = rs.length := by omega
            have i1 : ¬ (j : Int) < (rs.length : Int) := by omega
            have hrr : R = true := HIFF.out.2 ⟨HKO.out, HTO.out, by rw [← hjl]; exact HFO.out⟩
            subst hrr
            clear HFO hjl hlt hj hbw
            go_wp2
            go_ret
            exact ⟨rfl, by rw [HS.out.1]; exact HBW.out⟩
  · have hrr : R = false := by
      rw [← Bool.not_eq_true, HIFF.out]
      rintro ⟨h1, _⟩
      rw [HK.out] at h1
      simp only [Bool.and_eq_true, decide_eq_true_eq] at h1
      exact hall ⟨h1.1, h1.2.1, h1.2.2.1, h1.2.2.2⟩
    subst hrr
    cases b1 with
    | false =>
      go_enter Try.func35, Try.ntmps35
      go_upto_region 1 with fail
      rw [← hW0]
      clear hW0 hP0
      go_wp2_with (go_at_call 48; (first | (with_reducible refine (K1.out _).mono ?_) | (with_reducible refine (K2.out _).mono ?_) | (with_reducible refine (K3.out _).mono ?_)); rintro e w2 ⟨rfl, rfl⟩)
      go_ret
      exact ⟨rfl, by rw [HS.out.1]; exact HB.out⟩
    | true =>
      cases b2 with
      | false =>
        go_enter Try.func35, Try.ntmps35
        go_upto_region 1 with fail
        rw [← hW0]
        clear hW0 hP0
        go_wp2_with (go_at_call 48; (first | (with_reducible refine (K1.out _).mono ?_) | (with_reducible refine (K2.out _).mono ?_) | (with_reducible refine (K3.out _).mono ?_)); rintro e w2 ⟨rfl, rfl⟩)
        go_ret
        exact ⟨rfl, by rw [HS.out.1]; exact HB.out⟩
      | true =>
        cases b3 with
        | false =>
          go_enter Try.func35, Try.ntmps35
          go_upto_region 1 with fail
          rw [← hW0]
          clear hW0 hP0
          go_wp2_with (go_at_call 48; (first | (with_reducible refine (K1.out _).mono ?_) | (with_reducible refine (K2.out _).mono ?_) | (with_reducible refine (K3.out _).mono ?_)); rintro e w2 ⟨rfl, rfl⟩)
          go_ret
          exact ⟨rfl, by rw [HS.out.1]; exact HB.out⟩
        | true =>
          have hg : 8 < (rs.length : Int) := by
            have := hall
            simp at this
            omega
          clear hall
          go_enter Try.func35, Try.ntmps35
          go_upto_region 1 with fail
          rw [← hW0]
          clear hW0 hP0
          go_wp2_with (go_at_call 48; (first | (with_reducible refine (K1.out _).mono ?_) | (with_reducible refine (K2.out _).mono ?_) | (with_reducible refine (K3.out _).mono ?_)); rintro e w2 ⟨rfl, rfl⟩)
          go_ret
          exact ⟨rfl, by rw [HS.out.1]; exact HB.out⟩
end Go.Proofs.Ytlcmedfjghcigaa
