/- Size: which sets can be open; what a set takes. -/
import Derived.Test.YtlcmedfjghcigaaA2
namespace Go.Proofs.Ytlcmedfjghcigaa
set_option linter.unusedSimpArgs false
set_option linter.unusedVariables false
open Go.RowKit

theorem open_iff {rs : List Rl} {s : Nat} : openF rs s = true ↔ ∀ i, i < rs.length → keepF s (rs.getD i default) = true := by
  unfold openF
  rw [List.all_eq_true]
  constructor
  · intro h i hi
    rw [List.getD, List.getElem?_eq_getElem hi]
    exact h _ (List.getElem_mem hi)
  · intro h x hx
    obtain ⟨i, hi, rfl⟩ := List.mem_iff_getElem.1 hx
    have := h i hi
    rwa [List.getD, List.getElem?_eq_getElem hi] at this
/-- sets of rules small enough to be counted -/
def RulesIn (rs : List Rl) : Prop := ∀ i, i < rs.length → 0 ≤ (rs.getD i default).t ∧ (rs.getD i default).t < 1048576
set_option maxRecDepth 100000 in
set_option maxHeartbeats 3200000 in
theorem keeps_any (s : Nat) (hs : s < 1048576) (rs : List Rl) (v : Value) (w : World) (h : TabAt 2 rlC w v rs) (hr : RulesIn rs) : Calls Try.prog 57 #[.int .i64 s, v] w fun e w' => e = .returned (.bool (openF rs s)) ∧ Below w.heap.size w w' := by
  obtain ⟨la, lc, rfl⟩ := h.shape
  have ml : rs.length ≤ 9223372036854775807 := h.1
  have HL := Lib.hid h
  have HIN := Lib.hid hr
  have hiff := open_iff (rs := rs) (s := s)
  obtain ⟨R, hR⟩ : ∃ b, openF rs s = b := ⟨_, rfl⟩
  rw [hR] at hiff ⊢
  have HIFF := Lib.hid hiff
  clear h hr hiff hR
  go_enter Try.func57, Try.ntmps57
  go_wp2
  go_loopw [9] (fun i wr => ∃ j : Nat, j ≤ rs.length ∧ i = .int .i64 j ∧ (∀ a, a < j → keepF s (rs.getD a default) = true) ∧ Below w.heap.size w wr) (fun i _ => rs.length - (intOf i).toNat)
  case atStart => exact ⟨0, by omega, rfl, fun a ha => absurd ha (Nat.not_lt_zero _), Below.refl _ _⟩
  case round =>
    obtain ⟨j, hj, rfl, hfo, hbw⟩ := hrel
    have HFO := Lib.hid hfo
    have HBW := Lib.hid hbw
    clear hfo
    by_cases hlt : j < rs.length
    · obtain ⟨lb, lo, e1, hlb, hlx⟩ := HL.out.at (by omega)
      subst e1
      have hbad : keepF s (rs.getD j default) = false → R = false := fun h => by
        rw [← Bool.not_eq_true, HIFF.out]
        intro hh
        have := hh j hlt
        rw [h] at this; cases this
      have hnx : keepF s (rs.getD j default) = true → ∀ a, a < j + 1 → keepF s (rs.getD a default) = true := fun h a ha => by
        by_cases e : a = j
        · rw [e]; exact h
        · exact HFO.out a (by omega)
      have x0 := (hbw.cell (p := ⟨lb, lo + j * 2 + 0, none⟩) hlb).trans (hlx j hlt 0 (by omega))
      have x1 := (hbw.cell (p := ⟨lb, lo + j * 2 + 1, none⟩) hlb).trans (hlx j hlt 1 (by omega))
      have hin := HIN.out j hlt
      obtain ⟨⟨rt, rm⟩, hrow⟩ : ∃ x : Rl, rs.getD j default = x := ⟨_, rfl⟩
      rw [hrow] at x0 x1 hin
      simp only [Nat.add_zero, rlC] at x0 x1 hin
      rw [hrow] at hbad hnx
      obtain ⟨t, rfl⟩ : ∃ n : Nat, rt = n := ⟨rt.toNat, by omega⟩
      have hk : keepF s ⟨t, rm⟩ = decide ((onesN 20 (s &&& t) : Nat) ≤ rm) := rfl
      have hand : bits BinOp.and IntKind.u64 (s : Int) (t : Int) = ((s &&& t : Nat) : Int) := bits_and_u64_nat _ _ (by omega) (by omega)
      have hle : s &&& t ≤ s := Nat.and_le_left
      have kc := fun X => onesCount_any (s &&& t) (by omega) X
      rw [popF_ones _ (by omega)] at kc
      obtain ⟨u, hu⟩ : ∃ u, s &&& t = u := ⟨_, rfl⟩
      rw [hu] at hand kc hk
      obtain ⟨q, hq⟩ : ∃ q, onesN 20 u = q := ⟨_, rfl⟩
      rw [hq] at kc hk
      have ij1 : (j : Int) < (rs.length : Int) := Int.ofNat_lt.2 hlt
      have ew1 : IntKind.u64.wrap (s : Int) = s := by unfold IntKind.wrap; simp [IntKind.signed, IntKind.bits]; omega
      have ew2 : IntKind.u64.wrap (t : Int) = t := by unfold IntKind.wrap; simp [IntKind.signed, IntKind.bits]; omega
      obtain ⟨W1, hW1⟩ : ∃ X, X = wr.alloc (.cells #[.int .i64 t, .int .i64 rm] 65) := ⟨_, rfl⟩
      have hr1 : W1.heap[wr.heap.size]? = some (.cells #[.int .i64 t, .int .i64 rm] 65 (0, 0)) := by rw [hW1]; exact alloc_heap wr _
      have HB1 := Lib.hid (show Below w.heap.size w W1 by rw [hW1]; exact hbw.alloc hbw.size _)
      obtain ⟨c0, c1⟩ := two_cells hr1
      have KC := Lib.hid kc
      have HNX := Lib.hid hnx
      have HBAD := Lib.hid hbad
      have HK := Lib.hid hk
      clear hlx hrow hin hu hq kc hnx hbad hbw hr1 hk hle
      go_upto_region 4 with fail
      rw [← hW1]
      obtain ⟨Q, hQ⟩ : ∃ Q, wr.heap.size = Q := ⟨_, rfl⟩
      rw [hQ] at c0 c1 ⊢
      clear hW1 hQ x0 x1
      by_cases hqm : (q : Int) ≤ rm
      · have hd : decide ((q : Int) > rm) = false := by simp; omega
        have hd2 : decide (rm < (q : Int)) = false := by simp; omega
        have HNX2 := Lib.hid (HNX.out (by rw [HK.out]; exact decide_eq_true hqm))
        clear hqm
        go_quiet ((go_at_call 64; with_reducible exact Calls.quiet_of_same ((KC.out _).mono fun _ _ ⟨a, b⟩ => ⟨a, b.symm⟩)))
        go_wp2
        go_roundw
        case rel => exact ⟨j + 1, by omega, by go_num, HNX2.out, below_drewn HB1.out _⟩
        case measure => simp [intOf]; omega
      · have hrr := HBAD.out (by rw [HK.out]; exact decide_eq_false hqm)
        subst hrr
        have hd : rm < (q : Int) := by omega
        clear hqm
        go_quiet ((go_at_call 64; with_reducible exact Calls.quiet_of_same ((KC.out _).mono fun _ _ ⟨a, b⟩ => ⟨a, b.symm⟩)))
        go_wp2
        go_ret
        exact ⟨rfl, below_drewn HB1.out _⟩
    · have hjl : j = rs.length := by omega
      have i1 : ¬ (j : Int) < (rs.length : Int) := by omega
      have hrr : R = true := HIFF.out.2 (by rw [← hjl]; exact HFO.out)
      subst hrr
      clear hjl hlt hj hbw
      go_wp2
      go_ret
      exact ⟨rfl, HBW.out⟩
theorem load_bnd {ts : List Tp} (hok : ∀ i, i < ts.length → tapOk (ts.getD i default) = true) (s : Nat) : ∀ k : Nat, k ≤ ts.length → LdIn (loadUp ts s k) ((k : Int) * 100000)
  | 0, _ => by simp [loadUp, LdIn]
  | k + 1, hk => by
    have ih := load_bnd hok s k (by omega)
    have ht := tapOk_iff.1 (hok k (by omega))
    rw [getD_bang ts (by omega)] at ht
    obtain ⟨⟨a, b⟩, c, d⟩ := ih
    have e : ((k + 1 : Nat) : Int) * 100000 = (k : Int) * 100000 + 100000 := by omega
    rw [e]
    unfold loadUp
    by_cases hh : hasF s k = true
    · rw [if_pos hh]
      unfold LdIn withF
      simp only []
      omega
    · rw [if_neg hh]
      unfold LdIn
      omega
theorem loadUp_yes {ts : List Tp} {s k : Nat} (h : hasF s k = true) : loadUp ts s (k + 1) = withF (loadUp ts s k) ts[k]! := by rw [loadUp, if_pos h]
theorem loadUp_no {ts : List Tp} {s k : Nat} (h : hasF s k = false) : loadUp ts s (k + 1) = loadUp ts s k := by rw [loadUp, if_neg (by rw [h]; simp)]
set_option maxRecDepth 100000 in
set_option maxHeartbeats 3200000 in
theorem load_any (s : Nat) (hs : s < 1048576) (ts : List Tp) (v : Value) (w : World) (h : TabAt 3 tpC w v ts) (hlen : ts.length ≤ 60) (hok : ∀ i, i < ts.length → tapOk (ts.getD i default) = true) : Calls Try.prog 54 #[.int .i64 s, v] w fun e w' => e = .returned (ldV (loadF ts s)) ∧ Below w.heap.size w w' := by
  obtain ⟨la, lc, rfl⟩ := h.shape
  have ml : ts.length ≤ 9223372036854775807 := h.1
  have HOK := Lib.hid hok
  have HBN := Lib.hid (load_bnd hok s)
  obtain ⟨W0, hW0⟩ : ∃ X, X = (w.alloc (.cells #[.int .i64 0, .int .i64 0, .int .i64 0] 101)).alloc (.cells #[.int .i64 0, .int .i64 0, .int .i64 0] 101) := ⟨_, rfl⟩
  have hal : W0 = al w [(.cells #[.int .i64 0, .int .i64 0, .int .i64 0] 101), (.cells #[.int .i64 0, .int .i64 0, .int .i64 0] 101)] := hW0
  have hb0 : Below w.heap.size w W0 := by rw [hal]; exact al_below w _ (Nat.le_refl _)
  have hs0 : W0.heap.size = w.heap.size + 2 := by rw [hal]; exact al_size w _
  have hr0 : W0.heap[w.heap.size]? = some (.cells #[.int .i64 0, .int .i64 0, .int .i64 0] 101 (0, 0)) := by rw [hal]; exact al_get w _ 0 _ rfl
  have hr1 : W0.heap[w.heap.size + 1]? = some (.cells #[.int .i64 0, .int .i64 0, .int .i64 0] 101 (0, 0)) := by rw [hal]; exact al_get w _ 1 _ rfl
  obtain ⟨P, hP0⟩ : ∃ x, w.heap.size = x := ⟨_, rfl⟩
  rw [hP0] at hr0 hr1 hs0
  obtain ⟨Q, hP1⟩ : ∃ x, P + 1 = x := ⟨_, rfl⟩
  rw [hP1] at hr1
  clear hal
  rw [hP0] at hb0
  have HL := Lib.hid h
  have HHS := Lib.hid (show w.heap.size = P ∧ Q = P + 1 ∧ W0.heap.size = P + 2 from ⟨by omega, by omega, by omega⟩)
  have H0 := Lib.hid hr0
  have H1 := Lib.hid hr1
  have HB := Lib.hid hb0
  clear h hok hr0 hr1 hb0 hs0
  go_enter Try.func54, Try.ntmps54
  go_upto_region 2 with fail
  rw [← hW0]
  clear hW0 hP0 hP1
  go_wp2_with fail
  go_loopw [10] (fun i wr => ∃ j : Nat, j ≤ ts.length ∧ i = .int .i64 j ∧ Q < wr.heap.size ∧ Below P w wr ∧ wr.heap[P]? = some (.cells #[.int .i64 0, .int .i64 0, .int .i64 0] 101 (0, 0)) ∧ wr.heap[Q]? = some (.cells #[.int .i64 (loadUp ts s j).f.1, .int .i64 (loadUp ts s j).f.2, .int .i64 (loadUp ts s j).n] 101 (0, 0))) (fun i _ => ts.length - (intOf i).toNat)
  case atStart => exact ⟨0, by omega, rfl, by have := HHS.out; omega, HB.out, H0.out, H1.out⟩
  case round =>
    obtain ⟨j, hj, rfl, hQs, hbw, hp, hq⟩ := hrel
    have HP := Lib.hid hp
    have HQ := Lib.hid hq
    have HBW := Lib.hid hbw
    clear hp hq
    by_cases hlt : j < ts.length
    · obtain ⟨lb, lo, e1, hlb, hlx⟩ := HL.out.at (by omega)
      subst e1
      rw [HHS.out.1] at hlb
      have x0 := (hbw.cell (p := ⟨lb, lo + j * 3 + 0, none⟩) hlb).trans (hlx j hlt 0 (by omega))
      have x1 := (hbw.cell (p := ⟨lb, lo + j * 3 + 1, none⟩) hlb).trans (hlx j hlt 1 (by omega))
      have x2 := (hbw.cell (p := ⟨lb, lo + j * 3 + 2, none⟩) hlb).trans (hlx j hlt 2 (by omega))
      have hin := HOK.out j hlt
      have hyes := loadUp_yes (ts := ts) (s := s) (k := j)
      have hno := loadUp_no (ts := ts) (s := s) (k := j)
      rw [← getD_bang ts hlt] at hyes
      obtain ⟨⟨⟨t0, t1⟩, tn⟩, hrow⟩ : ∃ x : Tp, ts.getD j default = x := ⟨_, rfl⟩
      rw [hrow] at x0 x1 x2 hin hyes
      simp only [Nat.add_zero, tpC] at x0 x1 x2
      have hbn := HBN.out j (by omega)
      have hbn2 : LdIn (loadUp ts s j) 10000000 := by
        obtain ⟨⟨a, b⟩, c, d⟩ := hbn
        have : (j : Int) * 100000 ≤ 6000000 := by omega
        exact ⟨⟨a, by omega⟩, c, by omega⟩
      have kh := has_any s j (by omega) (by omega)
      have kw := with_any (loadUp ts s j) ⟨(t0, t1), tn⟩ hbn2 hin
      have HLJ := Lib.hid (show loadUp ts s j = loadUp ts s j from rfl)
      obtain ⟨⟨⟨l0, l1⟩, ln⟩, hl⟩ : ∃ x : Ld, loadUp ts s j = x := ⟨_, rfl⟩
      rw [hl] at kw hyes hno HQ
      simp only [] at HQ
      obtain ⟨⟨⟨m0, m1⟩, mn⟩, hm⟩ : ∃ x : Ld, withF ⟨(l0, l1), ln⟩ ⟨(t0, t1), tn⟩ = x := ⟨_, rfl⟩
      rw [hm] at kw hyes
      simp only [ldV, tpV] at kw
      have ij1 : (j : Int) < (ts.length : Int) := Int.ofNat_lt.2 hlt
      obtain ⟨W1, hW1⟩ : ∃ X, X = wr.alloc (.cells #[.int .i64 t0, .int .i64 t1, .int .i64 tn] 52) := ⟨_, rfl⟩
      have hr1 : W1.heap[wr.heap.size]? = some (.cells #[.int .i64 t0, .int .i64 t1, .int .i64 tn] 52 (0, 0)) := by rw [hW1]; exact alloc_heap wr _
      have hb1 : Below wr.heap.size wr W1 := by rw [hW1]; exact (Below.refl _ _).alloc (Nat.le_refl _) _
      have hz1 : W1.heap.size = wr.heap.size + 1 := by rw [hW1]; simp
      have HP1 := Lib.hid (box_step (w0 := w) HP.out hb1)
      have HQ1 := Lib.hid (box_step (w0 := w) HQ.out hb1)
      have hPs : P ≤ wr.heap.size := by have := HHS.out; omega
      have HB1 := Lib.hid (HBW.out.trans (hb1.mono hPs))
      have KW := Lib.hid kw
      have KH := Lib.hid kh
      have HYES := Lib.hid hyes
      have HNO := Lib.hid hno
      have HR1 := Lib.hid hr1
      have HZS := Lib.hid (And.intro hPs (And.intro hQs hz1))
      clear hlx hrow hin hbn hbn2 hl hm kw kh hyes hno hr1 hb1 hz1 hPs hbw hQs hlb
      go_upto_region 5 with fail
      rw [← hW1]
      obtain ⟨B, hB⟩ : ∃ B, wr.heap.size = B := ⟨_, rfl⟩
      rw [hB] at HR1 HZS ⊢
      clear hW1 hB x0 x1 x2
      obtain ⟨b, hb⟩ : ∃ b, hasF s j = b := ⟨_, rfl⟩
      rw [hb] at KH HYES HNO
      clear hb
      cases b with
      | false =>
        have HE := Lib.hid (HNO.out rfl)
        go_wp2_with (go_at_call 61; (with_reducible refine (KH.out _).mono ?_); rintro e w2 ⟨rfl, rfl⟩)
        go_roundw
        case rel => exact ⟨j + 1, by omega, by go_num, by have := HZS.out; omega, HB1.out, HP1.out, by rw [HE.out]; exact HQ1.out⟩
        case measure => simp [intOf]; omega
      | true =>
        have HE := Lib.hid (HYES.out rfl)
        obtain ⟨c0, c1, c2⟩ := three_cells HQ1.out
        obtain ⟨d0, d1, d2⟩ := three_cells HR1.out
        go_wp2_with (first | (go_at_call 61; (with_reducible refine (KH.out _).mono ?_); rintro e w2 ⟨rfl, rfl⟩) | (go_at_call 62; fail))
        refine (KW.out _).mono ?_
        rintro e w2 ⟨rfl, hb2⟩
        have hp2 := box_step (w0 := w) HP1.out hb2
        have hq2 := box_step (w0 := w) HQ1.out hb2
        have HB2 := Lib.hid (HB1.out.trans (hb2.mono (by have := HZS.out; omega)))
        have hs2 : Q < w2.heap.size := by have := hb2.size; have := HZS.out; omega
        obtain ⟨y0, y1, y2⟩ := three_cells hq2
        have fz : ∀ o, w2.frozen? ⟨Q, o, none⟩ = false := fun o => frozen_of hq2
        have fz0 := fz 0
        have fz1 := fz 1
        have fz2 := fz 2
        have HQ3 := Lib.hid (set3 (A := .int .i64 m0) (B := .int .i64 m1) (C := .int .i64 mn) hq2)
        have hPQ : P ≠ Q := by have := HHS.out; omega
        have HP3 := Lib.hid (show (((w2.setCell ⟨Q, 0, none⟩ (.int .i64 m0)).setCell ⟨Q, 1, none⟩ (.int .i64 m1)).setCell ⟨Q, 2, none⟩ (.int .i64 mn)).heap[P]? = some (.cells #[.int .i64 0, .int .i64 0, .int .i64 0] 101 (0, 0)) by
          rw [set_other _ _ _ _ _ hPQ, set_other _ _ _ _ _ hPQ, set_other _ _ _ _ _ hPQ]; exact hp2)
        have hPle : P ≤ Q := by have := HHS.out; omega
        have HB3 := Lib.hid (show Below P w (((w2.setCell ⟨Q, 0, none⟩ (.int .i64 m0)).setCell ⟨Q, 1, none⟩ (.int .i64 m1)).setCell ⟨Q, 2, none⟩ (.int .i64 mn)) from ((HB2.out.setCell hPle _).setCell hPle _).setCell hPle _)
        have HS3 := Lib.hid hs2
        clear hb2 hp2 hq2 hs2 hPQ hPle c0 c1 c2 d0 d1 d2 fz
        go_wp2
        go_roundw
        case rel => exact ⟨j + 1, by omega, by go_num, by have := HS3.out; simpa using this, HB3.out, HP3.out, by rw [HE.out]; exact HQ3.out⟩
        case measure => simp [intOf]; omega
    · have hjl : j = ts.length := by omega
      have i1 : ¬ (j : Int) < (ts.length : Int) := by omega
      have hl : loadUp ts s j = loadF ts s := by unfold loadF; rw [hjl]
      rw [hl] at HQ
      obtain ⟨⟨⟨l0, l1⟩, ln⟩, hle⟩ : ∃ x : Ld, loadF ts s = x := ⟨_, rfl⟩
      rw [hle] at HQ
      have HLE := Lib.hid hle
      simp only [] at HQ
      obtain ⟨y0, y1, y2⟩ := three_cells HQ.out
      obtain ⟨z0, z1, z2⟩ := three_cells HP.out
      have fz : ∀ o, wr.frozen? ⟨P, o, none⟩ = false := fun o => frozen_of HP.out
      have fz0 := fz 0
      have fz1 := fz 1
      have fz2 := fz 2
      have HZ := Lib.hid (set3 (A := .int .i64 l0) (B := .int .i64 l1) (C := .int .i64 ln) HP.out)
      have HB3 := Lib.hid (show Below P w (((wr.setCell ⟨P, 0, none⟩ (.int .i64 l0)).setCell ⟨P, 1, none⟩ (.int .i64 l1)).setCell ⟨P, 2, none⟩ (.int .i64 ln)) from ((HBW.out.setCell (Nat.le_refl _) _).setCell (Nat.le_refl _) _).setCell (Nat.le_refl _) _)
      clear hjl hlt hj hbw fz hl hle hQs
      go_wp2
      exact bodyPost_ret (res1_101 Try.results54 rfl HZ.out) rfl ⟨by rw [HLE.out]; rfl, by rw [HHS.out.1]; exact HB3.out⟩
end Go.Proofs.Ytlcmedfjghcigaa
