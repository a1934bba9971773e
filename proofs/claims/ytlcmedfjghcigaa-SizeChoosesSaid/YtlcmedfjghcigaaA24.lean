/- Size: the reference: sets that can be open; what they take. -/
import Derived.Test.YtlcmedfjghcigaaA23
namespace Go.Proofs.Ytlcmedfjghcigaa
set_option linter.unusedSimpArgs false
set_option linter.unusedVariables false
open Go.RowKit Go.Maps

theorem has_bit (s k : Nat) : hasF s k = s.testBit k := by unfold hasF; rw [Nat.testBit_eq_decide_div_mod_eq]
theorem has_and (s t k : Nat) : hasF (s &&& t) k = (hasF s k && hasF t k) := by rw [has_bit, has_bit, has_bit, Nat.testBit_and]
theorem ones_mod (k n : Nat) : onesN k n = onesN k (n % 2 ^ k) := by
  have := onesN_add k 0 n
  simpa [onesN] using this
theorem ones_next (k n : Nat) : onesN (k + 1) n = onesN k n + n / 2 ^ k % 2 := by
  rw [onesN_add k 1 n, ← ones_mod]; simp [onesN]
/-- the taps that are in both sets, up to k -/
def cntUp (s t : Nat) : Nat → Nat
  | 0 => 0
  | k + 1 => cntUp s t k + (if hasF s k && hasF t k then 1 else 0)
theorem cnt_ones (s t : Nat) : ∀ k, cntUp s t k = onesN k (s &&& t)
  | 0 => rfl
  | k + 1 => by
    rw [cntUp, cnt_ones s t k, ones_next, ← has_and]
    unfold hasF
    by_cases h : (s &&& t) / 2 ^ k % 2 = 1
    · simp [h]
    · simp [h]; omega
theorem cnt_all {s t n : Nat} (hs : s < 2 ^ n) (hn : n ≤ 20) : cntUp s t n = onesN 20 (s &&& t) := by
  rw [cnt_ones]
  have h1 : s &&& t < 2 ^ n := Nat.lt_of_le_of_lt Nat.and_le_left hs
  have h2 := onesN_add n (20 - n) (s &&& t)
  rw [show n + (20 - n) = 20 by omega, Nat.div_eq_of_lt h1, onesN_zero, Nat.mod_eq_of_lt h1] at h2
  omega
theorem cnt_le (s t : Nat) : ∀ k, cntUp s t k ≤ k
  | 0 => Nat.le_refl _
  | k + 1 => by
    have := cnt_le s t k
    rw [cntUp]; split <;> omega
theorem cnt_yes {s t k : Nat} (h1 : hasF s k = true) (h2 : hasF t k = true) : cntUp s t (k + 1) = cntUp s t k + 1 := by rw [cntUp, h1, h2]; rfl
theorem cnt_no {s t k : Nat} (h : (hasF s k && hasF t k) = false) : cntUp s t (k + 1) = cntUp s t k := by rw [cntUp, h]; rfl
set_option maxRecDepth 100000 in
set_option maxHeartbeats 6400000 in
theorem Open_any (h : Hs) (hok : hsOk h = true) (a1 : Option Addr) (c1 : Nat) (a2 : Option Addr) (c2 : Nat) (s : Nat) (hs : s < 2 ^ h.tp.length) (w : World) (hh : HsAt w h a1 c1 a2 c2) : Calls Try.prog 26 #[hsV h a1 c1 a2 c2, .int .i64 (s : Nat)] w fun e w' => e = .returned (.bool (openF h.rl s)) ∧ Below w.heap.size w w' := by
  have hft := (few_taps hok).2
  have hpw := pow_table hft
  have hin := rules_in hok
  obtain ⟨hd, dr, ts, rs⟩ := h
  simp only [] at hft hpw hin hs
  have mt : ts.length ≤ 9223372036854775807 := hh.tp.1
  have mr : rs.length ≤ 9223372036854775807 := hh.rl.1
  have HR := Lib.hid hh.rl
  have hiff := open_iff (rs := rs) (s := s)
  obtain ⟨R, hR⟩ : ∃ b, openF rs s = b := ⟨_, rfl⟩
  rw [hR] at hiff
  rw [show openF (⟨hd, dr, ts, rs⟩ : Hs).rl s = R from hR]
  have HIFF := Lib.hid hiff
  have HIN := Lib.hid hin
  obtain ⟨W0, hW0⟩ : ∃ X, X = w.alloc (.cells #[.int .i64 hd, .int .i64 dr, .slice a1 ts.length c1, .slice a2 rs.length c2] 25) := ⟨_, rfl⟩
  have hal : W0 = al w [(.cells #[.int .i64 hd, .int .i64 dr, .slice a1 ts.length c1, .slice a2 rs.length c2] 25)] := hW0
  have hb0 : Below w.heap.size w W0 := by rw [hal]; exact al_below w _ (Nat.le_refl _)
  have hs0 : W0.heap.size = w.heap.size + 1 := by rw [hal]; exact al_size w _
  have hr0 : W0.heap[w.heap.size]? = some (.cells #[.int .i64 hd, .int .i64 dr, .slice a1 ts.length c1, .slice a2 rs.length c2] 25 (0, 0)) := by rw [hal]; exact al_get w _ 0 _ rfl
  obtain ⟨P, hP0⟩ : ∃ x, w.heap.size = x := ⟨_, rfl⟩
  rw [hP0] at hr0 hs0
  clear hal
  rw [hP0] at hb0
  have HS := Lib.hid (show w.heap.size = P ∧ W0.heap.size = P + 1 from ⟨by omega, by omega⟩)
  have HB := Lib.hid hb0
  have H0 := Lib.hid hr0
  have HSS := Lib.hid hs
  clear hb0 hr0 hs0 hh hiff hR hin
  unfold hsV
  simp only []
  go_enter Try.func26, Try.ntmps26
  go_upto_region 1 with fail
  rw [← hW0]
  clear hW0 hP0
  have HB0 := Lib.hid (show Below P w W0 from HB.out)
  go_wp2_with fail
  -- over the rules
  have h0z := H0.out
  obtain ⟨y0, y1, y2, y3⟩ := four_cells h0z
  clear h0z
  go_loopw [5] (fun i wr => ∃ j : Nat, j ≤ rs.length ∧ i = .int .i64 j ∧ (∀ a, a < j → keepF s (rs.getD a default) = true) ∧ wr = W0) (fun i _ => rs.length - (intOf i).toNat)
  case atStart => exact ⟨0, by omega, rfl, fun a ha => absurd ha (Nat.not_lt_zero _), rfl⟩
  case round =>
    obtain ⟨j, hj, rfl, hfo, rfl⟩ := hrel
    have HFO := Lib.hid hfo
    clear hfo
    by_cases hlt : j < rs.length
    · obtain ⟨lb, lo, e1, hlb, hlx⟩ := HR.out.at (by omega)
      subst e1
      rw [HS.out.1] at hlb
      have x0 := (HB.out.cell (p := ⟨lb, lo + j * 2 + 0, none⟩) hlb).trans (hlx j hlt 0 (by omega))
      have x1 := (HB.out.cell (p := ⟨lb, lo + j * 2 + 1, none⟩) hlb).trans (hlx j hlt 1 (by omega))
      have hbad : keepF s (rs.getD j default) = false → R = false := fun h => by
        rw [← Bool.not_eq_true, HIFF.out]
        intro hh
        have := hh j hlt
        rw [h] at this; cases this
      have hnx : keepF s (rs.getD j default) = true → ∀ a, a < j + 1 → keepF s (rs.getD a default) = true := fun h a ha => by
        by_cases e : a = j
        · rw [e]; exact h
        · exact HFO.out a (by omega)
      have hi := HIN.out j hlt
      obtain ⟨⟨rt, rm⟩, hrow⟩ : ∃ x : Rl, rs.getD j default = x := ⟨_, rfl⟩
      rw [hrow] at x0 x1 hbad hnx hi
      simp only [Nat.add_zero, rlC] at x0 x1 hi
      obtain ⟨t, rfl⟩ : ∃ n : Nat, rt = n := ⟨rt.toNat, by omega⟩
      have hk : keepF s ⟨t, rm⟩ = decide ((onesN 20 (s &&& t) : Nat) ≤ rm) := rfl
      rw [← cnt_all HSS.out (by omega)] at hk
      rw [hk] at hbad hnx
      have ij0 : (0 : Int) ≤ (j : Int) := by omega
      have ij1 : (j : Int) < (rs.length : Int) := Int.ofNat_lt.2 hlt
      have HBAD := Lib.hid hbad
      have HNX := Lib.hid hnx
      have KA := Lib.hid (fun k hk X => rhas_any s k (by omega) hk X)
      have KB := Lib.hid (fun k hk X => rhas_any t k (by omega) hk X)
      clear hlx hrow hbad hnx hk hi hlb
      go_wp2_with fail
      go_loopw [6, 7] (fun a b wr2 => ∃ k : Nat, k ≤ ts.length ∧ b = .int .i64 k ∧ a = .int .i64 (cntUp s t k : Nat) ∧ wr2 = wr) (fun a b _ => ts.length - (intOf b).toNat)
      case atStart => exact ⟨0, by omega, rfl, rfl, rfl⟩
      case round =>
        obtain ⟨k, hk, rfl, rfl, rfl⟩ := hrel
        by_cases hlt2 : k < ts.length
        · have hka := KA.out k (by omega)
          have hkb := KB.out k (by omega)
          have hyes := cnt_yes (s := s) (t := t) (k := k)
          have hno := cnt_no (s := s) (t := t) (k := k)
          have hcl := cnt_le s t k
          obtain ⟨ba, hba⟩ : ∃ b, hasF s k = b := ⟨_, rfl⟩
          obtain ⟨bb, hbb⟩ : ∃ b, hasF t k = b := ⟨_, rfl⟩
          simp only [hba] at hka
          simp only [hbb] at hkb
          rw [hba, hbb] at hyes hno
          obtain ⟨c, hc⟩ : ∃ c, cntUp s t k = c := ⟨_, rfl⟩
          rw [hc] at hyes hno hcl ⊢
          have ik : (k : Int) < (ts.length : Int) := by omega
          have wc : IntKind.i64.wrap ((c : Int) + 1) = (c : Int) + 1 := IntWalk.i64_in _ (by omega)
          have A1 := Lib.hid hka
          have B1 := Lib.hid hkb
          have HYES := Lib.hid hyes
          have HNO := Lib.hid hno
          clear hka hkb hyes hno hba hbb hc hcl
          cases ba
          all_goals cases bb
          all_goals
            go_wp2_with (go_at_call 52; (first | (with_reducible refine (A1.out _).mono ?_) | (with_reducible refine (B1.out _).mono ?_)); rintro e w2 ⟨rfl, rfl⟩)
            go_roundw
            case rel => exact ⟨k + 1, by omega, by go_num, by first | rw [HNO.out rfl] | (rw [HYES.out rfl rfl]; go_num) | (rw [HYES.out (by simp) (by simp)]; go_num) | rw [HNO.out (by simp)], by simp⟩
            case measure => simp [intOf]; omega
        · have hkt : k = ts.length := by omega
          have i1 : ¬ (k : Int) < (ts.length : Int) := by omega
          rw [hkt]
          obtain ⟨c, hc⟩ : ∃ c, cntUp s t ts.length = c := ⟨_, rfl⟩
          rw [hc] at HBAD HNX ⊢
          clear hkt hlt2 hc hk
          by_cases hcm : (c : Int) ≤ rm
          · have hg : decide (rm < (c : Int)) = false := by simp; omega
            have HNX2 := Lib.hid (HNX.out (decide_eq_true hcm))
            clear hcm
            go_wp2
            go_roundw
            case rel => exact ⟨j + 1, by omega, by go_num, HNX2.out, by simp⟩
            case measure => simp [intOf]; omega
          · have hrr := HBAD.out (decide_eq_false hcm)
            subst hrr
            have hg : rm < (c : Int) := by omega
            clear hcm
            go_wp2
            go_ret
            exact ⟨rfl, by rw [HS.out.1]; exact HB.out⟩
    · have hjl : j = rs.length := by omega
      have i1 : ¬ (j : Int) < (rs.length : Int) := by omega
      have hrr : R = true := HIFF.out.2 (by rw [← hjl]; exact HFO.out)
      subst hrr
      clear hjl hlt hj
      go_wp2
      go_ret
      exact ⟨rfl, by rw [HS.out.1]; exact HB.out⟩
theorem res2_31 {fn : Func} {p u : Tmp} (h : fn.results = #[.cell p 31, .tmp u]) {tmps : Array Value} {w : World} {g : Nat} {t : TypeId} {f : Nat × Nat} {x y : Int} {a : Value} (hp : tmps.getD p undef = .pointer (some ⟨g, 0, none⟩)) (ha : tmps.getD u undef = a) (hg : w.heap[g]? = some (.cells #[.int .i64 x, .int .i64 y] t f)) :
    (results fn tmps).run Try.prog w = .ok (.tuple #[.agg #[.int .i64 x, .int .i64 y], a]) w := by
  have hp' : tmps[p]?.getD undef = .pointer (some ⟨g, 0, none⟩) := by simpa using hp
  have ha' : tmps[u]?.getD undef = a := by simpa using ha
  simp [results, h, hp', ha', asAddr, var31 hg]
set_option maxRecDepth 100000 in
set_option maxHeartbeats 6400000 in
theorem Flow_any (h : Hs) (hok : hsOk h = true) (a1 : Option Addr) (c1 : Nat) (a2 : Option Addr) (c2 : Nat) (s : Nat) (hs : s < 1048576) (w : World) (hh : HsAt w h a1 c1 a2 c2) : Calls Try.prog 28 #[hsV h a1 c1 a2 c2, .int .i64 (s : Nat)] w fun e w' => e = .returned (.tuple #[.agg #[.int .i64 (loadF h.tp s).f.1, .int .i64 (loadF h.tp s).f.2], .int .i64 (loadF h.tp s).n]) ∧ Below w.heap.size w w' := by
  have hft := (few_taps hok).2
  have hto := (hsOk_iff.1 hok).2.1
  obtain ⟨hd, dr, ts, rs⟩ := h
  simp only [] at hft hto ⊢
  have mt : ts.length ≤ 9223372036854775807 := hh.tp.1
  have HT := Lib.hid hh.tp
  have HOK := Lib.hid hto
  have HBN := Lib.hid (load_bnd hto s)
  obtain ⟨W0, hW0⟩ : ∃ X, X = ((w.alloc (.cells #[.int .i64 hd, .int .i64 dr, .slice a1 ts.length c1, .slice a2 rs.length c2] 25)).alloc (.cells #[.int .i64 0, .int .i64 0] 31)).alloc (.cells #[.int .i64 0, .int .i64 0] 31) := ⟨_, rfl⟩
  have hal : W0 = al w [(.cells #[.int .i64 hd, .int .i64 dr, .slice a1 ts.length c1, .slice a2 rs.length c2] 25), (.cells #[.int .i64 0, .int .i64 0] 31), (.cells #[.int .i64 0, .int .i64 0] 31)] := hW0
  have hb0 : Below w.heap.size w W0 := by rw [hal]; exact al_below w _ (Nat.le_refl _)
  have hs0 : W0.heap.size = w.heap.size + 3 := by rw [hal]; exact al_size w _
  have hr0 : W0.heap[w.heap.size]? = some (.cells #[.int .i64 hd, .int .i64 dr, .slice a1 ts.length c1, .slice a2 rs.length c2] 25 (0, 0)) := by rw [hal]; exact al_get w _ 0 _ rfl
  have hr1 : W0.heap[w.heap.size + 1]? = some (.cells #[.int .i64 0, .int .i64 0] 31 (0, 0)) := by rw [hal]; exact al_get w _ 1 _ rfl
  have hr2 : W0.heap[w.heap.size + 1 + 1]? = some (.cells #[.int .i64 0, .int .i64 0] 31 (0, 0)) := by rw [hal]; exact al_get w _ 2 _ rfl
  obtain ⟨P, hP0⟩ : ∃ x, w.heap.size = x := ⟨_, rfl⟩
  rw [hP0] at hr0 hr1 hr2 hs0
  obtain ⟨Q, hP1⟩ : ∃ x, P + 1 = x := ⟨_, rfl⟩
  rw [hP1] at hr1 hr2
  obtain ⟨R, hP2⟩ : ∃ x, Q + 1 = x := ⟨_, rfl⟩
  rw [hP2] at hr2
  clear hal
  rw [hP0] at hb0
  have HS := Lib.hid (show w.heap.size = P ∧ Q = P + 1 ∧ R = P + 2 ∧ W0.heap.size = P + 3 from ⟨by omega, by omega, by omega, by omega⟩)
  have HB := Lib.hid hb0
  have H0 := Lib.hid hr0
  have H1 := Lib.hid hr1
  have H2 := Lib.hid hr2
  clear hb0 hr0 hr1 hr2 hs0 hh hto
  unfold hsV
  simp only []
  go_enter Try.func28, Try.ntmps28
  go_upto_region 2 with fail
  rw [← hW0]
  clear hW0 hP0 hP1 hP2
  go_wp2_with fail
  go_loopw [7, 8] (fun a b wr => ∃ j : Nat, j ≤ ts.length ∧ b = .int .i64 j ∧ a = .int .i64 (loadUp ts s j).n ∧ OnlyE (· = R) W0 wr ∧ wr.heap[R]? = some (.cells #[.int .i64 (loadUp ts s j).f.1, .int .i64 (loadUp ts s j).f.2] 31 (0, 0))) (fun a b _ => ts.length - (intOf b).toNat)
  case atStart => exact ⟨0, by omega, rfl, rfl, OnlyE.refl _ _, H2.out⟩
  case round =>
    obtain ⟨j, hj, rfl, rfl, ho, hr⟩ := hrel
    have HO := Lib.hid ho
    have HRR := Lib.hid hr
    have hp := ho.get H0.out (by have := HS.out; omega)
    obtain ⟨y0, y1, y2, y3⟩ := four_cells hp
    by_cases hlt : j < ts.length
    · obtain ⟨lb, lo, e1, hlb, hlx⟩ := HT.out.at (by omega)
      subst e1
      rw [HS.out.1] at hlb
      have hcell : ∀ o v, w.cell? ⟨lb, o, none⟩ = some v → wr.cell? ⟨lb, o, none⟩ = some v := fun o v hv => (cell_same (ho.block lb (by have := HS.out; omega) (by have := HS.out; omega))).trans ((HB.out.cell (p := ⟨lb, o, none⟩) hlb).trans hv)
      have x0 := hcell _ _ (hlx j hlt 0 (by omega))
      have x1 := hcell _ _ (hlx j hlt 1 (by omega))
      have x2 := hcell _ _ (hlx j hlt 2 (by omega))
      have hin := tapOk_iff.1 (HOK.out j hlt)
      have hyes := loadUp_yes (ts := ts) (s := s) (k := j)
      have hno := loadUp_no (ts := ts) (s := s) (k := j)
      rw [← getD_bang ts hlt] at hyes
      obtain ⟨⟨⟨t0, t1⟩, tn⟩, hrow⟩ : ∃ x : Tp, ts.getD j default = x := ⟨_, rfl⟩
      rw [hrow] at x0 x1 x2 hin hyes
      simp only [Nat.add_zero, tpC] at x0 x1 x2 hin
      have hbn := HBN.out j (by omega)
      have KH := Lib.hid (fun X => rhas_any s j (by omega) (by omega) X)
      obtain ⟨⟨⟨l0, l1⟩, ln⟩, hl⟩ : ∃ x : Ld, loadUp ts s j = x := ⟨_, rfl⟩
      rw [hl] at hyes hno hbn hr HRR ⊢
      simp only [] at hr HRR ⊢
      obtain ⟨⟨b0, b1⟩, b2, b3⟩ := hbn
      simp only [] at b0 b1 b2 b3
      have hj60 : (j : Int) * 100000 ≤ 1000000 := by omega
      have w1 : IntKind.i64.wrap (l0 + t0) = l0 + t0 := IntWalk.i64_in _ (by omega)
      have w2 : IntKind.i64.wrap (l1 + t1) = l1 + t1 := IntWalk.i64_in _ (by omega)
      have ij0 : (0 : Int) ≤ (j : Int) := by omega
      have ij1 : (j : Int) < (ts.length : Int) := Int.ofNat_lt.2 hlt
      obtain ⟨b, hb⟩ : ∃ b, hasF s j = b := ⟨_, rfl⟩
      simp only [hb] at KH
      rw [hb] at hyes hno
      have HYES := Lib.hid hyes
      have HNO := Lib.hid hno
      have HP := Lib.hid hp
      have HLB := Lib.hid hlb
      have HCX := Lib.hid (And.intro x0 (And.intro x1 x2))
      clear hlx hrow hb hl hyes hno hin hcell b0 b1 b2 b3 hj60 hlb
      cases b with
      | false =>
        have HE := Lib.hid (HNO.out rfl)
        clear hr hp ho x0 x1 x2
        go_wp2_with (go_at_call 52; (with_reducible refine (KH.out _).mono ?_); rintro e w2 ⟨rfl, rfl⟩)
        go_roundw
        case rel => exact ⟨j + 1, by omega, by go_num, by rw [HE.out], HO.out, by rw [HE.out]; exact HRR.out⟩
        case measure => simp [intOf]; omega
      | true =>
        have HE := Lib.hid (HYES.out rfl)
        obtain ⟨r0, r1⟩ := two_cells hr
        have fz : ∀ o, wr.frozen? ⟨R, o, none⟩ = false := fun o => frozen_of hr
        have fz0 := fz 0
        have fz1 := fz 1
        clear hr hp ho fz
        go_upto_region 7 with (go_at_call 52; (with_reducible refine (KH.out _).mono ?_); rintro e w2 ⟨rfl, rfl⟩)
        refine wp_region_last (fun w' => w'.heap[R]? = some (.cells #[.int .i64 l0, .int .i64 l1] 31 (0, 0)) ∧ w'.heap[P]? = some (.cells #[.int .i64 hd, .int .i64 dr, .slice (some ⟨lb, lo, none⟩) ts.length c1, .slice a2 rs.length c2] 25 (0, 0)) ∧ w'.cell? ⟨lb, lo + j * 3, none⟩ = some (.int .i64 t0) ∧ w'.cell? ⟨lb, lo + j * 3 + 1, none⟩ = some (.int .i64 t1)) 21 (by kernel_rfl) ⟨HRR.out, HP.out, HCX.out.1, HCX.out.2.1⟩ (fun hHeld => ?_)
        obtain ⟨Y0, hY0⟩ : ∃ X, X = wr.drew := ⟨_, rfl⟩
        have hoY : OnlyE (· = R) W0 Y0 := by rw [hY0]; exact HO.out.drew
        have hcY : Y0.cell? ⟨lb, lo + j * 3 + 2, none⟩ = some (.int .i64 tn) := by rw [hY0]; exact HCX.out.2.2
        rw [← hY0] at hHeld ⊢
        have hH := Lib.hid hHeld
        have HOY := Lib.hid hoY
        have HCY := Lib.hid hcY
        clear hY0 hHeld hoY hcY y0 y1 y2 y3 x0 x1 x2 r0 r1 fz0 fz1
        refine wpLast_take (i := 0) (oi := _) (v := ?_) rfl (by kernel_rfl) (by kernel_rfl) (by decide) (by kernel_rfl) (by kernel_rfl) (fun _ _ _ h => h) (Or.inl ⟨by rfl, ?_⟩) hH.out ?_
        rotate_left
        · intro w1 hSw
          obtain ⟨e1, e2, e3, e4⟩ := hSw
          obtain ⟨d0, d1⟩ := two_cells e1
          obtain ⟨g0, g1, g2, g3⟩ := four_cells e2
          clear e1 e2
          go_simp; with_reducible rfl
        simp only [List.getElem_toArray, List.getElem_cons_succ, List.getElem_cons_zero, Act.put, List.setIfInBounds_toArray, List.set_cons_zero, List.set_cons_succ]
        refine wpLast_take (i := 1) (oi := _) (v := ?_) rfl (by kernel_rfl) (by kernel_rfl) (by decide) (by kernel_rfl) (by kernel_rfl) (fun _ _ _ h => h) (Or.inl ⟨by rfl, ?_⟩) hH.out ?_
        rotate_left
        · intro w1 hSw
          obtain ⟨e1, e2, e3, e4⟩ := hSw
          obtain ⟨d0, d1⟩ := two_cells e1
          obtain ⟨g0, g1, g2, g3⟩ := four_cells e2
          clear e1 e2
          go_simp; with_reducible rfl
        simp only [List.getElem_toArray, List.getElem_cons_succ, List.getElem_cons_zero, Act.put, List.setIfInBounds_toArray, List.set_cons_zero, List.set_cons_succ]
        refine wpLast_take (i := 2) (oi := _) (v := ?_) rfl (by kernel_rfl) (by kernel_rfl) (by decide) (by kernel_rfl) (by kernel_rfl) (fun _ _ _ h => h) (Or.inl ⟨by rfl, ?_⟩) hH.out ?_
        rotate_left
        · intro w1 hSw
          obtain ⟨e1, e2, e3, e4⟩ := hSw
          obtain ⟨d0, d1⟩ := two_cells e1
          obtain ⟨g0, g1, g2, g3⟩ := four_cells e2
          clear e1 e2
          go_simp; with_reducible rfl
        simp only [List.getElem_toArray, List.getElem_cons_succ, List.getElem_cons_zero, Act.put, List.setIfInBounds_toArray, List.set_cons_zero, List.set_cons_succ]
        refine wpLast_take (i := 3) (oi := _) (v := ?_) rfl (by kernel_rfl) (by kernel_rfl) (by decide) (by kernel_rfl) (by kernel_rfl) (fun _ _ _ h => h) (Or.inl ⟨by rfl, ?_⟩) hH.out ?_
        rotate_left
        · intro w1 hSw
          obtain ⟨e1, e2, e3, e4⟩ := hSw
          obtain ⟨d0, d1⟩ := two_cells e1
          obtain ⟨g0, g1, g2, g3⟩ := four_cells e2
          clear e1 e2
          go_simp; with_reducible rfl
        simp only [List.getElem_toArray, List.getElem_cons_succ, List.getElem_cons_zero, Act.put, List.setIfInBounds_toArray, List.set_cons_zero, List.set_cons_succ]
        refine wpLast_take (i := 4) (oi := _) (v := ?_) rfl (by kernel_rfl) (by kernel_rfl) (by decide) (by kernel_rfl) (by kernel_rfl) (fun _ _ _ h => h) (Or.inl ⟨by rfl, ?_⟩) hH.out ?_
        rotate_left
        · intro w1 hSw
          obtain ⟨e1, e2, e3, e4⟩ := hSw
          obtain ⟨d0, d1⟩ := two_cells e1
          obtain ⟨g0, g1, g2, g3⟩ := four_cells e2
          clear e1 e2
          go_simp; with_reducible rfl
        simp only [List.getElem_toArray, List.getElem_cons_succ, List.getElem_cons_zero, Act.put, List.setIfInBounds_toArray, List.set_cons_zero, List.set_cons_succ]
        refine wpLast_take (i := 5) (oi := _) (v := ?_) rfl (by kernel_rfl) (by kernel_rfl) (by decide) (by kernel_rfl) (by kernel_rfl) (fun _ _ _ h => h) (Or.inl ⟨by rfl, ?_⟩) hH.out ?_
        rotate_left
        · intro w1 hSw
          obtain ⟨e1, e2, e3, e4⟩ := hSw
          obtain ⟨d0, d1⟩ := two_cells e1
          obtain ⟨g0, g1, g2, g3⟩ := four_cells e2
          clear e1 e2
          go_simp; with_reducible rfl
        simp only [List.getElem_toArray, List.getElem_cons_succ, List.getElem_cons_zero, Act.put, List.setIfInBounds_toArray, List.set_cons_zero, List.set_cons_succ]
        refine wpLast_take (i := 6) (oi := _) (v := ?_) rfl (by kernel_rfl) (by kernel_rfl) (by decide) (by kernel_rfl) (by kernel_rfl) (fun _ _ _ h => h) (Or.inl ⟨by rfl, ?_⟩) hH.out ?_
        rotate_left
        · intro w1 hSw
          obtain ⟨e1, e2, e3, e4⟩ := hSw
          obtain ⟨d0, d1⟩ := two_cells e1
          obtain ⟨g0, g1, g2, g3⟩ := four_cells e2
          clear e1 e2
          go_simp; with_reducible rfl
        simp only [List.getElem_toArray, List.getElem_cons_succ, List.getElem_cons_zero, Act.put, List.setIfInBounds_toArray, List.set_cons_zero, List.set_cons_succ]
        refine wpLast_take (i := 7) (oi := _) (v := ?_) rfl (by kernel_rfl) (by kernel_rfl) (by decide) (by kernel_rfl) (by kernel_rfl) (fun _ _ _ h => h) (Or.inl ⟨by rfl, ?_⟩) hH.out ?_
        rotate_left
        · intro w1 hSw
          obtain ⟨e1, e2, e3, e4⟩ := hSw
          obtain ⟨d0, d1⟩ := two_cells e1
          obtain ⟨g0, g1, g2, g3⟩ := four_cells e2
          clear e1 e2
          go_simp; with_reducible rfl
        simp only [List.getElem_toArray, List.getElem_cons_succ, List.getElem_cons_zero, Act.put, List.setIfInBounds_toArray, List.set_cons_zero, List.set_cons_succ]
        refine wpLast_take (i := 8) (oi := _) (v := ?_) rfl (by kernel_rfl) (by kernel_rfl) (by decide) (by kernel_rfl) (by kernel_rfl) (fun _ _ _ h => h) (Or.inl ⟨by rfl, ?_⟩) hH.out ?_
        rotate_left
        · intro w1 hSw
          obtain ⟨e1, e2, e3, e4⟩ := hSw
          obtain ⟨d0, d1⟩ := two_cells e1
          obtain ⟨g0, g1, g2, g3⟩ := four_cells e2
          clear e1 e2
          go_simp; with_reducible rfl
        simp only [List.getElem_toArray, List.getElem_cons_succ, List.getElem_cons_zero, Act.put, List.setIfInBounds_toArray, List.set_cons_zero, List.set_cons_succ]
        refine wpLast_take (i := 9) (oi := _) (v := ?_) rfl (by kernel_rfl) (by kernel_rfl) (by decide) (by kernel_rfl) (by kernel_rfl) (fun _ _ _ h => h) (Or.inl ⟨by rfl, ?_⟩) hH.out ?_
        rotate_left
        · intro w1 hSw
          obtain ⟨e1, e2, e3, e4⟩ := hSw
          obtain ⟨d0, d1⟩ := two_cells e1
          obtain ⟨g0, g1, g2, g3⟩ := four_cells e2
          clear e1 e2
          go_simp; with_reducible rfl
        simp only [List.getElem_toArray, List.getElem_cons_succ, List.getElem_cons_zero, Act.put, List.setIfInBounds_toArray, List.set_cons_zero, List.set_cons_succ]
        refine wpLast_take (i := 10) (oi := _) (v := ?_) rfl (by kernel_rfl) (by kernel_rfl) (by decide) (by kernel_rfl) (by kernel_rfl) (fun _ _ _ h => h) (Or.inl ⟨by rfl, ?_⟩) hH.out ?_
        rotate_left
        · intro w1 hSw
          obtain ⟨e1, e2, e3, e4⟩ := hSw
          obtain ⟨d0, d1⟩ := two_cells e1
          obtain ⟨g0, g1, g2, g3⟩ := four_cells e2
          clear e1 e2
          go_simp; with_reducible rfl
        simp only [List.getElem_toArray, List.getElem_cons_succ, List.getElem_cons_zero, Act.put, List.setIfInBounds_toArray, List.set_cons_zero, List.set_cons_succ]
        refine wpLast_take (i := 11) (oi := _) (v := ?_) rfl (by kernel_rfl) (by kernel_rfl) (by decide) (by kernel_rfl) (by kernel_rfl) (fun _ _ _ h => h) (Or.inl ⟨by rfl, ?_⟩) hH.out ?_
        rotate_left
        · intro w1 hSw
          obtain ⟨e1, e2, e3, e4⟩ := hSw
          obtain ⟨d0, d1⟩ := two_cells e1
          obtain ⟨g0, g1, g2, g3⟩ := four_cells e2
          clear e1 e2
          go_simp; with_reducible rfl
        simp only [List.getElem_toArray, List.getElem_cons_succ, List.getElem_cons_zero, Act.put, List.setIfInBounds_toArray, List.set_cons_zero, List.set_cons_succ]
        refine wpLast_take (i := 12) (oi := _) (v := ?_) rfl (by kernel_rfl) (by kernel_rfl) (by decide) (by kernel_rfl) (by kernel_rfl) (fun _ _ _ h => h) (Or.inl ⟨by rfl, ?_⟩) hH.out ?_
        rotate_left
        · intro w1 hSw
          obtain ⟨e1, e2, e3, e4⟩ := hSw
          obtain ⟨d0, d1⟩ := two_cells e1
          obtain ⟨g0, g1, g2, g3⟩ := four_cells e2
          clear e1 e2
          go_simp; with_reducible rfl
        simp only [List.getElem_toArray, List.getElem_cons_succ, List.getElem_cons_zero, Act.put, List.setIfInBounds_toArray, List.set_cons_zero, List.set_cons_succ]
        refine wpLast_take (i := 13) (oi := _) (v := ?_) rfl (by kernel_rfl) (by kernel_rfl) (by decide) (by kernel_rfl) (by kernel_rfl) (fun _ _ _ h => h) (Or.inl ⟨by rfl, ?_⟩) hH.out ?_
        rotate_left
        · intro w1 hSw
          obtain ⟨e1, e2, e3, e4⟩ := hSw
          obtain ⟨d0, d1⟩ := two_cells e1
          obtain ⟨g0, g1, g2, g3⟩ := four_cells e2
          clear e1 e2
          go_simp; with_reducible rfl
        simp only [List.getElem_toArray, List.getElem_cons_succ, List.getElem_cons_zero, Act.put, List.setIfInBounds_toArray, List.set_cons_zero, List.set_cons_succ]
        refine wpLast_take (i := 14) (oi := _) (v := ?_) rfl (by kernel_rfl) (by kernel_rfl) (by decide) (by kernel_rfl) (by kernel_rfl) (fun _ _ _ h => h) (Or.inl ⟨by rfl, ?_⟩) hH.out ?_
        rotate_left
        · intro w1 hSw
          obtain ⟨e1, e2, e3, e4⟩ := hSw
          obtain ⟨d0, d1⟩ := two_cells e1
          obtain ⟨g0, g1, g2, g3⟩ := four_cells e2
          clear e1 e2
          go_simp; with_reducible rfl
        simp only [List.getElem_toArray, List.getElem_cons_succ, List.getElem_cons_zero, Act.put, List.setIfInBounds_toArray, List.set_cons_zero, List.set_cons_succ]
        refine wpLast_take (i := 15) (oi := _) (v := ?_) rfl (by kernel_rfl) (by kernel_rfl) (by decide) (by kernel_rfl) (by kernel_rfl) (fun _ _ _ h => h) (Or.inl ⟨by rfl, ?_⟩) hH.out ?_
        rotate_left
        · intro w1 hSw
          obtain ⟨e1, e2, e3, e4⟩ := hSw
          obtain ⟨d0, d1⟩ := two_cells e1
          obtain ⟨g0, g1, g2, g3⟩ := four_cells e2
          clear e1 e2
          go_simp; with_reducible rfl
        simp only [List.getElem_toArray, List.getElem_cons_succ, List.getElem_cons_zero, Act.put, List.setIfInBounds_toArray, List.set_cons_zero, List.set_cons_succ]
        refine wpLast_take (i := 16) (oi := _) (v := ?_) rfl (by kernel_rfl) (by kernel_rfl) (by decide) (by kernel_rfl) (by kernel_rfl) (fun _ _ _ h => h) (Or.inl ⟨by rfl, ?_⟩) hH.out ?_
        rotate_left
        · intro w1 hSw
          obtain ⟨e1, e2, e3, e4⟩ := hSw
          obtain ⟨d0, d1⟩ := two_cells e1
          obtain ⟨g0, g1, g2, g3⟩ := four_cells e2
          clear e1 e2
          go_simp; with_reducible rfl
        simp only [List.getElem_toArray, List.getElem_cons_succ, List.getElem_cons_zero, Act.put, List.setIfInBounds_toArray, List.set_cons_zero, List.set_cons_succ]
        refine wpLast_take (i := 17) (oi := _) (v := ?_) rfl (by kernel_rfl) (by kernel_rfl) (by decide) (by kernel_rfl) (by kernel_rfl) (fun _ _ _ h => h) (Or.inl ⟨by rfl, ?_⟩) hH.out ?_
        rotate_left
        · intro w1 hSw
          obtain ⟨e1, e2, e3, e4⟩ := hSw
          obtain ⟨d0, d1⟩ := two_cells e1
          obtain ⟨g0, g1, g2, g3⟩ := four_cells e2
          clear e1 e2
          go_simp; with_reducible rfl
        simp only [List.getElem_toArray, List.getElem_cons_succ, List.getElem_cons_zero, Act.put, List.setIfInBounds_toArray, List.set_cons_zero, List.set_cons_succ]
        refine wpLast_take (i := 18) (oi := _) (v := ?_) rfl (by kernel_rfl) (by kernel_rfl) (by decide) (by kernel_rfl) (by kernel_rfl) (fun _ _ _ h => h) (Or.inl ⟨by rfl, ?_⟩) hH.out ?_
        rotate_left
        · intro w1 hSw
          obtain ⟨e1, e2, e3, e4⟩ := hSw
          obtain ⟨d0, d1⟩ := two_cells e1
          obtain ⟨g0, g1, g2, g3⟩ := four_cells e2
          clear e1 e2
          go_simp; with_reducible rfl
        simp only [List.getElem_toArray, List.getElem_cons_succ, List.getElem_cons_zero, Act.put, List.setIfInBounds_toArray, List.set_cons_zero, List.set_cons_succ]
        refine wpLast_take (i := 19) (oi := _) (v := ?_) rfl (by kernel_rfl) (by kernel_rfl) (by decide) (by kernel_rfl) (by kernel_rfl) (fun _ _ _ h => h) (Or.inl ⟨by rfl, ?_⟩) hH.out ?_
        rotate_left
        · intro w1 hSw
          obtain ⟨e1, e2, e3, e4⟩ := hSw
          obtain ⟨d0, d1⟩ := two_cells e1
          obtain ⟨g0, g1, g2, g3⟩ := four_cells e2
          clear e1 e2
          go_simp; with_reducible rfl
        simp only [List.getElem_toArray, List.getElem_cons_succ, List.getElem_cons_zero, Act.put, List.setIfInBounds_toArray, List.set_cons_zero, List.set_cons_succ]
        refine wpLast_take (i := 20) (oi := _) (v := ?_) rfl (by kernel_rfl) (by kernel_rfl) (by decide) (by kernel_rfl) (by kernel_rfl) (fun _ _ _ h => h) (Or.inl ⟨by rfl, ?_⟩) hH.out ?_
        rotate_left
        · intro w1 hSw
          obtain ⟨e1, e2, e3, e4⟩ := hSw
          obtain ⟨d0, d1⟩ := two_cells e1
          obtain ⟨g0, g1, g2, g3⟩ := four_cells e2
          clear e1 e2
          go_simp; with_reducible rfl
        simp only [List.getElem_toArray, List.getElem_cons_succ, List.getElem_cons_zero, Act.put, List.setIfInBounds_toArray, List.set_cons_zero, List.set_cons_succ]
        obtain ⟨d0, d1⟩ := two_cells hH.out.1
        have fz : ∀ o, Y0.frozen? ⟨R, o, none⟩ = false := fun o => frozen_of hH.out.1
        have fz0 := fz 0
        have fz1 := fz 1
        have HZ := Lib.hid (set2 (A := .int .i64 (l0 + t0)) (B := .int .i64 (l1 + t1)) hH.out.1)
        have HOZ := Lib.hid (show OnlyE (· = R) W0 ((Y0.setCell ⟨R, 0, none⟩ (.int .i64 (l0 + t0))).setCell ⟨R, 1, none⟩ (.int .i64 (l1 + t1))) from OnlyE.set (E := (· = R)) (OnlyE.set (E := (· = R)) HOY.out rfl _) rfl _)
        have hlR : lb ≠ R := by have := HLB.out; have := HS.out; omega
        have HCZ := Lib.hid (show ((Y0.setCell ⟨R, 0, none⟩ (.int .i64 (l0 + t0))).setCell ⟨R, 1, none⟩ (.int .i64 (l1 + t1))).cell? ⟨lb, lo + j * 3 + 2, none⟩ = some (.int .i64 tn) from (cell_same ((set_other _ _ _ _ _ hlR).trans (set_other _ _ _ _ _ hlR))).trans HCY.out)
        clear fz
        refine wpLast_ready (rs := [21]) (by kernel_rfl) (by simp) ?_
        intro i hi; obtain rfl := List.mem_singleton.1 hi; clear hi
        refine wpOp_step rfl (fun K3 hK3 => ?_)
        have HK3 := Lib.hid hK3
        clear hK3
        rw [if_pos (by rfl)]
        go_simp
        refine HK3.out _ _ ⟨fun h => absurd rfl h, fun _ => ?_⟩
        clear HK3 K3
        refine wpLast_done (by kernel_rfl) ?_ _
        clear d0 d1 fz0 fz1
        obtain ⟨Y1, hY1⟩ : ∃ X, ((Y0.setCell ⟨R, 0, none⟩ (.int .i64 (l0 + t0))).setCell ⟨R, 1, none⟩ (.int .i64 (l1 + t1))) = X := ⟨_, rfl⟩
        rw [hY1] at HZ HOZ HCZ ⊢
        clear hY1
        have hp1 := HOZ.out.get H0.out (by have := HS.out; omega)
        obtain ⟨y0, y1, y2, y3⟩ := four_cells hp1
        have x2 := HCZ.out
        obtain ⟨mx, hmx⟩ : ∃ m, max ln tn = m := ⟨_, rfl⟩
        have HMX := Lib.hid hmx
        clear hp1
        go_wp2
        go_roundw
        case rel => exact ⟨j + 1, by omega, by go_num, by rw [HE.out, ← HMX.out]; rfl, HOZ.out, by rw [HE.out]; exact HZ.out⟩
        case measure => simp [intOf]; omega
    · have hjl : j = ts.length := by omega
      have i1 : ¬ (j : Int) < (ts.length : Int) := by omega
      have hl : loadUp ts s j = loadF ts s := by unfold loadF; rw [hjl]
      rw [hl] at HRR ⊢
      obtain ⟨⟨⟨l0, l1⟩, ln⟩, hle⟩ : ∃ x : Ld, loadF ts s = x := ⟨_, rfl⟩
      have HLE := Lib.hid hle
      rw [hle] at HRR ⊢
      simp only [] at HRR ⊢
      obtain ⟨r0, r1⟩ := two_cells HRR.out
      have hq := ho.get H1.out (by have := HS.out; omega)
      obtain ⟨q0, q1⟩ := two_cells hq
      have fz : ∀ o, wr.frozen? ⟨Q, o, none⟩ = false := fun o => frozen_of hq
      have fz0 := fz 0
      have fz1 := fz 1
      have HZ := Lib.hid (set2 (A := .int .i64 l0) (B := .int .i64 l1) hq)
      have hbw : Below P w wr := HB.out.trans (ho.below (n := P) (by have := HS.out; omega) (fun k e => by have := HS.out; omega))
      have HB3 := Lib.hid (show Below P w ((wr.setCell ⟨Q, 0, none⟩ (.int .i64 l0)).setCell ⟨Q, 1, none⟩ (.int .i64 l1)) from (hbw.setCell (by have := HS.out; simp; omega) _).setCell (by have := HS.out; simp; omega) _)
      clear hjl hlt hl hle hq fz hbw hr hp ho hj
      go_wp2
      exact bodyPost_ret (res2_31 Try.results28 rfl rfl HZ.out) rfl ⟨by rw [HLE.out]; rfl, by rw [HS.out.1]; exact HB3.out⟩
end Go.Proofs.Ytlcmedfjghcigaa
