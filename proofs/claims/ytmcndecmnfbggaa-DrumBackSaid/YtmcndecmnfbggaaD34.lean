/- DrumBack returns true for all inputs: the walk. -/
import Derived.Test.YtmcndecmnfbggaaD32
import Derived.Test.YtmcndecmnfbggaaD31
import Derived.Deep.RegionHeld3
import Derived.Deep.DeepCutAuto
import Derived.Outline
namespace Go.Proofs.Ytmcndecmnfbggaa
set_option linter.unusedSimpArgs false
set_option linter.unusedVariables false
open Go.RowKit

theorem runsErr_ok {d s : Int} {l : List Int} (h1 : regB d s = true) (h2 : l.length ≤ 32) (h3 : l.any runBad = false) : runsErr d s l = 0 := by
  unfold runsErr; rw [if_neg (by rw [h1]; simp), if_neg (by omega), if_neg (by rw [h3]; simp)]
theorem run_same {d s s' : Int} {l l' : List Int} (h : runsErr d s l = 0) (h' : runsErr d s' l' = 0) (he : totalP d s l = totalP d s' l') : runTot d s l = runTot d s' l' ∧ runFigs d s l = runFigs d s' l' := by
  unfold runTot runFigs
  rw [if_pos h, if_pos h', if_pos h, if_pos h', he]
  exact ⟨rfl, rfl⟩
theorem any_snoc {l : List Int} {m : Int} (h : l.any runBad = false) (hm : -1099511627776 ≤ m ∧ m ≤ 1099511627776) : (l ++ [m]).any runBad = false := by
  rw [List.any_append, h, Bool.false_or]
  simp only [List.any_cons, List.any_nil, Bool.or_false]
  unfold runBad
  simp only [Bool.or_eq_false_iff, decide_eq_false_iff_not]
  omega
theorem back_facts {d s m : Int} {l : List Int} (h : runsErr d s l = 0) (hl : l.length ≤ 30) (hm : -4294967296 ≤ m ∧ m ≤ 4294967296) :
    (0 ≤ runTot d s l ∧ runTot d s l < turnP d) ∧ runsErr d s (l ++ [m]) = 0 ∧
    (runsErr d (runTot d s l) [m] = 0 ∧ runTot d (runTot d s l) [m] = runTot d s (l ++ [m]) ∧ runFigs d (runTot d s l) [m] = runFigs d s (l ++ [m])) ∧
    (runsErr d s (l ++ [m, -m]) = 0 ∧ runTot d s (l ++ [m, -m]) = runTot d s l ∧ runFigs d s (l ++ [m, -m]) = runFigs d s l) ∧
    (runsErr d s (l ++ [turnP d]) = 0 ∧ runTot d s (l ++ [turnP d]) = runTot d s l ∧ runFigs d s (l ++ [turnP d]) = runFigs d s l) ∧
    (-1099511627776 ≤ m + l.sum → m + l.sum ≤ 1099511627776 → runsErr d s [m + l.sum] = 0 ∧ runTot d s [m + l.sum] = runTot d s (l ++ [m]) ∧ runFigs d s [m + l.sum] = runFigs d s (l ++ [m])) := by
  obtain ⟨h1, h2, h3⟩ := runsErr_zero h
  obtain ⟨hd, hs0, hs1, hs2⟩ := regB_bd h1
  have htb := turnP_bd d hd.2
  have hT := totalP_bd d s l hd.2
  have et : runTot d s l = totalP d s l := by unfold runTot; rw [if_pos h]
  have g1 := runsErr_ok (d := d) (s := s) (l := l ++ [m]) h1 (by simp; omega) (any_snoc h3 (by omega))
  have hreg : regB d (runTot d s l) = true := by
    rw [et]; unfold regB totB
    simp only [Bool.and_eq_true, decide_eq_true_eq]
    omega
  have g2 := runsErr_ok (d := d) (s := runTot d s l) (l := [m]) hreg (by simp) (any_snoc (l := []) rfl (by omega))
  have g3 := runsErr_ok (d := d) (s := s) (l := l ++ [m, -m]) h1 (by simp; omega) (by
    rw [show l ++ [m, -m] = (l ++ [m]) ++ [-m] by simp]
    exact any_snoc (any_snoc h3 (by omega)) (by omega))
  have g4 := runsErr_ok (d := d) (s := s) (l := l ++ [turnP d]) h1 (by simp; omega) (any_snoc h3 (by omega))
  refine ⟨by rw [et]; omega, g1, ⟨g2, run_same g2 g1 ?_⟩, ⟨g3, run_same g3 h ?_⟩, ⟨g4, run_same g4 h ?_⟩, fun a b => ?_⟩
  · rw [et]; unfold totalP
    rw [List.sum_append, List.sum_singleton, Int.emod_add_emod, Int.add_assoc]
  · unfold totalP
    rw [List.sum_append]; simp; congr 1; omega
  · unfold totalP
    rw [List.sum_append, List.sum_singleton, ← Int.add_assoc, Int.add_emod_right]
  · have g5 := runsErr_ok (d := d) (s := s) (l := [m + l.sum]) h1 (by simp) (any_snoc (l := []) rfl ⟨a, b⟩)
    refine ⟨g5, run_same g5 g1 ?_⟩
    unfold totalP
    rw [List.sum_append, List.sum_singleton, List.sum_singleton, Int.add_comm m]

set_option maxRecDepth 100000 in
set_option maxHeartbeats 6400000 in
theorem drumBack_any (d s m : Int) (l : List Int) (v : Value) (w : World) (hl : IntsAt w v l) (hnil : NilOk v) : Calls Try.prog 7 #[.agg #[.int .i64 d, .int .i64 s], v, .int .i64 m] w fun e w' => e = .returned (.bool true) ∧ Below w.heap.size w w' := by
  obtain ⟨va, vc, rfl⟩ := hl.shape
  have hlm : l.length ≤ 9223372036854775807 := hl.1
  obtain ⟨W0, hW0⟩ : ∃ X, X = w.alloc (.cells #[.int .i64 d, .int .i64 s] 23) := ⟨_, rfl⟩
  have hb0 : Below w.heap.size w W0 := by rw [hW0]; exact (Below.refl _ _).alloc (Nat.le_refl _) _
  have hr0 : W0.heap[w.heap.size]? = some (.cells #[.int .i64 d, .int .i64 s] 23 (0, 0)) := by rw [hW0]; exact (MapKept.heap_alloc w _).1
  obtain ⟨B, hB⟩ : ∃ x, w.heap.size = x := ⟨_, rfl⟩
  have HB := Lib.hid hB
  clear hB
  obtain ⟨c0, c1⟩ := regcells hr0
  have g0 := Lib.hid hr0
  have hl0 := hl.below hb0
  have HNIL := Lib.hid hnil
  clear hr0 hl hnil
  by_cases h30 : 30 < l.length
  · have h30' : (30 : Int) < (l.length : Int) := by omega
    go_enter Try.func7, Try.ntmps7
    go_wp2_with fail
    rw [← hW0]
    clear hW0
    go_wp2_with fail
    refine (awake_any _).mono ?_
    rintro e w1 ⟨rfl, hb1⟩
    have hbw := hb0.trans (hb1.mono hb0.size)
    go_wp2
    go_ret
    exact ⟨rfl, hbw⟩
  have h30' : ¬ (30 : Int) < (l.length : Int) := by omega
  go_enter Try.func7, Try.ntmps7
  go_wp2_with fail
  rw [← hW0]
  clear hW0
  rw [HB.out]
  refine (run_any d s l _ _ hl0).mono ?_
  rintro e w1 ⟨fv, rfl, ho1, hb1⟩
  have gg0 := box_step (w0 := w) g0.out hb1
  have hbw1 := hb0.trans (hb1.mono hb0.size)
  have hl1 := hl0.below hb1
  have if1 := ints_own ho1 (runFigs_len d s l)
  rw [HB.out] at gg0
  have gg0 := Lib.hid gg0
  clear c0 c1 hb1 hl0 hb0 g0 ho1
  obtain ⟨E, hE⟩ : ∃ E, runsErr d s l = E := ⟨_, rfl⟩
  obtain ⟨t, ht⟩ : ∃ E, runTot d s l = E := ⟨_, rfl⟩
  obtain ⟨F, hF⟩ : ∃ E, runFigs d s l = E := ⟨_, rfl⟩
  rw [hE, ht]
  rw [hF] at if1
  obtain ⟨fa, fc, rfl⟩ := if1.shape
  have HE := Lib.hid hE
  have HT := Lib.hid ht
  have HF := Lib.hid hF
  clear hE ht hF
  by_cases hE0 : E = 0
  rotate_left
  · have e1 : t = 0 := by rw [← HT.out]; unfold runTot; rw [if_neg (by rw [HE.out]; exact hE0)]
    have e2 : F = [] := by rw [← HF.out]; unfold runFigs; rw [if_neg (by rw [HE.out]; exact hE0)]
    subst e1 e2
    have hE1 : (E != 0) = true := by rw [bne_iff_ne]; exact hE0
    have hE2 : (E == 0) = false := by rw [beq_eq_false_iff_ne]; exact hE0
    clear hE0
    go_wp2_with fail
    refine (awake_any _).mono ?_
    rintro e w2 ⟨rfl, hb2⟩
    have hbw := hbw1.trans (hb2.mono hbw1.size)
    go_wp2
    go_ret
    exact ⟨rfl, hbw⟩
  subst hE0
  by_cases hm0 : m < -4294967296
  · have HM := Lib.hid hm0
    go_wp2_with fail
    refine (awake_any _).mono ?_
    rintro e w2 ⟨rfl, hb2⟩
    have hbw := hbw1.trans (hb2.mono hbw1.size)
    go_wp2
    go_ret
    exact ⟨rfl, hbw⟩
  by_cases hm1 : 4294967296 < m
  · have HM := Lib.hid hm0
    go_wp2_with fail
    refine (awake_any _).mono ?_
    rintro e w2 ⟨rfl, hb2⟩
    have hbw := hbw1.trans (hb2.mono hbw1.size)
    go_wp2
    go_ret
    exact ⟨rfl, hbw⟩
  obtain ⟨⟨t0, t1⟩, e1, ⟨e2, f2, x2⟩, ⟨e3, f3, x3⟩, ⟨e4, f4, x4⟩, r5⟩ := back_facts HE.out (by omega) (m := m) (by omega)
  rw [HT.out] at t0 t1 e2 f2 x2 f3 f4
  rw [HF.out] at x3 x4
  obtain ⟨a, ha⟩ : ∃ E, runTot d s (l ++ [m]) = E := ⟨_, rfl⟩
  obtain ⟨G, hG⟩ : ∃ E, runFigs d s (l ++ [m]) = E := ⟨_, rfl⟩
  rw [ha] at f2 r5
  rw [hG] at x2 r5
  obtain ⟨z1, z2, z3⟩ := runsErr_zero HE.out
  obtain ⟨hd, hs0, hs1, hs2⟩ := regB_bd z1
  have htb := turnP_bd d hd.2
  have HA := Lib.hid ha
  have HG := Lib.hid hG
  have E1 := Lib.hid e1
  have E2 := Lib.hid (show runsErr d t [m] = 0 ∧ runTot d t [m] = a ∧ runFigs d t [m] = G from ⟨e2, f2, x2⟩)
  have E3 := Lib.hid (show runsErr d s (l ++ [m, -m]) = 0 ∧ runTot d s (l ++ [m, -m]) = t ∧ runFigs d s (l ++ [m, -m]) = F from ⟨e3, f3, x3⟩)
  have E4 := Lib.hid (show runsErr d s (l ++ [turnP d]) = 0 ∧ runTot d s (l ++ [turnP d]) = t ∧ runFigs d s (l ++ [turnP d]) = F from ⟨e4, f4, x4⟩)
  have R5 := Lib.hid r5
  have Z1 := Lib.hid z1
  have Z3 := Lib.hid z3
  clear ha hG e1 e2 f2 x2 e3 f3 x3 e4 f4 x4 r5 z1 z2 z3 hs0 hs1 hs2
  have HD := Lib.hid hd
  clear hd
  obtain ⟨c0, c1⟩ := regcells gg0.out
  go_wp2_with fail
  refine (refRegister_any d s _).mono ?_
  rintro e w2 ⟨rfl, hb2⟩
  rw [Z1.out]
  have g2 := box_step (w0 := w) gg0.out hb2
  have hbw2 := hbw1.trans (hb2.mono hbw1.size)
  have hl2 := hl1.below hb2
  have if2 := if1.below hb2
  clear c0 c1 hb2 hl1 hbw1 gg0 if1
  obtain ⟨c0, c1⟩ := regcells g2
  have G2 := Lib.hid g2
  clear g2
  obtain ⟨U, hU⟩ : ∃ U, turnP d = U := ⟨_, rfl⟩
  have hturn := fun X => turn_any d X HD.out.2
  rw [hU] at hturn t1 htb E4
  have HU := Lib.hid hU
  have HTU := Lib.hid hturn
  clear hU hturn
  obtain ⟨htb0, htb1⟩ := htb
  go_wp2_with fail
  refine (HTU.out _).mono ?_
  rintro e w3 ⟨rfl, rfl⟩
  have t1' : ¬ U ≤ t := by omega
  clear t1
  go_wp2_with fail
  go_loopw [10, 11] (fun su i wr => ∃ k : Nat, k ≤ l.length ∧ i = .int .i64 k ∧ su = .int .i64 (m + (l.take k).sum) ∧ wr = w2) (fun _ i _ => l.length - (intOf i).toNat)
  case atStart => exact ⟨0, by omega, rfl, by simp, rfl⟩
  case round =>
    obtain ⟨k, hk, rfl, rfl, rfl⟩ := hrel
    by_cases hlt : k < l.length
    · obtain ⟨b1, off1, e1, l1, hcl⟩ := hl2.at (by omega)
      subst e1
      have cx := hcl k hlt
      have hxb := runs_bd l Z3.out k hlt
      have hsb := sum_bd l Z3.out k hk
      have est := sum_take l k hlt
      obtain ⟨x, hx⟩ : ∃ x, l.getD k 0 = x := ⟨_, rfl⟩
      rw [hx] at cx hxb est
      obtain ⟨sm, hsm⟩ : ∃ t, (l.take k).sum = t := ⟨_, rfl⟩
      rw [hsm] at hsb est ⊢
      have EST := Lib.hid est
      have i0 : (0 : Int) ≤ (k : Int) := by omega
      have i1 : (k : Int) < (l.length : Int) := by omega
      have hs5 : -1099511627776 * 40 ≤ sm ∧ sm ≤ 1099511627776 * 40 := by omega
      obtain ⟨hs50, hs51⟩ := hs5
      obtain ⟨hx0, hx1⟩ := hxb
      clear hx hsm est hcl hsb
      go_wp2
      go_roundw
      case rel => exact ⟨k + 1, by omega, by go_num, by rw [EST.out, Int.add_assoc], by simp⟩
      case measure => simp [intOf]; omega
    · obtain rfl : k = l.length := by omega
      have i1 : ¬ (l.length : Int) < (l.length : Int) := by omega
      rw [List.take_length]
      have hsb := sum_bd l Z3.out l.length (Nat.le_refl _)
      rw [List.take_length] at hsb
      obtain ⟨su, hsu⟩ : ∃ x, m + l.sum = x := ⟨_, rfl⟩
      rw [hsu] at R5 ⊢
      have HSU := Lib.hid hsu
      have hsub : -1099511627776 * 40 ≤ su ∧ su ≤ 1099511627776 * 40 := by omega
      obtain ⟨hsu0, hsu1⟩ := hsub
      have h30n : (l.length : Int) ≤ 30 := by omega
      clear hsu hsb hlt c0 c1
      obtain ⟨w2, hw2⟩ : ∃ x : World, x = wr := ⟨_, rfl⟩
      subst hw2
      go_wp2_with fail
      go_cut [12, 13, 14] (fun va vb vd wx => ∃ u, va = .int .i64 a ∧ vb = u ∧ vd = .int .i64 0 ∧ IntsAt wx u G ∧ Below w2.heap.size w2 wx)
      case first =>
        refine wp_region_held_drew (S := fun w' => Below w2.heap.size w2 w') (by as_aux_lemma => kernel_rfl) (Below.refl _ _).drew (fun hHeld => ?_)
        obtain ⟨y0, hy0⟩ : ∃ y0, y0 = w2.drew := ⟨_, rfl⟩
        have hT := Two.start w2
        rw [← hy0] at hT ⊢
        clear hy0 hHeld
        refine wpAnyH_take (i := 0) (oi := _) (v := ?_) rfl (by as_aux_lemma => kernel_rfl) (by as_aux_lemma => kernel_rfl) (by as_aux_lemma => kernel_rfl) (fun _ _ _ h => h) (Or.inl ⟨by rfl, ?_⟩) hT.below ?_
        rotate_left
        · intro w1 hSw
          replace hSw : Below w2.heap.size w2 w1 := hSw
          obtain ⟨r0, r1⟩ := regcells (box_step (w0 := w) G2.out hSw)
          go_simp; with_reducible rfl
        simp only [List.getElem_toArray, List.getElem_cons_succ, List.getElem_cons_zero, Act.put, List.setIfInBounds_toArray, List.set_cons_zero, List.set_cons_succ]
        refine wpAnyH_take (i := 2) (oi := _) (v := ?_) rfl (by as_aux_lemma => kernel_rfl) (by as_aux_lemma => kernel_rfl) (by as_aux_lemma => kernel_rfl) (fun _ _ _ h => h) (Or.inl ⟨by rfl, ?_⟩) hT.below ?_
        rotate_left
        · intro w1 hSw
          replace hSw : Below w2.heap.size w2 w1 := hSw
          obtain ⟨r0, r1⟩ := regcells (box_step (w0 := w) G2.out hSw)
          go_simp; with_reducible rfl
        simp only [List.getElem_toArray, List.getElem_cons_succ, List.getElem_cons_zero, Act.put, List.setIfInBounds_toArray, List.set_cons_zero, List.set_cons_succ]
        refine wpAnyH_take (i := 4) (oi := _) (v := ?_) rfl (by as_aux_lemma => kernel_rfl) (by as_aux_lemma => kernel_rfl) (by as_aux_lemma => kernel_rfl) (fun _ _ _ h => h) (Or.inl ⟨by rfl, ?_⟩) hT.below ?_
        rotate_left
        · intro w1 hSw
          replace hSw : Below w2.heap.size w2 w1 := hSw
          obtain ⟨r0, r1⟩ := regcells (box_step (w0 := w) G2.out hSw)
          go_simp; with_reducible rfl
        simp only [List.getElem_toArray, List.getElem_cons_succ, List.getElem_cons_zero, Act.put, List.setIfInBounds_toArray, List.set_cons_zero, List.set_cons_succ]
        refine wpAnyH_all (rs := [1, 5]) (by as_aux_lemma => kernel_rfl) (by simp) ?_
        intro i hi
        rcases (by simpa using hi : i = 1 ∨ i = 5) with rfl | rfl <;> clear hi
        ·
          refine wpOp_step rfl (fun K3 hK3 => ?_)
          have HK3 := Lib.hid hK3
          clear hK3
          rw [if_pos (by rfl)]
          go_simp
          replace hT := hT.litA #[] 0 (by decide) rfl
          obtain ⟨g1, eg1⟩ : ∃ g, y0.heap.size = g := ⟨_, rfl⟩
          obtain ⟨y1, eY⟩ : ∃ Y, y0.alloc (.cells #[] 3) = Y := ⟨_, rfl⟩
          rw [eg1, eY] at hT
          rw [eY, eg1]
          clear eY eg1
          refine HK3.out _ _ ⟨hT.below, ?_⟩
          clear HK3 K3
          try simp only [List.getElem_toArray, List.getElem_cons_succ, List.getElem_cons_zero, Act.put, List.setIfInBounds_toArray, List.set_cons_zero, List.set_cons_succ]
          refine wpAnyH_all (rs := [3, 5]) (by as_aux_lemma => kernel_rfl) (by simp) ?_
          intro i hi
          rcases (by simpa using hi : i = 3 ∨ i = 5) with rfl | rfl <;> clear hi
          ·
            refine wpOp_step rfl (fun K3 hK3 => ?_)
            have HK3 := Lib.hid hK3
            clear hK3
            rw [if_pos (by rfl)]
            simp only [List.getElem_toArray, List.getElem_cons_succ, List.getElem_cons_zero]
            refine wp_icopy (.tmp 91) (.tmp 92) (by rfl) (by rfl) hT (by rfl) (hl2.below hT.below) HNIL.out (by omega) (by decide) ?_
            replace hT := Lib.hid hT
            clear hT
            intro v1 y2 hT
            refine HK3.out _ _ ⟨hT.below, ?_⟩
            clear HK3 K3
            try simp only [List.getElem_toArray, List.getElem_cons_succ, List.getElem_cons_zero, Act.put, List.setIfInBounds_toArray, List.set_cons_zero, List.set_cons_succ]
            refine wpAnyH_all (rs := [5]) (by as_aux_lemma => kernel_rfl) (by simp) ?_
            intro i hi; obtain rfl := List.mem_singleton.1 hi; clear hi
            refine wpOp_step rfl (fun K3 hK3 => ?_)
            have HK3 := Lib.hid hK3
            clear hK3
            rw [if_pos (by rfl)]
            go_simp
            replace hT : Two w2 _ _ _ _ 1 _ (([m] : List Int).map (Value.int .i64)) := hT.litB #[.int .i64 m] 1 (by decide) rfl
            obtain ⟨g2, eg2⟩ : ∃ g, y2.heap.size = g := ⟨_, rfl⟩
            obtain ⟨y3, eY⟩ : ∃ Y, y2.alloc (.cells #[.int .i64 m] 3) = Y := ⟨_, rfl⟩
            rw [eg2, eY] at hT
            rw [eY, eg2]
            clear eY eg2
            refine HK3.out _ _ ⟨hT.below, ?_⟩
            clear HK3 K3
            try simp only [List.getElem_toArray, List.getElem_cons_succ, List.getElem_cons_zero, Act.put, List.setIfInBounds_toArray, List.set_cons_zero, List.set_cons_succ]
            refine wpAnyH_all (rs := [6]) (by as_aux_lemma => kernel_rfl) (by simp) ?_
            intro i hi; obtain rfl := List.mem_singleton.1 hi; clear hi
            refine wpOp_step rfl (fun K3 hK3 => ?_)
            have HK3 := Lib.hid hK3
            clear hK3
            rw [if_pos (by rfl)]
            simp only [List.getElem_toArray, List.getElem_cons_succ, List.getElem_cons_zero]
            refine wp_icopy (.tmp 93) (.tmp 95) (by rfl) (by rfl) hT (by rfl) (ints_own hT.b (by simp)) (nilOk_own hT.b) (by simp) (by omega) ?_
            intro v2 y4 hT2
            have hI : IntsAt y4 v2 (l ++ [m]) := ints_own (by simpa using hT2.a) (by simp; omega)
            clear hT
            have hT := hT2
            clear hT2
            refine HK3.out _ _ ⟨hT.below, ?_⟩
            clear HK3 K3
            try simp only [List.getElem_toArray, List.getElem_cons_succ, List.getElem_cons_zero, Act.put, List.setIfInBounds_toArray, List.set_cons_zero, List.set_cons_succ]
            refine wpAnyH_all (rs := [7]) (by as_aux_lemma => kernel_rfl) (by simp) ?_
            intro i hi; obtain rfl := List.mem_singleton.1 hi; clear hi
            refine wpOp_step rfl (fun K3 hK3 => ?_)
            have HK3 := Lib.hid hK3
            clear hK3
            rw [if_pos (by rfl)]
            go_simp
            refine (run_any d s (l ++ [m]) v2 _ hI).mono ?_
            rintro e y5 ⟨u9, rfl, ho, hy⟩
            have iu := ints_own ho (runFigs_len d s _)
            rw [HA.out, E1.out]
            rw [HG.out] at iu
            clear ho
            replace hT := hT.call hy
            refine HK3.out _ _ ⟨hT.below, ?_⟩
            clear HK3 K3
            try simp only [List.getElem_toArray, List.getElem_cons_succ, List.getElem_cons_zero, Act.put, List.setIfInBounds_toArray, List.set_cons_zero, List.set_cons_succ]
            refine wpAnyH_take (i := 8) (oi := _) (v := ?_) rfl (by as_aux_lemma => kernel_rfl) (by as_aux_lemma => kernel_rfl) (by as_aux_lemma => kernel_rfl) (fun _ _ _ h => h) (Or.inl ⟨by rfl, ?_⟩) hT.below ?_
            rotate_left
            · intro w1 hSw
              replace hSw : Below w2.heap.size w2 w1 := hSw
              obtain ⟨r0, r1⟩ := regcells (box_step (w0 := w) G2.out hSw)
              go_simp; with_reducible rfl
            simp only [List.getElem_toArray, List.getElem_cons_succ, List.getElem_cons_zero, Act.put, List.setIfInBounds_toArray, List.set_cons_zero, List.set_cons_succ]
            refine wpAnyH_take (i := 9) (oi := _) (v := ?_) rfl (by as_aux_lemma => kernel_rfl) (by as_aux_lemma => kernel_rfl) (by as_aux_lemma => kernel_rfl) (fun _ _ _ h => h) (Or.inl ⟨by rfl, ?_⟩) hT.below ?_
            rotate_left
            · intro w1 hSw
              replace hSw : Below w2.heap.size w2 w1 := hSw
              obtain ⟨r0, r1⟩ := regcells (box_step (w0 := w) G2.out hSw)
              go_simp; with_reducible rfl
            simp only [List.getElem_toArray, List.getElem_cons_succ, List.getElem_cons_zero, Act.put, List.setIfInBounds_toArray, List.set_cons_zero, List.set_cons_succ]
            refine wpAnyH_take (i := 10) (oi := _) (v := ?_) rfl (by as_aux_lemma => kernel_rfl) (by as_aux_lemma => kernel_rfl) (by as_aux_lemma => kernel_rfl) (fun _ _ _ h => h) (Or.inl ⟨by rfl, ?_⟩) hT.below ?_
            rotate_left
            · intro w1 hSw
              replace hSw : Below w2.heap.size w2 w1 := hSw
              obtain ⟨r0, r1⟩ := regcells (box_step (w0 := w) G2.out hSw)
              go_simp; with_reducible rfl
            simp only [List.getElem_toArray, List.getElem_cons_succ, List.getElem_cons_zero, Act.put, List.setIfInBounds_toArray, List.set_cons_zero, List.set_cons_succ]
            refine wpAnyH_take (i := 11) (oi := _) (v := ?_) rfl (by as_aux_lemma => kernel_rfl) (by as_aux_lemma => kernel_rfl) (by as_aux_lemma => kernel_rfl) (fun _ _ _ h => h) (Or.inl ⟨by rfl, ?_⟩) hT.below ?_
            rotate_left
            · intro w1 hSw
              replace hSw : Below w2.heap.size w2 w1 := hSw
              obtain ⟨r0, r1⟩ := regcells (box_step (w0 := w) G2.out hSw)
              go_simp; with_reducible rfl
            simp only [List.getElem_toArray, List.getElem_cons_succ, List.getElem_cons_zero, Act.put, List.setIfInBounds_toArray, List.set_cons_zero, List.set_cons_succ]
            refine wpAnyH_take (i := 12) (oi := _) (v := ?_) rfl (by as_aux_lemma => kernel_rfl) (by as_aux_lemma => kernel_rfl) (by as_aux_lemma => kernel_rfl) (fun _ _ _ h => h) (Or.inl ⟨by rfl, ?_⟩) hT.below ?_
            rotate_left
            · intro w1 hSw
              replace hSw : Below w2.heap.size w2 w1 := hSw
              obtain ⟨r0, r1⟩ := regcells (box_step (w0 := w) G2.out hSw)
              go_simp; with_reducible rfl
            simp only [List.getElem_toArray, List.getElem_cons_succ, List.getElem_cons_zero, Act.put, List.setIfInBounds_toArray, List.set_cons_zero, List.set_cons_succ]
            refine wpAnyH_take (i := 13) (oi := _) (v := ?_) rfl (by as_aux_lemma => kernel_rfl) (by as_aux_lemma => kernel_rfl) (by as_aux_lemma => kernel_rfl) (fun _ _ _ h => h) (Or.inl ⟨by rfl, ?_⟩) hT.below ?_
            rotate_left
            · intro w1 hSw
              replace hSw : Below w2.heap.size w2 w1 := hSw
              obtain ⟨r0, r1⟩ := regcells (box_step (w0 := w) G2.out hSw)
              go_simp; with_reducible rfl
            simp only [List.getElem_toArray, List.getElem_cons_succ, List.getElem_cons_zero, Act.put, List.setIfInBounds_toArray, List.set_cons_zero, List.set_cons_succ]
            refine wpAnyH_take (i := 14) (oi := _) (v := ?_) rfl (by as_aux_lemma => kernel_rfl) (by as_aux_lemma => kernel_rfl) (by as_aux_lemma => kernel_rfl) (fun _ _ _ h => h) (Or.inl ⟨by rfl, ?_⟩) hT.below ?_
            rotate_left
            · intro w1 hSw
              replace hSw : Below w2.heap.size w2 w1 := hSw
              obtain ⟨r0, r1⟩ := regcells (box_step (w0 := w) G2.out hSw)
              go_simp; with_reducible rfl
            simp only [List.getElem_toArray, List.getElem_cons_succ, List.getElem_cons_zero, Act.put, List.setIfInBounds_toArray, List.set_cons_zero, List.set_cons_succ]
            refine wpAnyH_done (by as_aux_lemma => kernel_rfl) ?_ _
            go_wp2_with fail
            go_meet
            exact ⟨_, rfl, rfl, rfl, iu, hT.below⟩
          ·
            refine wpOp_step rfl (fun K3 hK3 => ?_)
            have HK3 := Lib.hid hK3
            clear hK3
            rw [if_pos (by rfl)]
            go_simp
            replace hT : Two w2 _ _ _ _ 1 _ (([m] : List Int).map (Value.int .i64)) := hT.litB #[.int .i64 m] 1 (by decide) rfl
            obtain ⟨g2, eg2⟩ : ∃ g, y1.heap.size = g := ⟨_, rfl⟩
            obtain ⟨y2, eY⟩ : ∃ Y, y1.alloc (.cells #[.int .i64 m] 3) = Y := ⟨_, rfl⟩
            rw [eg2, eY] at hT
            rw [eY, eg2]
            clear eY eg2
            refine HK3.out _ _ ⟨hT.below, ?_⟩
            clear HK3 K3
            try simp only [List.getElem_toArray, List.getElem_cons_succ, List.getElem_cons_zero, Act.put, List.setIfInBounds_toArray, List.set_cons_zero, List.set_cons_succ]
            refine wpAnyH_all (rs := [3]) (by as_aux_lemma => kernel_rfl) (by simp) ?_
            intro i hi; obtain rfl := List.mem_singleton.1 hi; clear hi
            refine wpOp_step rfl (fun K3 hK3 => ?_)
            have HK3 := Lib.hid hK3
            clear hK3
            rw [if_pos (by rfl)]
            simp only [List.getElem_toArray, List.getElem_cons_succ, List.getElem_cons_zero]
            refine wp_icopy (.tmp 91) (.tmp 92) (by rfl) (by rfl) hT (by rfl) (hl2.below hT.below) HNIL.out (by omega) (by decide) ?_
            replace hT := Lib.hid hT
            clear hT
            intro v1 y3 hT
            refine HK3.out _ _ ⟨hT.below, ?_⟩
            clear HK3 K3
            try simp only [List.getElem_toArray, List.getElem_cons_succ, List.getElem_cons_zero, Act.put, List.setIfInBounds_toArray, List.set_cons_zero, List.set_cons_succ]
            refine wpAnyH_all (rs := [6]) (by as_aux_lemma => kernel_rfl) (by simp) ?_
            intro i hi; obtain rfl := List.mem_singleton.1 hi; clear hi
            refine wpOp_step rfl (fun K3 hK3 => ?_)
            have HK3 := Lib.hid hK3
            clear hK3
            rw [if_pos (by rfl)]
            simp only [List.getElem_toArray, List.getElem_cons_succ, List.getElem_cons_zero]
            refine wp_icopy (.tmp 93) (.tmp 95) (by rfl) (by rfl) hT (by rfl) (ints_own hT.b (by simp)) (nilOk_own hT.b) (by simp) (by omega) ?_
            intro v2 y4 hT2
            have hI : IntsAt y4 v2 (l ++ [m]) := ints_own (by simpa using hT2.a) (by simp; omega)
            clear hT
            have hT := hT2
            clear hT2
            refine HK3.out _ _ ⟨hT.below, ?_⟩
            clear HK3 K3
            try simp only [List.getElem_toArray, List.getElem_cons_succ, List.getElem_cons_zero, Act.put, List.setIfInBounds_toArray, List.set_cons_zero, List.set_cons_succ]
            refine wpAnyH_all (rs := [7]) (by as_aux_lemma => kernel_rfl) (by simp) ?_
            intro i hi; obtain rfl := List.mem_singleton.1 hi; clear hi
            refine wpOp_step rfl (fun K3 hK3 => ?_)
            have HK3 := Lib.hid hK3
            clear hK3
            rw [if_pos (by rfl)]
            go_simp
            refine (run_any d s (l ++ [m]) v2 _ hI).mono ?_
            rintro e y5 ⟨u9, rfl, ho, hy⟩
            have iu := ints_own ho (runFigs_len d s _)
            rw [HA.out, E1.out]
            rw [HG.out] at iu
            clear ho
            replace hT := hT.call hy
            refine HK3.out _ _ ⟨hT.below, ?_⟩
            clear HK3 K3
            try simp only [List.getElem_toArray, List.getElem_cons_succ, List.getElem_cons_zero, Act.put, List.setIfInBounds_toArray, List.set_cons_zero, List.set_cons_succ]
            refine wpAnyH_take (i := 8) (oi := _) (v := ?_) rfl (by as_aux_lemma => kernel_rfl) (by as_aux_lemma => kernel_rfl) (by as_aux_lemma => kernel_rfl) (fun _ _ _ h => h) (Or.inl ⟨by rfl, ?_⟩) hT.below ?_
            rotate_left
            · intro w1 hSw
              replace hSw : Below w2.heap.size w2 w1 := hSw
              obtain ⟨r0, r1⟩ := regcells (box_step (w0 := w) G2.out hSw)
              go_simp; with_reducible rfl
            simp only [List.getElem_toArray, List.getElem_cons_succ, List.getElem_cons_zero, Act.put, List.setIfInBounds_toArray, List.set_cons_zero, List.set_cons_succ]
            refine wpAnyH_take (i := 9) (oi := _) (v := ?_) rfl (by as_aux_lemma => kernel_rfl) (by as_aux_lemma => kernel_rfl) (by as_aux_lemma => kernel_rfl) (fun _ _ _ h => h) (Or.inl ⟨by rfl, ?_⟩) hT.below ?_
            rotate_left
            · intro w1 hSw
              replace hSw : Below w2.heap.size w2 w1 := hSw
              obtain ⟨r0, r1⟩ := regcells (box_step (w0 := w) G2.out hSw)
              go_simp; with_reducible rfl
            simp only [List.getElem_toArray, List.getElem_cons_succ, List.getElem_cons_zero, Act.put, List.setIfInBounds_toArray, List.set_cons_zero, List.set_cons_succ]
            refine wpAnyH_take (i := 10) (oi := _) (v := ?_) rfl (by as_aux_lemma => kernel_rfl) (by as_aux_lemma => kernel_rfl) (by as_aux_lemma => kernel_rfl) (fun _ _ _ h => h) (Or.inl ⟨by rfl, ?_⟩) hT.below ?_
            rotate_left
            · intro w1 hSw
              replace hSw : Below w2.heap.size w2 w1 := hSw
              obtain ⟨r0, r1⟩ := regcells (box_step (w0 := w) G2.out hSw)
              go_simp; with_reducible rfl
            simp only [List.getElem_toArray, List.getElem_cons_succ, List.getElem_cons_zero, Act.put, List.setIfInBounds_toArray, List.set_cons_zero, List.set_cons_succ]
            refine wpAnyH_take (i := 11) (oi := _) (v := ?_) rfl (by as_aux_lemma => kernel_rfl) (by as_aux_lemma => kernel_rfl) (by as_aux_lemma => kernel_rfl) (fun _ _ _ h => h) (Or.inl ⟨by rfl, ?_⟩) hT.below ?_
            rotate_left
            · intro w1 hSw
              replace hSw : Below w2.heap.size w2 w1 := hSw
              obtain ⟨r0, r1⟩ := regcells (box_step (w0 := w) G2.out hSw)
              go_simp; with_reducible rfl
            simp only [List.getElem_toArray, List.getElem_cons_succ, List.getElem_cons_zero, Act.put, List.setIfInBounds_toArray, List.set_cons_zero, List.set_cons_succ]
            refine wpAnyH_take (i := 12) (oi := _) (v := ?_) rfl (by as_aux_lemma => kernel_rfl) (by as_aux_lemma => kernel_rfl) (by as_aux_lemma => kernel_rfl) (fun _ _ _ h => h) (Or.inl ⟨by rfl, ?_⟩) hT.below ?_
            rotate_left
            · intro w1 hSw
              replace hSw : Below w2.heap.size w2 w1 := hSw
              obtain ⟨r0, r1⟩ := regcells (box_step (w0 := w) G2.out hSw)
              go_simp; with_reducible rfl
            simp only [List.getElem_toArray, List.getElem_cons_succ, List.getElem_cons_zero, Act.put, List.setIfInBounds_toArray, List.set_cons_zero, List.set_cons_succ]
            refine wpAnyH_take (i := 13) (oi := _) (v := ?_) rfl (by as_aux_lemma => kernel_rfl) (by as_aux_lemma => kernel_rfl) (by as_aux_lemma => kernel_rfl) (fun _ _ _ h => h) (Or.inl ⟨by rfl, ?_⟩) hT.below ?_
            rotate_left
            · intro w1 hSw
              replace hSw : Below w2.heap.size w2 w1 := hSw
              obtain ⟨r0, r1⟩ := regcells (box_step (w0 := w) G2.out hSw)
              go_simp; with_reducible rfl
            simp only [List.getElem_toArray, List.getElem_cons_succ, List.getElem_cons_zero, Act.put, List.setIfInBounds_toArray, List.set_cons_zero, List.set_cons_succ]
            refine wpAnyH_take (i := 14) (oi := _) (v := ?_) rfl (by as_aux_lemma => kernel_rfl) (by as_aux_lemma => kernel_rfl) (by as_aux_lemma => kernel_rfl) (fun _ _ _ h => h) (Or.inl ⟨by rfl, ?_⟩) hT.below ?_
            rotate_left
            · intro w1 hSw
              replace hSw : Below w2.heap.size w2 w1 := hSw
              obtain ⟨r0, r1⟩ := regcells (box_step (w0 := w) G2.out hSw)
              go_simp; with_reducible rfl
            simp only [List.getElem_toArray, List.getElem_cons_succ, List.getElem_cons_zero, Act.put, List.setIfInBounds_toArray, List.set_cons_zero, List.set_cons_succ]
            refine wpAnyH_done (by as_aux_lemma => kernel_rfl) ?_ _
            go_wp2_with fail
            go_meet
            exact ⟨_, rfl, rfl, rfl, iu, hT.below⟩
        ·
          refine wpOp_step rfl (fun K3 hK3 => ?_)
          have HK3 := Lib.hid hK3
          clear hK3
          rw [if_pos (by rfl)]
          go_simp
          replace hT : Two w2 _ _ _ _ 1 _ (([m] : List Int).map (Value.int .i64)) := hT.litB #[.int .i64 m] 1 (by decide) rfl
          obtain ⟨g2, eg2⟩ : ∃ g, y0.heap.size = g := ⟨_, rfl⟩
          obtain ⟨y1, eY⟩ : ∃ Y, y0.alloc (.cells #[.int .i64 m] 3) = Y := ⟨_, rfl⟩
          rw [eg2, eY] at hT
          rw [eY, eg2]
          clear eY eg2
          refine HK3.out _ _ ⟨hT.below, ?_⟩
          clear HK3 K3
          try simp only [List.getElem_toArray, List.getElem_cons_succ, List.getElem_cons_zero, Act.put, List.setIfInBounds_toArray, List.set_cons_zero, List.set_cons_succ]
          refine wpAnyH_all (rs := [1]) (by as_aux_lemma => kernel_rfl) (by simp) ?_
          intro i hi; obtain rfl := List.mem_singleton.1 hi; clear hi
          refine wpOp_step rfl (fun K3 hK3 => ?_)
          have HK3 := Lib.hid hK3
          clear hK3
          rw [if_pos (by rfl)]
          go_simp
          replace hT := hT.litA #[] 0 (by decide) rfl
          obtain ⟨g1, eg1⟩ : ∃ g, y1.heap.size = g := ⟨_, rfl⟩
          obtain ⟨y2, eY⟩ : ∃ Y, y1.alloc (.cells #[] 3) = Y := ⟨_, rfl⟩
          rw [eg1, eY] at hT
          rw [eY, eg1]
          clear eY eg1
          refine HK3.out _ _ ⟨hT.below, ?_⟩
          clear HK3 K3
          try simp only [List.getElem_toArray, List.getElem_cons_succ, List.getElem_cons_zero, Act.put, List.setIfInBounds_toArray, List.set_cons_zero, List.set_cons_succ]
          refine wpAnyH_all (rs := [3]) (by as_aux_lemma => kernel_rfl) (by simp) ?_
          intro i hi; obtain rfl := List.mem_singleton.1 hi; clear hi
          refine wpOp_step rfl (fun K3 hK3 => ?_)
          have HK3 := Lib.hid hK3
          clear hK3
          rw [if_pos (by rfl)]
          simp only [List.getElem_toArray, List.getElem_cons_succ, List.getElem_cons_zero]
          refine wp_icopy (.tmp 91) (.tmp 92) (by rfl) (by rfl) hT (by rfl) (hl2.below hT.below) HNIL.out (by omega) (by decide) ?_
          replace hT := Lib.hid hT
          clear hT
          intro v1 y3 hT
          refine HK3.out _ _ ⟨hT.below, ?_⟩
          clear HK3 K3
          try simp only [List.getElem_toArray, List.getElem_cons_succ, List.getElem_cons_zero, Act.put, List.setIfInBounds_toArray, List.set_cons_zero, List.set_cons_succ]
          refine wpAnyH_all (rs := [6]) (by as_aux_lemma => kernel_rfl) (by simp) ?_
          intro i hi; obtain rfl := List.mem_singleton.1 hi; clear hi
          refine wpOp_step rfl (fun K3 hK3 => ?_)
          have HK3 := Lib.hid hK3
          clear hK3
          rw [if_pos (by rfl)]
          simp only [List.getElem_toArray, List.getElem_cons_succ, List.getElem_cons_zero]
          refine wp_icopy (.tmp 93) (.tmp 95) (by rfl) (by rfl) hT (by rfl) (ints_own hT.b (by simp)) (nilOk_own hT.b) (by simp) (by omega) ?_
          intro v2 y4 hT2
          have hI : IntsAt y4 v2 (l ++ [m]) := ints_own (by simpa using hT2.a) (by simp; omega)
          clear hT
          have hT := hT2
          clear hT2
          refine HK3.out _ _ ⟨hT.below, ?_⟩
          clear HK3 K3
          try simp only [List.getElem_toArray, List.getElem_cons_succ, List.getElem_cons_zero, Act.put, List.setIfInBounds_toArray, List.set_cons_zero, List.set_cons_succ]
          refine wpAnyH_all (rs := [7]) (by as_aux_lemma => kernel_rfl) (by simp) ?_
          intro i hi; obtain rfl := List.mem_singleton.1 hi; clear hi
          refine wpOp_step rfl (fun K3 hK3 => ?_)
          have HK3 := Lib.hid hK3
          clear hK3
          rw [if_pos (by rfl)]
          go_simp
          refine (run_any d s (l ++ [m]) v2 _ hI).mono ?_
          rintro e y5 ⟨u9, rfl, ho, hy⟩
          have iu := ints_own ho (runFigs_len d s _)
          rw [HA.out, E1.out]
          rw [HG.out] at iu
          clear ho
          replace hT := hT.call hy
          refine HK3.out _ _ ⟨hT.below, ?_⟩
          clear HK3 K3
          try simp only [List.getElem_toArray, List.getElem_cons_succ, List.getElem_cons_zero, Act.put, List.setIfInBounds_toArray, List.set_cons_zero, List.set_cons_succ]
          refine wpAnyH_take (i := 8) (oi := _) (v := ?_) rfl (by as_aux_lemma => kernel_rfl) (by as_aux_lemma => kernel_rfl) (by as_aux_lemma => kernel_rfl) (fun _ _ _ h => h) (Or.inl ⟨by rfl, ?_⟩) hT.below ?_
          rotate_left
          · intro w1 hSw
            replace hSw : Below w2.heap.size w2 w1 := hSw
            obtain ⟨r0, r1⟩ := regcells (box_step (w0 := w) G2.out hSw)
            go_simp; with_reducible rfl
          simp only [List.getElem_toArray, List.getElem_cons_succ, List.getElem_cons_zero, Act.put, List.setIfInBounds_toArray, List.set_cons_zero, List.set_cons_succ]
          refine wpAnyH_take (i := 9) (oi := _) (v := ?_) rfl (by as_aux_lemma => kernel_rfl) (by as_aux_lemma => kernel_rfl) (by as_aux_lemma => kernel_rfl) (fun _ _ _ h => h) (Or.inl ⟨by rfl, ?_⟩) hT.below ?_
          rotate_left
          · intro w1 hSw
            replace hSw : Below w2.heap.size w2 w1 := hSw
            obtain ⟨r0, r1⟩ := regcells (box_step (w0 := w) G2.out hSw)
            go_simp; with_reducible rfl
          simp only [List.getElem_toArray, List.getElem_cons_succ, List.getElem_cons_zero, Act.put, List.setIfInBounds_toArray, List.set_cons_zero, List.set_cons_succ]
          refine wpAnyH_take (i := 10) (oi := _) (v := ?_) rfl (by as_aux_lemma => kernel_rfl) (by as_aux_lemma => kernel_rfl) (by as_aux_lemma => kernel_rfl) (fun _ _ _ h => h) (Or.inl ⟨by rfl, ?_⟩) hT.below ?_
          rotate_left
          · intro w1 hSw
            replace hSw : Below w2.heap.size w2 w1 := hSw
            obtain ⟨r0, r1⟩ := regcells (box_step (w0 := w) G2.out hSw)
            go_simp; with_reducible rfl
          simp only [List.getElem_toArray, List.getElem_cons_succ, List.getElem_cons_zero, Act.put, List.setIfInBounds_toArray, List.set_cons_zero, List.set_cons_succ]
          refine wpAnyH_take (i := 11) (oi := _) (v := ?_) rfl (by as_aux_lemma => kernel_rfl) (by as_aux_lemma => kernel_rfl) (by as_aux_lemma => kernel_rfl) (fun _ _ _ h => h) (Or.inl ⟨by rfl, ?_⟩) hT.below ?_
          rotate_left
          · intro w1 hSw
            replace hSw : Below w2.heap.size w2 w1 := hSw
            obtain ⟨r0, r1⟩ := regcells (box_step (w0 := w) G2.out hSw)
            go_simp; with_reducible rfl
          simp only [List.getElem_toArray, List.getElem_cons_succ, List.getElem_cons_zero, Act.put, List.setIfInBounds_toArray, List.set_cons_zero, List.set_cons_succ]
          refine wpAnyH_take (i := 12) (oi := _) (v := ?_) rfl (by as_aux_lemma => kernel_rfl) (by as_aux_lemma => kernel_rfl) (by as_aux_lemma => kernel_rfl) (fun _ _ _ h => h) (Or.inl ⟨by rfl, ?_⟩) hT.below ?_
          rotate_left
          · intro w1 hSw
            replace hSw : Below w2.heap.size w2 w1 := hSw
            obtain ⟨r0, r1⟩ := regcells (box_step (w0 := w) G2.out hSw)
            go_simp; with_reducible rfl
          simp only [List.getElem_toArray, List.getElem_cons_succ, List.getElem_cons_zero, Act.put, List.setIfInBounds_toArray, List.set_cons_zero, List.set_cons_succ]
          refine wpAnyH_take (i := 13) (oi := _) (v := ?_) rfl (by as_aux_lemma => kernel_rfl) (by as_aux_lemma => kernel_rfl) (by as_aux_lemma => kernel_rfl) (fun _ _ _ h => h) (Or.inl ⟨by rfl, ?_⟩) hT.below ?_
          rotate_left
          · intro w1 hSw
            replace hSw : Below w2.heap.size w2 w1 := hSw
            obtain ⟨r0, r1⟩ := regcells (box_step (w0 := w) G2.out hSw)
            go_simp; with_reducible rfl
          simp only [List.getElem_toArray, List.getElem_cons_succ, List.getElem_cons_zero, Act.put, List.setIfInBounds_toArray, List.set_cons_zero, List.set_cons_succ]
          refine wpAnyH_take (i := 14) (oi := _) (v := ?_) rfl (by as_aux_lemma => kernel_rfl) (by as_aux_lemma => kernel_rfl) (by as_aux_lemma => kernel_rfl) (fun _ _ _ h => h) (Or.inl ⟨by rfl, ?_⟩) hT.below ?_
          rotate_left
          · intro w1 hSw
            replace hSw : Below w2.heap.size w2 w1 := hSw
            obtain ⟨r0, r1⟩ := regcells (box_step (w0 := w) G2.out hSw)
            go_simp; with_reducible rfl
          simp only [List.getElem_toArray, List.getElem_cons_succ, List.getElem_cons_zero, Act.put, List.setIfInBounds_toArray, List.set_cons_zero, List.set_cons_succ]
          refine wpAnyH_done (by as_aux_lemma => kernel_rfl) ?_ _
          go_wp2_with fail
          go_meet
          exact ⟨_, rfl, rfl, rfl, iu, hT.below⟩
      case rest =>
      obtain ⟨xv, rfl, rfl, rfl, ix, hbx⟩ := hcut
      have g3 := box_step (w0 := w) G2.out hbx
      have G3 := Lib.hid g3
      have hl3 := hl2.below hbx
      have if3 := if2.below hbx
      have hbw3 := hbw2.trans (hbx.mono hbw2.size)
      obtain ⟨c0, c1⟩ := regcells g3
      clear g3 hl2 if2 hbw2 G2 hbx
      obtain ⟨wA, hwA⟩ : ∃ wA : World, wA = wc := ⟨_, rfl⟩
      subst hwA
      go_wp2_with fail
      refine (run_any d t [m] _ _ (ints_one wA m 3)).mono ?_
      rintro e w4 ⟨yv, rfl, ho, hb4⟩
      have iy := ints_own ho (runFigs_len d t _)
      rw [E2.out.2.1, E2.out.1]
      rw [E2.out.2.2] at iy
      have hb34 : Below wA.heap.size wA w4 := ((Below.refl wA.heap.size wA).alloc (Nat.le_refl _) _).trans (hb4.mono (by simp))
      have G2 := Lib.hid (box_step (w0 := w) G3.out hb34)
      have hl2 := hl3.below hb34
      have if2 := if3.below hb34
      have ix2 := ix.below hb34
      have hbw2 := hbw3.trans (hb34.mono hbw3.size)
      clear c0 c1 ho hb4 hb34 G3 hl3 if3 ix hbw3
      go_wp2_with fail
      have enm : IntKind.i64.wrap (-m) = -m := IntWalk.i64_in _ (by omega)
      go_cut [18, 19, 20] (fun va vb vd wx => ∃ u, va = .int .i64 t ∧ vb = u ∧ vd = .int .i64 0 ∧ IntsAt wx u F ∧ Below w4.heap.size w4 wx)
      case first =>
        refine wp_region_held_drew (S := fun w' => Below w4.heap.size w4 w') (by as_aux_lemma => kernel_rfl) (Below.refl _ _).drew (fun hHeld => ?_)
        obtain ⟨y0, hy0⟩ : ∃ y0, y0 = w4.drew := ⟨_, rfl⟩
        have hT := Two.start w4
        rw [← hy0] at hT ⊢
        clear hy0 hHeld
        refine wpAnyH_take (i := 0) (oi := _) (v := ?_) rfl (by as_aux_lemma => kernel_rfl) (by as_aux_lemma => kernel_rfl) (by as_aux_lemma => kernel_rfl) (fun _ _ _ h => h) (Or.inl ⟨by rfl, ?_⟩) hT.below ?_
        rotate_left
        · intro w1 hSw
          replace hSw : Below w4.heap.size w4 w1 := hSw
          obtain ⟨r0, r1⟩ := regcells (box_step (w0 := w) G2.out hSw)
          go_simp; with_reducible rfl
        simp only [List.getElem_toArray, List.getElem_cons_succ, List.getElem_cons_zero, Act.put, List.setIfInBounds_toArray, List.set_cons_zero, List.set_cons_succ]
        refine wpAnyH_take (i := 2) (oi := _) (v := ?_) rfl (by as_aux_lemma => kernel_rfl) (by as_aux_lemma => kernel_rfl) (by as_aux_lemma => kernel_rfl) (fun _ _ _ h => h) (Or.inl ⟨by rfl, ?_⟩) hT.below ?_
        rotate_left
        · intro w1 hSw
          replace hSw : Below w4.heap.size w4 w1 := hSw
          obtain ⟨r0, r1⟩ := regcells (box_step (w0 := w) G2.out hSw)
          go_simp; with_reducible rfl
        simp only [List.getElem_toArray, List.getElem_cons_succ, List.getElem_cons_zero, Act.put, List.setIfInBounds_toArray, List.set_cons_zero, List.set_cons_succ]
        refine wpAnyH_take (i := 4) (oi := _) (v := ?_) rfl (by as_aux_lemma => kernel_rfl) (by as_aux_lemma => kernel_rfl) (by as_aux_lemma => kernel_rfl) (fun _ _ _ h => h) (Or.inl ⟨by rfl, ?_⟩) hT.below ?_
        rotate_left
        · intro w1 hSw
          replace hSw : Below w4.heap.size w4 w1 := hSw
          obtain ⟨r0, r1⟩ := regcells (box_step (w0 := w) G2.out hSw)
          go_simp; with_reducible rfl
        simp only [List.getElem_toArray, List.getElem_cons_succ, List.getElem_cons_zero, Act.put, List.setIfInBounds_toArray, List.set_cons_zero, List.set_cons_succ]
        refine wpAnyH_take (i := 5) (oi := _) (v := ?_) rfl (by as_aux_lemma => kernel_rfl) (by as_aux_lemma => kernel_rfl) (by as_aux_lemma => kernel_rfl) (fun _ _ _ h => h) (Or.inl ⟨by rfl, ?_⟩) hT.below ?_
        rotate_left
        · intro w1 hSw
          replace hSw : Below w4.heap.size w4 w1 := hSw
          obtain ⟨r0, r1⟩ := regcells (box_step (w0 := w) G2.out hSw)
          go_simp; with_reducible rfl
        simp only [List.getElem_toArray, List.getElem_cons_succ, List.getElem_cons_zero, Act.put, List.setIfInBounds_toArray, List.set_cons_zero, List.set_cons_succ]
        refine wpAnyH_take (i := 6) (oi := _) (v := ?_) rfl (by as_aux_lemma => kernel_rfl) (by as_aux_lemma => kernel_rfl) (by as_aux_lemma => kernel_rfl) (fun _ _ _ h => h) (Or.inl ⟨by rfl, ?_⟩) hT.below ?_
        rotate_left
        · intro w1 hSw
          replace hSw : Below w4.heap.size w4 w1 := hSw
          obtain ⟨r0, r1⟩ := regcells (box_step (w0 := w) G2.out hSw)
          go_simp; with_reducible rfl
        simp only [List.getElem_toArray, List.getElem_cons_succ, List.getElem_cons_zero, Act.put, List.setIfInBounds_toArray, List.set_cons_zero, List.set_cons_succ]
        refine wpAnyH_all (rs := [1, 7]) (by as_aux_lemma => kernel_rfl) (by simp) ?_
        intro i hi
        rcases (by simpa using hi : i = 1 ∨ i = 7) with rfl | rfl <;> clear hi
        ·
          refine wpOp_step rfl (fun K3 hK3 => ?_)
          have HK3 := Lib.hid hK3
          clear hK3
          rw [if_pos (by rfl)]
          go_simp
          replace hT := hT.litA #[] 0 (by decide) rfl
          obtain ⟨g1, eg1⟩ : ∃ g, y0.heap.size = g := ⟨_, rfl⟩
          obtain ⟨y1, eY⟩ : ∃ Y, y0.alloc (.cells #[] 3) = Y := ⟨_, rfl⟩
          rw [eg1, eY] at hT
          rw [eY, eg1]
          clear eY eg1
          refine HK3.out _ _ ⟨hT.below, ?_⟩
          clear HK3 K3
          try simp only [List.getElem_toArray, List.getElem_cons_succ, List.getElem_cons_zero, Act.put, List.setIfInBounds_toArray, List.set_cons_zero, List.set_cons_succ]
          refine wpAnyH_all (rs := [3, 7]) (by as_aux_lemma => kernel_rfl) (by simp) ?_
          intro i hi
          rcases (by simpa using hi : i = 3 ∨ i = 7) with rfl | rfl <;> clear hi
          ·
            refine wpOp_step rfl (fun K3 hK3 => ?_)
            have HK3 := Lib.hid hK3
            clear hK3
            rw [if_pos (by rfl)]
            simp only [List.getElem_toArray, List.getElem_cons_succ, List.getElem_cons_zero]
            refine wp_icopy (.tmp 114) (.tmp 115) (by rfl) (by rfl) hT (by rfl) (hl2.below hT.below) HNIL.out (by omega) (by decide) ?_
            replace hT := Lib.hid hT
            clear hT
            intro v1 y2 hT
            refine HK3.out _ _ ⟨hT.below, ?_⟩
            clear HK3 K3
            try simp only [List.getElem_toArray, List.getElem_cons_succ, List.getElem_cons_zero, Act.put, List.setIfInBounds_toArray, List.set_cons_zero, List.set_cons_succ]
            refine wpAnyH_all (rs := [7]) (by as_aux_lemma => kernel_rfl) (by simp) ?_
            intro i hi; obtain rfl := List.mem_singleton.1 hi; clear hi
            refine wpOp_step rfl (fun K3 hK3 => ?_)
            have HK3 := Lib.hid hK3
            clear hK3
            rw [if_pos (by rfl)]
            go_simp
            replace hT : Two w4 _ _ _ _ 2 _ (([m, -m] : List Int).map (Value.int .i64)) := hT.litB #[.int .i64 m, .int .i64 (-m)] 2 (by decide) rfl
            obtain ⟨g2, eg2⟩ : ∃ g, y2.heap.size = g := ⟨_, rfl⟩
            obtain ⟨y3, eY⟩ : ∃ Y, y2.alloc (.cells #[.int .i64 m, .int .i64 (-m)] 3) = Y := ⟨_, rfl⟩
            rw [eg2, eY] at hT
            rw [eY, eg2]
            clear eY eg2
            refine HK3.out _ _ ⟨hT.below, ?_⟩
            clear HK3 K3
            try simp only [List.getElem_toArray, List.getElem_cons_succ, List.getElem_cons_zero, Act.put, List.setIfInBounds_toArray, List.set_cons_zero, List.set_cons_succ]
            refine wpAnyH_all (rs := [8]) (by as_aux_lemma => kernel_rfl) (by simp) ?_
            intro i hi; obtain rfl := List.mem_singleton.1 hi; clear hi
            refine wpOp_step rfl (fun K3 hK3 => ?_)
            have HK3 := Lib.hid hK3
            clear hK3
            rw [if_pos (by rfl)]
            simp only [List.getElem_toArray, List.getElem_cons_succ, List.getElem_cons_zero]
            refine wp_icopy (.tmp 116) (.tmp 120) (by rfl) (by rfl) hT (by rfl) (ints_own hT.b (by simp)) (nilOk_own hT.b) (by simp) (by omega) ?_
            intro v2 y4 hT2
            have hI : IntsAt y4 v2 (l ++ [m, -m]) := ints_own (by simpa using hT2.a) (by simp; omega)
            clear hT
            have hT := hT2
            clear hT2
            refine HK3.out _ _ ⟨hT.below, ?_⟩
            clear HK3 K3
            try simp only [List.getElem_toArray, List.getElem_cons_succ, List.getElem_cons_zero, Act.put, List.setIfInBounds_toArray, List.set_cons_zero, List.set_cons_succ]
            refine wpAnyH_all (rs := [9]) (by as_aux_lemma => kernel_rfl) (by simp) ?_
            intro i hi; obtain rfl := List.mem_singleton.1 hi; clear hi
            refine wpOp_step rfl (fun K3 hK3 => ?_)
            have HK3 := Lib.hid hK3
            clear hK3
            rw [if_pos (by rfl)]
            go_simp
            refine (run_any d s (l ++ [m, -m]) v2 _ hI).mono ?_
            rintro e y5 ⟨u9, rfl, ho, hy⟩
            have iu := ints_own ho (runFigs_len d s _)
            rw [E3.out.2.1, E3.out.1]
            rw [E3.out.2.2] at iu
            clear ho
            replace hT := hT.call hy
            refine HK3.out _ _ ⟨hT.below, ?_⟩
            clear HK3 K3
            try simp only [List.getElem_toArray, List.getElem_cons_succ, List.getElem_cons_zero, Act.put, List.setIfInBounds_toArray, List.set_cons_zero, List.set_cons_succ]
            refine wpAnyH_take (i := 10) (oi := _) (v := ?_) rfl (by as_aux_lemma => kernel_rfl) (by as_aux_lemma => kernel_rfl) (by as_aux_lemma => kernel_rfl) (fun _ _ _ h => h) (Or.inl ⟨by rfl, ?_⟩) hT.below ?_
            rotate_left
            · intro w1 hSw
              replace hSw : Below w4.heap.size w4 w1 := hSw
              obtain ⟨r0, r1⟩ := regcells (box_step (w0 := w) G2.out hSw)
              go_simp; with_reducible rfl
            simp only [List.getElem_toArray, List.getElem_cons_succ, List.getElem_cons_zero, Act.put, List.setIfInBounds_toArray, List.set_cons_zero, List.set_cons_succ]
            refine wpAnyH_take (i := 11) (oi := _) (v := ?_) rfl (by as_aux_lemma => kernel_rfl) (by as_aux_lemma => kernel_rfl) (by as_aux_lemma => kernel_rfl) (fun _ _ _ h => h) (Or.inl ⟨by rfl, ?_⟩) hT.below ?_
            rotate_left
            · intro w1 hSw
              replace hSw : Below w4.heap.size w4 w1 := hSw
              obtain ⟨r0, r1⟩ := regcells (box_step (w0 := w) G2.out hSw)
              go_simp; with_reducible rfl
            simp only [List.getElem_toArray, List.getElem_cons_succ, List.getElem_cons_zero, Act.put, List.setIfInBounds_toArray, List.set_cons_zero, List.set_cons_succ]
            refine wpAnyH_take (i := 12) (oi := _) (v := ?_) rfl (by as_aux_lemma => kernel_rfl) (by as_aux_lemma => kernel_rfl) (by as_aux_lemma => kernel_rfl) (fun _ _ _ h => h) (Or.inl ⟨by rfl, ?_⟩) hT.below ?_
            rotate_left
            · intro w1 hSw
              replace hSw : Below w4.heap.size w4 w1 := hSw
              obtain ⟨r0, r1⟩ := regcells (box_step (w0 := w) G2.out hSw)
              go_simp; with_reducible rfl
            simp only [List.getElem_toArray, List.getElem_cons_succ, List.getElem_cons_zero, Act.put, List.setIfInBounds_toArray, List.set_cons_zero, List.set_cons_succ]
            refine wpAnyH_take (i := 13) (oi := _) (v := ?_) rfl (by as_aux_lemma => kernel_rfl) (by as_aux_lemma => kernel_rfl) (by as_aux_lemma => kernel_rfl) (fun _ _ _ h => h) (Or.inl ⟨by rfl, ?_⟩) hT.below ?_
            rotate_left
            · intro w1 hSw
              replace hSw : Below w4.heap.size w4 w1 := hSw
              obtain ⟨r0, r1⟩ := regcells (box_step (w0 := w) G2.out hSw)
              go_simp; with_reducible rfl
            simp only [List.getElem_toArray, List.getElem_cons_succ, List.getElem_cons_zero, Act.put, List.setIfInBounds_toArray, List.set_cons_zero, List.set_cons_succ]
            refine wpAnyH_take (i := 14) (oi := _) (v := ?_) rfl (by as_aux_lemma => kernel_rfl) (by as_aux_lemma => kernel_rfl) (by as_aux_lemma => kernel_rfl) (fun _ _ _ h => h) (Or.inl ⟨by rfl, ?_⟩) hT.below ?_
            rotate_left
            · intro w1 hSw
              replace hSw : Below w4.heap.size w4 w1 := hSw
              obtain ⟨r0, r1⟩ := regcells (box_step (w0 := w) G2.out hSw)
              go_simp; with_reducible rfl
            simp only [List.getElem_toArray, List.getElem_cons_succ, List.getElem_cons_zero, Act.put, List.setIfInBounds_toArray, List.set_cons_zero, List.set_cons_succ]
            refine wpAnyH_take (i := 15) (oi := _) (v := ?_) rfl (by as_aux_lemma => kernel_rfl) (by as_aux_lemma => kernel_rfl) (by as_aux_lemma => kernel_rfl) (fun _ _ _ h => h) (Or.inl ⟨by rfl, ?_⟩) hT.below ?_
            rotate_left
            · intro w1 hSw
              replace hSw : Below w4.heap.size w4 w1 := hSw
              obtain ⟨r0, r1⟩ := regcells (box_step (w0 := w) G2.out hSw)
              go_simp; with_reducible rfl
            simp only [List.getElem_toArray, List.getElem_cons_succ, List.getElem_cons_zero, Act.put, List.setIfInBounds_toArray, List.set_cons_zero, List.set_cons_succ]
            refine wpAnyH_take (i := 16) (oi := _) (v := ?_) rfl (by as_aux_lemma => kernel_rfl) (by as_aux_lemma => kernel_rfl) (by as_aux_lemma => kernel_rfl) (fun _ _ _ h => h) (Or.inl ⟨by rfl, ?_⟩) hT.below ?_
            rotate_left
            · intro w1 hSw
              replace hSw : Below w4.heap.size w4 w1 := hSw
              obtain ⟨r0, r1⟩ := regcells (box_step (w0 := w) G2.out hSw)
              go_simp; with_reducible rfl
            simp only [List.getElem_toArray, List.getElem_cons_succ, List.getElem_cons_zero, Act.put, List.setIfInBounds_toArray, List.set_cons_zero, List.set_cons_succ]
            refine wpAnyH_done (by as_aux_lemma => kernel_rfl) ?_ _
            go_wp2_with fail
            go_meet
            exact ⟨_, rfl, rfl, rfl, iu, hT.below⟩
          ·
            refine wpOp_step rfl (fun K3 hK3 => ?_)
            have HK3 := Lib.hid hK3
            clear hK3
            rw [if_pos (by rfl)]
            go_simp
            replace hT : Two w4 _ _ _ _ 2 _ (([m, -m] : List Int).map (Value.int .i64)) := hT.litB #[.int .i64 m, .int .i64 (-m)] 2 (by decide) rfl
            obtain ⟨g2, eg2⟩ : ∃ g, y1.heap.size = g := ⟨_, rfl⟩
            obtain ⟨y2, eY⟩ : ∃ Y, y1.alloc (.cells #[.int .i64 m, .int .i64 (-m)] 3) = Y := ⟨_, rfl⟩
            rw [eg2, eY] at hT
            rw [eY, eg2]
            clear eY eg2
            refine HK3.out _ _ ⟨hT.below, ?_⟩
            clear HK3 K3
            try simp only [List.getElem_toArray, List.getElem_cons_succ, List.getElem_cons_zero, Act.put, List.setIfInBounds_toArray, List.set_cons_zero, List.set_cons_succ]
            refine wpAnyH_all (rs := [3]) (by as_aux_lemma => kernel_rfl) (by simp) ?_
            intro i hi; obtain rfl := List.mem_singleton.1 hi; clear hi
            refine wpOp_step rfl (fun K3 hK3 => ?_)
            have HK3 := Lib.hid hK3
            clear hK3
            rw [if_pos (by rfl)]
            simp only [List.getElem_toArray, List.getElem_cons_succ, List.getElem_cons_zero]
            refine wp_icopy (.tmp 114) (.tmp 115) (by rfl) (by rfl) hT (by rfl) (hl2.below hT.below) HNIL.out (by omega) (by decide) ?_
            replace hT := Lib.hid hT
            clear hT
            intro v1 y3 hT
            refine HK3.out _ _ ⟨hT.below, ?_⟩
            clear HK3 K3
            try simp only [List.getElem_toArray, List.getElem_cons_succ, List.getElem_cons_zero, Act.put, List.setIfInBounds_toArray, List.set_cons_zero, List.set_cons_succ]
            refine wpAnyH_all (rs := [8]) (by as_aux_lemma => kernel_rfl) (by simp) ?_
            intro i hi; obtain rfl := List.mem_singleton.1 hi; clear hi
            refine wpOp_step rfl (fun K3 hK3 => ?_)
            have HK3 := Lib.hid hK3
            clear hK3
            rw [if_pos (by rfl)]
            simp only [List.getElem_toArray, List.getElem_cons_succ, List.getElem_cons_zero]
            refine wp_icopy (.tmp 116) (.tmp 120) (by rfl) (by rfl) hT (by rfl) (ints_own hT.b (by simp)) (nilOk_own hT.b) (by simp) (by omega) ?_
            intro v2 y4 hT2
            have hI : IntsAt y4 v2 (l ++ [m, -m]) := ints_own (by simpa using hT2.a) (by simp; omega)
            clear hT
            have hT := hT2
            clear hT2
            refine HK3.out _ _ ⟨hT.below, ?_⟩
            clear HK3 K3
            try simp only [List.getElem_toArray, List.getElem_cons_succ, List.getElem_cons_zero, Act.put, List.setIfInBounds_toArray, List.set_cons_zero, List.set_cons_succ]
            refine wpAnyH_all (rs := [9]) (by as_aux_lemma => kernel_rfl) (by simp) ?_
            intro i hi; obtain rfl := List.mem_singleton.1 hi; clear hi
            refine wpOp_step rfl (fun K3 hK3 => ?_)
            have HK3 := Lib.hid hK3
            clear hK3
            rw [if_pos (by rfl)]
            go_simp
            refine (run_any d s (l ++ [m, -m]) v2 _ hI).mono ?_
            rintro e y5 ⟨u9, rfl, ho, hy⟩
            have iu := ints_own ho (runFigs_len d s _)
            rw [E3.out.2.1, E3.out.1]
            rw [E3.out.2.2] at iu
            clear ho
            replace hT := hT.call hy
            refine HK3.out _ _ ⟨hT.below, ?_⟩
            clear HK3 K3
            try simp only [List.getElem_toArray, List.getElem_cons_succ, List.getElem_cons_zero, Act.put, List.setIfInBounds_toArray, List.set_cons_zero, List.set_cons_succ]
            refine wpAnyH_take (i := 10) (oi := _) (v := ?_) rfl (by as_aux_lemma => kernel_rfl) (by as_aux_lemma => kernel_rfl) (by as_aux_lemma => kernel_rfl) (fun _ _ _ h => h) (Or.inl ⟨by rfl, ?_⟩) hT.below ?_
            rotate_left
            · intro w1 hSw
              replace hSw : Below w4.heap.size w4 w1 := hSw
              obtain ⟨r0, r1⟩ := regcells (box_step (w0 := w) G2.out hSw)
              go_simp; with_reducible rfl
            simp only [List.getElem_toArray, List.getElem_cons_succ, List.getElem_cons_zero, Act.put, List.setIfInBounds_toArray, List.set_cons_zero, List.set_cons_succ]
            refine wpAnyH_take (i := 11) (oi := _) (v := ?_) rfl (by as_aux_lemma => kernel_rfl) (by as_aux_lemma => kernel_rfl) (by as_aux_lemma => kernel_rfl) (fun _ _ _ h => h) (Or.inl ⟨by rfl, ?_⟩) hT.below ?_
            rotate_left
            · intro w1 hSw
              replace hSw : Below w4.heap.size w4 w1 := hSw
              obtain ⟨r0, r1⟩ := regcells (box_step (w0 := w) G2.out hSw)
              go_simp; with_reducible rfl
            simp only [List.getElem_toArray, List.getElem_cons_succ, List.getElem_cons_zero, Act.put, List.setIfInBounds_toArray, List.set_cons_zero, List.set_cons_succ]
            refine wpAnyH_take (i := 12) (oi := _) (v := ?_) rfl (by as_aux_lemma => kernel_rfl) (by as_aux_lemma => kernel_rfl) (by as_aux_lemma => kernel_rfl) (fun _ _ _ h => h) (Or.inl ⟨by rfl, ?_⟩) hT.below ?_
            rotate_left
            · intro w1 hSw
              replace hSw : Below w4.heap.size w4 w1 := hSw
              obtain ⟨r0, r1⟩ := regcells (box_step (w0 := w) G2.out hSw)
              go_simp; with_reducible rfl
            simp only [List.getElem_toArray, List.getElem_cons_succ, List.getElem_cons_zero, Act.put, List.setIfInBounds_toArray, List.set_cons_zero, List.set_cons_succ]
            refine wpAnyH_take (i := 13) (oi := _) (v := ?_) rfl (by as_aux_lemma => kernel_rfl) (by as_aux_lemma => kernel_rfl) (by as_aux_lemma => kernel_rfl) (fun _ _ _ h => h) (Or.inl ⟨by rfl, ?_⟩) hT.below ?_
            rotate_left
            · intro w1 hSw
              replace hSw : Below w4.heap.size w4 w1 := hSw
              obtain ⟨r0, r1⟩ := regcells (box_step (w0 := w) G2.out hSw)
              go_simp; with_reducible rfl
            simp only [List.getElem_toArray, List.getElem_cons_succ, List.getElem_cons_zero, Act.put, List.setIfInBounds_toArray, List.set_cons_zero, List.set_cons_succ]
            refine wpAnyH_take (i := 14) (oi := _) (v := ?_) rfl (by as_aux_lemma => kernel_rfl) (by as_aux_lemma => kernel_rfl) (by as_aux_lemma => kernel_rfl) (fun _ _ _ h => h) (Or.inl ⟨by rfl, ?_⟩) hT.below ?_
            rotate_left
            · intro w1 hSw
              replace hSw : Below w4.heap.size w4 w1 := hSw
              obtain ⟨r0, r1⟩ := regcells (box_step (w0 := w) G2.out hSw)
              go_simp; with_reducible rfl
            simp only [List.getElem_toArray, List.getElem_cons_succ, List.getElem_cons_zero, Act.put, List.setIfInBounds_toArray, List.set_cons_zero, List.set_cons_succ]
            refine wpAnyH_take (i := 15) (oi := _) (v := ?_) rfl (by as_aux_lemma => kernel_rfl) (by as_aux_lemma => kernel_rfl) (by as_aux_lemma => kernel_rfl) (fun _ _ _ h => h) (Or.inl ⟨by rfl, ?_⟩) hT.below ?_
            rotate_left
            · intro w1 hSw
              replace hSw : Below w4.heap.size w4 w1 := hSw
              obtain ⟨r0, r1⟩ := regcells (box_step (w0 := w) G2.out hSw)
              go_simp; with_reducible rfl
            simp only [List.getElem_toArray, List.getElem_cons_succ, List.getElem_cons_zero, Act.put, List.setIfInBounds_toArray, List.set_cons_zero, List.set_cons_succ]
            refine wpAnyH_take (i := 16) (oi := _) (v := ?_) rfl (by as_aux_lemma => kernel_rfl) (by as_aux_lemma => kernel_rfl) (by as_aux_lemma => kernel_rfl) (fun _ _ _ h => h) (Or.inl ⟨by rfl, ?_⟩) hT.below ?_
            rotate_left
            · intro w1 hSw
              replace hSw : Below w4.heap.size w4 w1 := hSw
              obtain ⟨r0, r1⟩ := regcells (box_step (w0 := w) G2.out hSw)
              go_simp; with_reducible rfl
            simp only [List.getElem_toArray, List.getElem_cons_succ, List.getElem_cons_zero, Act.put, List.setIfInBounds_toArray, List.set_cons_zero, List.set_cons_succ]
            refine wpAnyH_done (by as_aux_lemma => kernel_rfl) ?_ _
            go_wp2_with fail
            go_meet
            exact ⟨_, rfl, rfl, rfl, iu, hT.below⟩
        ·
          refine wpOp_step rfl (fun K3 hK3 => ?_)
          have HK3 := Lib.hid hK3
          clear hK3
          rw [if_pos (by rfl)]
          go_simp
          replace hT : Two w4 _ _ _ _ 2 _ (([m, -m] : List Int).map (Value.int .i64)) := hT.litB #[.int .i64 m, .int .i64 (-m)] 2 (by decide) rfl
          obtain ⟨g2, eg2⟩ : ∃ g, y0.heap.size = g := ⟨_, rfl⟩
          obtain ⟨y1, eY⟩ : ∃ Y, y0.alloc (.cells #[.int .i64 m, .int .i64 (-m)] 3) = Y := ⟨_, rfl⟩
          rw [eg2, eY] at hT
          rw [eY, eg2]
          clear eY eg2
          refine HK3.out _ _ ⟨hT.below, ?_⟩
          clear HK3 K3
          try simp only [List.getElem_toArray, List.getElem_cons_succ, List.getElem_cons_zero, Act.put, List.setIfInBounds_toArray, List.set_cons_zero, List.set_cons_succ]
          refine wpAnyH_all (rs := [1]) (by as_aux_lemma => kernel_rfl) (by simp) ?_
          intro i hi; obtain rfl := List.mem_singleton.1 hi; clear hi
          refine wpOp_step rfl (fun K3 hK3 => ?_)
          have HK3 := Lib.hid hK3
          clear hK3
          rw [if_pos (by rfl)]
          go_simp
          replace hT := hT.litA #[] 0 (by decide) rfl
          obtain ⟨g1, eg1⟩ : ∃ g, y1.heap.size = g := ⟨_, rfl⟩
          obtain ⟨y2, eY⟩ : ∃ Y, y1.alloc (.cells #[] 3) = Y := ⟨_, rfl⟩
          rw [eg1, eY] at hT
          rw [eY, eg1]
          clear eY eg1
          refine HK3.out _ _ ⟨hT.below, ?_⟩
          clear HK3 K3
          try simp only [List.getElem_toArray, List.getElem_cons_succ, List.getElem_cons_zero, Act.put, List.setIfInBounds_toArray, List.set_cons_zero, List.set_cons_succ]
          refine wpAnyH_all (rs := [3]) (by as_aux_lemma => kernel_rfl) (by simp) ?_
          intro i hi; obtain rfl := List.mem_singleton.1 hi; clear hi
          refine wpOp_step rfl (fun K3 hK3 => ?_)
          have HK3 := Lib.hid hK3
          clear hK3
          rw [if_pos (by rfl)]
          simp only [List.getElem_toArray, List.getElem_cons_succ, List.getElem_cons_zero]
          refine wp_icopy (.tmp 114) (.tmp 115) (by rfl) (by rfl) hT (by rfl) (hl2.below hT.below) HNIL.out (by omega) (by decide) ?_
          replace hT := Lib.hid hT
          clear hT
          intro v1 y3 hT
          refine HK3.out _ _ ⟨hT.below, ?_⟩
          clear HK3 K3
          try simp only [List.getElem_toArray, List.getElem_cons_succ, List.getElem_cons_zero, Act.put, List.setIfInBounds_toArray, List.set_cons_zero, List.set_cons_succ]
          refine wpAnyH_all (rs := [8]) (by as_aux_lemma => kernel_rfl) (by simp) ?_
          intro i hi; obtain rfl := List.mem_singleton.1 hi; clear hi
          refine wpOp_step rfl (fun K3 hK3 => ?_)
          have HK3 := Lib.hid hK3
          clear hK3
          rw [if_pos (by rfl)]
          simp only [List.getElem_toArray, List.getElem_cons_succ, List.getElem_cons_zero]
          refine wp_icopy (.tmp 116) (.tmp 120) (by rfl) (by rfl) hT (by rfl) (ints_own hT.b (by simp)) (nilOk_own hT.b) (by simp) (by omega) ?_
          intro v2 y4 hT2
          have hI : IntsAt y4 v2 (l ++ [m, -m]) := ints_own (by simpa using hT2.a) (by simp; omega)
          clear hT
          have hT := hT2
          clear hT2
          refine HK3.out _ _ ⟨hT.below, ?_⟩
          clear HK3 K3
          try simp only [List.getElem_toArray, List.getElem_cons_succ, List.getElem_cons_zero, Act.put, List.setIfInBounds_toArray, List.set_cons_zero, List.set_cons_succ]
          refine wpAnyH_all (rs := [9]) (by as_aux_lemma => kernel_rfl) (by simp) ?_
          intro i hi; obtain rfl := List.mem_singleton.1 hi; clear hi
          refine wpOp_step rfl (fun K3 hK3 => ?_)
          have HK3 := Lib.hid hK3
          clear hK3
          rw [if_pos (by rfl)]
          go_simp
          refine (run_any d s (l ++ [m, -m]) v2 _ hI).mono ?_
          rintro e y5 ⟨u9, rfl, ho, hy⟩
          have iu := ints_own ho (runFigs_len d s _)
          rw [E3.out.2.1, E3.out.1]
          rw [E3.out.2.2] at iu
          clear ho
          replace hT := hT.call hy
          refine HK3.out _ _ ⟨hT.below, ?_⟩
          clear HK3 K3
          try simp only [List.getElem_toArray, List.getElem_cons_succ, List.getElem_cons_zero, Act.put, List.setIfInBounds_toArray, List.set_cons_zero, List.set_cons_succ]
          refine wpAnyH_take (i := 10) (oi := _) (v := ?_) rfl (by as_aux_lemma => kernel_rfl) (by as_aux_lemma => kernel_rfl) (by as_aux_lemma => kernel_rfl) (fun _ _ _ h => h) (Or.inl ⟨by rfl, ?_⟩) hT.below ?_
          rotate_left
          · intro w1 hSw
            replace hSw : Below w4.heap.size w4 w1 := hSw
            obtain ⟨r0, r1⟩ := regcells (box_step (w0 := w) G2.out hSw)
            go_simp; with_reducible rfl
          simp only [List.getElem_toArray, List.getElem_cons_succ, List.getElem_cons_zero, Act.put, List.setIfInBounds_toArray, List.set_cons_zero, List.set_cons_succ]
          refine wpAnyH_take (i := 11) (oi := _) (v := ?_) rfl (by as_aux_lemma => kernel_rfl) (by as_aux_lemma => kernel_rfl) (by as_aux_lemma => kernel_rfl) (fun _ _ _ h => h) (Or.inl ⟨by rfl, ?_⟩) hT.below ?_
          rotate_left
          · intro w1 hSw
            replace hSw : Below w4.heap.size w4 w1 := hSw
            obtain ⟨r0, r1⟩ := regcells (box_step (w0 := w) G2.out hSw)
            go_simp; with_reducible rfl
          simp only [List.getElem_toArray, List.getElem_cons_succ, List.getElem_cons_zero, Act.put, List.setIfInBounds_toArray, List.set_cons_zero, List.set_cons_succ]
          refine wpAnyH_take (i := 12) (oi := _) (v := ?_) rfl (by as_aux_lemma => kernel_rfl) (by as_aux_lemma => kernel_rfl) (by as_aux_lemma => kernel_rfl) (fun _ _ _ h => h) (Or.inl ⟨by rfl, ?_⟩) hT.below ?_
          rotate_left
          · intro w1 hSw
            replace hSw : Below w4.heap.size w4 w1 := hSw
            obtain ⟨r0, r1⟩ := regcells (box_step (w0 := w) G2.out hSw)
            go_simp; with_reducible rfl
          simp only [List.getElem_toArray, List.getElem_cons_succ, List.getElem_cons_zero, Act.put, List.setIfInBounds_toArray, List.set_cons_zero, List.set_cons_succ]
          refine wpAnyH_take (i := 13) (oi := _) (v := ?_) rfl (by as_aux_lemma => kernel_rfl) (by as_aux_lemma => kernel_rfl) (by as_aux_lemma => kernel_rfl) (fun _ _ _ h => h) (Or.inl ⟨by rfl, ?_⟩) hT.below ?_
          rotate_left
          · intro w1 hSw
            replace hSw : Below w4.heap.size w4 w1 := hSw
            obtain ⟨r0, r1⟩ := regcells (box_step (w0 := w) G2.out hSw)
            go_simp; with_reducible rfl
          simp only [List.getElem_toArray, List.getElem_cons_succ, List.getElem_cons_zero, Act.put, List.setIfInBounds_toArray, List.set_cons_zero, List.set_cons_succ]
          refine wpAnyH_take (i := 14) (oi := _) (v := ?_) rfl (by as_aux_lemma => kernel_rfl) (by as_aux_lemma => kernel_rfl) (by as_aux_lemma => kernel_rfl) (fun _ _ _ h => h) (Or.inl ⟨by rfl, ?_⟩) hT.below ?_
          rotate_left
          · intro w1 hSw
            replace hSw : Below w4.heap.size w4 w1 := hSw
            obtain ⟨r0, r1⟩ := regcells (box_step (w0 := w) G2.out hSw)
            go_simp; with_reducible rfl
          simp only [List.getElem_toArray, List.getElem_cons_succ, List.getElem_cons_zero, Act.put, List.setIfInBounds_toArray, List.set_cons_zero, List.set_cons_succ]
          refine wpAnyH_take (i := 15) (oi := _) (v := ?_) rfl (by as_aux_lemma => kernel_rfl) (by as_aux_lemma => kernel_rfl) (by as_aux_lemma => kernel_rfl) (fun _ _ _ h => h) (Or.inl ⟨by rfl, ?_⟩) hT.below ?_
          rotate_left
          · intro w1 hSw
            replace hSw : Below w4.heap.size w4 w1 := hSw
            obtain ⟨r0, r1⟩ := regcells (box_step (w0 := w) G2.out hSw)
            go_simp; with_reducible rfl
          simp only [List.getElem_toArray, List.getElem_cons_succ, List.getElem_cons_zero, Act.put, List.setIfInBounds_toArray, List.set_cons_zero, List.set_cons_succ]
          refine wpAnyH_take (i := 16) (oi := _) (v := ?_) rfl (by as_aux_lemma => kernel_rfl) (by as_aux_lemma => kernel_rfl) (by as_aux_lemma => kernel_rfl) (fun _ _ _ h => h) (Or.inl ⟨by rfl, ?_⟩) hT.below ?_
          rotate_left
          · intro w1 hSw
            replace hSw : Below w4.heap.size w4 w1 := hSw
            obtain ⟨r0, r1⟩ := regcells (box_step (w0 := w) G2.out hSw)
            go_simp; with_reducible rfl
          simp only [List.getElem_toArray, List.getElem_cons_succ, List.getElem_cons_zero, Act.put, List.setIfInBounds_toArray, List.set_cons_zero, List.set_cons_succ]
          refine wpAnyH_done (by as_aux_lemma => kernel_rfl) ?_ _
          go_wp2_with fail
          go_meet
          exact ⟨_, rfl, rfl, rfl, iu, hT.below⟩
      case rest =>
      obtain ⟨zv, rfl, rfl, rfl, iz, hbx⟩ := hcut
      have G3 := Lib.hid (box_step (w0 := w) G2.out hbx)
      have hl3 := hl2.below hbx
      have if3 := if2.below hbx
      have ix3 := ix2.below hbx
      have iy3 := iy.below hbx
      have hbw3 := hbw2.trans (hbx.mono hbw2.size)
      clear hl2 if2 hbw2 G2 hbx ix2 iy
      obtain ⟨wB, hwB⟩ : ∃ wB : World, wB = wc := ⟨_, rfl⟩
      subst hwB
      have G2 := G3
      have hl2 := hl3
      clear G3 hl3
      go_wp2_with fail
      go_cut [21, 22, 23] (fun va vb vd wx => ∃ u, va = .int .i64 t ∧ vb = u ∧ vd = .int .i64 0 ∧ IntsAt wx u F ∧ Below wB.heap.size wB wx)
      case first =>
        refine wp_region_held_drew (S := fun w' => Below wB.heap.size wB w') (by as_aux_lemma => kernel_rfl) (Below.refl _ _).drew (fun hHeld => ?_)
        obtain ⟨y0, hy0⟩ : ∃ y0, y0 = wB.drew := ⟨_, rfl⟩
        have hT := Two.start wB
        rw [← hy0] at hT ⊢
        clear hy0 hHeld
        refine wpAnyH_take (i := 0) (oi := _) (v := ?_) rfl (by as_aux_lemma => kernel_rfl) (by as_aux_lemma => kernel_rfl) (by as_aux_lemma => kernel_rfl) (fun _ _ _ h => h) (Or.inl ⟨by rfl, ?_⟩) hT.below ?_
        rotate_left
        · intro w1 hSw
          replace hSw : Below wB.heap.size wB w1 := hSw
          obtain ⟨r0, r1⟩ := regcells (box_step (w0 := w) G2.out hSw)
          go_simp; with_reducible rfl
        simp only [List.getElem_toArray, List.getElem_cons_succ, List.getElem_cons_zero, Act.put, List.setIfInBounds_toArray, List.set_cons_zero, List.set_cons_succ]
        refine wpAnyH_take (i := 2) (oi := _) (v := ?_) rfl (by as_aux_lemma => kernel_rfl) (by as_aux_lemma => kernel_rfl) (by as_aux_lemma => kernel_rfl) (fun _ _ _ h => h) (Or.inl ⟨by rfl, ?_⟩) hT.below ?_
        rotate_left
        · intro w1 hSw
          replace hSw : Below wB.heap.size wB w1 := hSw
          obtain ⟨r0, r1⟩ := regcells (box_step (w0 := w) G2.out hSw)
          go_simp; with_reducible rfl
        simp only [List.getElem_toArray, List.getElem_cons_succ, List.getElem_cons_zero, Act.put, List.setIfInBounds_toArray, List.set_cons_zero, List.set_cons_succ]
        refine wpAnyH_take (i := 4) (oi := _) (v := ?_) rfl (by as_aux_lemma => kernel_rfl) (by as_aux_lemma => kernel_rfl) (by as_aux_lemma => kernel_rfl) (fun _ _ _ h => h) (Or.inl ⟨by rfl, ?_⟩) hT.below ?_
        rotate_left
        · intro w1 hSw
          replace hSw : Below wB.heap.size wB w1 := hSw
          obtain ⟨r0, r1⟩ := regcells (box_step (w0 := w) G2.out hSw)
          go_simp; with_reducible rfl
        simp only [List.getElem_toArray, List.getElem_cons_succ, List.getElem_cons_zero, Act.put, List.setIfInBounds_toArray, List.set_cons_zero, List.set_cons_succ]
        refine wpAnyH_take (i := 5) (oi := _) (v := ?_) rfl (by as_aux_lemma => kernel_rfl) (by as_aux_lemma => kernel_rfl) (by as_aux_lemma => kernel_rfl) (fun _ _ _ h => h) (Or.inl ⟨by rfl, ?_⟩) hT.below ?_
        rotate_left
        · intro w1 hSw
          replace hSw : Below wB.heap.size wB w1 := hSw
          obtain ⟨r0, r1⟩ := regcells (box_step (w0 := w) G2.out hSw)
          go_simp; with_reducible rfl
        simp only [List.getElem_toArray, List.getElem_cons_succ, List.getElem_cons_zero, Act.put, List.setIfInBounds_toArray, List.set_cons_zero, List.set_cons_succ]
        refine wpAnyH_all (rs := [1]) (by as_aux_lemma => kernel_rfl) (by simp) ?_
        intro i hi; obtain rfl := List.mem_singleton.1 hi; clear hi
        refine wpOp_step rfl (fun K3 hK3 => ?_)
        have HK3 := Lib.hid hK3
        clear hK3
        rw [if_pos (by rfl)]
        go_simp
        replace hT := hT.litA #[] 0 (by decide) rfl
        obtain ⟨g1, eg1⟩ : ∃ g, y0.heap.size = g := ⟨_, rfl⟩
        obtain ⟨y1, eY⟩ : ∃ Y, y0.alloc (.cells #[] 3) = Y := ⟨_, rfl⟩
        rw [eg1, eY] at hT
        rw [eY, eg1]
        clear eY eg1
        refine HK3.out _ _ ⟨hT.below, ?_⟩
        clear HK3 K3
        try simp only [List.getElem_toArray, List.getElem_cons_succ, List.getElem_cons_zero, Act.put, List.setIfInBounds_toArray, List.set_cons_zero, List.set_cons_succ]
        refine wpAnyH_all (rs := [3]) (by as_aux_lemma => kernel_rfl) (by simp) ?_
        intro i hi; obtain rfl := List.mem_singleton.1 hi; clear hi
        refine wpOp_step rfl (fun K3 hK3 => ?_)
        have HK3 := Lib.hid hK3
        clear hK3
        rw [if_pos (by rfl)]
        simp only [List.getElem_toArray, List.getElem_cons_succ, List.getElem_cons_zero]
        refine wp_icopy (.tmp 128) (.tmp 129) (by rfl) (by rfl) hT (by rfl) (hl2.below hT.below) HNIL.out (by omega) (by decide) ?_
        replace hT := Lib.hid hT
        clear hT
        intro v1 y2 hT
        refine HK3.out _ _ ⟨hT.below, ?_⟩
        clear HK3 K3
        try simp only [List.getElem_toArray, List.getElem_cons_succ, List.getElem_cons_zero, Act.put, List.setIfInBounds_toArray, List.set_cons_zero, List.set_cons_succ]
        refine wpAnyH_all (rs := [6]) (by as_aux_lemma => kernel_rfl) (by simp) ?_
        intro i hi; obtain rfl := List.mem_singleton.1 hi; clear hi
        refine wpOp_step rfl (fun K3 hK3 => ?_)
        have HK3 := Lib.hid hK3
        clear hK3
        rw [if_pos (by rfl)]
        go_simp
        refine (HTU.out _).mono ?_
        rintro e y3 ⟨rfl, rfl⟩
        refine HK3.out _ _ ⟨hT.below, ?_⟩
        clear HK3 K3
        try simp only [List.getElem_toArray, List.getElem_cons_succ, List.getElem_cons_zero, Act.put, List.setIfInBounds_toArray, List.set_cons_zero, List.set_cons_succ]
        refine wpAnyH_all (rs := [7]) (by as_aux_lemma => kernel_rfl) (by simp) ?_
        intro i hi; obtain rfl := List.mem_singleton.1 hi; clear hi
        refine wpOp_step rfl (fun K3 hK3 => ?_)
        have HK3 := Lib.hid hK3
        clear hK3
        rw [if_pos (by rfl)]
        go_simp
        replace hT : Two wB _ _ _ _ 1 _ (([U] : List Int).map (Value.int .i64)) := hT.litB #[.int .i64 U] 1 (by decide) rfl
        obtain ⟨g2, eg2⟩ : ∃ g, y2.heap.size = g := ⟨_, rfl⟩
        obtain ⟨y4, eY⟩ : ∃ Y, y2.alloc (.cells #[.int .i64 U] 3) = Y := ⟨_, rfl⟩
        rw [eg2, eY] at hT
        rw [eY, eg2]
        clear eY eg2
        refine HK3.out _ _ ⟨hT.below, ?_⟩
        clear HK3 K3
        try simp only [List.getElem_toArray, List.getElem_cons_succ, List.getElem_cons_zero, Act.put, List.setIfInBounds_toArray, List.set_cons_zero, List.set_cons_succ]
        refine wpAnyH_all (rs := [8]) (by as_aux_lemma => kernel_rfl) (by simp) ?_
        intro i hi; obtain rfl := List.mem_singleton.1 hi; clear hi
        refine wpOp_step rfl (fun K3 hK3 => ?_)
        have HK3 := Lib.hid hK3
        clear hK3
        rw [if_pos (by rfl)]
        simp only [List.getElem_toArray, List.getElem_cons_succ, List.getElem_cons_zero]
        refine wp_icopy (.tmp 130) (.tmp 134) (by rfl) (by rfl) hT (by rfl) (ints_own hT.b (by simp)) (nilOk_own hT.b) (by simp) (by omega) ?_
        intro v2 y5 hT2
        have hI : IntsAt y5 v2 (l ++ [U]) := ints_own (by simpa using hT2.a) (by simp; omega)
        clear hT
        have hT := hT2
        clear hT2
        refine HK3.out _ _ ⟨hT.below, ?_⟩
        clear HK3 K3
        try simp only [List.getElem_toArray, List.getElem_cons_succ, List.getElem_cons_zero, Act.put, List.setIfInBounds_toArray, List.set_cons_zero, List.set_cons_succ]
        refine wpAnyH_all (rs := [9]) (by as_aux_lemma => kernel_rfl) (by simp) ?_
        intro i hi; obtain rfl := List.mem_singleton.1 hi; clear hi
        refine wpOp_step rfl (fun K3 hK3 => ?_)
        have HK3 := Lib.hid hK3
        clear hK3
        rw [if_pos (by rfl)]
        go_simp
        refine (run_any d s (l ++ [U]) v2 _ hI).mono ?_
        rintro e y6 ⟨u9, rfl, ho, hy⟩
        have iu := ints_own ho (runFigs_len d s _)
        rw [E4.out.2.1, E4.out.1]
        rw [E4.out.2.2] at iu
        clear ho
        replace hT := hT.call hy
        refine HK3.out _ _ ⟨hT.below, ?_⟩
        clear HK3 K3
        try simp only [List.getElem_toArray, List.getElem_cons_succ, List.getElem_cons_zero, Act.put, List.setIfInBounds_toArray, List.set_cons_zero, List.set_cons_succ]
        refine wpAnyH_take (i := 10) (oi := _) (v := ?_) rfl (by as_aux_lemma => kernel_rfl) (by as_aux_lemma => kernel_rfl) (by as_aux_lemma => kernel_rfl) (fun _ _ _ h => h) (Or.inl ⟨by rfl, ?_⟩) hT.below ?_
        rotate_left
        · intro w1 hSw
          replace hSw : Below wB.heap.size wB w1 := hSw
          obtain ⟨r0, r1⟩ := regcells (box_step (w0 := w) G2.out hSw)
          go_simp; with_reducible rfl
        simp only [List.getElem_toArray, List.getElem_cons_succ, List.getElem_cons_zero, Act.put, List.setIfInBounds_toArray, List.set_cons_zero, List.set_cons_succ]
        refine wpAnyH_take (i := 11) (oi := _) (v := ?_) rfl (by as_aux_lemma => kernel_rfl) (by as_aux_lemma => kernel_rfl) (by as_aux_lemma => kernel_rfl) (fun _ _ _ h => h) (Or.inl ⟨by rfl, ?_⟩) hT.below ?_
        rotate_left
        · intro w1 hSw
          replace hSw : Below wB.heap.size wB w1 := hSw
          obtain ⟨r0, r1⟩ := regcells (box_step (w0 := w) G2.out hSw)
          go_simp; with_reducible rfl
        simp only [List.getElem_toArray, List.getElem_cons_succ, List.getElem_cons_zero, Act.put, List.setIfInBounds_toArray, List.set_cons_zero, List.set_cons_succ]
        refine wpAnyH_take (i := 12) (oi := _) (v := ?_) rfl (by as_aux_lemma => kernel_rfl) (by as_aux_lemma => kernel_rfl) (by as_aux_lemma => kernel_rfl) (fun _ _ _ h => h) (Or.inl ⟨by rfl, ?_⟩) hT.below ?_
        rotate_left
        · intro w1 hSw
          replace hSw : Below wB.heap.size wB w1 := hSw
          obtain ⟨r0, r1⟩ := regcells (box_step (w0 := w) G2.out hSw)
          go_simp; with_reducible rfl
        simp only [List.getElem_toArray, List.getElem_cons_succ, List.getElem_cons_zero, Act.put, List.setIfInBounds_toArray, List.set_cons_zero, List.set_cons_succ]
        refine wpAnyH_take (i := 13) (oi := _) (v := ?_) rfl (by as_aux_lemma => kernel_rfl) (by as_aux_lemma => kernel_rfl) (by as_aux_lemma => kernel_rfl) (fun _ _ _ h => h) (Or.inl ⟨by rfl, ?_⟩) hT.below ?_
        rotate_left
        · intro w1 hSw
          replace hSw : Below wB.heap.size wB w1 := hSw
          obtain ⟨r0, r1⟩ := regcells (box_step (w0 := w) G2.out hSw)
          go_simp; with_reducible rfl
        simp only [List.getElem_toArray, List.getElem_cons_succ, List.getElem_cons_zero, Act.put, List.setIfInBounds_toArray, List.set_cons_zero, List.set_cons_succ]
        refine wpAnyH_take (i := 14) (oi := _) (v := ?_) rfl (by as_aux_lemma => kernel_rfl) (by as_aux_lemma => kernel_rfl) (by as_aux_lemma => kernel_rfl) (fun _ _ _ h => h) (Or.inl ⟨by rfl, ?_⟩) hT.below ?_
        rotate_left
        · intro w1 hSw
          replace hSw : Below wB.heap.size wB w1 := hSw
          obtain ⟨r0, r1⟩ := regcells (box_step (w0 := w) G2.out hSw)
          go_simp; with_reducible rfl
        simp only [List.getElem_toArray, List.getElem_cons_succ, List.getElem_cons_zero, Act.put, List.setIfInBounds_toArray, List.set_cons_zero, List.set_cons_succ]
        refine wpAnyH_take (i := 15) (oi := _) (v := ?_) rfl (by as_aux_lemma => kernel_rfl) (by as_aux_lemma => kernel_rfl) (by as_aux_lemma => kernel_rfl) (fun _ _ _ h => h) (Or.inl ⟨by rfl, ?_⟩) hT.below ?_
        rotate_left
        · intro w1 hSw
          replace hSw : Below wB.heap.size wB w1 := hSw
          obtain ⟨r0, r1⟩ := regcells (box_step (w0 := w) G2.out hSw)
          go_simp; with_reducible rfl
        simp only [List.getElem_toArray, List.getElem_cons_succ, List.getElem_cons_zero, Act.put, List.setIfInBounds_toArray, List.set_cons_zero, List.set_cons_succ]
        refine wpAnyH_take (i := 16) (oi := _) (v := ?_) rfl (by as_aux_lemma => kernel_rfl) (by as_aux_lemma => kernel_rfl) (by as_aux_lemma => kernel_rfl) (fun _ _ _ h => h) (Or.inl ⟨by rfl, ?_⟩) hT.below ?_
        rotate_left
        · intro w1 hSw
          replace hSw : Below wB.heap.size wB w1 := hSw
          obtain ⟨r0, r1⟩ := regcells (box_step (w0 := w) G2.out hSw)
          go_simp; with_reducible rfl
        simp only [List.getElem_toArray, List.getElem_cons_succ, List.getElem_cons_zero, Act.put, List.setIfInBounds_toArray, List.set_cons_zero, List.set_cons_succ]
        refine wpAnyH_done (by as_aux_lemma => kernel_rfl) ?_ _
        go_wp2_with fail
        go_meet
        exact ⟨_, rfl, rfl, rfl, iu, hT.below⟩
      case rest =>
      obtain ⟨uv, rfl, rfl, rfl, iu, hbx⟩ := hcut
      have G3 := Lib.hid (box_step (w0 := w) G2.out hbx)
      have if4 := if3.below hbx
      have ix4 := ix3.below hbx
      have iy4 := iy3.below hbx
      have iz4 := iz.below hbx
      have hbw4 := hbw3.trans (hbx.mono hbw3.size)
      clear hl2 if3 ix3 iy3 iz hbw3 G2 hbx
      go_wp2_with fail
      refine (ints_any _ _ _ _ _ ix4 iy4).mono ?_
      rintro e w5 ⟨rfl, hb5⟩
      rw [same_refl]
      have if5 := if4.below hb5
      have iz5 := iz4.below hb5
      have iu5 := iu.below hb5
      have ix5 := ix4.below hb5
      have hbw5 := hbw4.trans (hb5.mono hbw4.size)
      have G5 := Lib.hid (box_step (w0 := w) G3.out hb5)
      clear hb5 if4 ix4 iy4 iz4 iu hbw4 G3
      go_wp2_with fail
      refine (ints_any _ _ _ _ _ iz5 if5).mono ?_
      rintro e w6 ⟨rfl, hb6⟩
      rw [same_refl]
      have if6 := if5.below hb6
      have iu6 := iu5.below hb6
      have ix6 := ix5.below hb6
      have hbw6 := hbw5.trans (hb6.mono hbw5.size)
      have G6 := Lib.hid (box_step (w0 := w) G5.out hb6)
      clear hb6 if5 iz5 iu5 ix5 hbw5 G5
      go_wp2_with fail
      refine (ints_any _ _ _ _ _ iu6 if6).mono ?_
      rintro e w7 ⟨rfl, hb7⟩
      rw [same_refl]
      have ix7 := ix6.below hb7
      have hbw7 := hbw6.trans (hb7.mono hbw6.size)
      have G7 := Lib.hid (box_step (w0 := w) G6.out hb7)
      clear hb7 if6 iu6 ix6 hbw6 G6
      obtain ⟨c0, c1⟩ := regcells G7.out
      by_cases hs1 : su < -1099511627776
      · have HS1 := Lib.hid hs1
        go_wp2_with fail
        refine (awake_any _).mono ?_
        rintro e w8 ⟨rfl, hb8⟩
        have hbw := hbw7.trans (hb8.mono hbw7.size)
        go_wp2
        go_ret
        exact ⟨rfl, hbw⟩
      by_cases hs2 : 1099511627776 < su
      · have HS1 := Lib.hid hs1
        go_wp2_with fail
        refine (awake_any _).mono ?_
        rintro e w8 ⟨rfl, hb8⟩
        have hbw := hbw7.trans (hb8.mono hbw7.size)
        go_wp2
        go_ret
        exact ⟨rfl, hbw⟩
      have R6 := Lib.hid (R5.out (by omega) (by omega))
      clear R5
      go_wp2_with fail
      refine (run_any d s [su] _ _ (ints_one w7 su 3)).mono ?_
      rintro e w8 ⟨ov, rfl, ho, hb8⟩
      have io := ints_own ho (runFigs_len d s _)
      rw [R6.out.2.1, R6.out.1]
      rw [R6.out.2.2] at io
      have hb78 : Below w7.heap.size w7 w8 := ((Below.refl w7.heap.size w7).alloc (Nat.le_refl _) _).trans (hb8.mono (by simp))
      have ix8 := ix7.below hb78
      have hbw8 := hbw7.trans (hb78.mono hbw7.size)
      clear c0 c1 ho hb8 hb78 ix7 hbw7 G7
      go_wp2_with fail
      refine (ints_any _ _ _ _ _ io ix8).mono ?_
      rintro e w9 ⟨rfl, hb9⟩
      rw [same_refl]
      have hbw9 := hbw8.trans (hb9.mono hbw8.size)
      clear hb9 io ix8 hbw8
      go_wp2_with fail
      refine (awake_any _).mono ?_
      rintro e w10 ⟨rfl, hb10⟩
      have hbw := hbw9.trans (hb10.mono hbw9.size)
      go_wp2
      go_ret
      exact ⟨rfl, hbw⟩
end Go.Proofs.Ytmcndecmnfbggaa
