/- DrumTrue returns true for all inputs: the walk. -/
import Derived.Test.YtmcndecmnfbggaaM4
import Derived.Test.YtmcndecmnfbggaaD32
import Derived.Deep.DeepCutAuto
import Derived.Outline
namespace Go.Proofs.Ytmcndecmnfbggaa
set_option linter.unusedSimpArgs false
set_option linter.unusedVariables false
open Go.RowKit

theorem placesRes_ok {d s t : Int} (h : regB d s = true) (h0 : 0 ≤ t) (h1 : t < turnP d) : placesErr d s t = 0 ∧ placesRes d s t = placesL t d.toNat := by
  have e : placesErr d s t = 0 := by
    unfold placesErr totB
    rw [if_neg (by rw [h]; simp), if_neg (by simp; omega)]
  exact ⟨e, by unfold placesRes; rw [if_pos e]⟩
/-- the bit of a drum -/
def bitB (bi : Int) (k : Nat) : Bool := bits BinOp.and IntKind.u8 (bi / 2 ^ k) 1 == 1
set_option maxRecDepth 100000 in
set_option maxHeartbeats 6400000 in
theorem drumTrue_any (d s bi wi : Int) (l : List Int) (v : Value) (w : World) (hl : IntsAt w v l) (hbi : 0 ≤ bi ∧ bi ≤ 255) (hwi : 0 ≤ wi ∧ wi ≤ 65535) : Calls Try.prog 5 #[.agg #[.int .i64 d, .int .i64 s], v, .int .u8 bi, .int .u16 wi] w fun e w' => e = .returned (.bool true) ∧ Below w.heap.size w w' := by
  obtain ⟨va, vc, rfl⟩ := hl.shape
  have hlm : l.length ≤ 9223372036854775807 := hl.1
  obtain ⟨W0, hW0⟩ : ∃ X, X = w.alloc (.cells #[.int .i64 d, .int .i64 s] 23) := ⟨_, rfl⟩
  have hb0 : Below w.heap.size w W0 := by rw [hW0]; exact (Below.refl _ _).alloc (Nat.le_refl _) _
  have hr0 : W0.heap[w.heap.size]? = some (.cells #[.int .i64 d, .int .i64 s] 23 (0, 0)) := by rw [hW0]; exact (MapKept.heap_alloc w _).1
  obtain ⟨B, hB⟩ : ∃ x, w.heap.size = x := ⟨_, rfl⟩
  have HB := Lib.hid hB
  clear hB
  obtain ⟨c0, c1⟩ := regcells hr0
  have g0 := Lib.hid hr0
  have hl0 := hl.below hb0
  clear hr0 hl
  by_cases h40 : 40 < l.length
  · have h40' : (40 : Int) < (l.length : Int) := by omega
    go_enter Try.func5, Try.ntmps5
    go_wp2_with fail
    rw [← hW0]
    clear hW0
    go_wp2_with fail
    refine (awake_any _).mono ?_
    rintro e w1 ⟨rfl, hb1⟩
    have hbw := hb0.trans (hb1.mono hb0.size)
    go_wp2
    go_ret
    exact ⟨rfl, hbw⟩
  have h40' : ¬ (40 : Int) < (l.length : Int) := by omega
  go_enter Try.func5, Try.ntmps5
  go_wp2_with fail
  rw [← hW0]
  clear hW0
  rw [HB.out]
  refine (run_any d s l _ _ hl0).mono ?_
  rintro e w1 ⟨fv, rfl, ho1, hb1⟩
  have gg0 := box_step (w0 := w) g0.out hb1
  have hbw1 := hb0.trans (hb1.mono hb0.size)
  have if1 := ints_own ho1 (runFigs_len d s l)
  rw [HB.out] at gg0
  have gg0 := Lib.hid gg0
  clear c0 c1 hb1 hl0 hb0 g0 ho1
  obtain ⟨E, hE⟩ : ∃ E, runsErr d s l = E := ⟨_, rfl⟩
  obtain ⟨t, ht⟩ : ∃ E, runTot d s l = E := ⟨_, rfl⟩
  obtain ⟨F, hF⟩ : ∃ E, runFigs d s l = E := ⟨_, rfl⟩
  rw [hE, ht]
  rw [hF] at if1
  obtain ⟨fa, fc, rfl⟩ := if1.shape
  have HE := Lib.hid hE
  have HT := Lib.hid ht
  have HF := Lib.hid hF
  clear hE ht hF
  by_cases hE0 : E = 0
  rotate_left
  · have e1 : t = 0 := by rw [← HT.out]; unfold runTot; rw [if_neg (by rw [HE.out]; exact hE0)]
    have e2 : F = [] := by rw [← HF.out]; unfold runFigs; rw [if_neg (by rw [HE.out]; exact hE0)]
    subst e1 e2
    have hE1 : (E != 0) = true := by rw [bne_iff_ne]; exact hE0
    have hE2 : (E == 0) = false := by rw [beq_eq_false_iff_ne]; exact hE0
    clear hE0
    go_wp2_with fail
    refine (awake_any _).mono ?_
    rintro e w2 ⟨rfl, hb2⟩
    have hbw := hbw1.trans (hb2.mono hbw1.size)
    go_wp2
    go_ret
    exact ⟨rfl, hbw⟩
  subst hE0
  obtain ⟨z1, z2, z3⟩ := runsErr_zero HE.out
  obtain ⟨hd, hs0, hs1, hs2⟩ := regB_bd z1
  obtain ⟨D, hD⟩ : ∃ D : Nat, d = D := ⟨d.toNat, by omega⟩
  subst hD
  have hDn : (D : Int).toNat = D := by omega
  have ht2 : t = totalP D s l := by rw [← HT.out]; unfold runTot; rw [if_pos HE.out]
  have hT := totalP_bd D s l hd.2
  rw [← ht2] at hT
  have hFe : F = figsL t D := by rw [← HF.out]; unfold runFigs; rw [if_pos HE.out, hDn, ← ht2]
  have hFl : F.length = D := by rw [hFe, figsL_len]
  have hF9 : ∀ k, k < F.length → 0 ≤ F.getD k 0 ∧ F.getD k 0 ≤ 9 := fun k hk => by
    rw [hFl] at hk
    rw [hFe]
    have : (figsL t D).getD k 0 = figP (plc t k) := by unfold figsL; simp [List.getD, hk]
    rw [this]; unfold figP
    omega
  have hfit : fitsB F t 500 = true := by rw [hFe]; exact figs_fit t D
  obtain ⟨hp1, hp2⟩ := placesRes_ok z1 hT.1 hT.2.1
  rw [hDn] at hp2
  have htt : 0 ≤ t ∧ t < turnP D := ⟨hT.1, hT.2.1⟩
  have hD1 : 1 ≤ D ∧ D ≤ 6 := by omega
  have hTb := hT.2.2
  have ht0 := hT.1
  have HFL := Lib.hid hFl
  have HF9 := Lib.hid hF9
  have HFIT := Lib.hid hfit
  have HP1 := Lib.hid hp1
  have HP2 := Lib.hid hp2
  have Z1 := Lib.hid z1
  have HTT := Lib.hid htt
  have HDD := Lib.hid hD1
  clear hFe hF9 hfit hp1 hp2 htt z1 z2 z3 ht2 hT hDn hs0 hs1 hs2 hd
  rw [hFl]
  clear hFl
  obtain ⟨c0, c1⟩ := regcells gg0.out
  go_wp2_with fail
  refine (places_any D s t _).mono ?_
  rintro e w2 ⟨pv, rfl, o2, hb2⟩
  rw [HP1.out]
  rw [HP2.out] at o2
  have i2 := ints_own o2 (by rw [placesL_len]; have := HDD.out; omega)
  have g2 := box_step (w0 := w) gg0.out hb2
  have hbw2 := hbw1.trans (hb2.mono hbw1.size)
  have if2 := if1.below hb2
  clear c0 c1 o2 hb2 gg0 if1 hbw1
  obtain ⟨pa, pc, rfl⟩ := i2.shape
  rw [placesL_len]
  obtain ⟨c0, c1⟩ := regcells g2
  have G2 := Lib.hid g2
  clear g2
  go_wp2_with fail
  refine (refRegister_any D s _).mono ?_
  rintro e w3 ⟨rfl, hb3⟩
  rw [Z1.out]
  have g3 := box_step (w0 := w) G2.out hb3
  have hbw3 := hbw2.trans (hb3.mono hbw2.size)
  have if3 := if2.below hb3
  have i3 := i2.below hb3
  clear c0 c1 hb3 G2 if2 i2 hbw2
  obtain ⟨c0, c1⟩ := regcells g3
  go_wp2_with fail
  rw [HFL.out] at if3
  rw [placesL_len] at i3
  have hfit := fits_any F t 500 _ w3 if3 (by rw [HFL.out]; exact hD1.2) HF9.out ⟨ht0, hTb⟩ (by omega)
  rw [HFIT.out] at hfit
  refine hfit.mono ?_
  rintro e w4 ⟨rfl, hb4⟩
  have hbw4 := hbw3.trans (hb4.mono hbw3.size)
  have i4 := i3.below hb4
  clear c0 c1 hb4 g3 if3 i3 hbw3 hfit
  obtain ⟨i0, hi, hz0, hz1, hz2⟩ := info_parts Try.info3
  have HI := Lib.hid i4
  clear i4
  obtain ⟨wm, hwm⟩ : ∃ x, wi % 1000 = x := ⟨_, rfl⟩
  have hwb : 0 ≤ wm ∧ wm ≤ 999 := by omega
  have HWB := Lib.hid hwb
  have HWM := Lib.hid hwm
  obtain ⟨hwi0, hwi1⟩ := hwi
  have q0 : wi.tmod 1000 = wm := by rw [Int.tmod_eq_emod_of_nonneg hwi0]; exact hwm
  clear hwm
  go_wp2_with fail
  go_loopw [15, 16, 17] (fun r is i wr => ∃ k : Nat, k ≤ D ∧ i = .int .i64 k ∧ is = .bool (nearAll t (bitB bi) wm k) ∧ wr.ownsRow w4.heap.size 3 1 r k ((readL t (bitB bi) k).map (Value.int .i64)) ∧ Below w4.heap.size w4 wr) (fun _ _ i _ => D - (intOf i).toNat)
  case atStart => exact ⟨0, by omega, rfl, rfl, World.ownsRow_nil _ _ _ _, Below.refl _ _⟩
  case round =>
    obtain ⟨k, hk, rfl, rfl, hown, hbel⟩ := hrel
    by_cases hlt : k < D
    · obtain ⟨b1, off1, e1, l1, hc1⟩ := (HI.out.below hbel).at (by rw [placesL_len]; omega)
      subst e1
      have cx := hc1 k (by rw [placesL_len]; omega)
      rw [show (placesL t D).getD k 0 = plc t k by unfold placesL; simp [List.getD, hlt]] at cx
      have hpb := plc_bd t k
      have hns := nearAll_succ t (bitB bi) wm k
      have hrs := readL_succ t (bitB bi) k
      obtain ⟨p, hp⟩ : ∃ p, plc t k = p := ⟨_, rfl⟩
      rw [hp] at cx hpb hns hrs
      have iq0 : (0 : Int) ≤ (k : Int) := by omega
      have iq1 : (k : Int) < (D : Int) := by omega
      obtain ⟨hpb0, hpb1⟩ := hpb
      have q1 : p.tdiv 1000 = p / 1000 := Int.tdiv_eq_ediv_of_nonneg hpb0
      obtain ⟨bb, hbb⟩ : ∃ x, bitB bi k = x := ⟨_, rfl⟩
      rw [hbb] at hns hrs
      have hb2 : (bits BinOp.and IntKind.u8 (bi / 2 ^ k) 1 == 1) = bb := hbb
      obtain ⟨x, hx⟩ : ∃ x, nextF p bb = x := ⟨_, rfl⟩
      rw [hx] at hns hrs
      have hxb : 0 ≤ x ∧ x ≤ 9 := by rw [← hx]; exact nextF_bd p bb ⟨hpb0, hpb1⟩
      obtain ⟨I, hI⟩ : ∃ x, nearAll t (bitB bi) wm k = x := ⟨_, rfl⟩
      rw [hI] at hns ⊢
      obtain ⟨V, hV⟩ : ∃ V, withinP p x wm = V := ⟨_, rfl⟩
      have hwin := fun X => within_any p x wm X ⟨hpb0, hpb1⟩ hxb hwb
      rw [hV] at hwin hns
      obtain ⟨RL, hRL⟩ : ∃ RL, (readL t (bitB bi) k).map (Value.int .i64) = RL := ⟨_, rfl⟩
      have hrs2 : (readL t (bitB bi) (k + 1)).map (Value.int .i64) = RL ++ [.int .i64 x] := by rw [hrs, List.map_append, hRL]; rfl
      rw [hRL] at hown
      have HNS := Lib.hid hns
      have HRS := Lib.hid hrs2
      have HWIN := Lib.hid hwin
      have hws := hbel.size
      have hdl := Lib.hid hown.lt
      clear hc1 hbb hns hrs hrs2 hI hV hwin hRL
      cases bb with
      | true =>
        have hx2 : (p / 1000 + 1) % 10 = x := by rw [← hx]; rfl
        clear hx
        cases I with
        | true =>
          go_wp2_with (at_builtin; refine wpList_append_own_at _ rfl (.tmp 109) (.tmp 111) 24 rfl w4.heap.size 3 i0 (.int .i64 0) 1 8 Try.underlying24 hi hz0 hz1 hz2 rfl (by decide) _ _ _ rfl (hown.alloc _) ⟨wr.heap.size, 0, none⟩ 1 1 [.int .i64 x] rfl rfl (cell_one_new _ _ _) (one_oneCell _) (by unfold maxLen; omega) (by omega) (by simp; try omega) ?_; intro v1 X4 hd1 hg1 hnil1 hloc1)
          refine (HWIN.out _).mono ?_
          rintro e w6 ⟨rfl, rfl⟩
          go_wp2
          go_roundw
          case rel => exact ⟨k + 1, by omega, by go_num, by rw [HNS.out]; simp, by rw [HRS.out]; exact hd1, (hbel.alloc hws _).grown hg1 (by simp; omega) (fun t ht => (hdl.out t ht).1)⟩
          case measure => simp [intOf]; omega
        | false =>
          go_wp2_with (at_builtin; refine wpList_append_own_at _ rfl (.tmp 109) (.tmp 111) 24 rfl w4.heap.size 3 i0 (.int .i64 0) 1 8 Try.underlying24 hi hz0 hz1 hz2 rfl (by decide) _ _ _ rfl (hown.alloc _) ⟨wr.heap.size, 0, none⟩ 1 1 [.int .i64 x] rfl rfl (cell_one_new _ _ _) (one_oneCell _) (by unfold maxLen; omega) (by omega) (by simp; try omega) ?_; intro v1 X4 hd1 hg1 hnil1 hloc1)
          go_roundw
          case rel => exact ⟨k + 1, by omega, by go_num, by rw [HNS.out]; simp, by rw [HRS.out]; exact hd1, (hbel.alloc hws _).grown hg1 (by simp; omega) (fun t ht => (hdl.out t ht).1)⟩
          case measure => simp [intOf]; omega
      | false =>
        have hx2 : p / 1000 = x := by rw [← hx]; rfl
        clear hx
        cases I with
        | true =>
          go_wp2_with (at_builtin; refine wpList_append_own_at _ rfl (.tmp 109) (.tmp 111) 24 rfl w4.heap.size 3 i0 (.int .i64 0) 1 8 Try.underlying24 hi hz0 hz1 hz2 rfl (by decide) _ _ _ rfl (hown.alloc _) ⟨wr.heap.size, 0, none⟩ 1 1 [.int .i64 x] rfl rfl (cell_one_new _ _ _) (one_oneCell _) (by unfold maxLen; omega) (by omega) (by simp; try omega) ?_; intro v1 X4 hd1 hg1 hnil1 hloc1)
          refine (HWIN.out _).mono ?_
          rintro e w6 ⟨rfl, rfl⟩
          go_wp2
          go_roundw
          case rel => exact ⟨k + 1, by omega, by go_num, by rw [HNS.out]; simp, by rw [HRS.out]; exact hd1, (hbel.alloc hws _).grown hg1 (by simp; omega) (fun t ht => (hdl.out t ht).1)⟩
          case measure => simp [intOf]; omega
        | false =>
          go_wp2_with (at_builtin; refine wpList_append_own_at _ rfl (.tmp 109) (.tmp 111) 24 rfl w4.heap.size 3 i0 (.int .i64 0) 1 8 Try.underlying24 hi hz0 hz1 hz2 rfl (by decide) _ _ _ rfl (hown.alloc _) ⟨wr.heap.size, 0, none⟩ 1 1 [.int .i64 x] rfl rfl (cell_one_new _ _ _) (one_oneCell _) (by unfold maxLen; omega) (by omega) (by simp; try omega) ?_; intro v1 X4 hd1 hg1 hnil1 hloc1)
          go_roundw
          case rel => exact ⟨k + 1, by omega, by go_num, by rw [HNS.out]; simp, by rw [HRS.out]; exact hd1, (hbel.alloc hws _).grown hg1 (by simp; omega) (fun t ht => (hdl.out t ht).1)⟩
          case measure => simp [intOf]; omega
    · obtain rfl : k = D := by omega
      have i1 : ¬ (k : Int) < (k : Int) := by omega
      have ir := ints_own (l := readL t (bitB bi) k) (by rw [readL_len]; exact hown) (by rw [readL_len]; omega)
      have hbw := hbw4.trans (hbel.mono hbw4.size)
      obtain ⟨ra, rc, rfl⟩ := ir.shape
      have hrl := readL_len t (bitB bi) k
      rw [hrl] at ir ⊢
      have HRL := Lib.hid hrl
      have htf := fun L h => true_found (L := L) HDD.out HWB.out HTT.out h (B := bitB bi)
      obtain ⟨R, hR⟩ : ∃ R, readL t (bitB bi) k = R := ⟨_, rfl⟩
      rw [hR] at ir htf
      obtain ⟨I, hI⟩ : ∃ x, nearAll t (bitB bi) wm k = x := ⟨_, rfl⟩
      rw [hI] at htf ⊢
      have hfg : figsB R = true := by rw [← hR]; exact readL_figs t _ k HDD.out
      have hfe : ∀ L, fitErr R wm L = if L = [] then 4 else 0 := fun L => by unfold fitErr; rw [if_neg (by rw [hfg]; simp), if_neg (by omega)]
      have HTF := Lib.hid htf
      have HFE := Lib.hid hfe
      clear hown hbel hR hI hfg htf hfe hrl
      go_wp2_with fail
      refine (fit_any R wm _ _ ir).mono ?_
      rintro e w5 ⟨sv, L, rfl, hcan, hlen, ho, hb5⟩
      have hfd := HTF.out L hcan
      have hfe := HFE.out L
      have s5 := spans_own ho hlen
      obtain ⟨sa, sc, rfl⟩ := s5.shape
      have hbw5 := hbw.trans (hb5.mono hbw.size)
      have HFD := Lib.hid hfd
      have HS5 := Lib.hid s5
      clear hcan ho hb5 hbw HTF HFE hfd s5 ir
      obtain ⟨e2, he2⟩ : ∃ x, fitErr R wm L = x := ⟨_, rfl⟩
      rw [he2] at hfe ⊢
      have HFE := Lib.hid hfe
      obtain ⟨n, hn⟩ : ∃ n, L.length = n := ⟨_, rfl⟩
      rw [hn] at hlen HS5 ⊢
      have HN := Lib.hid hn
      have HK := Lib.hid hk
      have hnb : n ≤ 9223372036854775807 := by omega
      clear hfe he2 hn hk i1 hlt
      go_wp2_with fail
      go_loopw [22, 23] (fun f i wr => ∃ j : Nat, j ≤ n ∧ i = .int .i64 j ∧ f = .bool (inAny (L.take j) t) ∧ Below w5.heap.size w5 wr) (fun _ i _ => n - (intOf i).toNat)
      case atStart => exact ⟨0, by omega, rfl, by simp [inAny], Below.refl _ _⟩
      case round =>
        obtain ⟨j, hj, rfl, rfl, hbel⟩ := hrel
        by_cases hlt : j < n
        · have HSb := HS5.out.below hbel
          have hjl : j < L.length := by rw [HN.out]; exact hlt
          have hsn := inAny_snoc L t j hjl
          obtain ⟨b1, off1, e1, l1, hc1⟩ := HSb.at (by rw [HN.out]; omega)
          subst e1
          obtain ⟨d1, d2⟩ := hc1 j hjl
          obtain ⟨⟨x1, x2⟩, hx⟩ : ∃ x, L.getD j (0, 0) = x := ⟨_, rfl⟩
          rw [hx] at d1 d2 hsn
          simp only [] at d1 d2 hsn
          rw [Nat.mul_comm 2 j] at d1 d2
          have ij0 : (0 : Int) ≤ (j : Int) := by omega
          have ij1 : (j : Int) < (n : Int) := by omega
          obtain ⟨A, hA⟩ : ∃ A, inAny (L.take j) t = A := ⟨_, rfl⟩
          rw [hA] at hsn ⊢
          have HSN := Lib.hid hsn
          clear hsn hA hc1 hx HSb hjl
          cases A with
          | true =>
            go_wp2
            go_roundw
            case rel => exact ⟨j + 1, by omega, by go_num, by rw [HSN.out]; rfl, hbel⟩
            case measure => simp [intOf]; omega
          | false =>
            by_cases h1 : x1 ≤ t
            · by_cases h2 : t ≤ x2
              · go_wp2
                go_roundw
                case rel => exact ⟨j + 1, by omega, by go_num, by rw [HSN.out]; simp [h1, h2], hbel⟩
                case measure => simp [intOf]; omega
              · go_wp2
                go_roundw
                case rel => exact ⟨j + 1, by omega, by go_num, by rw [HSN.out]; simp [h1, h2], hbel⟩
                case measure => simp [intOf]; omega
            · go_wp2
              go_roundw
              case rel => exact ⟨j + 1, by omega, by go_num, by rw [HSN.out]; simp [h1], hbel⟩
              case measure => simp [intOf]; omega
        · obtain rfl : j = n := by omega
          have hIe : inAny (L.take j) t = I := by rw [← HN.out, List.take_length]; exact HFD.out
          have i1 : ¬ (j : Int) < (j : Int) := by omega
          rw [hIe]
          have hII : (I == I) = true := by simp
          have hbw6 := hbw5.trans (hbel.mono hbw5.size)
          clear hIe hbel hlt hj
          by_cases hL : L = []
          · have hj0 : j = 0 := by rw [← HN.out, hL]; rfl
            have he4 : e2 = 4 := by rw [HFE.out, if_pos hL]
            subst hj0 he4
            go_wp2_with fail
            refine (awake_any _).mono ?_
            rintro e w7 ⟨rfl, hb7⟩
            have hbw := hbw6.trans (hb7.mono hbw6.size)
            go_wp2
            go_ret
            exact ⟨rfl, hbw⟩
          · have hj1 : 0 < j := by rw [← HN.out]; exact List.length_pos_iff.2 hL
            have he0 : e2 = 0 := by rw [HFE.out, if_neg hL]
            have hjp : (0 : Int) < (j : Int) := by omega
            subst he0
            go_wp2_with fail
            refine (awake_any _).mono ?_
            rintro e w7 ⟨rfl, hb7⟩
            have hbw := hbw6.trans (hb7.mono hbw6.size)
            go_wp2
            go_ret
            exact ⟨rfl, hbw⟩
end Go.Proofs.Ytmcndecmnfbggaa
