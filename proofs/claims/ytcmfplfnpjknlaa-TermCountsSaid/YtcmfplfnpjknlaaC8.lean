/- Term: the reference's Due. -/
import Derived.Test.YtcmfplfnpjknlaaC7
namespace Go.Proofs.Ytcmfplfnpjknlaa
set_option linter.unusedSimpArgs false
set_option linter.unusedVariables false
open Go.RowKit Go.Maps

def DueN (l : List Int) (N : Int) : Prop := ∀ j, j < l.length → 0 ≤ l[j]! ∧ l[j]! ≤ N
theorem dueN_more {l : List Int} {N M : Int} (h : DueN l N) (hm : N ≤ M) : DueN l M := fun j hj => by have := h j hj; omega
theorem dueN_add {l : List Int} {N : Int} (c : Nat) (h : DueN l N) : DueN (addAt l c 1) (N + 1) := fun j hj => by
  unfold addAt at *
  rw [List.length_set] at hj
  rw [getElem!_pos _ j (by simpa using hj), List.getElem_set]
  have h1 := h j hj
  split
  · rename_i e; subst e; omega
  · rw [getElem!_pos l j hj] at h1; omega
theorem addAt_map (l : List Int) (c : Nat) (n x : Int) (hx : l[c]! = x) : (addAt l c n).map (Value.int .i64) = (l.map (Value.int .i64)).set c (.int .i64 (x + n)) := by
  unfold addAt
  rw [hx, List.map_set]
theorem due_bad3 {lo hi : Int} : (lo < 0 ∨ hi < lo ∨ 131072 < hi) → inF lo 0 131072 = false ∨ inF hi 0 131072 = false ∨ hi < lo := fun h => by
  by_cases h1 : inF lo 0 131072 = true
  · by_cases h2 : inF hi 0 131072 = true
    · rw [inF_iff] at h1 h2
      omega
    · simp [h2]
  · simp [h1]
theorem due_good3 {lo hi : Int} (h1 : ¬ lo < 0) (h2 : ¬ hi < lo) (h3 : ¬ 131072 < hi) : ¬ (inF lo 0 131072 = false ∨ inF hi 0 131072 = false ∨ hi < lo) := fun h => by
  rw [show inF lo 0 131072 = true by rw [inF_iff]; omega, show inF hi 0 131072 = true by rw [inF_iff]; omega] at h
  rcases h with h | h | h
  · cases h
  · cases h
  · exact h2 h
set_option maxRecDepth 100000 in
set_option maxHeartbeats 12800000 in
theorem refDue_any (s : Stk) (v : Value) (lo hi : Int) (w : World) (hs : StkAt w v s) : Calls Try.prog 13 #[v, .agg #[.int .i64 lo, .int .i64 hi]] w (ListRes w (dueF s lo hi)) := by
  obtain ⟨j0, hj, hj0, hj1, hj2⟩ := info_parts info3
  obtain ⟨cv, rv, pv, bv, rfl, hc, hr, hp, hb⟩ := hs
  obtain ⟨cs, rs, ps, bs⟩ := s
  simp only [] at hc hr hp hb
  obtain ⟨ca, cc, rfl⟩ := hc.shape
  obtain ⟨ra, rc, rfl⟩ := hr.shape
  obtain ⟨pa, pc, rfl⟩ := hp.shape
  obtain ⟨ba, bc, rfl⟩ := hb.shape
  have m1 : cs.length ≤ 9223372036854775807 := hc.1
  have m2 : rs.length ≤ 9223372036854775807 := hr.1
  have m3 : ps.length ≤ 9223372036854775807 := hp.1
  have m4 : bs.length ≤ 9223372036854775807 := hb.1
  obtain ⟨W0, hW0⟩ : ∃ X, X = w.alloc (.cells #[.slice ca cs.length cc, .slice ra rs.length rc, .slice pa ps.length pc, .slice ba bs.length bc] 27) := ⟨_, rfl⟩
  have hb0 : Below w.heap.size w W0 := by rw [hW0]; exact (Below.refl _ _).alloc (Nat.le_refl _) _
  have hr0 : W0.heap[w.heap.size]? = some (.cells #[.slice ca cs.length cc, .slice ra rs.length rc, .slice pa ps.length pc, .slice ba bs.length bc] 27 (0, 0)) := by rw [hW0]; exact alloc_heap w _
  have hc0 := Lib.hid (hc.below hb0)
  have hq0 := Lib.hid (hr.below hb0)
  have hp0 := Lib.hid (hp.below hb0)
  have hs0 := Lib.hid (hb.below hb0)
  obtain ⟨P, hP⟩ : ∃ P, w.heap.size = P := ⟨_, rfl⟩
  rw [hP] at hr0
  obtain ⟨d0, d1, d2, d3⟩ := four_cells hr0
  have HB := Lib.hid hb0
  have HR0 := Lib.hid hr0
  clear hr0 hb0 hc hr hp hb
  have hz0 : StkAt W0 (.agg #[.slice ca cs.length cc, .slice ra rs.length rc, .slice pa ps.length pc, .slice ba bs.length bc]) ⟨cs, rs, ps, bs⟩ := ⟨_, _, _, _, rfl, hc0.out, hq0.out, hp0.out, hs0.out⟩
  have hsz : W0.heap.size = P + 1 := by rw [hW0, ← hP]; simp
  have HSZ := Lib.hid hsz
  have HZ0 := Lib.hid hz0
  obtain ⟨W1, hW1⟩ : ∃ X, X = W0.alloc (.cells #[.int .i64 lo, .int .i64 hi] 29) := ⟨_, rfl⟩
  have hb1 : Below W0.heap.size W0 W1 := by rw [hW1]; exact (Below.refl _ _).alloc (Nat.le_refl _) _
  have hq1 : W1.heap[P + 1]? = some (.cells #[.int .i64 lo, .int .i64 hi] 29 (0, 0)) := by rw [hW1, ← HSZ.out]; exact alloc_heap W0 _
  have kt := refTerms_any ⟨cs, rs, ps, bs⟩ _ W1 (hz0.below hb1)
  have hbad := fun h => due_bad (s := ⟨cs, rs, ps, bs⟩) (lo := lo) (hi := hi) h
  have hgood := fun h => due_good (s := ⟨cs, rs, ps, bs⟩) (lo := lo) (hi := hi) h
  have hparts := fun h => right_parts (s := ⟨cs, rs, ps, bs⟩) h
  have htsok := fun h1 h => terms_tsOk (s := ⟨cs, rs, ps, bs⟩) h1 h
  obtain ⟨⟨ti, te, tl⟩, hT⟩ : ∃ x, termsF ⟨cs, rs, ps, bs⟩ = x := ⟨_, rfl⟩
  rw [hT] at kt hbad hgood hparts htsok
  simp only [] at kt hbad hgood hparts htsok
  have KT := Lib.hid kt
  have HBAD := Lib.hid hbad
  have HGOOD := Lib.hid hgood
  have HPARTS := Lib.hid hparts
  have HTSOK := Lib.hid htsok
  have H1 := Lib.hid hb1
  have HQ1 := Lib.hid hq1
  have hr1 := box_step (w0 := w) HR0.out hb1
  have HR1 := Lib.hid hr1
  clear hz0 kt hbad hgood hparts htsok hT hsz hb1 hq1 d0 d1 d2 d3
  obtain ⟨d0, d1, d2, d3⟩ := four_cells hr1
  clear hr1
  go_enter Try.func13, Try.ntmps13
  go_upto_region 1 with fail
  rw [← hW0, ← hW1]
  clear hW0 hP hW1
  go_wp2_with fail
  refine KT.out.mono ?_
  rintro e w1 ⟨⟨lv, rfl, hlv⟩, hb1⟩
  have HB1 := Lib.hid (H1.out.trans (hb1.mono H1.out.size))
  have HQ2 := Lib.hid (box_step (w0 := w) HQ1.out hb1)
  have HLV := Lib.hid hlv
  have HB1W := Lib.hid (HB.out.trans (HB1.out.mono HB.out.size))
  clear hb1 hlv d0 d1 d2 d3 KT
  by_cases hte : te = 0
  · subst hte
    obtain ⟨htl, hnl⟩ := HLV.out rfl
    obtain ⟨hok, _, hbse, _⟩ := HPARTS.out rfl
    have hts := HTSOK.out hok rfl
    have hnd := bs_nodup hbse
    have hgd := HGOOD.out rfl
    have HGD := Lib.hid hgd
    have HTL := Lib.hid htl
    have HOK := Lib.hid hok
    have HTS := Lib.hid hts
    have HND := Lib.hid hnd
    clear hgd htl hok hts hnd hnl hbse HGOOD HBAD HPARTS HTSOK HLV
    obtain ⟨x0, x1⟩ := two_cells HQ2.out
    by_cases hlo : lo < 0
    · have hen := HGD.out
      rw [if_pos (due_bad3 (.inl hlo))] at hen
      have HEN := Lib.hid hen
      clear hen HGD
      go_wp2
      go_ret2
      exact ⟨none, 0, by rw [HEN.out]; rfl, by rw [HEN.out]; exact tab_nil _, (fun b off e => by cases e), HB1W.out⟩
    · by_cases hlh : hi < lo
      · have hen := HGD.out
        rw [if_pos (due_bad3 (.inr (.inl hlh)))] at hen
        have HEN := Lib.hid hen
        have hgt : lo > hi := hlh
        clear hen HGD
        go_wp2
        go_ret2
        exact ⟨none, 0, by rw [HEN.out]; rfl, by rw [HEN.out]; exact tab_nil _, (fun b off e => by cases e), HB1W.out⟩
      · by_cases hhi : 131072 < hi
        · have hen := HGD.out
          rw [if_pos (due_bad3 (.inr (.inr hhi)))] at hen
          have HEN := Lib.hid hen
          have hgt : hi > 131072 := hhi
          have hgt2 : ¬ lo > hi := hlh
          clear hen HGD
          go_wp2
          go_ret2
          exact ⟨none, 0, by rw [HEN.out]; rfl, by rw [HEN.out]; exact tab_nil _, (fun b off e => by cases e), HB1W.out⟩
        · have hen := HGD.out
          rw [if_neg (due_good3 hlo hlh hhi)] at hen
          have HEN := Lib.hid hen
          have hgt : ¬ hi > 131072 := hhi
          have hgt2 : ¬ lo > hi := hlh
          clear hen HGD
          obtain ⟨la, lc, rfl⟩ := HTL.out.shape
          have hll := HTS.out.1
          simp only [] at hll
          have HLL := Lib.hid hll
          have HTL2 := Lib.hid HTL.out
          have hfew := stk_few HOK.out
          simp only [] at hfew
          have m5 : rs.length ≤ 24 := hfew.2.1
          have m6 : cs.length ≤ 5 := hfew.1
          obtain ⟨W2, hrun, hown, hg1⟩ := run_make_full (P := Try.prog) w1 w1.heap.size 32 3 j0 (.int .i64 0) 1 Try.underlying32 hj hj0 hj1 .i64 .i64 cs.length (by rw [hj2]; omega) (by unfold maxLen; omega) (Nat.le_refl _)
          rw [made_zeros] at hown
          have hb2 : Below w1.heap.size w1 W2 := (Below.refl _ _).grown hg1 (Nat.le_refl _) (fun k hk => by cases hk)
          obtain ⟨d0, d1, d2, d3⟩ := four_cells (box_step (w0 := w) HR0.out HB1.out)
          obtain ⟨C, hC⟩ : ∃ C, w1.heap.size = C := ⟨_, rfl⟩
          rw [hC] at hrun hown
          have HCC := Lib.hid hC
          have HOW := Lib.hid hown
          have HB2 := Lib.hid hb2
          clear hll hfew hown hg1 hb2 hC hj hj0 hj1 hj2
          go_wp2_with fail
          try clear hrun
          clear d0 d1 d2 d3 x0 x1
          go_loopw [10] (fun i wr => ∃ (k : Nat) (l : List Int), k ≤ rs.length ∧ i = .int .i64 k ∧ wr.ownsRow C 3 1 (.slice (some ⟨C, 0, none⟩) cs.length cs.length) cs.length (l.map (Value.int .i64)) ∧ DueN l ((k : Int) * 1000000) ∧ ((rowsT ⟨cs, rs, ps, bs⟩ tl).take k).foldl (dueStep bs lo hi) (List.replicate cs.length 0) = l ∧ Below w1.heap.size w1 wr) (fun i _ => rs.length - (intOf i).toNat)
          case atStart => exact ⟨0, _, by omega, rfl, HOW.out, fun j hj => by simp at hj; simp [hj], rfl, HB2.out⟩
          case round =>
            obtain ⟨k, l, hk, rfl, how, hdn, hfold, hbw⟩ := hrel
            have HBX := Lib.hid hbw
            have HBW := Lib.hid (HB1.out.trans (hbw.mono HB1.out.size))
            have hlen : l.length = cs.length := by have := how.1; simpa using this
            obtain ⟨d0, d1, d2, d3⟩ := four_cells (box_step (w0 := w) HR0.out HBW.out)
            obtain ⟨x0, x1⟩ := two_cells (box_step (w0 := w) HQ2.out hbw)
            by_cases hlt : k < rs.length
            · obtain ⟨rb, ro, e1, hrb, hrx⟩ := hq0.out.at (show 0 < rs.length by omega)
              subst e1
              have g0 := hrx k hlt 0 (by omega)
              have g1 := hrx k hlt 1 (by omega)
              have g2 := hrx k hlt 2 (by omega)
              have hgood := row_good HOK.out hlt
              have hstep := due_step HTS.out.1 hlt lo hi
              simp only [] at hstep hgood
              rw [hfold] at hstep
              have hkt : k < tl.length := by rw [HLL.out]; exact hlt
              rw [← getD_bang rs hlt, ← getD_bang tl hkt] at hstep
              have hlt2 := HTL2.out
              rw [HLL.out] at hlt2
              obtain ⟨lb, lo', e2, hlb, hlx⟩ := hlt2.at (by omega)
              subst e2
              have v1 := hlx k hkt 0 (by omega)
              obtain ⟨⟨r0, r1, r2, r3⟩, hr⟩ : ∃ x : Row, rs.getD k default = x := ⟨_, rfl⟩
              obtain ⟨⟨t0, t1⟩, ht⟩ : ∃ x : Int × Int, tl.getD k default = x := ⟨_, rfl⟩
              rw [hr] at g0 g1 g2 hgood hstep
              rw [ht] at hstep v1
              simp only [Nat.add_zero, rowC] at g0 g1 g2
              simp only [Nat.add_zero, trmC] at v1
              have v0 := (hbw.cell (p := ⟨lb, lo' + k * 2, none⟩) hlb).trans v1
              simp only [] at hgood
              obtain ⟨b1, b2, b3, b4, b5, b6, b7⟩ := hgood
              obtain ⟨c, rfl⟩ : ∃ c : Nat, r2 = c := ⟨r2.toNat, by omega⟩
              have hcl : c < l.length := by omega
              have kin := fun (X : World) => in_any t0 lo hi X
              have hdz := dueP_zero bs l (⟨r0, r1, c, r3⟩, (t0, t1)) (by simpa using hcl)
              have hda := fun (m : Nat) (hm : (m : Int) = r1 - r0 + 1) (hin : inF t0 lo hi = true) => dueP_all bs lo hi l (⟨r0, r1, c, r3⟩, (t0, t1)) m hm hin
              have hds := fun (m : Nat) => dueP_step HND.out l (⟨r0, r1, c, r3⟩, (t0, t1)) m (by simpa using hcl)
              have hdl := fun (m : Nat) => dueP_len bs l (⟨r0, r1, c, r3⟩, (t0, t1)) m
              simp only [Int.toNat_natCast] at hds
              obtain ⟨DP, hDP⟩ : ∃ f, f = dueP bs l (⟨r0, r1, c, r3⟩, (t0, t1)) := ⟨_, rfl⟩
              simp only [← hDP] at hdz hda hds hdl
              obtain ⟨b, hb⟩ : ∃ b, inF t0 lo hi = b := ⟨_, rfl⟩
              simp only [hb] at kin hda
              have hstF : b = false → dueStep bs lo hi l (⟨r0, r1, c, r3⟩, (t0, t1)) = l := fun h => by unfold dueStep; simp only []; rw [hb, h]; rfl
              have KIN := Lib.hid kin
              have HDZ := Lib.hid hdz
              have HDA := Lib.hid hda
              have HDS := Lib.hid hds
              have HDL := Lib.hid hdl
              have HSF := Lib.hid hstF
              have HSTEP := Lib.hid hstep
              have HG0 := Lib.hid g0
              have HG1 := Lib.hid g1
              have HG2 := Lib.hid g2
              have HV0 := Lib.hid v1
              have HOW2 := Lib.hid how
              have HDN := Lib.hid hdn
              have HLEN := Lib.hid hlen
              have HCL := Lib.hid hcl
              have ik1 : (k : Int) < (rs.length : Int) := Int.ofNat_lt.2 hlt
              have ik2 : (k : Int) < (tl.length : Int) := Int.ofNat_lt.2 hkt
              clear hrx g0 g1 g2 v1 hstep hr ht how hdn hfold hbw hlx hlt2 hkt kin hdz hda hds hdl hDP hb hstF hlen hcl
              go_upto_region 10 with fail
              go_quiet ((go_at_call 28; with_reducible exact Calls.quiet_of_same ((KIN.out _).mono fun _ _ ⟨a, b⟩ => ⟨a, b.symm⟩)))
              have HB3 := Lib.hid (below_drewn HBX.out nq)
              have HB3W := Lib.hid (below_drewn HBW.out nq)
              have HOW3 := Lib.hid (row_below HOW2.out (below_drewn (Below.refl _ wr) nq))
              obtain ⟨w3, hw3⟩ : ∃ X, wr.drewN nq = X := ⟨_, rfl⟩
              rw [hw3] at HB3 HB3W HOW3 ⊢
              clear d0 d1 d2 d3 x0 x1 v0 hw3
              cases b with
              | false =>
                have hst := HSTEP.out
                rw [HSF.out rfl] at hst
                have HST2 := Lib.hid hst
                clear hst
                go_wp2
                go_roundw
                case rel => exact ⟨k + 1, l, by omega, by go_num, HOW3.out, dueN_more HDN.out (by omega), HST2.out, HB3.out⟩
                case measure => simp [intOf]; omega
              | true =>
                have kbr := fun (n : Int) (X : World) (hX : Below W0.heap.size W0 X) => refBroken_any ⟨cs, rs, ps, bs⟩ n t0 _ X (HZ0.out.below hX)
                have KBR := Lib.hid kbr
                clear kbr
                obtain ⟨d0, d1, d2, d3⟩ := four_cells (box_step (w0 := w) HR0.out HB3W.out)
                have g0' := (HB3W.out.cell (p := ⟨rb, ro + k * 4, none⟩) hrb).trans HG0.out
                go_wp2
                clear d0 d1 d2 d3 g0'
                go_loopw [11] (fun i wr2 => ∃ (m : Nat), (m : Int) ≤ r1 - r0 + 1 ∧ i = .int .i64 (r0 + m) ∧ wr2.ownsRow C 3 1 (.slice (some ⟨C, 0, none⟩) cs.length cs.length) cs.length ((DP m).map (Value.int .i64)) ∧ DueN (DP m) ((k : Int) * 1000000 + m) ∧ Below w1.heap.size w1 wr2) (fun i _ => (r1 + 1 - intOf i).toNat)
                case atStart => exact ⟨0, by omega, by simp, by rw [HDZ.out]; exact HOW3.out, by rw [HDZ.out]; simpa using HDN.out, HB3.out⟩
                case round =>
                  obtain ⟨m, hm, rfl, how, hdn, hbd⟩ := hrel
                  have HBD := Lib.hid hbd
                  have HBD2 := Lib.hid (HB1.out.trans (hbd.mono HB1.out.size))
                  obtain ⟨d0, d1, d2, d3⟩ := four_cells (box_step (w0 := w) HR0.out HBD2.out)
                  have g1' := (HBD2.out.cell (p := ⟨rb, ro + k * 4 + 1, none⟩) hrb).trans HG1.out
                  have g2' := (HBD2.out.cell (p := ⟨rb, ro + k * 4 + 2, none⟩) hrb).trans HG2.out
                  have v0' := (hbd.cell (p := ⟨lb, lo' + k * 2, none⟩) hlb).trans HV0.out
                  have wn : IntKind.i64.wrap (r0 + (m : Int) + 1) = r0 + (m : Int) + 1 := IntWalk.i64_in _ (by omega)
                  by_cases hml : r0 + (m : Int) ≤ r1
                  · have hds := HDS.out m
                    obtain ⟨br, hbr⟩ : ∃ b, brkBy bs (r0 + (m : Int)) t0 = b := ⟨_, rfl⟩
                    have kb := fun (X : World) (hX : Below W0.heap.size W0 X) => KBR.out (r0 + m) X hX
                    simp only [hbr] at kb hds
                    have HDS2 := Lib.hid hds
                    have HO1 := Lib.hid how
                    have HN1 := Lib.hid hdn
                    obtain ⟨wo, hwo⟩ : ∃ wo : World, wo = wr := ⟨_, rfl⟩
                    subst hwo
                    have C1 := fun d os => Calls.regrown_of (kb _ (HBD2.out.trans ((below_regrown wo d os).mono HBD2.out.size)))
                    have k0' := cell_regrown d0
                    have k1' := cell_regrown d1
                    have k2' := cell_regrown d2
                    have k3' := cell_regrown d3
                    have k4' := cell_regrown v0'
                    clear hds hbr kb how hdn hbd
                    go_upto_region 14 with fail
                    go_cut [82] (fun r wc => r = .bool (!br) ∧ Below wo.heap.size wo wc)
                    case first =>
                      refine wp_region_quiet_below (by kernel_rfl) (by kernel_rfl) ?_
                      repeat (go_big_quiet_step (first | with_reducible exact C1 _ _))
                      refine wpQuiet_nil ?_
                      intro _ hw'
                      obtain ⟨⟨dq, osq⟩, hw''⟩ := hw'
                      subst hw''
                      go_wp2
                      go_meet
                      case rel => exact ⟨rfl, below_regrown wo dq osq⟩
                    case rest =>
                      obtain ⟨rfl, hbc⟩ := hcut
                      have HB4 := Lib.hid (HBD.out.trans (hbc.mono HBD.out.size))
                      have HB4W := Lib.hid (HBD2.out.trans (hbc.mono HBD2.out.size))
                      have HO4 := Lib.hid (row_below HO1.out hbc)
                      clear hbc d0 d1 d2 d3 g1' g2' v0' k0' k1' k2' k3' k4' C1
                      cases br with
                      | true =>
                        have hds := HDS2.out
                        simp only [if_true] at hds
                        have HD3 := Lib.hid hds
                        clear hds
                        go_wp2
                        go_roundw
                        case rel => exact ⟨m + 1, by omega, by rw [show r0 + ((m + 1 : Nat) : Int) = r0 + (m : Int) + 1 by omega], by rw [HD3.out]; exact HO4.out, by rw [HD3.out]; exact dueN_more HN1.out (by omega), HB4.out⟩
                        case measure => simp [intOf]; omega
                      | false =>
                        have hds := HDS2.out
                        simp only [Bool.false_eq_true, if_false] at hds
                        have hlD : (DP m).length = cs.length := by rw [HDL.out, HLEN.out]
                        have hcd : c < (DP m).length := by rw [HDL.out]; exact HCL.out
                        obtain ⟨lcv, hlc⟩ : ∃ v, (DP m)[c]! = v := ⟨_, rfl⟩
                        have hbnd := HN1.out c hcd
                        rw [hlc] at hbnd
                        have hcell : wc.cell? ⟨C, c, none⟩ = some (.int .i64 lcv) := by
                          have := HO4.out.cellAt c (by omega)
                          rw [this, ← hlc, getElem!_pos (DP m) c hcd]
                          simp [hcd]
                        have hfz : wc.frozen? ⟨C, c, none⟩ = false := HO4.out.frozenAt c
                        have hso := (HO4.out.stored c (.int .i64 (lcv + 1))).1
                        rw [← addAt_map (DP m) c 1 lcv hlc, ← hds] at hso
                        have hdn2 := dueN_more (dueN_add c HN1.out) (show (k : Int) * 1000000 + m + 1 ≤ (k : Int) * 1000000 + ((m + 1 : Nat) : Int) by omega)
                        rw [← hds] at hdn2
                        obtain ⟨WS, hWS⟩ : ∃ X, X = wc.setCell ⟨C, c, none⟩ (.int .i64 (lcv + 1)) := ⟨_, rfl⟩
                        rw [← hWS] at hso
                        have hsd := row_below hso ((Below.refl WS.heap.size WS).drew)
                        rw [hWS] at hsd
                        have HSO := Lib.hid hsd
                        clear hWS hsd
                        have HDN2 := Lib.hid hdn2
                        have HB6 := Lib.hid (show Below w1.heap.size w1 (wc.setCell ⟨C, c, none⟩ (.int .i64 (lcv + 1))).drew from (HB4.out.setCell (by rw [HCC.out]; exact Nat.le_refl _) _).drew)
                        obtain ⟨d0, d1, d2, d3⟩ := four_cells (box_step (w0 := w) HR0.out HB4W.out)
                        have g2' := (HB4W.out.cell (p := ⟨rb, ro + k * 4 + 2, none⟩) hrb).trans HG2.out
                        have wl : IntKind.i64.wrap (lcv + 1) = lcv + 1 := IntWalk.i64_in _ (by omega)
                        have ic1 : (c : Int) < (cs.length : Int) := by omega
                        have HNE := Lib.hid (show r0 + ((m + 1 : Nat) : Int) = r0 + (m : Int) + 1 by omega)
                        have HM1 := Lib.hid (show ((m + 1 : Nat) : Int) ≤ r1 - r0 + 1 by omega)
                        clear hds hlD hcd hlc hbnd hso hdn2
                        go_upto_region 15 with fail
                        go_region
                        go_wp2
                        go_roundw
                        case rel =>
                          refine ⟨m + 1, HM1.out, ?_, ?_, HDN2.out, ?_⟩
                          · rw [HNE.out]
                          · with_reducible exact HSO.out
                          · with_reducible exact HB6.out
                        case measure => simp [intOf]; omega
                  · have hme : (m : Int) = r1 - r0 + 1 := by omega
                    have hst := HSTEP.out
                    rw [← HDA.out m hme (by trivial)] at hst
                    have HST2 := Lib.hid hst
                    have HO1 := Lib.hid how
                    have HN1 := Lib.hid (dueN_more hdn (show (k : Int) * 1000000 + m ≤ ((k + 1 : Nat) : Int) * 1000000 by omega))
                    clear hme hst how hdn hbd
                    go_wp2
                    go_roundw
                    case rel => exact ⟨k + 1, _, by omega, by go_num, HO1.out, HN1.out, HST2.out, HBD.out⟩
                    case measure => simp [intOf]; omega
            · have hkl : k = rs.length := by omega
              have i1 : ¬ (k : Int) < (rs.length : Int) := by omega
              have hal : dueAll ⟨cs, rs, ps, bs⟩ tl lo hi = l := by
                unfold dueAll
                rw [← hfold, hkl, List.take_of_length_le (by rw [rowsT_len HTS.out.1]; exact Nat.le_refl _)]
              have hen := HEN.out
              rw [hal] at hen
              have HEN2 := Lib.hid hen
              have htb : TabAt 1 numC wr (.slice (some ⟨C, 0, none⟩) cs.length cs.length) l := tab_of_own (f := numC) (k := 1) (by rw [flat_int]; exact how) hlen.symm (by rw [hlen]; unfold maxLen; omega)
              have HTB := Lib.hid htb
              have HLEN := Lib.hid hlen
              clear hkl hal hen hfold how hdn hbw hlt hk htb hlen
              go_wp2
              go_ret2
              exact ⟨some ⟨C, 0, none⟩, cs.length, by rw [HEN2.out, HLEN.out]; rfl, by rw [HEN2.out, HLEN.out]; exact HTB.out, (fun b off e => by cases e; have := HB1W.out.size; rw [← HCC.out]; exact this), HB.out.trans (HBW.out.mono HB.out.size)⟩
  · have hen := HBAD.out hte
    have HEN := Lib.hid hen
    have e1 : (te != 0) = true := by simpa using hte
    clear hen
    go_wp2
    go_ret2
    exact ⟨none, 0, by rw [HEN.out]; rfl, by rw [HEN.out]; exact tab_nil _, (fun b off e => by cases e), HB1W.out⟩
end Go.Proofs.Ytcmfplfnpjknlaa
