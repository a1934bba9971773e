/- Term: the walk of TermBalance. -/
import Derived.Test.YtcmfplfnpjknlaaA29
import Derived.Test.YtcmfplfnpjknlaaA27
import Derived.Test.YtcmfplfnpjknlaaM5
import Derived.Lib.QuietBelow
namespace Go.Proofs.Ytcmfplfnpjknlaa
set_option linter.unusedSimpArgs false
set_option linter.unusedVariables false
open Go.RowKit

theorem tab_four_at {w : World} {a : Option Addr} {c : Nat} {x y z u : Int} (h : TabAt 1 numC w (.slice a [x, y, z, u].length c) [x, y, z, u]) : ∃ b off, a = some ⟨b, off, none⟩ ∧ b < w.heap.size ∧ w.cell? ⟨b, off, none⟩ = some (.int .i64 x) ∧ w.cell? ⟨b, off + 1, none⟩ = some (.int .i64 y) ∧ w.cell? ⟨b, off + 2, none⟩ = some (.int .i64 z) ∧ w.cell? ⟨b, off + 3, none⟩ = some (.int .i64 u) := by
  obtain ⟨b, off, rfl, hb, hc⟩ := h.at (by simp)
  exact ⟨b, off, rfl, hb, by simpa [numC] using hc 0 (by simp) 0 (by omega), by simpa [numC] using hc 1 (by simp) 0 (by omega), by simpa [numC] using hc 2 (by simp) 0 (by omega), by simpa [numC] using hc 3 (by simp) 0 (by omega)⟩
theorem due_ok {s : Stk} (h0 : (termsF s).2.1 = 0) {d : Int} (h1 : 0 ≤ d) (h2 : d ≤ 131072) : dueF s d d = (dueAll s (termsF s).2.2 d d, 0) := by
  have hin : inF d 0 131072 = true := by rw [inF_iff]; exact ⟨h1, h2⟩
  rw [due_good h0, if_neg]
  rw [hin]
  intro h
  rcases h with h | h | h
  · cases h
  · cases h
  · omega
theorem wrap_step (S e : Int) : wrap64 (wrap64 S + e) = wrap64 (S + e) := by unfold wrap64; omega
theorem sum_step {E : List Int} {j : Nat} (hj : j < E.length) : (E.take (j + 1)).sum = (E.take j).sum + E.getD j default := by
  rw [List.take_succ_eq_append_getElem hj, List.sum_append]; simp [List.getD, hj]
theorem wrap_in {S : Int} (h1 : -1000000000 ≤ S) (h2 : S ≤ 1000000000) : wrap64 S = S := by unfold wrap64; omega
def PutOk (d : Int) (rs : List Row) (j : Nat) (z : Int) : Prop := z = sumF (putN d) (rs.take j) ∧ 0 ≤ z ∧ z ≤ j * 1000000
def BrkOk (s : Stk) (d : Int) (j q o : Nat) : Prop := q = (s.bs.take j).countP (brokeF s d) ∧ o = (s.bs.take j).countP (onDay d) ∧ q ≤ j ∧ o ≤ j
def SumOk (L : List Int) (j : Nat) (z : Int) : Prop := z = wrap64 (L.take j).sum
set_option maxRecDepth 100000 in
set_option maxHeartbeats 12800000 in
theorem balance_law (s : Stk) (day : Int) (v : Value) (w : World) (hs : StkAt w v s) : Calls Try.prog 4 #[v, .int .i64 day] w fun e w' => e = .returned (.bool true) ∧ Below w.heap.size w w' := by
  obtain ⟨cv, rv, pv, bv, rfl, hc, hr, hp, hb⟩ := hs
  obtain ⟨cs, rs, ps, bs⟩ := s
  simp only [] at hc hr hp hb
  obtain ⟨ca, cc, rfl⟩ := hc.shape
  obtain ⟨ra, rc, rfl⟩ := hr.shape
  obtain ⟨pa, pc, rfl⟩ := hp.shape
  obtain ⟨ba, bc, rfl⟩ := hb.shape
  have m1 : cs.length ≤ 9223372036854775807 := hc.1
  have m2 : rs.length ≤ 9223372036854775807 := hr.1
  have m3 : ps.length ≤ 9223372036854775807 := hp.1
  have m4 : bs.length ≤ 9223372036854775807 := hb.1
  obtain ⟨W0, hW0⟩ : ∃ X, X = w.alloc (.cells #[.slice ca cs.length cc, .slice ra rs.length rc, .slice pa ps.length pc, .slice ba bs.length bc] 27) := ⟨_, rfl⟩
  have hb0 : Below w.heap.size w W0 := by rw [hW0]; exact (Below.refl _ _).alloc (Nat.le_refl _) _
  have hr0 : W0.heap[w.heap.size]? = some (.cells #[.slice ca cs.length cc, .slice ra rs.length rc, .slice pa ps.length pc, .slice ba bs.length bc] 27 (0, 0)) := by rw [hW0]; exact alloc_heap w _
  have hc0 := Lib.hid (hc.below hb0)
  have hq0 := Lib.hid (hr.below hb0)
  have hp0 := Lib.hid (hp.below hb0)
  have hs0 := Lib.hid (hb.below hb0)
  obtain ⟨P, hP⟩ : ∃ P, w.heap.size = P := ⟨_, rfl⟩
  rw [hP] at hr0
  obtain ⟨d0, d1, d2, d3⟩ := four_cells hr0
  have HB := Lib.hid hb0
  have HR0 := Lib.hid hr0
  clear hr0 hb0 hc hr hp hb
  have hz0 : StkAt W0 (.agg #[.slice ca cs.length cc, .slice ra rs.length rc, .slice pa ps.length pc, .slice ba bs.length bc]) ⟨cs, rs, ps, bs⟩ := ⟨_, _, _, _, rfl, hc0.out, hq0.out, hp0.out, hs0.out⟩
  have KL := Lib.hid (fun (X : World) (hX : Below W0.heap.size W0 X) => large_any ⟨cs, rs, ps, bs⟩ 1099511627776 _ X (hz0.below hX))
  have KA := Lib.hid (fun (X : World) => awake_any X)
  have KC := Lib.hid (fun (X : World) (hX : Below W0.heap.size W0 X) => count_any ⟨cs, rs, ps, bs⟩ _ day X (hz0.below hX))
  have KC2 := Lib.hid (fun (X : World) (hX : Below W0.heap.size W0 X) => count_any ⟨cs, rs, ps, bs⟩ _ (day + 1) X (hz0.below hX))
  have KE := Lib.hid (fun (n : Int) (X : World) (hX : Below W0.heap.size W0 X) => end_any ⟨cs, rs, ps, bs⟩ _ n X (hz0.below hX))
  have HZ0 := Lib.hid hz0
  clear hz0
  go_enter Try.func4, Try.ntmps4
  go_upto_region 1 with fail
  rw [← hW0]
  clear hW0 hP
  go_wp2_with fail
  refine (KL.out W0 (Below.refl _ _)).mono ?_
  rintro e W1 ⟨⟨b, rfl⟩, hb1⟩
  clear d0 d1 d2 d3
  obtain ⟨d0, d1, d2, d3⟩ := four_cells (box_step (w0 := w) HR0.out hb1)
  have H1 := Lib.hid hb1
  clear hb1
  cases b with
  | true =>
    go_wp2_with fail
    refine (KA.out _).mono ?_
    rintro e Wz ⟨rfl, hbz⟩
    go_wp2
    go_ret
    exact ⟨rfl, HB.out.trans ((H1.out.trans (hbz.mono H1.out.size)).mono HB.out.size)⟩
  | false =>
    go_wp2_with fail
    refine (KC.out _ H1.out).mono ?_
    rintro e W2 ⟨a1, c1, rfl, ht1, _, hb2⟩
    obtain ⟨⟨L1, e1⟩, hcn⟩ : ∃ x, countF ⟨cs, rs, ps, bs⟩ day = x := ⟨_, rfl⟩
    simp only [hcn] at ht1 ⊢
    have H2 := Lib.hid (H1.out.trans (hb2.mono H1.out.size))
    clear hb2 d0 d1 d2 d3
    obtain ⟨d0, d1, d2, d3⟩ := four_cells (box_step (w0 := w) HR0.out H2.out)
    by_cases he : e1 = 0
    · subst he
      obtain ⟨h0, hd0, hd1, A, B, C, D, htl, rfl⟩ := count_ok hcn
      have bal := balance_math h0 day
      simp only [htl] at bal
      obtain ⟨hok, _, _, _⟩ := right_parts h0
      have hfew := rows_few hok
      have hbfew := broken_few hok
      have hgood := fun j => row_good hok (j := j)
      have hends := fun j (hj : j < bs.length) => end_of_brk h0 (j := j) hj
      have HT1 := Lib.hid ht1
      have ks := fun (X : World) (hX : Below W0.heap.size W0 X) => refStock_any ⟨cs, rs, ps, bs⟩ _ X (HZ0.out.below hX)
      rw [hok] at ks
      have KS := Lib.hid ks
      have kal := fun (X : World) (hX : Below W0.heap.size W0 X) => all_any ⟨cs, rs, ps, bs⟩ _ X (HZ0.out.below hX) hok
      rw [← bal.all] at kal
      have KAL := Lib.hid kal
      obtain ⟨lb, lo, e2, hlb, l0, l1, l2, l3⟩ := tab_four_at ht1
      subst e2
      have b1 := bal.pos
      have b2 := bal.few
      have HBAL := Lib.hid bal
      have HH0 := Lib.hid h0
      have HOK := Lib.hid hok
      have HG := Lib.hid hgood
      have HE := Lib.hid hends
      clear bal hcn htl h0 hok ht1 ks kal hgood hends KL KC
      simp only [List.length_cons, List.length_nil, Nat.reduceAdd]
      have C1 := fun d os => Calls.regrown_of (KS.out _ (H2.out.trans ((below_regrown W2 d os).mono H2.out.size)))
      have C2 := fun d os => Calls.regrown_of (KAL.out _ (H2.out.trans ((below_regrown W2 d os).mono H2.out.size)))
      have k0 := cell_regrown d0
      have k1 := cell_regrown d1
      have k2 := cell_regrown d2
      have k3 := cell_regrown d3
      have k4 := cell_regrown l0
      have k5 := cell_regrown l1
      have k6 := cell_regrown l2
      have k7 := cell_regrown l3
      have w1 : IntKind.i64.wrap (A + B) = A + B := IntWalk.i64_in _ (by omega)
      have w2 : IntKind.i64.wrap (A + B + C) = A + B + C := IntWalk.i64_in _ (by omega)
      have w3 : IntKind.i64.wrap (A + B + C + D) = A + B + C + D := IntWalk.i64_in _ (by omega)
      have i0 : ¬ A < 0 := by omega
      have i1 : ¬ B < 0 := by omega
      have i2 : ¬ C < 0 := by omega
      have i3 : ¬ D < 0 := by omega
      clear b1 b2
      go_upto_region 6 with fail
      go_cut [89] (fun v wc => v = .bool false ∧ Below W2.heap.size W2 wc)
      case first =>
        as_aux_lemma =>
          refine wp_region_quiet_below (by kernel_rfl) (by kernel_rfl) ?_
          repeat (go_big_quiet_step (first | with_reducible exact C1 _ _ | with_reducible exact C2 _ _))
          refine wpQuiet_nil ?_
          intro _ hw'
          obtain ⟨⟨dq, osq⟩, hw''⟩ := hw'
          subst hw''
          go_wp2
          go_meet
          case rel => exact ⟨rfl, below_regrown W2 dq osq⟩
      case rest =>
        obtain ⟨rfl, hbc⟩ := hcut
        have H3 := Lib.hid (H2.out.trans (hbc.mono H2.out.size))
        have HT2 := Lib.hid (HT1.out.below hbc)
        clear hbc d0 d1 d2 d3 k0 k1 k2 k3 k4 k5 k6 k7 w1 w2 w3 i0 i1 i2 i3 l0 l1 l2 l3 C1 C2 HT1 hlb
        obtain ⟨d0, d1, d2, d3⟩ := four_cells (box_step (w0 := w) HR0.out H3.out)
        have w0 : IntKind.i64.wrap (day + 1) = day + 1 := IntWalk.i64_in _ (by omega)
        go_wp2_with fail
        refine (KC2.out _ H3.out).mono ?_
        rintro e W4 ⟨a2, c2, rfl, ht2, _, hb4⟩
        obtain ⟨⟨L2, e2⟩, hcn⟩ : ∃ x, countF ⟨cs, rs, ps, bs⟩ (day + 1) = x := ⟨_, rfl⟩
        simp only [hcn] at ht2 ⊢
        have H4 := Lib.hid (H3.out.trans (hb4.mono H3.out.size))
        have HT4 := Lib.hid (HT2.out.below hb4)
        clear hb4 d0 d1 d2 d3 HT2
        obtain ⟨d0, d1, d2, d3⟩ := four_cells (box_step (w0 := w) HR0.out H4.out)
        by_cases he : e2 = 0
        · subst he
          obtain ⟨_, hd2, hd3, A', B', C', D', htl, rfl⟩ := count_ok hcn
          have bal := HBAL.out
          simp only [htl] at bal
          have HBAL2 := Lib.hid bal
          have HU := Lib.hid ht2
          simp only [List.length_cons, List.length_nil, Nat.reduceAdd]
          clear bal hcn htl ht2 KC2 HBAL
          go_wp2
          clear d0 d1 d2 d3
          go_loopw [9, 10] (fun p i wr => ∃ (j : Nat) (z : Int), j ≤ rs.length ∧ p = .int .i64 z ∧ i = .int .i64 j ∧ PutOk day rs j z ∧ Below W4.heap.size W4 wr) (fun _ i _ => rs.length - (intOf i).toNat)
          case atStart => exact ⟨0, 0, by omega, rfl, rfl, ⟨by simp [sumF], by omega, by omega⟩, Below.refl _ _⟩
          case round =>
            obtain ⟨j, z, hj, rfl, rfl, hput, hbel⟩ := hrel
            have HX := Lib.hid hbel
            have H5 := Lib.hid (H4.out.trans (hbel.mono H4.out.size))
            have HP := Lib.hid hput
            obtain ⟨d0, d1, d2, d3⟩ := four_cells (box_step (w0 := w) HR0.out H5.out)
            by_cases hlt : j < rs.length
            · obtain ⟨bb, off, e1, hlb, hcx⟩ := (hq0.out.below H5.out).at (by omega)
              subst e1
              have g0 := hcx j hlt 0 (by omega)
              have g1 := hcx j hlt 1 (by omega)
              have g3 := hcx j hlt 3 (by omega)
              have hg := HG.out j hlt
              have hn := put_step (d := day) hlt
              try simp only [] at hg
              obtain ⟨⟨x0, x1, x2, x3⟩, hx⟩ : ∃ x : Row, rs.getD j default = x := ⟨_, rfl⟩
              rw [hx] at g0 g1 g3 hg hn
              simp only [Nat.add_zero, rowC] at g0 g1 g3
              simp only [putN, sizeF] at hn
              simp only [] at hg
              rw [← hput.1] at hn
              obtain ⟨z0, z1⟩ := hput.2
              have ij1 : (j : Int) < (rs.length : Int) := by omega
              have HJ := Lib.hid hj
              by_cases hday : x3 = day + 1
              · rw [if_pos hday] at hn
                have w1 : IntKind.i64.wrap (z + x1) = z + x1 := IntWalk.i64_in _ (by omega)
                have w2 : IntKind.i64.wrap (z + x1 - x0) = z + x1 - x0 := IntWalk.i64_in _ (by omega)
                have w3 : IntKind.i64.wrap (z + x1 - x0 + 1) = z + x1 - x0 + 1 := IntWalk.i64_in _ (by omega)
                have hnx : PutOk day rs (j + 1) (z + x1 - x0 + 1) := ⟨by rw [hn]; omega, by omega, by push_cast; omega⟩
                have HN := Lib.hid hnx
                subst hday
                clear hn hx hcx hbel hg hput z0 z1 hnx hj hd2 hd3 hd0 hd1
                go_upto_region 16 with fail
                go_quiet (fail)
                go_wp2
                go_roundw
                case rel => exact ⟨j + 1, z + x1 - x0 + 1, by omega, rfl, by go_num, HN.out, below_drewn HX.out _⟩
                case measure => simp [intOf]; omega
              · rw [if_neg hday] at hn
                have hnx : PutOk day rs (j + 1) z := ⟨by rw [hn]; omega, by omega, by push_cast; omega⟩
                have HN := Lib.hid hnx
                clear hn hx hcx hbel hg hput z0 z1 hnx
                go_wp2
                go_roundw
                case rel => exact ⟨j + 1, z, by omega, rfl, by go_num, HN.out, HX.out⟩
                case measure => simp [intOf]; omega
            · have hjl : j = rs.length := by omega
              obtain ⟨hz, hz0, hz1⟩ := hput
              rw [hjl, List.take_length] at hz
              have i1 : ¬ (j : Int) < (rs.length : Int) := by omega
              have HZ := Lib.hid hz
              have hz2 : z ≤ 24000000 := by omega
              have HT5 := Lib.hid (HT4.out.below hbel)
              have HU5 := Lib.hid (HU.out.below hbel)
              clear hz hz1 hjl hlt hj hbel HT4 HU HP HX
              go_wp2
              clear d0 d1 d2 d3
              obtain ⟨wo, hwo⟩ : ∃ wo : World, wo = wr := ⟨_, rfl⟩
              subst hwo
              go_loopw [11, 12, 13] (fun p o i wr2 => ∃ (j q' o' : Nat), j ≤ bs.length ∧ p = .int .i64 q' ∧ o = .int .i64 o' ∧ i = .int .i64 j ∧ BrkOk ⟨cs, rs, ps, bs⟩ day j q' o' ∧ Below wo.heap.size wo wr2) (fun _ _ i _ => bs.length - (intOf i).toNat)
              case atStart => exact ⟨0, 0, 0, by omega, rfl, rfl, rfl, ⟨by simp, by simp, by omega, by omega⟩, Below.refl _ _⟩
              case round =>
                obtain ⟨j, q, o, hj, rfl, rfl, rfl, hbrk, hbel⟩ := hrel
                have HX := Lib.hid hbel
                have H6 := Lib.hid (H5.out.trans (hbel.mono H5.out.size))
                obtain ⟨d0, d1, d2, d3⟩ := four_cells (box_step (w0 := w) HR0.out H6.out)
                by_cases hlt : j < bs.length
                · obtain ⟨bb, off, e1, hlb, hcx⟩ := (hs0.out.below H6.out).at (by omega)
                  subst e1
                  have g0 := hcx j hlt 0 (by omega)
                  have g1 := hcx j hlt 1 (by omega)
                  have hg := HE.out j hlt
                  have hn1 := cnt_step (f := brokeF ⟨cs, rs, ps, bs⟩ day) hlt
                  have hn2 := cnt_step (f := onDay day) hlt
                  try simp only [] at hg
                  obtain ⟨⟨x0, x1⟩, hx⟩ : ∃ x : Int × Int, bs.getD j default = x := ⟨_, rfl⟩
                  rw [hx] at g0 g1 hg hn1 hn2
                  simp only [Nat.add_zero, brkC] at g0 g1
                  obtain ⟨hq1, hq2, hq3, hq4⟩ := hbrk
                  try simp only [] at hq1 hq2
                  rw [← hq1] at hn1
                  rw [← hq2] at hn2
                  simp only [brokeF, onDay] at hn1 hn2
                  have ij1 : (j : Int) < (bs.length : Int) := by omega
                  by_cases hday : x1 = day + 1
                  · obtain ⟨⟨ea, eb, ec⟩, hen⟩ : ∃ x, endF ⟨cs, rs, ps, bs⟩ x0 = x := ⟨_, rfl⟩
                    simp only [hen] at hg hn1
                    obtain ⟨rfl, ge0, ge1⟩ := hg
                    simp only [hday, decide_true, Bool.true_and, if_true, decide_eq_true_eq] at hn1 hn2
                    have ke := fun (X : World) (hX : Below W0.heap.size W0 X) => KE.out x0 X hX
                    rw [hen] at ke
                    simp only [] at ke
                    have C1 := fun d os => Calls.regrown_of (ke _ (H6.out.trans ((below_regrown wr d os).mono H6.out.size)))
                    have k0 := cell_regrown d0
                    have k1 := cell_regrown d1
                    have k2 := cell_regrown d2
                    have k3 := cell_regrown d3
                    have k4 := cell_regrown g0
                    have k5 := cell_regrown g1
                    have w1 : IntKind.i64.wrap ((q : Int) + 1) = (q : Int) + 1 := IntWalk.i64_in _ (by omega)
                    have w2 : IntKind.i64.wrap ((o : Int) + 1) = (o : Int) + 1 := IntWalk.i64_in _ (by omega)
                    subst hday
                    have HN1 := Lib.hid hn1
                    have HN2 := Lib.hid hn2
                    have HQ3 := Lib.hid hq3
                    have HQ4 := Lib.hid hq4
                    have HD2 := Lib.hid hd2
                    have HD3 := Lib.hid hd3
                    clear hn1 hn2 hx hcx hq1 hq2 hq3 hq4 hbel ke hen hd2 hd3 hd0 hd1 ge0
                    go_upto_region 23 with fail
                    go_cut [14, 15, 16] (fun a b c wc => a = .int .i64 ea ∧ b = .int .i64 eb ∧ c = .int .i64 0 ∧ Below wr.heap.size wr wc)
                    case first =>
                      refine wp_region_quiet_below (by kernel_rfl) (by kernel_rfl) ?_
                      repeat (go_big_quiet_step (first | with_reducible exact C1 _ _))
                      refine wpQuiet_nil ?_
                      intro _ hw'
                      obtain ⟨⟨dq, osq⟩, hw''⟩ := hw'
                      subst hw''
                      go_wp2
                      go_meet
                      case rel => exact ⟨rfl, rfl, rfl, below_regrown wr dq osq⟩
                    case rest =>
                      obtain ⟨rfl, rfl, rfl, hbc⟩ := hcut
                      have HX2 := Lib.hid (HX.out.trans (hbc.mono HX.out.size))
                      clear hbc d0 d1 d2 d3 g0 g1 k0 k1 k2 k3 k4 k5 C1
                      have hn1 := HN1.out
                      have hn2 := HN2.out
                      by_cases hlt1 : day + 1 < ea
                      · rw [if_pos (by omega)] at hn1
                        have HN := Lib.hid (show BrkOk ⟨cs, rs, ps, bs⟩ day (j + 1) (q + 1) (o + 1) from ⟨hn1.symm, hn2.symm, by have := HQ3.out; omega, by have := HQ4.out; omega⟩)
                        clear hn1 hn2
                        go_wp2
                        go_roundw
                        case rel => exact ⟨j + 1, q + 1, o + 1, by omega, by go_num, by go_num, by go_num, HN.out, HX2.out⟩
                        case measure => simp [intOf]; omega
                      · by_cases heq : day + 1 = ea
                        · rw [if_pos (by omega)] at hn1
                          have HN := Lib.hid (show BrkOk ⟨cs, rs, ps, bs⟩ day (j + 1) (q + 1) (o + 1) from ⟨hn1.symm, hn2.symm, by have := HQ3.out; omega, by have := HQ4.out; omega⟩)
                          subst heq
                          clear hn1 hn2
                          go_wp2
                          go_roundw
                          case rel => exact ⟨j + 1, q + 1, o + 1, by omega, by go_num, by go_num, by go_num, HN.out, HX2.out⟩
                          case measure => simp [intOf]; omega
                        · rw [if_neg (by omega)] at hn1
                          have heq2 : (day + 1 == ea) = false := by simpa using heq
                          have HN := Lib.hid (show BrkOk ⟨cs, rs, ps, bs⟩ day (j + 1) q (o + 1) from ⟨hn1.symm, hn2.symm, by have := HQ3.out; omega, by have := HQ4.out; omega⟩)
                          clear hn1 hn2
                          go_wp2
                          go_roundw
                          case rel => exact ⟨j + 1, q, o + 1, by omega, rfl, by go_num, by go_num, HN.out, HX2.out⟩
                          case measure => simp [intOf]; omega
                  · have hdec : decide (x1 = day + 1) = false := by simpa using hday
                    have hx1 : (x1 != day + 1) = true := by simpa using hday
                    simp only [hdec, Bool.false_and, Bool.false_eq_true, if_false, Nat.add_zero] at hn1 hn2
                    have HN := Lib.hid (show BrkOk ⟨cs, rs, ps, bs⟩ day (j + 1) q o from ⟨hn1.symm, hn2.symm, by omega, by omega⟩)
                    clear hn1 hn2 hx hcx hq1 hq2 hq3 hq4 hbel hg hdec
                    go_wp2
                    go_roundw
                    case rel => exact ⟨j + 1, q, o, by omega, rfl, rfl, by go_num, HN.out, HX.out⟩
                    case measure => simp [intOf]; omega
                · have hjl : j = bs.length := by omega
                  obtain ⟨hq1, hq2, hq3, hq4⟩ := hbrk
                  try simp only [] at hq1 hq2
                  rw [hjl, List.take_length] at hq1 hq2
                  have i1 : ¬ (j : Int) < (bs.length : Int) := by omega
                  have hq24 : q ≤ 24 := by omega
                  have ho24 : o ≤ 24 := by omega
                  have HT6 := Lib.hid (HT5.out.below hbel)
                  have HU6 := Lib.hid (HU5.out.below hbel)
                  have hdu := due_ok HH0.out hd2 hd3
                  have kd := due_any ⟨cs, rs, ps, bs⟩ _ (day + 1) (day + 1) wr (HZ0.out.below H6.out)
                  rw [hdu] at kd
                  have bal := HBAL2.out
                  rw [← HZ.out, ← hq1, ← hq2] at bal
                  obtain ⟨E, hE⟩ : ∃ E, dueAll ⟨cs, rs, ps, bs⟩ (termsF ⟨cs, rs, ps, bs⟩).2.2 (day + 1) (day + 1) = E := ⟨_, rfl⟩
                  rw [hE] at kd bal
                  have KD := Lib.hid kd
                  have HBAL3 := Lib.hid bal
                  clear kd bal hE hdu hq1 hq2 hq3 hq4 hjl hlt hj hbel HT5 HU5 HBAL2 HZ
                  go_wp2_with fail
                  refine KD.out.mono ?_
                  rintro e W7 ⟨a3, c3, rfl, ht3, _, hb7⟩
                  simp only [] at ht3 ⊢
                  have H7 := Lib.hid (H6.out.trans (hb7.mono H6.out.size))
                  have HT7 := Lib.hid (HT6.out.below hb7)
                  have HU7 := Lib.hid (HU6.out.below hb7)
                  have HE7 := Lib.hid ht3
                  clear hb7 ht3 HT6 HU6 d0 d1 d2 d3 KD
                  obtain ⟨E1, hE1⟩ : ∃ n, E.length = n := ⟨_, rfl⟩
                  have mE : E1 ≤ 9223372036854775807 := by rw [← hE1]; exact HE7.out.1
                  rw [hE1]
                  have HE1 := Lib.hid hE1
                  clear hE1
                  go_wp2
                  obtain ⟨wp, hwp⟩ : ∃ wp : World, wp = wr := ⟨_, rfl⟩
                  subst hwp
                  go_loopw [19, 20] (fun p i wr3 => ∃ (j : Nat) (z' : Int), j ≤ E1 ∧ p = .int .i64 z' ∧ i = .int .i64 j ∧ SumOk E j z' ∧ wr3 = W7) (fun _ i _ => E1 - (intOf i).toNat)
                  case atStart => exact ⟨0, 0, by omega, rfl, rfl, by simp [SumOk, wrap64], rfl⟩
                  case round =>
                    obtain ⟨j, y, hj, rfl, rfl, hsum, hw7⟩ := hrel
                    subst hw7
                    by_cases hlt : j < E1
                    · obtain ⟨bb, off, e1, hlb, hcx⟩ := HE7.out.at (by rw [HE1.out]; omega)
                      subst e1
                      have g0 := hcx j (by rw [HE1.out]; exact hlt) 0 (by omega)
                      have hn := sum_step (E := E) (j := j) (by rw [HE1.out]; exact hlt)
                      obtain ⟨ev, hev⟩ : ∃ x, E.getD j default = x := ⟨_, rfl⟩
                      rw [hev] at g0 hn
                      simp only [Nat.mul_one, Nat.add_zero, numC] at g0
                      have hnx : SumOk E (j + 1) (wrap64 (y + ev)) := by
                        unfold SumOk at hsum ⊢
                        rw [hn, hsum, wrap_step]
                      have HN := Lib.hid hnx
                      have ij1 : (j : Int) < (E1 : Int) := by omega
                      clear hn hev hnx hsum hcx
                      go_wp2
                      go_roundw
                      case rel => exact ⟨j + 1, _, by omega, rfl, by go_num, HN.out, trivial⟩
                      case measure => simp [intOf]; omega
                    · have hjl : j = E.length := by rw [HE1.out]; omega
                      have i1 : ¬ (j : Int) < (E1 : Int) := by omega
                      unfold SumOk at hsum
                      rw [hjl, List.take_length] at hsum
                      have bal := HBAL3.out
                      obtain ⟨lb', lo', e1, _, l0, l1, l2, l3⟩ := tab_four_at HT7.out
                      obtain ⟨mb, mo, e2, _, n0, n1, n2, n3⟩ := tab_four_at HU7.out
                      simp only [Option.some.injEq, Addr.mk.injEq, and_true] at e1
                      obtain ⟨rfl, rfl⟩ := e1
                      subst e2
                      have b1 := bal.pos
                      have b2 := bal.few
                      have b3 := bal.few'
                      have b4 := bal.pos'
                      have s1 := bal.sealed
                      have s2 := bal.notyet
                      have s3 := bal.open_
                      obtain ⟨SS, hSS⟩ : ∃ S, E.sum = S := ⟨_, rfl⟩
                      rw [hSS] at hsum s1
                      rw [wrap_in (by omega) (by omega)] at hsum
                      subst hsum
                      have w1 : IntKind.i64.wrap (B + z) = B + z := IntWalk.i64_in _ (by omega)
                      have w2 : IntKind.i64.wrap (B + z - (q : Int)) = B + z - (q : Int) := IntWalk.i64_in _ (by omega)
                      have w3 : IntKind.i64.wrap (B + z - (q : Int) - y) = B + z - (q : Int) - y := IntWalk.i64_in _ (by omega)
                      have w4 : IntKind.i64.wrap (A - z) = A - z := IntWalk.i64_in _ (by omega)
                      have w5 : IntKind.i64.wrap (D + (o : Int)) = D + (o : Int) := IntWalk.i64_in _ (by omega)
                      subst s1
                      subst s2
                      subst s3
                      have C1 := fun d os => Calls.regrown_of (d := d) (os := os) (w := wr) (KA.out _)
                      have k4 := cell_regrown l0
                      have k5 := cell_regrown l1
                      have k6 := cell_regrown l2
                      have k7 := cell_regrown l3
                      have k8 := cell_regrown n0
                      have k9 := cell_regrown n1
                      have ka := cell_regrown n2
                      have kb := cell_regrown n3
                      try simp only [List.length_cons, List.length_nil, Nat.reduceAdd]
                      clear bal b1 b2 b3 b4 hSS hjl hlt HBAL3 HT7 HU7
                      go_upto_region 36 with fail
                      as_aux_lemma =>
                        refine wp_region_quiet_below (by kernel_rfl) (by kernel_rfl) ?_
                        repeat (go_big_quiet_step (first | with_reducible exact C1 _ _))
                        refine wpQuiet_nil ?_
                        intro _ hw'
                        obtain ⟨⟨dq, osq⟩, hw''⟩ := hw'
                        subst hw''
                        go_wp2
                        go_ret
                        exact ⟨rfl, HB.out.trans ((H7.out.trans ((below_regrown _ dq osq).mono H7.out.size)).mono HB.out.size)⟩
        · have hday := count_last HH0.out hd0 hd1 hcn he
          have e3 : (e2 != 0) = true := by simpa using he
          subst hday
          clear ht2 hcn he
          go_wp2_with fail
          refine (KA.out _).mono ?_
          rintro e Wz ⟨rfl, hbz⟩
          go_wp2
          go_ret
          exact ⟨rfl, HB.out.trans ((H4.out.trans (hbz.mono H4.out.size)).mono HB.out.size)⟩
    · obtain rfl := count_err hcn he
      have e2 : (e1 != 0) = true := by simpa using he
      clear ht1 hcn
      simp only [List.length_nil]
      go_wp2_with fail
      refine (KA.out _).mono ?_
      rintro e Wz ⟨rfl, hbz⟩
      go_wp2
      go_ret
      exact ⟨rfl, HB.out.trans ((H2.out.trans (hbz.mono H2.out.size)).mono HB.out.size)⟩
end Go.Proofs.Ytcmfplfnpjknlaa
