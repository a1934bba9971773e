/- Term: the reference's Terms. -/
import Derived.Test.YtcmfplfnpjknlaaC2
import Derived.Test.YtcmfplfnpjknlaaC3
import Derived.Test.YtcmfplfnpjknlaaC4
import Derived.Test.YtcmfplfnpjknlaaC5
import Derived.Test.YtcmfplfnpjknlaaA17
import Derived.Lib.QuietBelow
namespace Go.Proofs.Ytcmfplfnpjknlaa
set_option linter.unusedSimpArgs false
set_option linter.unusedVariables false
open Go.RowKit Go.Maps

def RowsOk (rs : List Row) (j : Nat) : Prop := ∀ a, a < j → rowBad rs a = false
def NoMeet (rs : List Row) (j k : Nat) : Prop := (List.range k).any (fun a => meetsF (rs.getD a default) (rs.getD j default)) = false
theorem rowBad_range {rs : List Row} {j : Nat} (hj : j < rs.length) : rowBad rs j = (List.range j).any (fun a => meetsF (rs.getD a default) (rs.getD j default)) := by
  unfold rowBad
  rw [← getD_bang rs hj]
  have hm : rs.take j = (List.range j).map (fun a => rs.getD a default) := by
    apply List.ext_getElem
    · simp; omega
    · intro a h1 h2
      simp at h2
      simp [List.getD, show a < rs.length by omega]
  rw [hm, List.any_map]; rfl
theorem noMeet_next {rs : List Row} {j k : Nat} (h : NoMeet rs j k) (hne : meetsF (rs.getD k default) (rs.getD j default) = false) : NoMeet rs j (k + 1) := by
  unfold NoMeet at *
  rw [List.range_succ, List.any_append, h]
  simp only [List.any_cons, List.any_nil, hne, Bool.or_false]
theorem meet_bad {rs : List Row} {j k : Nat} (hj : j < rs.length) (hk : k < j) (h : meetsF (rs.getD k default) (rs.getD j default) = true) : rowBad rs j = true := by
  rw [rowBad_range hj, List.any_eq_true]
  exact ⟨k, List.mem_range.2 hk, h⟩
theorem rowsOk_next {rs : List Row} {j : Nat} (h : RowsOk rs j) (hj : j < rs.length) (hn : NoMeet rs j j) : RowsOk rs (j + 1) := fun a ha => by
  by_cases e : a = j
  · rw [e, rowBad_range hj]; exact hn
  · exact h a (by omega)
theorem rowsErr_at {s : Stk} {j : Nat} (h : RowsOk s.rs j) (hj : j < s.rs.length) (hb : rowBad s.rs j = true) : rowsErr s = (j, 5) := by
  unfold rowsErr
  rw [firstErr_at s.rs.length 0 j hj (fun a ha => by rw [Nat.zero_add, h a ha]; rfl) (by rw [Nat.zero_add, hb]; decide), Nat.zero_add, hb]; rfl
theorem rowsErr_none {s : Stk} (h : RowsOk s.rs s.rs.length) : (rowsErr s).2 = 0 := by
  unfold rowsErr
  rw [firstErr_ok s.rs.length 0 (fun a ha => by rw [Nat.zero_add, h a ha]; rfl)]
def BrkOkN (rs : List Row) (bs : List (Int × Int)) (j : Nat) : Prop := ∀ a, a < j → brkErr rs bs a = 0
theorem bsErr_at {s : Stk} {j : Nat} {e : Int} (h : BrkOkN s.rs s.bs j) (hj : j < s.bs.length) (hb : brkErr s.rs s.bs j = e) (he : e ≠ 0) : bsErr s = (j, e) := by
  unfold bsErr
  rw [firstErr_at s.bs.length 0 j hj (fun a ha => by rw [Nat.zero_add]; exact h a ha) (by rw [Nat.zero_add, hb]; exact he), Nat.zero_add, hb]
theorem bsErr_none {s : Stk} (h : BrkOkN s.rs s.bs s.bs.length) : (bsErr s).2 = 0 := by
  unfold bsErr
  rw [firstErr_ok s.bs.length 0 (fun a ha => by rw [Nat.zero_add]; exact h a ha)]
def NoTwin (bs : List (Int × Int)) (j k : Nat) : Prop := (List.range k).any (fun a => (bs.getD a default).1 == (bs.getD j default).1) = false
theorem noTwin_next {bs : List (Int × Int)} {j k : Nat} (h : NoTwin bs j k) (hne : (bs.getD k default).1 ≠ (bs.getD j default).1) : NoTwin bs j (k + 1) := by
  unfold NoTwin at *
  rw [List.range_succ, List.any_append, h]
  simp only [List.any_cons, List.any_nil, Bool.or_false, Bool.false_or]
  simpa using hne
theorem twin_range {bs : List (Int × Int)} {j : Nat} (hj : j < bs.length) : (bs.take j).any (fun b => b.1 == bs[j]!.1) = (List.range j).any (fun a => (bs.getD a default).1 == (bs.getD j default).1) := by
  rw [← getD_bang bs hj]
  have hm : bs.take j = (List.range j).map (fun a => bs.getD a default) := by
    apply List.ext_getElem
    · simp; omega
    · intro a h1 h2
      simp at h2
      simp [List.getD, show a < bs.length by omega]
  rw [hm, List.any_map]; rfl
theorem twin_hit {bs : List (Int × Int)} {j k : Nat} (hj : j < bs.length) (hk : k < j) (h : (bs.getD k default).1 = (bs.getD j default).1) : (bs.take j).any (fun b => b.1 == bs[j]!.1) = true := by
  rw [twin_range hj, List.any_eq_true]
  exact ⟨k, List.mem_range.2 hk, by rw [h]; exact beq_self_eq_true _⟩
theorem brk_none {rs : List Row} {bs : List (Int × Int)} {j : Nat} (hj : j < bs.length) (h : rowIx rs (bs.getD j default).1 = none) : brkErr rs bs j = 4 := by
  unfold brkErr
  rw [← getD_bang bs hj, h]
theorem brk_some {rs : List Row} {bs : List (Int × Int)} {j k : Nat} (hj : j < bs.length) (h : rowIx rs (bs.getD j default).1 = some k) : brkErr rs bs j = if (bs.take j).any (fun b => b.1 == bs[j]!.1) then 5 else if (bs.getD j default).2 < (rs.getD k default).day then 7 else 0 := by
  have hk := (rowIx_lt h).1
  unfold brkErr
  rw [getD_bang bs hj] at h ⊢
  rw [h, getD_bang rs hk]
theorem prfRef_eq (s : Stk) (ts : List (Int × Int)) {k : Nat} (hl : ts.length = s.rs.length) : refErr s ts s.ps[k]! = prfErr s ts s.ps[k]! := by
  unfold refErr prfErr
  have : ∀ (n i : Nat), i + n ≤ s.ps[k]!.seals.length → firstErr (sealRefF s ts s.ps[k]!) n i = firstErr (sealErr s ts s.ps[k]!) n i := by
    intro n
    induction n with
    | zero => intro i _; rfl
    | succ n ih =>
      intro i hi
      unfold firstErr
      rw [sealRef_eq s ts s.ps[k]! (by omega) hl, ih (i + 1) (by omega)]
  rw [this _ 0 (by omega)]
theorem fold_take {s : Stk} {ts : List (Int × Int)} {O : List Nat} {k : Nat} (hk : k < O.length) : foldT s ts (O.take (k + 1)) = afterF s (foldT s ts (O.take k)) s.ps[cl s.ps O[k]!]! := by
  rw [List.take_succ_eq_append_getElem hk, foldT_snoc, getElem!_pos O k hk]
theorem okF_take {s : Stk} {ts : List (Int × Int)} {O : List Nat} {k : Nat} (hk : k < O.length) (h : okF s ts (O.take k)) (h1 : prfErr s (foldT s ts (O.take k)) s.ps[cl s.ps O[k]!]! = 0) : okF s ts (O.take (k + 1)) := by
  rw [List.take_succ_eq_append_getElem hk]
  refine okF_snoc h ?_
  rwa [getElem!_pos O k hk] at h1
theorem ints_get {l : List Nat} {k : Nat} (hk : k < l.length) : (intsL l).getD k default = ((l[k]! : Nat) : Int) := by
  unfold intsL
  rw [getElem!_pos l k hk]
  simp [List.getD, hk]
set_option maxRecDepth 100000 in
set_option maxHeartbeats 12800000 in
theorem refTerms_any (s : Stk) (v : Value) (w : World) (hs : StkAt w v s) :
    Calls Try.prog 27 #[v] w fun e w' => (∃ lv, e = .returned (.tuple #[lv, .int .i64 ((termsF s).1 : Nat), .int .i64 (termsF s).2.1]) ∧ ((termsF s).2.1 = 0 → TabAt 2 trmC w' lv (termsF s).2.2 ∧ NilOk lv)) ∧ Below w.heap.size w w' := by
  obtain ⟨⟨ti, te, tl⟩, hT⟩ : ∃ x, termsF s = x := ⟨_, rfl⟩
  rw [hT]
  simp only []
  have HT := Lib.hid hT
  clear hT
  obtain ⟨cv, rv, pv, bv, rfl, hc, hr, hp, hb⟩ := hs
  obtain ⟨cs, rs, ps, bs⟩ := s
  simp only [] at hc hr hp hb
  obtain ⟨ca, cc, rfl⟩ := hc.shape
  obtain ⟨ra, rc, rfl⟩ := hr.shape
  obtain ⟨pa, pc, rfl⟩ := hp.shape
  obtain ⟨ba, bc, rfl⟩ := hb.shape
  have m1 : cs.length ≤ 9223372036854775807 := hc.1
  have m2 : rs.length ≤ 9223372036854775807 := hr.1
  have m3 : ps.length ≤ 9223372036854775807 := hp.1
  have m4 : bs.length ≤ 9223372036854775807 := hb.1
  obtain ⟨W0, hW0⟩ : ∃ X, X = w.alloc (.cells #[.slice ca cs.length cc, .slice ra rs.length rc, .slice pa ps.length pc, .slice ba bs.length bc] 27) := ⟨_, rfl⟩
  have hb0 : Below w.heap.size w W0 := by rw [hW0]; exact (Below.refl _ _).alloc (Nat.le_refl _) _
  have hr0 : W0.heap[w.heap.size]? = some (.cells #[.slice ca cs.length cc, .slice ra rs.length rc, .slice pa ps.length pc, .slice ba bs.length bc] 27 (0, 0)) := by rw [hW0]; exact alloc_heap w _
  have hc0 := Lib.hid (hc.below hb0)
  have hq0 := Lib.hid (hr.below hb0)
  have hp0 := Lib.hid (hp.below hb0)
  have hs0 := Lib.hid (hb.below hb0)
  obtain ⟨P, hP⟩ : ∃ P, w.heap.size = P := ⟨_, rfl⟩
  rw [hP] at hr0
  obtain ⟨d0, d1, d2, d3⟩ := four_cells hr0
  have HB := Lib.hid hb0
  have HR0 := Lib.hid hr0
  clear hr0 hb0 hc hr hp hb
  have hz0 : StkAt W0 (.agg #[.slice ca cs.length cc, .slice ra rs.length rc, .slice pa ps.length pc, .slice ba bs.length bc]) ⟨cs, rs, ps, bs⟩ := ⟨_, _, _, _, rfl, hc0.out, hq0.out, hp0.out, hs0.out⟩
  have HZ0 := Lib.hid hz0
  have ks := refStock_any ⟨cs, rs, ps, bs⟩ _ W0 hz0
  obtain ⟨ok, hok⟩ : ∃ b, stkOk ⟨cs, rs, ps, bs⟩ = b := ⟨_, rfl⟩
  rw [hok] at ks
  have KS := Lib.hid ks
  have HOK := Lib.hid hok
  clear hz0 ks hok
  go_enter Try.func27, Try.ntmps27
  go_upto_region 1 with fail
  rw [← hW0]
  clear hW0 hP
  cases ok with
  | false =>
    have ht := HT.out
    rw [terms_bad HOK.out] at ht
    simp only [Prod.mk.injEq] at ht
    obtain ⟨rfl, rfl, rfl⟩ := ht
    go_wp2_with (go_at_call 15; (with_reducible refine KS.out.mono ?_); rintro e w2 ⟨rfl, hb2⟩)
    go_ret3
    exact ⟨⟨_, rfl, fun h => absurd h (by decide)⟩, HB.out.trans (hb2.mono HB.out.size)⟩
  | true =>
    go_upto_region 1 with fail
    go_wp2_with fail
    refine KS.out.mono ?_
    rintro e wk ⟨rfl, hbk⟩
    have HBK := Lib.hid hbk
    clear d0 d1 d2 d3 hbk
    go_wp2
    go_loopw [5] (fun i wr => ∃ j : Nat, j ≤ rs.length ∧ i = .int .i64 j ∧ RowsOk rs j ∧ Below W0.heap.size W0 wr) (fun i _ => rs.length - (intOf i).toNat)
    case atStart => exact ⟨0, by omega, rfl, fun a ha => absurd ha (Nat.not_lt_zero _), HBK.out⟩
    case round =>
      obtain ⟨j, hj, rfl, hro, hbw⟩ := hrel
      have HRO := Lib.hid hro
      have HBW := Lib.hid hbw
      have hS1 := box_step (w0 := w) HR0.out hbw
      obtain ⟨d0, d1, d2, d3⟩ := four_cells hS1
      clear hro hbw
      by_cases hlt : j < rs.length
      · obtain ⟨rb, ro, e1, hrb, hrx⟩ := hq0.out.at (show 0 < rs.length by omega)
        subst e1
        have HRX := Lib.hid hrx
        have ij1 : (j : Int) < (rs.length : Int) := Int.ofNat_lt.2 hlt
        clear hrx
        obtain ⟨wo, hwo⟩ : ∃ wo : World, wo = wr := ⟨_, rfl⟩
        subst hwo
        go_wp2
        clear d0 d1 d2 d3
        go_loopw [6] (fun i wr2 => ∃ k : Nat, k ≤ j ∧ i = .int .i64 k ∧ NoMeet rs j k ∧ Below W0.heap.size W0 wr2) (fun i _ => j - (intOf i).toNat)
        case atStart => exact ⟨0, by omega, rfl, by simp [NoMeet], HBW.out⟩
        case round =>
          obtain ⟨k, hk, rfl, hnm, hbd⟩ := hrel
          have HNM := Lib.hid hnm
          have HBD := Lib.hid hbd
          obtain ⟨d0, d1, d2, d3⟩ := four_cells (box_step (w0 := w) HR0.out hbd)
          by_cases hkj : k < j
          · have u0 := (hbd.cell (p := ⟨rb, ro + k * 4 + 0, none⟩) hrb).trans (HRX.out k (by omega) 0 (by omega))
            have u1 := (hbd.cell (p := ⟨rb, ro + k * 4 + 1, none⟩) hrb).trans (HRX.out k (by omega) 1 (by omega))
            have z0 := (hbd.cell (p := ⟨rb, ro + j * 4 + 0, none⟩) hrb).trans (HRX.out j hlt 0 (by omega))
            have z1 := (hbd.cell (p := ⟨rb, ro + j * 4 + 1, none⟩) hrb).trans (HRX.out j hlt 1 (by omega))
            obtain ⟨⟨a0, a1, a2, a3⟩, ha⟩ : ∃ x : Row, rs.getD k default = x := ⟨_, rfl⟩
            obtain ⟨⟨b0, b1, b2, b3⟩, hb⟩ : ∃ x : Row, rs.getD j default = x := ⟨_, rfl⟩
            rw [ha] at u0 u1
            rw [hb] at z0 z1
            simp only [Nat.add_zero, rowC] at u0 u1 z0 z1
            have hmt : meetsF (rs.getD k default) (rs.getD j default) = (decide (a0 ≤ b1) && decide (b0 ≤ a1)) := by rw [ha, hb]; rfl
            have ik1 : (k : Int) < (rs.length : Int) := by omega
            have ik2 : (k : Int) < (j : Int) := by omega
            clear ha hb hnm hbd
            go_upto_region 9 with fail
            by_cases hm1 : a0 ≤ b1
            · by_cases hm2 : b0 ≤ a1
              · have hre := rowsErr_at (s := ⟨cs, rs, ps, bs⟩) HRO.out hlt (meet_bad hlt hkj (by rw [hmt]; simp [hm1, hm2]))
                have ht := HT.out
                rw [terms_rows HOK.out (by rw [hre]; exact (by decide : (5 : Int) ≠ 0)), hre] at ht
                simp only [Prod.mk.injEq] at ht
                obtain ⟨rfl, rfl, rfl⟩ := ht
                clear hmt hre
                go_quiet (fail)
                go_wp2
                go_ret3
                first | exact ⟨⟨_, rfl, fun h => absurd h (by decide)⟩, HB.out.trans ((below_drewn HBD.out _).mono HB.out.size)⟩ | exact ⟨⟨_, rfl⟩, HB.out.trans ((below_drewn HBD.out _).mono HB.out.size)⟩
              · have HNX := Lib.hid (noMeet_next HNM.out (by rw [hmt]; simp [hm1, hm2]))
                clear hmt
                go_quiet (fail)
                go_wp2
                go_roundw
                case rel => exact ⟨k + 1, by omega, by go_num, HNX.out, below_drewn HBD.out _⟩
                case measure => simp [intOf]; omega
            · have HNX := Lib.hid (noMeet_next HNM.out (by rw [hmt]; simp [hm1]))
              clear hmt
              go_quiet (fail)
              go_wp2
              go_roundw
              case rel => exact ⟨k + 1, by omega, by go_num, HNX.out, below_drewn HBD.out _⟩
              case measure => simp [intOf]; omega
          · have hkj2 : k = j := by omega
            have HNX := Lib.hid (rowsOk_next HRO.out hlt (by have := HNM.out; rwa [hkj2] at this))
            have ik2 : ¬ (k : Int) < (j : Int) := by omega
            clear hkj2 hnm hbd
            go_wp2
            go_roundw
            case rel => exact ⟨j + 1, by omega, by go_num, HNX.out, HBD.out⟩
            case measure => simp [intOf]; omega
      · have hjl : j = rs.length := by omega
        have HRE := Lib.hid (rowsErr_none (s := ⟨cs, rs, ps, bs⟩) (by show RowsOk rs rs.length; rw [← hjl]; exact HRO.out))
        have i1 : ¬ (j : Int) < (rs.length : Int) := by omega
        obtain ⟨wl, hwl⟩ : ∃ wl : World, wl = wr := ⟨_, rfl⟩
        subst hwl
        clear hjl hlt hj
        go_wp2
        clear d0 d1 d2 d3 i1
        go_loopw [7] (fun i wr => ∃ j : Nat, j ≤ bs.length ∧ i = .int .i64 j ∧ BrkOkN rs bs j ∧ Below W0.heap.size W0 wr) (fun i _ => bs.length - (intOf i).toNat)
        case atStart => exact ⟨0, by omega, rfl, fun a ha => absurd ha (Nat.not_lt_zero _), HBW.out⟩
        case round =>
          obtain ⟨j, hj, rfl, hbo, hbw⟩ := hrel
          have HBO := Lib.hid hbo
          have HB2 := Lib.hid hbw
          obtain ⟨d0, d1, d2, d3⟩ := four_cells (box_step (w0 := w) HR0.out hbw)
          clear hbo
          by_cases hlt : j < bs.length
          · obtain ⟨bb, bo, e1, hbb, hbx⟩ := hs0.out.at (show 0 < bs.length by omega)
            subst e1
            have HBX := Lib.hid hbx
            have u0 := (hbw.cell (p := ⟨bb, bo + j * 2 + 0, none⟩) hbb).trans (hbx j hlt 0 (by omega))
            obtain ⟨⟨n, dn⟩, hn⟩ : ∃ x : Int × Int, bs.getD j default = x := ⟨_, rfl⟩
            rw [hn] at u0
            simp only [Nat.add_zero, brkC] at u0
            have HN := Lib.hid hn
            have ij1 : (j : Int) < (bs.length : Int) := Int.ofNat_lt.2 hlt
            have kr := fun (X : World) (hX : Below W0.heap.size W0 X) => refRow_any ⟨cs, rs, ps, bs⟩ n _ X (HZ0.out.below hX)
            have C1 := fun d os => Calls.regrown_of (kr _ (HB2.out.trans ((below_regrown wr d os).mono HB2.out.size)))
            have k0 := cell_regrown d0
            have k1 := cell_regrown d1
            have k2 := cell_regrown d2
            have k3 := cell_regrown d3
            have k4 := cell_regrown u0
            clear hbx hn hbw kr
            go_upto_region 14 with fail
            go_cut [8] (fun r wc => r = .int .i64 (ixI rs n) ∧ Below wr.heap.size wr wc)
            case first =>
              refine wp_region_quiet_below (by kernel_rfl) (by kernel_rfl) ?_
              repeat (go_big_quiet_step (first | with_reducible exact C1 _ _))
              refine wpQuiet_nil ?_
              intro _ hw'
              obtain ⟨⟨dq, osq⟩, hw''⟩ := hw'
              subst hw''
              go_wp2
              go_meet
              case rel => exact ⟨rfl, below_regrown wr dq osq⟩
            case rest =>
              obtain ⟨rfl, hbc⟩ := hcut
              have HB3 := Lib.hid (HB2.out.trans (hbc.mono HB2.out.size))
              clear hbc d0 d1 d2 d3 u0 k0 k1 k2 k3 k4 C1
              cases hk : rowIx rs n with
              | none =>
                have hix : ixI rs n = -1 := by unfold ixI; rw [hk]
                have hbe := bsErr_at (s := ⟨cs, rs, ps, bs⟩) HBO.out hlt (brk_none hlt (by rw [HN.out]; exact hk)) (by decide)
                have ht := HT.out
                rw [terms_bs HOK.out HRE.out (by rw [hbe]; intro h; cases h), hbe] at ht
                simp only [Prod.mk.injEq] at ht
                obtain ⟨rfl, rfl, rfl⟩ := ht
                rw [hix]
                clear hix hbe hk
                go_wp2
                go_ret3
                exact ⟨⟨_, rfl, fun h => absurd h (by decide)⟩, HB.out.trans (HB3.out.mono HB.out.size)⟩
              | some k =>
                have hix : ixI rs n = (k : Int) := by unfold ixI; rw [hk]
                have hkl := (rowIx_lt hk).1
                have hbs := brk_some hlt (by rw [HN.out]; exact hk)
                rw [HN.out] at hbs
                simp only [] at hbs
                have HBS := Lib.hid hbs
                obtain ⟨⟨r0, r1, r2, r3⟩, hr⟩ : ∃ x : Row, rs.getD k default = x := ⟨_, rfl⟩
                obtain ⟨rb, ro, e1, hrb, hrx⟩ := hq0.out.at (show 0 < rs.length by omega)
                subst e1
                have g3 := hrx k hkl 3 (by omega)
                rw [hr] at g3
                simp only [rowC] at g3
                have HG3 := Lib.hid g3
                have HRR := Lib.hid hr
                have i1 : (k : Int) < (rs.length : Int) := Int.ofNat_lt.2 hkl
                have i2 : ¬ (k : Int) < 0 := by omega
                rw [hix]
                clear hix hk hbs hr hrx g3
                obtain ⟨wo, hwo⟩ : ∃ wo : World, wo = wc := ⟨_, rfl⟩
                subst hwo
                go_wp2
                go_loopw [9] (fun i wr2 => ∃ b : Nat, b ≤ j ∧ i = .int .i64 b ∧ NoTwin bs j b ∧ Below W0.heap.size W0 wr2) (fun i _ => j - (intOf i).toNat)
                case atStart => exact ⟨0, by omega, rfl, by simp [NoTwin], HB3.out⟩
                case round =>
                  obtain ⟨b, hb, rfl, hnt, hbd⟩ := hrel
                  have HNT := Lib.hid hnt
                  have HBD := Lib.hid hbd
                  obtain ⟨d0, d1, d2, d3⟩ := four_cells (box_step (w0 := w) HR0.out hbd)
                  have u0 := (hbd.cell (p := ⟨bb, bo + j * 2 + 0, none⟩) hbb).trans (HBX.out j hlt 0 (by omega))
                  have u1 := (hbd.cell (p := ⟨bb, bo + j * 2 + 1, none⟩) hbb).trans (HBX.out j hlt 1 (by omega))
                  rw [HN.out] at u0 u1
                  simp only [Nat.add_zero, brkC] at u0 u1
                  by_cases hbj : b < j
                  · have v0 := (hbd.cell (p := ⟨bb, bo + b * 2 + 0, none⟩) hbb).trans (HBX.out b (by omega) 0 (by omega))
                    obtain ⟨⟨m, dm⟩, hm⟩ : ∃ m : Int × Int, bs.getD b default = m := ⟨_, rfl⟩
                    rw [hm] at v0
                    simp only [Nat.add_zero, brkC] at v0
                    have ib1 : (b : Int) < (j : Int) := by omega
                    have ib2 : (b : Int) < (bs.length : Int) := by omega
                    by_cases hmn : m = n
                    · have hbe := bsErr_at (s := ⟨cs, rs, ps, bs⟩) (e := 5) HBO.out hlt (by rw [HBS.out, if_pos (twin_hit hlt hbj (by rw [hm, HN.out]; exact hmn))]) (by decide)
                      have ht := HT.out
                      rw [terms_bs HOK.out HRE.out (by rw [hbe]; intro h; cases h), hbe] at ht
                      simp only [Prod.mk.injEq] at ht
                      obtain ⟨rfl, rfl, rfl⟩ := ht
                      have i4 : (m == n) = true := by rw [hmn]; exact beq_self_eq_true _
                      clear hm hbe hnt hbd
                      go_upto_region 20 with fail
                      go_quiet (fail)
                      go_wp2
                      go_ret3
                      first | exact ⟨⟨_, rfl, fun h => absurd h (by decide)⟩, HB.out.trans ((below_drewn HBD.out _).mono HB.out.size)⟩ | exact ⟨⟨_, rfl⟩, HB.out.trans ((below_drewn HBD.out _).mono HB.out.size)⟩
                    · have HNX := Lib.hid (noTwin_next HNT.out (by rw [hm, HN.out]; exact hmn))
                      have i4 : (m == n) = false := by simpa using hmn
                      clear hm hnt hbd
                      go_upto_region 20 with fail
                      go_quiet (fail)
                      go_wp2
                      go_roundw
                      case rel => exact ⟨b + 1, by omega, by go_num, HNX.out, below_drewn HBD.out _⟩
                      case measure => simp [intOf]; omega
                  · have hbj2 : b = j := by omega
                    have ib1 : ¬ (b : Int) < (j : Int) := by omega
                    have g3 := (HBD.out.cell (p := ⟨rb, ro + k * 4 + 3, none⟩) hrb).trans HG3.out
                    have hbs := HBS.out
                    rw [twin_range hlt, show (List.range j).any (fun a => (bs.getD a default).1 == (bs.getD j default).1) = false by have := HNT.out; rwa [hbj2] at this, HRR.out] at hbs
                    simp only [Bool.false_eq_true, if_false] at hbs
                    clear hbj2 hnt hbd
                    by_cases hdr : dn < r3
                    · rw [if_pos hdr] at hbs
                      have hbe := bsErr_at (s := ⟨cs, rs, ps, bs⟩) HBO.out hlt hbs (by decide)
                      have ht := HT.out
                      rw [terms_bs HOK.out HRE.out (by rw [hbe]; intro h; cases h), hbe] at ht
                      simp only [Prod.mk.injEq] at ht
                      obtain ⟨rfl, rfl, rfl⟩ := ht
                      clear hbe hbs
                      go_upto_region 22 with fail
                      go_quiet (fail)
                      go_wp2
                      go_ret3
                      first | exact ⟨⟨_, rfl, fun h => absurd h (by decide)⟩, HB.out.trans ((below_drewn HBD.out _).mono HB.out.size)⟩ | exact ⟨⟨_, rfl⟩, HB.out.trans ((below_drewn HBD.out _).mono HB.out.size)⟩
                    · rw [if_neg hdr] at hbs
                      have HNX := Lib.hid (show BrkOkN rs bs (j + 1) from fun a ha => by
                        by_cases e : a = j
                        · rw [e]; exact hbs
                        · exact HBO.out a (by omega))
                      clear hbs
                      go_upto_region 22 with fail
                      go_quiet (fail)
                      go_wp2
                      go_roundw
                      case rel => exact ⟨j + 1, by omega, by go_num, HNX.out, below_drewn HBD.out _⟩
                      case measure => simp [intOf]; omega
          · have hjl : j = bs.length := by omega
            have hbe := bsErr_none (s := ⟨cs, rs, ps, bs⟩) (by show BrkOkN rs bs bs.length; rw [← hjl]; exact HBO.out)
            have ht := HT.out
            rw [terms_ps HOK.out HRE.out hbe] at ht
            have i1 : ¬ (j : Int) < (bs.length : Int) := by omega
            have hfew := stk_few HOK.out
            simp only [] at hfew
            have kb := begin_any ⟨cs, rs, ps, bs⟩ _ wr (HZ0.out.below hbw) HOK.out
            have ko := fun (X : World) (hX : Below W0.heap.size W0 X) => order_any ⟨cs, rs, ps, bs⟩ _ X (HZ0.out.below hX) hfew.2.2.1
            have htb := tsOk_begin HOK.out
            have hol := orderF_len ps ps.length
            have hom := orderF_lt ps ps.length
            unfold prfR at ht
            simp only [] at ht ko
            obtain ⟨O, hO⟩ : ∃ O, orderF ps ps.length = O := ⟨_, rfl⟩
            obtain ⟨B0, hB0⟩ : ∃ O, beginF ⟨cs, rs, ps, bs⟩ = O := ⟨_, rfl⟩
            rw [hO] at ht hol hom
            rw [hB0] at ht kb htb
            simp only [hO] at ko
            have HTR := Lib.hid ht
            have KB := Lib.hid kb
            have KO := Lib.hid ko
            have HTB := Lib.hid htb
            have HOL := Lib.hid hol
            have HOM := Lib.hid hom
            have HFW := Lib.hid hfew
            clear ht kb ko htb hol hom hfew hO hB0 hjl hlt hj hbe hbw
            go_wp2_with fail
            refine KB.out.mono ?_
            rintro e wb ⟨⟨lv0, rfl, hl0, hn0⟩, hbb⟩
            have HBB := Lib.hid (HB2.out.trans (hbb.mono HB2.out.size))
            obtain ⟨d0, d1, d2, d3⟩ := four_cells (box_step (w0 := w) HR0.out HBB.out)
            have HL0 := Lib.hid hl0
            have HN0 := Lib.hid hn0
            clear hbb hl0 hn0
            go_wp2_with fail
            refine (KO.out _ HBB.out).mono ?_
            rintro e wq ⟨⟨ov, rfl, hov⟩, hbq⟩
            have HBQ := Lib.hid (HBB.out.trans (hbq.mono HBB.out.size))
            have HL1 := Lib.hid (HL0.out.below hbq)
            obtain ⟨oa, oc, rfl⟩ := hov.shape
            have hil : (intsL O).length = O.length := by unfold intsL; simp
            rw [hil] at hov ⊢
            have HOV := Lib.hid hov
            clear hov hbq d0 d1 d2 d3 KB KO
            have ml : O.length ≤ 9223372036854775807 := by rw [HOL.out]; exact m3
            go_wp2
            go_loopw [10, 12] (fun lv i wr => ∃ k : Nat, k ≤ O.length ∧ i = .int .i64 k ∧ TabAt 2 trmC wr lv (foldT ⟨cs, rs, ps, bs⟩ B0 (O.take k)) ∧ NilOk lv ∧ okF ⟨cs, rs, ps, bs⟩ B0 (O.take k) ∧ Below wq.heap.size wq wr) (fun _ i _ => O.length - (intOf i).toNat)
            case atStart => exact ⟨0, by omega, rfl, HL1.out, HN0.out, okF_nil _ _, Below.refl _ _⟩
            case round =>
              obtain ⟨k, hk, rfl, hlt2, hnl, hokf, hbx⟩ := hrel
              have HLT := Lib.hid hlt2
              have HNL := Lib.hid hnl
              have HOKF := Lib.hid hokf
              have HBX := Lib.hid hbx
              have HB4 := Lib.hid (HBQ.out.trans (hbx.mono HBQ.out.size))
              obtain ⟨d0, d1, d2, d3⟩ := four_cells (box_step (w0 := w) HR0.out HB4.out)
              clear hlt2 hnl hokf
              by_cases hko : k < O.length
              · have hxm := HOM.out O[k]! (by rw [getElem!_pos O k hko]; exact List.getElem_mem hko)
                obtain ⟨ob, oo, e1, hob, hox⟩ := HOV.out.at (by rw [hil]; omega)
                subst e1
                have o0 := (hbx.cell (p := ⟨ob, oo + k * 1 + 0, none⟩) hob).trans (hox k (by rw [hil]; exact hko) 0 (by omega))
                rw [ints_get hko] at o0
                simp only [Nat.mul_one, Nat.add_zero, numC] at o0
                have hcl := cl_same hxm
                have hft := fold_take (s := ⟨cs, rs, ps, bs⟩) (ts := B0) hko
                have hot := okF_take (s := ⟨cs, rs, ps, bs⟩) (ts := B0) hko HOKF.out
                have hrs := run_stop (s := ⟨cs, rs, ps, bs⟩) (O.take k) O[k]! (O.drop (k + 1)) B0 (by rw [getElem!_pos O k hko, ← List.drop_eq_getElem_cons hko, List.take_append_drop]; exact HOM.out) HOKF.out
                rw [getElem!_pos O k hko, ← List.drop_eq_getElem_cons hko, List.take_append_drop, ← getElem!_pos O k hko, HTR.out] at hrs
                have htk := tsOk_fold HOK.out (show 0 < ps.length by omega) (O.take k) B0 HTB.out
                obtain ⟨x, hx⟩ : ∃ x, O[k]! = x := ⟨_, rfl⟩
                rw [hx] at o0 hft hot hrs hxm hcl
                simp only [hcl] at hft hot hrs
                obtain ⟨TS, hTS⟩ : ∃ T, foldT ⟨cs, rs, ps, bs⟩ B0 (O.take k) = T := ⟨_, rfl⟩
                have hlt3 := HLT.out
                rw [hTS] at hft hot hrs htk hlt3
                have hpg := prfOk_of HOK.out (show x < ps.length from hxm)
                obtain ⟨c, hpc, hc, hd0', hd1', hf0, hf1, _⟩ := hpg
                have hre := prfRef_eq ⟨cs, rs, ps, bs⟩ TS (k := x) htk.1
                simp only [] at hpc hc hd0' hd1' hf0 hf1 hre hot hrs hft
                obtain ⟨pb, po, e1, hpb, hpx⟩ := hp0.out.at (show 0 < ps.length by omega)
                subst e1
                obtain ⟨sv, p0, p1, p2, p3, p4⟩ := hpx x hxm
                rw [getD_bang ps hxm] at p0 p1 p3 p4
                try rw [getD_bang ps hxm] at p2
                have hpc1 := fun (o : Nat) (v : Value) (h : W0.cell? ⟨pb, po + x * 4 + o, none⟩ = some v) => (HB4.out.cell (p := ⟨pb, po + x * 4 + o, none⟩) hpb).trans h
                replace p0 := hpc1 0 _ p0
                replace p1 := hpc1 1 _ p1
                replace p2 := hpc1 2 _ p2
                replace p3 := hpc1 3 _ p3
                have hsv := p4.below HB4.out
                obtain ⟨⟨y0, y1, y2, y3⟩, hy⟩ : ∃ p : Prf, ps[x]! = p := ⟨_, rfl⟩
                rw [hy] at p0 p1 p3 hpc hd0' hd1' hf0 hf1 hsv hre hot hrs hft
                simp only [Nat.add_zero] at p0 p1 p2 p3 hpc hd0' hd1' hf0 hf1 hsv
                have ik1 : (k : Int) < (O.length : Int) := Int.ofNat_lt.2 hko
                have ix1 : (x : Int) < (ps.length : Int) := Int.ofNat_lt.2 hxm
                have HFT := Lib.hid hft
                have HOT := Lib.hid hot
                have HRS := Lib.hid hrs
                have HRE2 := Lib.hid hre
                have HSV := Lib.hid hsv
                have HPB := Lib.hid (And.intro hpc (And.intro hc (And.intro hd0' (And.intro hd1' (And.intro hf0 hf1)))))
                have HTK := Lib.hid htk
                have HLT3 := Lib.hid hlt3
                obtain ⟨ya, yc, rfl⟩ := hsv.shape
                have my : y2.length ≤ 9223372036854775807 := hsv.1
                clear hpx hox hcl hpc1 p4 hft hot hrs hre hsv hpc hc hd0' hd1' hf0 hf1 htk hlt3 hy HLT hTS hx
                have hbp := box_step (w0 := w) HR0.out HB4.out
                have HBP := Lib.hid hbp
                go_upto_region 29 with fail
                clear d0 d1 d2 d3
                refine wp_region_held_drew (S := fun w' => w'.heap[P]? = some (.cells #[.slice ca cs.length cc, .slice ra rs.length rc, .slice (some ⟨pb, po, none⟩) ps.length pc, .slice ba bs.length bc] 27 (0, 0)) ∧ w'.cell? ⟨ob, oo + k, none⟩ = some (.int .i64 (x : Int)) ∧ w'.cell? ⟨pb, po + x * 4, none⟩ = some (.int .i64 y0) ∧ w'.cell? ⟨pb, po + x * 4 + 1, none⟩ = some (.int .i64 y1) ∧ w'.cell? ⟨pb, po + x * 4 + 2, none⟩ = some (.slice ya y2.length yc) ∧ w'.cell? ⟨pb, po + x * 4 + 3, none⟩ = some (.int .i64 y3)) (by kernel_rfl) ⟨hbp, o0, p0, p1, p2, p3⟩ (fun hHeld => ?_)
                obtain ⟨Y0, hY0⟩ : ∃ X, X = wr.drew := ⟨_, rfl⟩
                have hbY : Below wr.heap.size wr Y0 := by rw [hY0]; exact (Below.refl _ _).drew
                rw [← hY0] at hHeld ⊢
                have hH := Lib.hid hHeld
                clear hY0 hHeld hbp o0 p0 p1 p2 p3
                refine wpAnyH_take (i := 0) (oi := _) (v := ?_) rfl (by kernel_rfl) (by kernel_rfl) (by kernel_rfl) (fun _ _ _ h => h) (Or.inl ⟨by rfl, ?_⟩) hH.out ?_
                rotate_left
                · intro w1 hSw
                  obtain ⟨s1, e2, e3, e4, e5, e6⟩ := hSw
                  obtain ⟨d0, d1, d2, d3⟩ := four_cells s1
                  clear s1
                  go_simp; with_reducible rfl
                simp only [List.getElem_toArray, List.getElem_cons_succ, List.getElem_cons_zero, Act.put, List.setIfInBounds_toArray, List.set_cons_zero, List.set_cons_succ]
                refine wpAnyH_take (i := 1) (oi := _) (v := ?_) rfl (by kernel_rfl) (by kernel_rfl) (by kernel_rfl) (fun _ _ _ h => h) (Or.inl ⟨by rfl, ?_⟩) hH.out ?_
                rotate_left
                · intro w1 hSw
                  obtain ⟨s1, e2, e3, e4, e5, e6⟩ := hSw
                  obtain ⟨d0, d1, d2, d3⟩ := four_cells s1
                  clear s1
                  go_simp; with_reducible rfl
                simp only [List.getElem_toArray, List.getElem_cons_succ, List.getElem_cons_zero, Act.put, List.setIfInBounds_toArray, List.set_cons_zero, List.set_cons_succ]
                refine wpAnyH_take (i := 2) (oi := _) (v := ?_) rfl (by kernel_rfl) (by kernel_rfl) (by kernel_rfl) (fun _ _ _ h => h) (Or.inl ⟨by rfl, ?_⟩) hH.out ?_
                rotate_left
                · intro w1 hSw
                  obtain ⟨s1, e2, e3, e4, e5, e6⟩ := hSw
                  obtain ⟨d0, d1, d2, d3⟩ := four_cells s1
                  clear s1
                  go_simp; with_reducible rfl
                simp only [List.getElem_toArray, List.getElem_cons_succ, List.getElem_cons_zero, Act.put, List.setIfInBounds_toArray, List.set_cons_zero, List.set_cons_succ]
                refine wpAnyH_take (i := 3) (oi := _) (v := ?_) rfl (by kernel_rfl) (by kernel_rfl) (by kernel_rfl) (fun _ _ _ h => h) (Or.inl ⟨by rfl, ?_⟩) hH.out ?_
                rotate_left
                · intro w1 hSw
                  obtain ⟨s1, e2, e3, e4, e5, e6⟩ := hSw
                  obtain ⟨d0, d1, d2, d3⟩ := four_cells s1
                  clear s1
                  go_simp; with_reducible rfl
                simp only [List.getElem_toArray, List.getElem_cons_succ, List.getElem_cons_zero, Act.put, List.setIfInBounds_toArray, List.set_cons_zero, List.set_cons_succ]
                refine wpAnyH_take (i := 4) (oi := _) (v := ?_) rfl (by kernel_rfl) (by kernel_rfl) (by kernel_rfl) (fun _ _ _ h => h) (Or.inl ⟨by rfl, ?_⟩) hH.out ?_
                rotate_left
                · intro w1 hSw
                  obtain ⟨s1, e2, e3, e4, e5, e6⟩ := hSw
                  obtain ⟨d0, d1, d2, d3⟩ := four_cells s1
                  clear s1
                  go_simp; with_reducible rfl
                simp only [List.getElem_toArray, List.getElem_cons_succ, List.getElem_cons_zero, Act.put, List.setIfInBounds_toArray, List.set_cons_zero, List.set_cons_succ]
                refine wpAnyH_take (i := 5) (oi := _) (v := ?_) rfl (by kernel_rfl) (by kernel_rfl) (by kernel_rfl) (fun _ _ _ h => h) (Or.inl ⟨by rfl, ?_⟩) hH.out ?_
                rotate_left
                · intro w1 hSw
                  obtain ⟨s1, e2, e3, e4, e5, e6⟩ := hSw
                  obtain ⟨d0, d1, d2, d3⟩ := four_cells s1
                  clear s1
                  go_simp; with_reducible rfl
                simp only [List.getElem_toArray, List.getElem_cons_succ, List.getElem_cons_zero, Act.put, List.setIfInBounds_toArray, List.set_cons_zero, List.set_cons_succ]
                refine wpAnyH_take (i := 6) (oi := _) (v := ?_) rfl (by kernel_rfl) (by kernel_rfl) (by kernel_rfl) (fun _ _ _ h => h) (Or.inl ⟨by rfl, ?_⟩) hH.out ?_
                rotate_left
                · intro w1 hSw
                  obtain ⟨s1, e2, e3, e4, e5, e6⟩ := hSw
                  obtain ⟨d0, d1, d2, d3⟩ := four_cells s1
                  clear s1
                  go_simp; with_reducible rfl
                simp only [List.getElem_toArray, List.getElem_cons_succ, List.getElem_cons_zero, Act.put, List.setIfInBounds_toArray, List.set_cons_zero, List.set_cons_succ]
                refine wpAnyH_take (i := 7) (oi := _) (v := ?_) rfl (by kernel_rfl) (by kernel_rfl) (by kernel_rfl) (fun _ _ _ h => h) (Or.inl ⟨by rfl, ?_⟩) hH.out ?_
                rotate_left
                · intro w1 hSw
                  obtain ⟨s1, e2, e3, e4, e5, e6⟩ := hSw
                  obtain ⟨d0, d1, d2, d3⟩ := four_cells s1
                  clear s1
                  go_simp; with_reducible rfl
                simp only [List.getElem_toArray, List.getElem_cons_succ, List.getElem_cons_zero, Act.put, List.setIfInBounds_toArray, List.set_cons_zero, List.set_cons_succ]
                refine wpAnyH_all (rs := [8]) (by kernel_rfl) (by simp) ?_
                intro i hi; obtain rfl := List.mem_singleton.1 hi; clear hi
                refine wpOp_step rfl (fun K3 hK3 => ?_)
                have HK3 := Lib.hid hK3
                clear hK3
                rw [if_pos (by rfl)]
                go_simp
                have hYs : wr.heap.size ≤ Y0.heap.size := hbY.size
                have hws : W0.heap.size ≤ wr.heap.size := HB4.out.size
                have hwq : wq.heap.size ≤ wr.heap.size := HBX.out.size
                have hpw : P < W0.heap.size := (Array.getElem?_eq_some_iff.1 HR0.out).1
                have hAll : ∀ o : Obj, (Y0.alloc o).heap[P]? = some (.cells #[.slice ca cs.length cc, .slice ra rs.length rc, .slice (some ⟨pb, po, none⟩) ps.length pc, .slice ba bs.length bc] 27 (0, 0)) ∧ (Y0.alloc o).cell? ⟨ob, oo + k, none⟩ = some (.int .i64 (x : Int)) ∧ (Y0.alloc o).cell? ⟨pb, po + x * 4, none⟩ = some (.int .i64 y0) ∧ (Y0.alloc o).cell? ⟨pb, po + x * 4 + 1, none⟩ = some (.int .i64 y1) ∧ (Y0.alloc o).cell? ⟨pb, po + x * 4 + 2, none⟩ = some (.slice ya y2.length yc) ∧ (Y0.alloc o).cell? ⟨pb, po + x * 4 + 3, none⟩ = some (.int .i64 y3) := fun o => by
                  have hXY : Below Y0.heap.size Y0 (Y0.alloc o) := (Below.refl _ _).alloc (Nat.le_refl _) _
                  exact And.intro ((hXY.block P (by omega)).trans hH.out.1) (And.intro ((hXY.cell (p := ⟨ob, oo + k, none⟩) (by simp; omega)).trans hH.out.2.1) (And.intro ((hXY.cell (p := ⟨pb, po + x * 4, none⟩) (by simp; omega)).trans hH.out.2.2.1) (And.intro ((hXY.cell (p := ⟨pb, po + x * 4 + 1, none⟩) (by simp; omega)).trans hH.out.2.2.2.1) (And.intro ((hXY.cell (p := ⟨pb, po + x * 4 + 2, none⟩) (by simp; omega)).trans hH.out.2.2.2.2.1) ((hXY.cell (p := ⟨pb, po + x * 4 + 3, none⟩) (by simp; omega)).trans hH.out.2.2.2.2.2)))))
                have HAL := Lib.hid hAll
                clear hAll
                refine HK3.out _ _ ⟨HAL.out _, ?_⟩
                clear HK3 K3
                try simp only [List.getElem_toArray, List.getElem_cons_succ, List.getElem_cons_zero, Act.put, List.setIfInBounds_toArray, List.set_cons_zero, List.set_cons_succ]
                refine wpAnyH_all (rs := [9]) (by kernel_rfl) (by simp) ?_
                intro i hi; obtain rfl := List.mem_singleton.1 hi; clear hi
                refine wpOp_step rfl (fun K3 hK3 => ?_)
                have HK3 := Lib.hid hK3
                clear hK3
                rw [if_pos (by rfl)]
                go_simp
                refine HK3.out _ _ ⟨HAL.out _, ?_⟩
                clear HK3 K3
                try simp only [List.getElem_toArray, List.getElem_cons_succ, List.getElem_cons_zero, Act.put, List.setIfInBounds_toArray, List.set_cons_zero, List.set_cons_succ]
                have hs9 := HAL.out (.cells #[.int .i64 y0, .int .i64 y1, .slice ya y2.length yc, .int .i64 y3] 52)
                obtain ⟨Y2, hY2⟩ : ∃ X, X = Y0.alloc (.cells #[.int .i64 y0, .int .i64 y1, .slice ya y2.length yc, .int .i64 y3] 52) := ⟨_, rfl⟩
                have hq : Y2.heap[Y0.heap.size]? = some (.cells #[.int .i64 y0, .int .i64 y1, .slice ya y2.length yc, .int .i64 y3] 52 (0, 0)) := by rw [hY2]; exact alloc_heap Y0 _
                have hbY2 : Below wr.heap.size wr Y2 := by rw [hY2]; exact hbY.alloc hYs _
                rw [← hY2] at hs9 ⊢
                obtain ⟨q, hqq⟩ : ∃ q, Y0.heap.size = q := ⟨_, rfl⟩
                rw [hqq] at hq hYs ⊢
                have HBY := Lib.hid (HBX.out.trans (hbY2.mono HBX.out.size))
                have HBW3 := Lib.hid (HB4.out.trans (hbY2.mono HB4.out.size))
                have HQ := Lib.hid hq
                have HS9 := Lib.hid hs9
                have HSV2 := Lib.hid (HSV.out.below hbY2)
                have HLV2 := Lib.hid (HLT3.out.below hbY2)
                clear hH HAL hY2 hqq hq hbY hbY2 hs9 hws hwq hpw hYs
                refine wpAnyH_done (by kernel_rfl) ?_ _
                have hpr := proof_any ⟨cs, rs, ps, bs⟩ TS ⟨y0, y1, y2, y3⟩ _ _ (.slice ya y2.length yc) Y2 (HZ0.out.below HBW3.out) HLV2.out HSV2.out HTK.out.1
                rw [HRE2.out] at hpr
                obtain ⟨pe, hpe⟩ : ∃ e, prfErr ⟨cs, rs, ps, bs⟩ TS ⟨y0, y1, y2, y3⟩ = e := ⟨_, rfl⟩
                have hrs := HRS.out
                have hot := HOT.out
                rw [hpe] at hpr hrs hot
                have HPR := Lib.hid hpr
                have HRS2 := Lib.hid hrs
                have HOT2 := Lib.hid hot
                obtain ⟨d0, d1, d2, d3⟩ := four_cells HS9.out.1
                obtain ⟨q0, q1, q2, q3⟩ := four_cells HQ.out
                clear hpr hrs hot hpe HRS HOT HRE2
                go_wp2_with fail
                refine HPR.out.mono ?_
                rintro e w6 ⟨rfl, hb6⟩
                have o6 := (hb6.cell (p := ⟨ob, oo + k, none⟩) (World.block_lt_of_cell? _ _ HS9.out.2.1)).trans HS9.out.2.1
                have HB6 := Lib.hid (HBW3.out.trans (hb6.mono HBW3.out.size))
                have HB6X := Lib.hid (HBY.out.trans (hb6.mono HBY.out.size))
                have HQ6 := Lib.hid (box_step (w0 := w) HQ.out hb6)
                have HSV6 := Lib.hid (HSV2.out.below hb6)
                have HLV6 := Lib.hid (HLV2.out.below hb6)
                clear d0 d1 d2 d3 q0 q1 q2 q3 hb6
                obtain ⟨d0, d1, d2, d3⟩ := four_cells (box_step (w0 := w) HR0.out HB6.out)
                obtain ⟨q0, q1, q2, q3⟩ := four_cells HQ6.out
                by_cases hpe : pe = 0
                · subst hpe
                  obtain ⟨hpc, hc, p1', p2', p3', p4'⟩ := HPB.out
                  have ka := after_any ⟨cs, rs, ps, bs⟩ TS ⟨y0, y1, y2, y3⟩ _ _ (.slice ya y2.length yc) w6 (HZ0.out.below HB6.out) HLV6.out HNL.out HSV6.out HOK.out HTK.out c hpc hc p1' p2' p3' p4'
                  rw [← HFT.out] at ka
                  have KA := Lib.hid ka
                  have HNX := Lib.hid (HOT2.out rfl)
                  clear ka hpc hc p1' p2' p3' p4' o6
                  go_wp2_with fail
                  refine KA.out.mono ?_
                  rintro e w7 ⟨⟨lv7, rfl, hl7, hn7⟩, hb7⟩
                  have HL7 := Lib.hid hl7
                  have HN7 := Lib.hid hn7
                  have HB7 := Lib.hid (HB6X.out.trans (hb7.mono HB6X.out.size))
                  clear hl7 hn7 hb7 d0 d1 d2 d3 q0 q1 q2 q3
                  go_wp2
                  go_roundw
                  case rel => exact ⟨k + 1, by omega, by go_num, HL7.out, HN7.out, HNX.out, HB7.out⟩
                  case measure => simp [intOf]; omega
                · have hr := HRS2.out hpe
                  simp only [Prod.mk.injEq] at hr
                  obtain ⟨hr1, hr2, hr3⟩ := hr
                  have HR1' := Lib.hid hr1
                  have HR2' := Lib.hid hr2
                  have HPE := Lib.hid hpe
                  have i9 : (pe != 0) = true := bne_iff_ne.2 hpe
                  clear hr1 hr2 hr3 hpe
                  go_upto_region 32 with fail
                  go_quiet (fail)
                  go_wp2
                  go_ret3
                  exact ⟨⟨_, by rw [HR1'.out, HR2'.out]; rfl, fun h => absurd (HR2'.out.symm.trans h) HPE.out⟩, HB.out.trans ((below_drewn HB6.out _).mono HB.out.size)⟩
              · have hkl : k = O.length := by omega
                have i1 : ¬ (k : Int) < (O.length : Int) := by omega
                have hr := run_ok (s := ⟨cs, rs, ps, bs⟩) O B0 HOM.out (by have := HOKF.out; rwa [hkl, List.take_length] at this)
                rw [HTR.out] at hr
                simp only [Prod.mk.injEq] at hr
                obtain ⟨rfl, rfl, rfl⟩ := hr
                have hl := HLT.out
                rw [hkl, List.take_length] at hl
                have HL2 := Lib.hid hl
                clear hl hkl hko hk hbx
                go_wp2
                go_ret3
                exact ⟨⟨_, rfl, HL2.out, HNL.out⟩, HB.out.trans (HB4.out.mono HB.out.size)⟩
end Go.Proofs.Ytcmfplfnpjknlaa
