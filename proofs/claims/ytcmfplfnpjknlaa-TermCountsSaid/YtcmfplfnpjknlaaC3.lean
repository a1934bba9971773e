/- Term: the reference's proof. -/
import Derived.Test.YtcmfplfnpjknlaaC1
import Derived.Lib.QuietBelow
namespace Go.Proofs.Ytcmfplfnpjknlaa
set_option linter.unusedSimpArgs false
set_option linter.unusedVariables false
open Go.RowKit

/-- what is wrong with a seal of a proof, as the reference asks it -/
def sealRefF (s : Stk) (ts : List (Int × Int)) (p : Prf) (i : Nat) : Int :=
  match rowIx s.rs (p.seals.getD i default) with
  | none => 4
  | some k => if (s.rs.getD k default).cls ≠ p.cls then 11 else if (List.range i).any (fun j => p.seals.getD j default == p.seals.getD i default) then 5
    else if !(decide ((s.rs.getD k default).day ≤ p.day) && decide (p.day < (ts.getD k default).1)) || brkBy s.bs (p.seals.getD i default) p.day then 6 else 0
theorem sealRef_eq (s : Stk) (ts : List (Int × Int)) (p : Prf) {i : Nat} (hi : i < p.seals.length) (hl : ts.length = s.rs.length) : sealRefF s ts p i = sealErr s ts p i := by
  have e1 : p.seals.getD i default = p.seals[i]! := by rw [getElem!_pos p.seals i hi, List.getD, List.getElem?_eq_getElem hi]; rfl
  unfold sealRefF sealErr
  rw [e1]
  cases hk : rowIx s.rs p.seals[i]! with
  | none => rfl
  | some k =>
    have hkl := (rowIx_lt hk).1
    have hkt : k < ts.length := by omega
    have e2 : s.rs.getD k default = s.rs[k]! := by rw [getElem!_pos s.rs k hkl, List.getD, List.getElem?_eq_getElem hkl]; rfl
    have e3 : ts.getD k default = ts[k]! := by rw [getElem!_pos ts k hkt, List.getD, List.getElem?_eq_getElem hkt]; rfl
    have e4 : (List.range i).any (fun j => p.seals.getD j default == p.seals[i]!) = (p.seals.take i).contains p.seals[i]! := by
      rw [List.contains_eq_any_beq]
      have hm : p.seals.take i = (List.range i).map (fun j => p.seals.getD j default) := by
        apply List.ext_getElem
        · simp; omega
        · intro a h1 h2
          simp at h2
          simp [List.getD, show a < p.seals.length by omega]
      rw [hm, List.any_map]
      congr 1
      funext j
      show (p.seals.getD j default == p.seals[i]!) = (p.seals[i]! == p.seals.getD j default)
      rw [Bool.eq_iff_iff]
      simp only [beq_iff_eq]
      exact eq_comm
    simp only []
    rw [e2, e3, e4]
    split
    · rfl
    · split
      · rfl
      · have e5 : (!(decide (s.rs[k]!.day ≤ p.day) && decide (p.day < ts[k]!.1)) || brkBy s.bs p.seals[i]! p.day) = true ↔ sealStands s.bs s.rs[k]! ts[k]!.1 p.seals[i]! p.day ≠ 1 := by
          unfold sealStands standsF
          cases brkBy s.bs p.seals[i]! p.day with
          | true => simp
          | false =>
            simp only [Bool.or_false, Bool.false_eq_true, if_false, Bool.not_eq_true', Bool.and_eq_false_iff, decide_eq_false_iff_not]
            split
            · constructor
              · intro _; omega
              · intro _; omega
            · split
              · constructor
                · intro h; omega
                · intro h; omega
              · constructor
                · intro _; omega
                · intro _; omega
        by_cases h : (!(decide (s.rs[k]!.day ≤ p.day) && decide (p.day < ts[k]!.1)) || brkBy s.bs p.seals[i]! p.day) = true
        · rw [if_pos h, if_pos (e5.1 h)]
        · rw [if_neg h, if_neg (fun h2 => h (e5.2 h2))]

def RefOk (s : Stk) (ts : List (Int × Int)) (p : Prf) (j : Nat) : Prop := ∀ a, a < j → sealRefF s ts p a = 0
def NoneYet (l : List Int) (j k : Nat) : Prop := (List.range k).any (fun a => l.getD a default == l.getD j default) = false
theorem none_next {l : List Int} {j k : Nat} (h : NoneYet l j k) (hne : (l.getD k default == l.getD j default) = false) : NoneYet l j (k + 1) := by
  unfold NoneYet at *
  rw [List.range_succ, List.any_append, h]
  simp only [List.any_cons, List.any_nil, hne, Bool.or_false]
theorem some_hit {l : List Int} {j k : Nat} (hk : k < j) (he : l.getD k default = l.getD j default) : (List.range j).any (fun a => l.getD a default == l.getD j default) = true := by
  rw [List.any_eq_true]
  exact ⟨k, List.mem_range.2 hk, by rw [he]; exact beq_self_eq_true _⟩
def refErr (s : Stk) (ts : List (Int × Int)) (p : Prf) : Int := (firstErr (sealRefF s ts p) p.seals.length 0).2
theorem refErr_at {s : Stk} {ts : List (Int × Int)} {p : Prf} {j : Nat} (h : RefOk s ts p j) (hj : j < p.seals.length) (hne : sealRefF s ts p j ≠ 0) : refErr s ts p = sealRefF s ts p j := by
  unfold refErr
  rw [firstErr_at p.seals.length 0 j hj (fun a ha => by rw [Nat.zero_add]; exact h a ha) (by rw [Nat.zero_add]; exact hne), Nat.zero_add]
theorem refErr_ok {s : Stk} {ts : List (Int × Int)} {p : Prf} (h : RefOk s ts p p.seals.length) : refErr s ts p = 0 := by
  unfold refErr
  rw [firstErr_ok p.seals.length 0 (fun a ha => by rw [Nat.zero_add]; exact h a ha)]
set_option maxRecDepth 100000 in
set_option maxHeartbeats 12800000 in
theorem proof_any (s : Stk) (ts : List (Int × Int)) (p : Prf) (v lv sv : Value) (w : World) (hs : StkAt w v s) (hl : TabAt 2 trmC w lv ts) (hpn : TabAt 1 numC w sv p.seals) (hlen : ts.length = s.rs.length) :
    Calls Try.prog 45 #[v, lv, .agg #[.int .i64 p.cls, .int .i64 p.day, sv, .int .i64 p.failed]] w fun e w' => e = .returned (.int .i64 (refErr s ts p)) ∧ Below w.heap.size w w' := by
  obtain ⟨x0, x1, x2, x3⟩ := p
  simp only [] at hpn
  obtain ⟨sa, sc, rfl⟩ := hpn.shape
  have mx : x2.length ≤ 9223372036854775807 := hpn.1
  have HPN := Lib.hid hpn
  have HL := Lib.hid hl
  have HLEN := Lib.hid hlen
  clear hpn hl hlen
  obtain ⟨cv, rv, pv, bv, rfl, hc, hr, hp, hb⟩ := hs
  obtain ⟨cs, rs, ps, bs⟩ := s
  simp only [] at hc hr hp hb
  obtain ⟨ca, cc, rfl⟩ := hc.shape
  obtain ⟨ra, rc, rfl⟩ := hr.shape
  obtain ⟨pa, pc, rfl⟩ := hp.shape
  obtain ⟨ba, bc, rfl⟩ := hb.shape
  have m1 : cs.length ≤ 9223372036854775807 := hc.1
  have m2 : rs.length ≤ 9223372036854775807 := hr.1
  have m3 : ps.length ≤ 9223372036854775807 := hp.1
  have m4 : bs.length ≤ 9223372036854775807 := hb.1
  obtain ⟨W0, hW0⟩ : ∃ X, X = w.alloc (.cells #[.slice ca cs.length cc, .slice ra rs.length rc, .slice pa ps.length pc, .slice ba bs.length bc] 27) := ⟨_, rfl⟩
  have hb0 : Below w.heap.size w W0 := by rw [hW0]; exact (Below.refl _ _).alloc (Nat.le_refl _) _
  have hr0 : W0.heap[w.heap.size]? = some (.cells #[.slice ca cs.length cc, .slice ra rs.length rc, .slice pa ps.length pc, .slice ba bs.length bc] 27 (0, 0)) := by rw [hW0]; exact alloc_heap w _
  have hc0 := Lib.hid (hc.below hb0)
  have hq0 := Lib.hid (hr.below hb0)
  have hp0 := Lib.hid (hp.below hb0)
  have hs0 := Lib.hid (hb.below hb0)
  obtain ⟨P, hP⟩ : ∃ P, w.heap.size = P := ⟨_, rfl⟩
  rw [hP] at hr0
  obtain ⟨d0, d1, d2, d3⟩ := four_cells hr0
  have HB := Lib.hid hb0
  have HR0 := Lib.hid hr0
  clear hr0 hb0 hc hr hp hb
  have hz0 : StkAt W0 (.agg #[.slice ca cs.length cc, .slice ra rs.length rc, .slice pa ps.length pc, .slice ba bs.length bc]) ⟨cs, rs, ps, bs⟩ := ⟨_, _, _, _, rfl, hc0.out, hq0.out, hp0.out, hs0.out⟩
  have HZ0 := Lib.hid hz0
  have hsz : W0.heap.size = P + 1 := by rw [hW0, ← hP]; simp
  have HSZ := Lib.hid hsz
  obtain ⟨R, hR⟩ : ∃ R, refErr ⟨cs, rs, ps, bs⟩ ts ⟨x0, x1, x2, x3⟩ = R := ⟨_, rfl⟩
  rw [hR]
  have HR := Lib.hid hR
  clear hz0 hsz hR
  go_enter Try.func45, Try.ntmps45
  go_upto_region 1 with fail
  rw [← hW0]
  clear hW0 hP
  obtain ⟨W1, hW1⟩ : ∃ X, W0.alloc (.cells #[.int .i64 x0, .int .i64 x1, .slice sa x2.length sc, .int .i64 x3] 52) = X := ⟨_, rfl⟩
  have hb1 : Below W0.heap.size W0 W1 := by rw [← hW1]; exact (Below.refl _ _).alloc (Nat.le_refl _) _
  have hq1 : W1.heap[P + 1]? = some (.cells #[.int .i64 x0, .int .i64 x1, .slice sa x2.length sc, .int .i64 x3] 52) := by rw [← hW1, ← HSZ.out]; exact alloc_heap W0 _
  rw [hW1]
  have H1 := Lib.hid hb1
  have HQ1 := Lib.hid hq1
  have HPM := Lib.hid ((HPN.out.below HB.out).below hb1)
  have HLM := Lib.hid ((HL.out.below HB.out).below hb1)
  clear d0 d1 d2 d3 hW1 hb1 hq1
  go_wp2
  go_loopw [7] (fun i wr => ∃ j : Nat, j ≤ x2.length ∧ i = .int .i64 j ∧ RefOk ⟨cs, rs, ps, bs⟩ ts ⟨x0, x1, x2, x3⟩ j ∧ Below W1.heap.size W1 wr) (fun i _ => x2.length - (intOf i).toNat)
  case atStart => exact ⟨0, by omega, rfl, fun a ha => absurd ha (Nat.not_lt_zero _), Below.refl _ _⟩
  case round =>
    obtain ⟨j, hj, rfl, hok, hbel⟩ := hrel
    have HOK := Lib.hid hok
    have HX := Lib.hid hbel
    have H2 := Lib.hid (H1.out.trans (hbel.mono H1.out.size))
    obtain ⟨d0, d1, d2, d3⟩ := four_cells (box_step (w0 := w) HR0.out H2.out)
    obtain ⟨q0, q1, q2, q3⟩ := four_cells (box_step (w0 := w) HQ1.out hbel)
    clear hok
    by_cases hlt : j < x2.length
    · obtain ⟨sb, so, e1, hsb, hsx⟩ := HPM.out.at (by omega)
      subst e1
      have u0 := (hbel.cell (p := ⟨sb, so + j * 1 + 0, none⟩) hsb).trans (hsx j hlt 0 (by omega))
      obtain ⟨n, hn⟩ : ∃ n, x2.getD j default = n := ⟨_, rfl⟩
      rw [hn] at u0
      simp only [Nat.mul_one, Nat.add_zero, numC] at u0
      have HSX := Lib.hid hsx
      have HN := Lib.hid hn
      have ij1 : (j : Int) < (x2.length : Int) := Int.ofNat_lt.2 hlt
      have kr := fun (X : World) (hX : Below W0.heap.size W0 X) => refRow_any ⟨cs, rs, ps, bs⟩ n _ X (HZ0.out.below hX)
      have C1 := fun d os => Calls.regrown_of (kr _ (H2.out.trans ((below_regrown wr d os).mono H2.out.size)))
      have k0 := cell_regrown d0
      have k1 := cell_regrown d1
      have k2 := cell_regrown d2
      have k3 := cell_regrown d3
      have k4 := cell_regrown q2
      have k5 := cell_regrown u0
      clear hsx hn hbel kr
      go_upto_region 4 with fail
      go_cut [8] (fun r wc => r = .int .i64 (ixI rs n) ∧ Below wr.heap.size wr wc)
      case first =>
        refine wp_region_quiet_below (by kernel_rfl) (by kernel_rfl) ?_
        repeat (go_big_quiet_step (first | with_reducible exact C1 _ _))
        refine wpQuiet_nil ?_
        intro _ hw'
        obtain ⟨⟨dq, osq⟩, hw''⟩ := hw'
        subst hw''
        go_wp2
        go_meet
        case rel => exact ⟨rfl, below_regrown wr dq osq⟩
      case rest =>
        obtain ⟨rfl, hbc⟩ := hcut
        have HX2 := Lib.hid (HX.out.trans (hbc.mono HX.out.size))
        have H3 := Lib.hid (H2.out.trans (hbc.mono H2.out.size))
        clear hbc d0 d1 d2 d3 q0 q1 q2 q3 u0 k0 k1 k2 k3 k4 k5 C1
        cases hk : rowIx rs n with
        | none =>
          have hix : ixI rs n = -1 := by unfold ixI; rw [hk]
          have hse : sealRefF ⟨cs, rs, ps, bs⟩ ts ⟨x0, x1, x2, x3⟩ j = 4 := by
            unfold sealRefF
            simp only [HN.out, hk]
          have hr := refErr_at HOK.out hlt (by rw [hse]; decide)
          rw [HR.out, hse] at hr
          subst hr
          rw [hix]
          clear hix hse hk
          go_wp2
          go_ret
          exact ⟨rfl, HB.out.trans (H3.out.mono HB.out.size)⟩
        | some k =>
          have hix : ixI rs n = (k : Int) := by unfold ixI; rw [hk]
          obtain ⟨hkl, _⟩ := rowIx_lt hk
          obtain ⟨⟨r0, r1, r2, r3⟩, hr⟩ : ∃ x : Row, rs.getD k default = x := ⟨_, rfl⟩
          obtain ⟨⟨t0, t1⟩, ht⟩ : ∃ x : Int × Int, ts.getD k default = x := ⟨_, rfl⟩
          have hkt : k < ts.length := by rw [HLEN.out]; exact hkl
          obtain ⟨rb, ro, e1, hrb, hrx⟩ := (hq0.out.below H3.out).at (show 0 < rs.length by omega)
          subst e1
          have g2 := hrx k hkl 2 (by omega)
          rw [hr] at g2
          simp only [rowC] at g2
          have kf := fun (X : World) (hX : Below W1.heap.size W1 X) => force_any ⟨cs, rs, ps, bs⟩ ts k x1 _ lv X (HZ0.out.below (H1.out.trans (hX.mono H1.out.size))) (HLM.out.below hX) hkl hkt
          have kb := fun (X : World) (hX : Below W0.heap.size W0 X) => refBroken_any ⟨cs, rs, ps, bs⟩ n x1 _ X (HZ0.out.below hX)
          simp only [hr, ht] at kf
          obtain ⟨F, hF⟩ : ∃ b, (decide (r3 ≤ x1) && decide (x1 < t0)) = b := ⟨_, rfl⟩
          obtain ⟨B, hB⟩ : ∃ b, brkBy bs n x1 = b := ⟨_, rfl⟩
          simp only [hF] at kf
          simp only [hB] at kb
          have hse : sealRefF ⟨cs, rs, ps, bs⟩ ts ⟨x0, x1, x2, x3⟩ j = if r2 ≠ x0 then 11 else if (List.range j).any (fun a => x2.getD a default == x2.getD j default) then 5 else if (!F || B) = true then 6 else 0 := by
            unfold sealRefF
            simp only [HN.out, hk, hr, ht, hF, hB]
          have KF := Lib.hid kf
          have KB := Lib.hid kb
          have HSE := Lib.hid hse
          have i1 : (k : Int) < (rs.length : Int) := Int.ofNat_lt.2 hkl
          have i2 : ¬ (k : Int) < 0 := by omega
          rw [hix]
          obtain ⟨d0, d1, d2, d3⟩ := four_cells (box_step (w0 := w) HR0.out H3.out)
          obtain ⟨q0, q1, q2, q3⟩ := four_cells (box_step (w0 := w) HQ1.out HX2.out)
          clear hix hk hr ht hkt hrx hF hB hse kf kb hkl
          go_upto_region 7 with fail
          go_quiet (fail)
          have HX3 := Lib.hid (below_drewn HX2.out nq)
          have H4 := Lib.hid (below_drewn H3.out nq)
          obtain ⟨Wd, hWd⟩ : ∃ X, wc.drewN nq = X := ⟨_, rfl⟩
          rw [hWd] at HX3 H4 ⊢
          clear hWd d0 d1 d2 d3 q0 q1 q2 q3 g2 HX2 H3
          by_cases hcl : r2 = x0
          · have i3 : (r2 != x0) = false := by rw [hcl]; simp
            go_wp2
            go_loopw [9] (fun i wr2 => ∃ b : Nat, b ≤ j ∧ i = .int .i64 b ∧ NoneYet x2 j b ∧ Below Wd.heap.size Wd wr2) (fun i _ => j - (intOf i).toNat)
            case atStart => exact ⟨0, by omega, rfl, by simp [NoneYet], Below.refl _ _⟩
            case round =>
              obtain ⟨b, hb, rfl, hny, hbd⟩ := hrel
              have HNY := Lib.hid hny
              have HX4 := Lib.hid (HX3.out.trans (hbd.mono HX3.out.size))
              have H5 := Lib.hid (H4.out.trans (hbd.mono H4.out.size))
              have HD := Lib.hid hbd
              obtain ⟨d0, d1, d2, d3⟩ := four_cells (box_step (w0 := w) HR0.out H5.out)
              obtain ⟨q0, q1, q2, q3⟩ := four_cells (box_step (w0 := w) HQ1.out HX4.out)
              have u0 := (HX4.out.cell (p := ⟨sb, so + j * 1 + 0, none⟩) hsb).trans (HSX.out j hlt 0 (by omega))
              rw [HN.out] at u0
              simp only [Nat.mul_one, Nat.add_zero, numC] at u0
              clear hny hbd
              by_cases hbj : b < j
              · have v0 := (HX4.out.cell (p := ⟨sb, so + b * 1 + 0, none⟩) hsb).trans (HSX.out b (by omega) 0 (by omega))
                obtain ⟨m, hm⟩ : ∃ m, x2.getD b default = m := ⟨_, rfl⟩
                rw [hm] at v0
                simp only [Nat.mul_one, Nat.add_zero, numC] at v0
                have ib1 : (b : Int) < (j : Int) := by omega
                have ib2 : (b : Int) < (x2.length : Int) := by omega
                by_cases hmn : m = n
                · have hr := refErr_at HOK.out hlt (by rw [HSE.out, if_neg (by simpa using hcl), if_pos (some_hit hbj (by rw [hm, HN.out, hmn]))]; decide)
                  rw [HR.out, HSE.out, if_neg (by simpa using hcl), if_pos (some_hit hbj (by rw [hm, HN.out, hmn]))] at hr
                  subst hr
                  have i4 : (m == n) = true := by rw [hmn]; exact beq_self_eq_true _
                  clear hm
                  go_upto_region 12 with fail
                  go_quiet (fail)
                  go_wp2
                  go_ret
                  exact ⟨rfl, HB.out.trans ((below_drewn H5.out _).mono HB.out.size)⟩
                · have hnx := none_next HNY.out (by rw [hm, HN.out]; simpa using hmn)
                  have HNX := Lib.hid hnx
                  have i4 : (m == n) = false := by simpa using hmn
                  clear hm hnx
                  go_upto_region 12 with fail
                  go_quiet (fail)
                  go_wp2
                  go_roundw
                  case rel => exact ⟨b + 1, by omega, by go_num, HNX.out, below_drewn HD.out _⟩
                  case measure => simp [intOf]; omega
              · have hbj2 : b = j := by omega
                have hny : NoneYet x2 j j := by have := HNY.out; rwa [hbj2] at this
                have hse := HSE.out
                rw [if_neg (by simpa using hcl), if_neg (by rw [show (List.range j).any (fun a => x2.getD a default == x2.getD j default) = false from hny]; decide)] at hse
                have HSE2 := Lib.hid hse
                have ib1 : ¬ (b : Int) < (j : Int) := by omega
                obtain ⟨wo, hwo⟩ : ∃ wo : World, wo = wr := ⟨_, rfl⟩
                subst hwo
                have C1 := fun d os => Calls.regrown_of (KF.out _ (HX4.out.trans ((below_regrown wo d os).mono HX4.out.size)))
                have C2 := fun d os => Calls.regrown_of (KB.out _ (H5.out.trans ((below_regrown wo d os).mono H5.out.size)))
                have k0 := cell_regrown d0
                have k1 := cell_regrown d1
                have k2 := cell_regrown d2
                have k3 := cell_regrown d3
                have k4 := cell_regrown q1
                have k5 := cell_regrown q2
                have k6 := cell_regrown u0
                clear hny hse hbj hbj2
                go_upto_region 14 with fail
                go_cut [68] (fun r wc => r = .bool (!F || B) ∧ Below wo.heap.size wo wc)
                case first =>
                  cases F <;> cases B
                  all_goals
                    refine wp_region_quiet_below (by kernel_rfl) (by kernel_rfl) ?_
                    repeat (go_big_quiet_step (first | with_reducible exact C1 _ _ | with_reducible exact C2 _ _))
                    refine wpQuiet_nil ?_
                    intro _ hw'
                    obtain ⟨⟨dq, osq⟩, hw''⟩ := hw'
                    subst hw''
                    go_wp2
                    go_meet
                    case rel => exact ⟨rfl, below_regrown wo dq osq⟩
                case rest =>
                  obtain ⟨rfl, hbc⟩ := hcut
                  have H6 := Lib.hid (H5.out.trans (hbc.mono H5.out.size))
                  have HX5 := Lib.hid (HX4.out.trans (hbc.mono HX4.out.size))
                  obtain ⟨G, hG⟩ : ∃ g, (!F || B) = g := ⟨_, rfl⟩
                  have hse := HSE2.out
                  rw [hG] at hse ⊢
                  clear hbc d0 d1 d2 d3 q0 q1 q2 q3 u0 k0 k1 k2 k3 k4 k5 k6 C1 C2 hG
                  cases G with
                  | true =>
                    simp only [if_true] at hse
                    have hr := refErr_at HOK.out hlt (by rw [hse]; decide)
                    rw [HR.out, hse] at hr
                    subst hr
                    clear hse
                    go_wp2
                    go_ret
                    exact ⟨rfl, HB.out.trans (H6.out.mono HB.out.size)⟩
                  | false =>
                    simp only [Bool.false_eq_true, if_false] at hse
                    have HNX := Lib.hid (show RefOk ⟨cs, rs, ps, bs⟩ ts ⟨x0, x1, x2, x3⟩ (j + 1) from fun a ha => by
                      by_cases e : a = j
                      · rw [e]; exact hse
                      · exact HOK.out a (by omega))
                    clear hse
                    go_wp2
                    go_roundw
                    case rel => exact ⟨j + 1, by omega, by go_num, HNX.out, HX5.out⟩
                    case measure => simp [intOf]; omega
          · have hr := refErr_at HOK.out hlt (by rw [HSE.out, if_pos hcl]; decide)
            rw [HR.out, HSE.out, if_pos hcl] at hr
            subst hr
            have i3 : (r2 != x0) = true := bne_iff_ne.2 hcl
            go_wp2
            go_ret
            exact ⟨rfl, HB.out.trans (H4.out.mono HB.out.size)⟩
    · have hjl : j = x2.length := by omega
      have i1 : ¬ (j : Int) < (x2.length : Int) := by omega
      have hr : R = 0 := by rw [← HR.out]; exact refErr_ok (by show RefOk _ _ _ x2.length; rw [← hjl]; exact HOK.out)
      subst hr
      clear hjl hlt hj hbel
      go_wp2
      go_ret
      exact ⟨rfl, HB.out.trans (H2.out.mono HB.out.size)⟩
end Go.Proofs.Ytcmfplfnpjknlaa
