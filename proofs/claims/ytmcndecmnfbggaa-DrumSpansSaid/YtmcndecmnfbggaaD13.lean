/- Contract: Pulses of the document. -/
import Derived.Test.YtmcndecmnfbggaaD12
import Derived.Outline
namespace Go.Proofs.Ytmcndecmnfbggaa
set_option linter.unusedSimpArgs false
open Go.RowKit

set_option maxRecDepth 100000 in
set_option maxHeartbeats 12800000 in
theorem refPulses_any (d s c : Int) (l : List Int) (v : Value) (w : World) (hl : IntsAt w v l) :
    Calls Try.prog 15 #[.agg #[.int .i64 d, .int .i64 s], v, .int .i64 c] w fun e w' => e = .returned (.tuple #[.int .i64 (pulsesAll d s c l - pulsesBo d s c l), .int .i64 (pulsesAll d s c l), .int .i64 (pulsesErr d s c l)]) ∧ Below w.heap.size w w' := by
  obtain ⟨a, cp, rfl⟩ := hl.shape
  obtain ⟨W0, hW0⟩ : ∃ X, X = w.alloc (.cells #[.int .i64 d, .int .i64 s] 23) := ⟨_, rfl⟩
  have hb0 : Below w.heap.size w W0 := by rw [hW0]; exact (Below.refl _ _).alloc (Nat.le_refl _) _
  have hr0 : W0.heap[w.heap.size]? = some (.cells #[.int .i64 d, .int .i64 s] 23 (0, 0)) := by rw [hW0]; exact (MapKept.heap_alloc w _).1
  have hz0' : W0.heap.size = w.heap.size + 1 := by rw [hW0]; simp
  obtain ⟨c0, c1⟩ := regcells hr0
  obtain ⟨A, hA⟩ : ∃ A, pulsesAll d s c l = A := ⟨_, rfl⟩
  obtain ⟨B, hB⟩ : ∃ B, pulsesBo d s c l = B := ⟨_, rfl⟩
  obtain ⟨F, hF⟩ : ∃ F, pulsesErr d s c l = F := ⟨_, rfl⟩
  obtain ⟨E, hE⟩ : ∃ E, runsErr d s l = E := ⟨_, rfl⟩
  have hr := refErrors_any d s l (.slice a l.length cp) W0 (hl.below hb0)
  rw [hE] at hr
  rw [hA, hB, hF]
  have HA := Lib.hid hA
  have HB := Lib.hid hB
  have HF := Lib.hid hF
  have HE := Lib.hid hE
  have HRR := Lib.hid hr
  have HC := Lib.hid hr0
  have hz := Lib.hid hz0'
  clear hA hB hF hE hr hr0 hz0'
  go_enter Try.func15, Try.ntmps15
  go_wp2_with fail
  rw [← hW0]
  clear hW0
  go_wp2_with fail
  refine HRR.out.mono ?_
  rintro e w1 ⟨rfl, hb1⟩
  have hbw1 := hb0.trans (hb1.mono hb0.size)
  have hr1 := (hb1.block w.heap.size (by rw [hz.out]; omega)).trans HC.out
  clear c0 c1 hb1 HRR
  by_cases hE0 : E = 0
  rotate_left
  · have H0 := Lib.hid (show F = E by rw [← HF.out]; unfold pulsesErr; rw [HE.out, if_neg hE0])
    have H1 := Lib.hid (show A = 0 by rw [← HA.out]; unfold pulsesAll; rw [if_neg (by rw [HF.out, H0.out]; exact hE0)])
    have H2 := Lib.hid (show B = 0 by rw [← HB.out]; unfold pulsesBo; rw [if_neg (by rw [HF.out, H0.out]; exact hE0)])
    go_wp2
    go_ret3
    exact ⟨by rw [H0.out, H1.out, H2.out]; rfl, hbw1⟩
  obtain ⟨z1, z2, z3⟩ := runsErr_zero (HE.out.trans hE0)
  obtain ⟨hd, hs0, hs1, hs2⟩ := regB_bd z1
  subst hE0
  by_cases hc : 0 ≤ c ∧ c ≤ 9999
  rotate_left
  · have H0 := Lib.hid (show F = 2 by rw [← HF.out]; unfold pulsesErr; rw [HE.out, if_pos rfl, if_neg hc])
    have H1 := Lib.hid (show A = 0 by rw [← HA.out]; unfold pulsesAll; rw [if_neg (by rw [HF.out, H0.out]; decide)])
    have H2 := Lib.hid (show B = 0 by rw [← HB.out]; unfold pulsesBo; rw [if_neg (by rw [HF.out, H0.out]; decide)])
    have hin : inB c 0 9999 = false := by unfold inB; simp only [decide_eq_false_iff_not]; exact hc
    clear z1 z2 z3 hd hs0 hs1 hs2 hc
    go_wp2_with ((with_reducible refine (in_any _ _ _ _).mono ?_); rintro e w' ⟨rfl, rfl⟩)
    go_ret3
    exact ⟨by rw [H0.out, H1.out, H2.out]; rfl, hbw1⟩
  have H0 := Lib.hid (show F = 0 by rw [← HF.out]; unfold pulsesErr; rw [HE.out, if_pos rfl, if_pos hc])
  have H1 := Lib.hid (show A = (pulsesF s l c).all by rw [← HA.out]; unfold pulsesAll; rw [if_pos (by rw [HF.out, H0.out])])
  have H2 := Lib.hid (show B = (pulsesF s l c).bounces by rw [← HB.out]; unfold pulsesBo; rw [if_pos (by rw [HF.out, H0.out])])
  have hin : inB c 0 9999 = true := by unfold inB; simp only [decide_eq_true_eq]; exact hc
  have pb := Lib.hid (pulses_bd s c l z3)
  have rb := Lib.hid (runs_bd l z3)
  obtain ⟨c0, c1⟩ := regcells hr1
  obtain ⟨hd1, hd2⟩ := hd
  have hcc' := Lib.hid hc
  obtain ⟨hc0, hc1⟩ := hc
  clear z1 z3 hs1 hd1 hd2 hr1
  go_wp2_with ((with_reducible refine (in_any _ _ _ _).mono ?_); rintro e w' ⟨rfl, rfl⟩)
  go_quiet (fail)
  go_wp2_with fail
  go_loopw [10, 11, 12, 13, 14, 15] (fun al bo st la an i wr => ∃ k : Nat, ∃ ab : Bool, k ≤ l.length ∧ i = .int .i64 k ∧ al = .int .i64 (pulsesF s (l.take k) c).all ∧ bo = .int .i64 (pulsesF s (l.take k) c).bounces ∧ st = .int .i64 (pulsesF s (l.take k) c).stand ∧ la = .int .i64 (pulsesF s (l.take k) c).last ∧ an = .bool ab ∧ (ab = true ↔ 0 < (pulsesF s (l.take k) c).all) ∧ Below w.heap.size w wr) (fun _ _ _ _ _ i _ => l.length - (intOf i).toNat)
  case atStart => exact ⟨0, false, by omega, rfl, rfl, rfl, rfl, rfl, rfl, by simp [pulsesF], below_drewN' hbw1 _⟩
  case round =>
    obtain ⟨k, ab, hk, rfl, rfl, rfl, rfl, rfl, rfl, hab, hbr⟩ := hrel
    have hpb := pb.out k hk
    by_cases hlt : k < l.length
    · obtain ⟨b, off, e0, _, hcc⟩ := (hl.below hbr).at (by omega)
      subst e0
      have c0 := hcc k hlt
      have b1 := rb.out k hlt
      have hsn : pulsesF s (l.take (k + 1)) c = pstep c (pulsesF s (l.take k) c) (l.getD k 0) := by rw [take_snoc l k hlt, pulses_snoc]
      obtain ⟨x, hx⟩ : ∃ x, l.getD k 0 = x := ⟨_, rfl⟩
      obtain ⟨p, hp⟩ : ∃ p, pulsesF s (l.take k) c = p := ⟨_, rfl⟩
      rw [hx] at c0 b1 hsn
      rw [hp] at hpb hsn hab ⊢
      obtain ⟨st, la, al, bo⟩ := p
      unfold PBd at hpb
      simp only [] at hpb hab ⊢
      have hsn2 : pulsesF s (l.take (k + 1)) c = (if (closP st (st + x) c).count = 0 then ⟨st + x, la, al, bo⟩ else ⟨st + x, (closP st (st + x) c).last, al + (closP st (st + x) c).count, if 0 < al ∧ (closP st (st + x) c).first = la then bo + 1 else bo⟩) := hsn
      have q1 := clos_le st (st + x) c
      have q2 := (clos_count st (st + x) c).1
      have q3 : (if st + x < st then st - (st + x) else st + x - st) ≤ 1099511627776 := by split <;> omega
      have q4 := many_clos st (st + x) c
      have q5 := clos_least st (st + x) c
      obtain ⟨K, hK⟩ : ∃ K, closP st (st + x) c = K := ⟨_, rfl⟩
      rw [hK] at hsn2 q1 q2 q4 q5
      obtain ⟨kc, kf, kl⟩ := K
      simp only [] at hsn2 q1 q2 q4 q5
      have q6 : kc ≤ 1099511627776 := by omega
      have HSN := Lib.hid hsn2
      have HAB := Lib.hid hab
      have i0 : (0 : Int) ≤ (k : Int) := by omega
      have i1 : (k : Int) < (l.length : Int) := by omega
      have hw1 : IntKind.i64.wrap (st + x) = st + x := IntWalk.i64_in _ (by omega)
      clear hx hp hsn hsn2 hK hcc q1 q3 hab
      by_cases hx0 : st + x < st
      · simp only [hx0, if_true] at q4 q5
        obtain ⟨b, hb⟩ : ∃ b, st + x = b := ⟨_, rfl⟩
        have hbb : -1000000000000000 < b ∧ b < 1000000000000000 := by omega
        obtain ⟨least, hle⟩ : ∃ y, b - 1 + 1 + (c - (b - 1) - 1) % 10000 = y := ⟨_, rfl⟩
        have l0 := Int.emod_nonneg (c - (b - 1) - 1) (show (10000 : Int) ≠ 0 by decide)
        have l1 := Int.emod_lt_of_pos (c - (b - 1) - 1) (show (0 : Int) < 10000 by decide)
        rw [hb] at q4 q5 hx0 hw1
        rw [hle, q4] at q5
        have HSN' : RowKit.Hid (pulsesF s (l.take (k + 1)) c = (if kc = 0 then ⟨b, la, al, bo⟩ else ⟨b, kl, al + kc, if 0 < al ∧ kf = la then bo + 1 else bo⟩)) := Lib.hid (by rw [HSN.out, hb])
        have Q4 := Lib.hid q4
        have Q5 := Lib.hid q5
        have HLE := Lib.hid hle
        clear q4 q5 hle HSN
        go_wp2_with fail
        go_quiet (fail)
        go_wp2_with fail
        refine (many_any _ _ _ _ (by omega) (by omega) hcc'.out).mono ?_
        rintro e w' ⟨rfl, rfl⟩
        rw [Q4.out]
        by_cases h0 : kc = 0
        · have HS2 := Lib.hid (show pulsesF s (l.take (k + 1)) c = ⟨b, la, al, bo⟩ by rw [HSN'.out, if_pos h0])
          subst h0
          go_wp2
          go_roundw
          case rel => exact ⟨k + 1, ab, by omega, by go_num, by rw [HS2.out], by rw [HS2.out], by rw [HS2.out], by rw [HS2.out], rfl, by rw [HS2.out]; exact HAB.out, below_drewN' hbr _⟩
          case measure => simp [intOf]; omega
        · have h0' : (kc == 0) = false := by simpa using h0
          obtain ⟨hkf, hkl⟩ := Q5.out h0
          have hkf' := Lib.hid hkf
          have hkl' := Lib.hid hkl
          clear hkf hkl
          go_wp2_with fail
          refine (refModulo_any _ _ _ (by omega) (by omega)).mono ?_
          rintro e w' ⟨rfl, rfl⟩
          have hle := HLE.out
          have hle2 : b + (c - (b - 1) - 1) % 10000 = least := by omega
          have kc1 : 1 ≤ kc := by omega
          cases ab with
          | false =>
            have HS2 := Lib.hid (show pulsesF s (l.take (k + 1)) c = ⟨b, kl, al + kc, bo⟩ by rw [HSN'.out, if_neg h0, if_neg (fun h => by have := HAB.out.2 h.1; cases this)])
            have hal' := Lib.hid (show 0 < al + kc by omega)
            clear h0
            go_wp2
            go_roundw
            case rel => exact ⟨k + 1, true, by omega, by go_num, by rw [HS2.out], by rw [HS2.out], by rw [HS2.out], by rw [HS2.out, hkl'.out], rfl, by rw [HS2.out]; simp; exact hal'.out, below_drewN' hbr _⟩
            case measure => simp [intOf]; omega
          | true =>
            have hal := HAB.out.1 rfl
            have hal' := Lib.hid (show 0 < al + kc by omega)
            by_cases hfl : least + 10000 * (kc - 1) = la
            · have HS2 := Lib.hid (show pulsesF s (l.take (k + 1)) c = ⟨b, kl, al + kc, bo + 1⟩ by rw [HSN'.out, if_neg h0, if_pos ⟨hal, hkf'.out.trans hfl⟩])
              have hfl' : (least + 10000 * (kc - 1) == la) = true := by simpa using hfl
              clear h0 hfl
              go_wp2
              go_roundw
              case rel => exact ⟨k + 1, true, by omega, by go_num, by rw [HS2.out], by rw [HS2.out], by rw [HS2.out], by rw [HS2.out, hkl'.out], rfl, by rw [HS2.out]; simp; exact hal'.out, below_drewN' hbr _⟩
              case measure => simp [intOf]; omega
            · have HS2 := Lib.hid (show pulsesF s (l.take (k + 1)) c = ⟨b, kl, al + kc, bo⟩ by rw [HSN'.out, if_neg h0, if_neg (fun h => hfl (hkf'.out.symm.trans h.2))])
              have hfl' : (least + 10000 * (kc - 1) == la) = false := by simpa using hfl
              clear h0 hfl
              go_wp2
              go_roundw
              case rel => exact ⟨k + 1, true, by omega, by go_num, by rw [HS2.out], by rw [HS2.out], by rw [HS2.out], by rw [HS2.out, hkl'.out], rfl, by rw [HS2.out]; simp; exact hal'.out, below_drewN' hbr _⟩
              case measure => simp [intOf]; omega
      · simp only [hx0, if_false] at q4 q5
        obtain ⟨b, hb⟩ : ∃ b, st + x = b := ⟨_, rfl⟩
        have hbb : -1000000000000000 < b ∧ b < 1000000000000000 := by omega
        obtain ⟨least, hle⟩ : ∃ y, st + 1 + (c - st - 1) % 10000 = y := ⟨_, rfl⟩
        have l0 := Int.emod_nonneg (c - st - 1) (show (10000 : Int) ≠ 0 by decide)
        have l1 := Int.emod_lt_of_pos (c - st - 1) (show (0 : Int) < 10000 by decide)
        rw [hb] at q4 q5 hx0 hw1
        rw [hle, q4] at q5
        have HSN' : RowKit.Hid (pulsesF s (l.take (k + 1)) c = (if kc = 0 then ⟨b, la, al, bo⟩ else ⟨b, kl, al + kc, if 0 < al ∧ kf = la then bo + 1 else bo⟩)) := Lib.hid (by rw [HSN.out, hb])
        have Q4 := Lib.hid q4
        have Q5 := Lib.hid q5
        have HLE := Lib.hid hle
        clear q4 q5 hle HSN
        go_wp2_with fail
        go_quiet (fail)
        go_wp2_with fail
        refine (many_any _ _ _ _ (by omega) (by omega) hcc'.out).mono ?_
        rintro e w' ⟨rfl, rfl⟩
        rw [Q4.out]
        by_cases h0 : kc = 0
        · have HS2 := Lib.hid (show pulsesF s (l.take (k + 1)) c = ⟨b, la, al, bo⟩ by rw [HSN'.out, if_pos h0])
          subst h0
          go_wp2
          go_roundw
          case rel => exact ⟨k + 1, ab, by omega, by go_num, by rw [HS2.out], by rw [HS2.out], by rw [HS2.out], by rw [HS2.out], rfl, by rw [HS2.out]; exact HAB.out, below_drewN' hbr _⟩
          case measure => simp [intOf]; omega
        · have h0' : (kc == 0) = false := by simpa using h0
          obtain ⟨hkf, hkl⟩ := Q5.out h0
          have hkf' := Lib.hid hkf
          have hkl' := Lib.hid hkl
          clear hkf hkl
          go_wp2_with fail
          refine (refModulo_any _ _ _ (by omega) (by omega)).mono ?_
          rintro e w' ⟨rfl, rfl⟩
          have hle := HLE.out
          have hle2 : st + 1 + (c - st - 1) % 10000 = least := hle
          have kc1 : 1 ≤ kc := by omega
          cases ab with
          | false =>
            have HS2 := Lib.hid (show pulsesF s (l.take (k + 1)) c = ⟨b, kl, al + kc, bo⟩ by rw [HSN'.out, if_neg h0, if_neg (fun h => by have := HAB.out.2 h.1; cases this)])
            have hal' := Lib.hid (show 0 < al + kc by omega)
            clear h0
            go_wp2
            go_roundw
            case rel => exact ⟨k + 1, true, by omega, by go_num, by rw [HS2.out], by rw [HS2.out], by rw [HS2.out], by rw [HS2.out, hkl'.out], rfl, by rw [HS2.out]; simp; exact hal'.out, below_drewN' hbr _⟩
            case measure => simp [intOf]; omega
          | true =>
            have hal := HAB.out.1 rfl
            have hal' := Lib.hid (show 0 < al + kc by omega)
            by_cases hfl : least = la
            · have HS2 := Lib.hid (show pulsesF s (l.take (k + 1)) c = ⟨b, kl, al + kc, bo + 1⟩ by rw [HSN'.out, if_neg h0, if_pos ⟨hal, hkf'.out.trans hfl⟩])
              have hfl' : (least == la) = true := by simpa using hfl
              clear h0 hfl
              go_wp2
              go_roundw
              case rel => exact ⟨k + 1, true, by omega, by go_num, by rw [HS2.out], by rw [HS2.out], by rw [HS2.out], by rw [HS2.out, hkl'.out], rfl, by rw [HS2.out]; simp; exact hal'.out, below_drewN' hbr _⟩
              case measure => simp [intOf]; omega
            · have HS2 := Lib.hid (show pulsesF s (l.take (k + 1)) c = ⟨b, kl, al + kc, bo⟩ by rw [HSN'.out, if_neg h0, if_neg (fun h => hfl (hkf'.out.symm.trans h.2))])
              have hfl' : (least == la) = false := by simpa using hfl
              clear h0 hfl
              go_wp2
              go_roundw
              case rel => exact ⟨k + 1, true, by omega, by go_num, by rw [HS2.out], by rw [HS2.out], by rw [HS2.out], by rw [HS2.out, hkl'.out], rfl, by rw [HS2.out]; simp; exact hal'.out, below_drewN' hbr _⟩
              case measure => simp [intOf]; omega
    · obtain rfl : k = l.length := by omega
      rw [List.take_length] at hpb hab ⊢
      have i1 : ¬ (l.length : Int) < (l.length : Int) := by omega
      obtain ⟨al, hal⟩ : ∃ x, (pulsesF s l c).all = x := ⟨_, rfl⟩
      obtain ⟨bo, hbo⟩ : ∃ x, (pulsesF s l c).bounces = x := ⟨_, rfl⟩
      obtain ⟨-, hpb1, hpb2⟩ := hpb
      rw [hal] at hpb1 ⊢
      rw [hbo] at hpb2 ⊢
      have HA' := Lib.hid hal
      have HB' := Lib.hid hbo
      clear hal hbo hab
      go_wp2
      go_ret3
      exact ⟨by rw [H0.out, H1.out, H2.out, HA'.out, HB'.out]; rfl, hbr⟩
end Go.Proofs.Ytmcndecmnfbggaa
