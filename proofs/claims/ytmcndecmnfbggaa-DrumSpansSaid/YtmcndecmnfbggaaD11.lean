/- Contracts: how often a contact closes; Pulses of the program. -/
import Derived.Test.YtmcndecmnfbggaaD10
import Derived.Outline
namespace Go.Proofs.Ytmcndecmnfbggaa
set_option linter.unusedSimpArgs false
open Go.RowKit

theorem clos_le (a b c : Int) : (closP a b c).count ≤ (if b < a then a - b else b - a) := by
  by_cases h : b < a
  · rw [if_pos h, clos_down a b c h]; omega
  · rw [if_neg h, clos_up a b c (by omega)]; omega
theorem take_snoc (l : List Int) (k : Nat) (h : k < l.length) : l.take (k + 1) = l.take k ++ [l.getD k 0] := by
  rw [List.take_succ_eq_append_getElem h]; simp [List.getD, h]
def PBd (s : Int) (k : Nat) (p : PS) : Prop := (s - 1099511627776 * (k : Int) ≤ p.stand ∧ p.stand ≤ s + 1099511627776 * (k : Int)) ∧ (0 ≤ p.all ∧ p.all ≤ 1099511627776 * (k : Int)) ∧ (0 ≤ p.bounces ∧ p.bounces ≤ (k : Int))
theorem pulses_bd (s c : Int) (l : List Int) (h : l.any runBad = false) : ∀ k, k ≤ l.length → PBd s k (pulsesF s (l.take k) c)
  | 0, _ => by unfold PBd pulsesF; simp
  | k + 1, hk => by
    have ih := pulses_bd s c l h k (by omega)
    have hr := runs_bd l h k (by omega)
    rw [take_snoc l k (by omega), pulses_snoc]
    obtain ⟨p, hp⟩ : ∃ p, pulsesF s (l.take k) c = p := ⟨_, rfl⟩
    obtain ⟨x, hx⟩ : ∃ x, l.getD k 0 = x := ⟨_, rfl⟩
    rw [hp] at ih ⊢
    rw [hx] at hr ⊢
    have h1 := clos_le p.stand (p.stand + x) c
    have h2 := (clos_count p.stand (p.stand + x) c).1
    have h3 : (if p.stand + x < p.stand then p.stand - (p.stand + x) else p.stand + x - p.stand) ≤ 1099511627776 := by split <;> omega
    unfold PBd at ih ⊢
    unfold pstep
    simp only []
    split
    · simp only []; omega
    · simp only []
      refine ⟨by omega, by omega, ?_⟩
      split <;> omega
theorem cl3 {X : World} {b : Nat} {x y z : Int} {t : TypeId} (h : X.heap[b]? = some (.cells #[.int .i64 x, .int .i64 y, .int .i64 z] t)) : X.cell? ⟨b, 0, none⟩ = some (.int .i64 x) ∧ X.cell? ⟨b, 1, none⟩ = some (.int .i64 y) ∧ X.cell? ⟨b, 2, none⟩ = some (.int .i64 z) := by
  refine ⟨?_, ?_, ?_⟩ <;> simp [World.cell?, h]
set_option maxRecDepth 100000 in
set_option maxHeartbeats 6400000 in
theorem count_any (d s c : Int) (l : List Int) (v : Value) (w : World) (hl : IntsAt w v l) (hs : 0 ≤ s ∧ s ≤ 1000000000) (h32 : l.length ≤ 32) (hb : l.any runBad = false) (hc : 0 ≤ c ∧ c ≤ 9999) :
    Calls Try.prog 40 #[.agg #[.int .i64 d, .int .i64 s], v, .int .i64 c] w fun e w' => e = .returned (.tuple #[.int .i64 (pulsesF s l c).all, .int .i64 (pulsesF s l c).bounces]) ∧ Below w.heap.size w w' := by
  obtain ⟨a, cp, rfl⟩ := hl.shape
  obtain ⟨W0, hW0⟩ : ∃ X, X = w.alloc (.cells #[.int .i64 d, .int .i64 s] 23) := ⟨_, rfl⟩
  have hb0 : Below w.heap.size w W0 := by rw [hW0]; exact (Below.refl _ _).alloc (Nat.le_refl _) _
  have hr0 : W0.heap[w.heap.size]? = some (.cells #[.int .i64 d, .int .i64 s] 23 (0, 0)) := by rw [hW0]; exact (MapKept.heap_alloc w _).1
  obtain ⟨c0, c1⟩ := regcells hr0
  obtain ⟨P, hP⟩ : ∃ P, pulsesF s l c = P := ⟨_, rfl⟩
  rw [hP]
  have HP := Lib.hid hP
  have pb := Lib.hid (pulses_bd s c l hb)
  have rb := Lib.hid (runs_bd l hb)
  clear hP
  go_enter Try.func40, Try.ntmps40
  go_wp2_with fail
  rw [← hW0]
  clear hW0
  go_wp2_with fail
  go_loopw [6, 7, 8, 9, 17] (fun al bo st la i wr => ∃ k : Nat, k ≤ l.length ∧ i = .int .i64 k ∧ al = .int .i64 (pulsesF s (l.take k) c).all ∧ bo = .int .i64 (pulsesF s (l.take k) c).bounces ∧ st = .int .i64 (pulsesF s (l.take k) c).stand ∧ la = .int .i64 (pulsesF s (l.take k) c).last ∧ Below w.heap.size w wr) (fun _ _ _ _ i _ => l.length - (intOf i).toNat)
  case atStart => exact ⟨0, by omega, rfl, rfl, rfl, rfl, rfl, hb0⟩
  case round =>
    obtain ⟨k, hk, rfl, rfl, rfl, rfl, rfl, hbr⟩ := hrel
    have hpb := pb.out k hk
    by_cases hlt : k < l.length
    · obtain ⟨b, off, e0, _, hcc⟩ := (hl.below hbr).at (by omega)
      subst e0
      have c0 := hcc k hlt
      have b1 := rb.out k hlt
      have hsn : pulsesF s (l.take (k + 1)) c = pstep c (pulsesF s (l.take k) c) (l.getD k 0) := by rw [take_snoc l k hlt, pulses_snoc]
      obtain ⟨x, hx⟩ : ∃ x, l.getD k 0 = x := ⟨_, rfl⟩
      obtain ⟨p, hp⟩ : ∃ p, pulsesF s (l.take k) c = p := ⟨_, rfl⟩
      rw [hx] at c0 b1 hsn
      rw [hp] at hpb hsn ⊢
      obtain ⟨st, la, al, bo⟩ := p
      unfold PBd at hpb
      simp only [] at hpb ⊢
      have hsn2 : pulsesF s (l.take (k + 1)) c = (if (closP st (st + x) c).count = 0 then ⟨st + x, la, al, bo⟩ else ⟨st + x, (closP st (st + x) c).last, al + (closP st (st + x) c).count, if 0 < al ∧ (closP st (st + x) c).first = la then bo + 1 else bo⟩) := hsn
      have hcl := fun W => closingsOf_any st (st + x) c W (by omega) (by omega) hc
      have q1 := clos_le st (st + x) c
      have q2 := (clos_count st (st + x) c).1
      have q3 : (if st + x < st then st - (st + x) else st + x - st) ≤ 1099511627776 := by split <;> omega
      obtain ⟨K, hK⟩ : ∃ K, closP st (st + x) c = K := ⟨_, rfl⟩
      rw [hK] at hsn2 q1 q2
      simp only [hK] at hcl
      obtain ⟨kc, kf, kl⟩ := K
      unfold Cl.val at hcl
      simp only [] at hsn2 q1 q2 hcl
      have q4 : kc ≤ 1099511627776 := by omega
      have HCL := Lib.hid hcl
      have HSN := Lib.hid hsn2
      have i0 : (0 : Int) ≤ (k : Int) := by omega
      have i1 : (k : Int) < (l.length : Int) := by omega
      clear hx hp hsn hsn2 hcl hK hcc q1 q3
      go_wp2_with fail
      refine (HCL.out _).mono ?_
      rintro e w1 ⟨rfl, hb1⟩
      have hbw := hbr.trans (hb1.mono hbr.size)
      have hz1 := hbw.size
      clear hb1
      by_cases h0 : kc = 0
      · subst h0
        go_wp2
        go_roundw
        case rel => exact ⟨k + 1, by omega, by go_num, by rw [HSN.out]; rfl, by rw [HSN.out]; rfl, by rw [HSN.out]; rfl, by rw [HSN.out]; rfl, hbw.alloc hz1 _⟩
        case measure => simp [intOf]; omega
      · have h0' : (kc == 0) = false := by simpa using h0
        by_cases hal : 0 < al
        · by_cases hkf : kf = la
          · have hkf' : (kf == la) = true := by simpa using hkf
            have HS2 := Lib.hid (show pulsesF s (l.take (k + 1)) c = ⟨st + x, kl, al + kc, bo + 1⟩ by rw [HSN.out, if_neg h0, if_pos ⟨hal, hkf⟩])
            clear hkf h0
            go_wp2
            go_roundw
            case rel => exact ⟨k + 1, by omega, by go_num, by rw [HS2.out], by rw [HS2.out], by rw [HS2.out], by rw [HS2.out], hbw.alloc hz1 _⟩
            case measure => simp [intOf]; omega
          · have hkf' : (kf == la) = false := by simpa using hkf
            have HS2 := Lib.hid (show pulsesF s (l.take (k + 1)) c = ⟨st + x, kl, al + kc, bo⟩ by rw [HSN.out, if_neg h0, if_neg (fun h => hkf h.2)])
            clear hkf h0
            go_wp2
            go_roundw
            case rel => exact ⟨k + 1, by omega, by go_num, by rw [HS2.out], by rw [HS2.out], by rw [HS2.out], by rw [HS2.out], hbw.alloc hz1 _⟩
            case measure => simp [intOf]; omega
        · have HS2 := Lib.hid (show pulsesF s (l.take (k + 1)) c = ⟨st + x, kl, al + kc, bo⟩ by rw [HSN.out, if_neg h0, if_neg (fun h => hal h.1)])
          clear h0
          go_wp2
          go_roundw
          case rel => exact ⟨k + 1, by omega, by go_num, by rw [HS2.out], by rw [HS2.out], by rw [HS2.out], by rw [HS2.out], hbw.alloc hz1 _⟩
          case measure => simp [intOf]; omega
    · obtain rfl : k = l.length := by omega
      rw [List.take_length] at hpb ⊢
      have i1 : ¬ (l.length : Int) < (l.length : Int) := by omega
      obtain ⟨al, hal⟩ : ∃ x, (pulsesF s l c).all = x := ⟨_, rfl⟩
      obtain ⟨bo, hbo⟩ : ∃ x, (pulsesF s l c).bounces = x := ⟨_, rfl⟩
      rw [hal, hbo]
      have HA := Lib.hid hal
      have HB := Lib.hid hbo
      clear hal hbo hpb
      go_wp2
      go_ret2
      exact ⟨by rw [← HP.out, HA.out, HB.out]; rfl, hbr⟩
end Go.Proofs.Ytmcndecmnfbggaa
