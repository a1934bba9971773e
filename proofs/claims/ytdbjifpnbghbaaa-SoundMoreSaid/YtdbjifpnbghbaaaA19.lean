/- Sound: Where. -/
import Derived.Test.YtdbjifpnbghbaaaA18
namespace Go.Proofs.Ytdbjifpnbghbaaa
set_option linter.unusedSimpArgs false
set_option linter.unusedVariables false
open Go.RowKit Go.Maps Go.BigFrame

def WhereR (w : World) (r : List St × Int) (e : Ending) (w' : World) : Prop := ∃ v, e = .returned (.tuple #[v, .int .i64 r.2]) ∧ OutT w.heap.size r.1 v w' ∧ Below w.heap.size w w'
theorem out_len {w : World} {B : Nat} {L : List St} {v : Value} (h : OutT B L v w) : ∃ a c, v = .slice a L.length c := by
  rcases h.2 with ⟨rfl, h0⟩ | ⟨g, cap, cur, rfl, _⟩
  · exact ⟨_, _, by rw [h0]⟩
  · exact ⟨_, _, rfl⟩
theorem strUp_few (l : List Pi) (s : Int × Int) : ∀ k : Nat, (strUp l s k).length ≤ k
  | 0 => Nat.le_refl _
  | k + 1 => by
    have := strUp_few l s k
    unfold strUp
    simp only []
    split
    · omega
    · simp; omega
set_option maxRecDepth 100000 in
set_option maxHeartbeats 6400000 in
theorem Where_any (l : List Pi) (v : Value) (hs : List He) (v2 : Value) (w : World) (hl : TabAt 3 piC w v l) (hh : TabAt 4 heC w v2 hs) : Calls Try.prog 18 #[v, v2] w (WhereR w (whereF l hs)) := by
  obtain ⟨a, cp, rfl⟩ := hl.shape
  obtain ⟨la, lc, rfl⟩ := hh.shape
  have ml : hs.length ≤ 9223372036854775807 := hh.1
  have HL := Lib.hid hl
  have HH := Lib.hid hh
  have KV := Lib.hid (isValid_any l (.slice a l.length cp) w hl)
  have hdef : whereF l hs = if lineOk l then (if hs.length ≤ 8 then (if hs.all (hearOk l) then
    (if strUp l (cutF (0, endF l) (allowedF l hs)) l.length = [] then ([], 4) else (strUp l (cutF (0, endF l) (allowedF l hs)) l.length, 0)) else ([], 2)) else ([], 3)) else ([], 1) := rfl
  obtain ⟨ok, hok⟩ : ∃ b, lineOk l = b := ⟨_, rfl⟩
  rw [hok] at hdef KV
  obtain ⟨⟨rl, re⟩, hrr⟩ : ∃ r, whereF l hs = r := ⟨_, rfl⟩
  rw [hrr] at hdef ⊢
  unfold WhereR
  simp only []
  clear hl hh hrr
  go_enter Try.func18, Try.ntmps18
  go_wp2_with (go_at_call 33; fail)
  refine KV.out.mono ?_
  rintro e w2 ⟨rfl, hb2⟩
  have HB2 := Lib.hid hb2
  cases ok with
  | false =>
    have hd : ((rl, re) : List St × Int) = ([], 1) := by simpa using hdef
    clear hdef hb2
    simp only [Prod.mk.injEq] at hd
    obtain ⟨rfl, rfl⟩ := hd
    go_wp2
    exact bodyPost_ret (results_tmp2 rfl _ _ _) rfl ⟨_, rfl, ⟨rfl, .inl ⟨rfl, rfl⟩⟩, HB2.out⟩
  | true =>
  have hdef1 : ((rl, re) : List St × Int) = (if hs.length ≤ 8 then (if hs.all (hearOk l) then
    (if strUp l (cutF (0, endF l) (allowedF l hs)) l.length = [] then ([], 4) else (strUp l (cutF (0, endF l) (allowedF l hs)) l.length, 0)) else ([], 2)) else ([], 3)) := by simpa using hdef
  clear hdef
  by_cases h8 : hs.length ≤ 8
  · rw [if_pos h8] at hdef1
    have g1 : decide ((8 : Int) < (hs.length : Int)) = false := decide_eq_false (by omega)
    have g2 : decide (8 < hs.length) = false := decide_eq_false (by omega)
    have g3 : ¬ ((8 : Int) < (hs.length : Int)) := by omega
    have KH := Lib.hid (areHearings_any l hok (.slice a l.length cp) hs (.slice la hs.length lc) w2 (HL.out.below hb2) (HH.out.below hb2))
    have hall := all_iff (p := hearOk l) (l := hs)
    obtain ⟨ho, hho⟩ : ∃ b, hs.all (hearOk l) = b := ⟨_, rfl⟩
    rw [hho] at hdef1 KH
    clear hb2
    go_wp2_with (go_at_call 46; fail)
    refine KH.out.mono ?_
    rintro e w3 ⟨rfl, hb3⟩
    have hbb3 := HB2.out.trans (hb3.mono HB2.out.size)
    have HB3 := Lib.hid hbb3
    cases ho with
    | false =>
      have hd : ((rl, re) : List St × Int) = ([], 2) := by simpa using hdef1
      clear hdef1 hb3 hbb3
      simp only [Prod.mk.injEq] at hd
      obtain ⟨rfl, rfl⟩ := hd
      go_wp2
      exact bodyPost_ret (results_tmp2 rfl _ _ _) rfl ⟨_, rfl, ⟨rfl, .inl ⟨rfl, rfl⟩⟩, HB3.out⟩
    | true =>
      rw [if_pos rfl] at hdef1
      have KP := Lib.hid (places_any l hok (.slice a l.length cp) w3 (HL.out.below hbb3))
      have KA := Lib.hid (fun X hX hY => allowed_any l hok (.slice a l.length cp) hs h8 hho (.slice la hs.length lc) X hX hY)
      have KC := Lib.hid (fun v X hX => cut_any 0 (endF l) (allowedF l hs) v X hX)
      obtain ⟨⟨c0, c1⟩, hc⟩ : ∃ x, cutF (0, endF l) (allowedF l hs) = x := ⟨_, rfl⟩
      rw [hc] at hdef1 KC
      unfold spV at KC
      simp only [] at KC
      have KS := Lib.hid (fun X hX => stretches_any l hok (.slice a l.length cp) c0 c1 X hX)
      obtain ⟨L, hL⟩ : ∃ x, strUp l (c0, c1) l.length = x := ⟨_, rfl⟩
      rw [hL] at hdef1 KS
      have hal : (allowedF l hs).length = hs.length := by simp [allowedF]
      have HAL := Lib.hid hal
      clear hb3 hbb3 hal hc hL hall
      go_wp2_with (go_at_call 48; fail)
      refine KP.out.mono ?_
      rintro e w4 ⟨rfl, hb4⟩
      have hbb4 := HB3.out.trans (hb4.mono HB3.out.size)
      have HB4 := Lib.hid hbb4
      have KA4 := Lib.hid (KA.out w4 (HL.out.below hbb4) (HH.out.below hbb4))
      clear hb4 hbb4
      go_wp2_with (go_at_call 49; fail)
      refine KA4.out.mono ?_
      rintro e w5 ⟨R, rfl, hR, hRr, hb5⟩
      have htb := tab_of_block hRr (by rw [HAL.out]; omega)
      rw [HAL.out] at htb
      have KC5 := Lib.hid (KC.out _ w5 htb)
      have HB5 := Lib.hid (HB4.out.trans (hb5.mono HB4.out.size))
      clear hR hRr hb5 htb
      go_wp2_with (go_at_call 41; fail)
      refine KC5.out.mono ?_
      rintro e w6 ⟨rfl, hb6⟩
      have hbb6 := HB5.out.trans (hb6.mono HB5.out.size)
      have HB6 := Lib.hid hbb6
      have KS6 := Lib.hid (KS.out w6 (HL.out.below hbb6))
      clear hb6 hbb6
      go_wp2_with (go_at_call 47; fail)
      refine KS6.out.mono ?_
      rintro e w7 ⟨v', rfl, hO, hb7⟩
      obtain ⟨ua, uc, rfl⟩ := out_len hO
      have HB7 := Lib.hid (HB6.out.trans (hb7.mono HB6.out.size))
      have HO := Lib.hid (show OutT w.heap.size L (.slice ua L.length uc) w7 from own_base hO HB6.out.size)
      clear hO hb7
      by_cases hL0 : L = []
      · have hd : ((rl, re) : List St × Int) = ([], 4) := by rw [hdef1, if_pos hL0]
        subst hL0
        clear hdef1
        simp only [Prod.mk.injEq] at hd
        obtain ⟨rfl, rfl⟩ := hd
        go_wp2
        exact bodyPost_ret (results_tmp2 rfl _ _ _) rfl ⟨_, rfl, ⟨rfl, .inl ⟨rfl, rfl⟩⟩, HB7.out⟩
      · have hd : ((rl, re) : List St × Int) = (L, 0) := by rw [hdef1, if_neg hL0]
        have hne : ¬ L.length = 0 := fun e => hL0 (List.length_eq_zero_iff.1 e)
        have hne2 : ((L.length : Int) == 0) = false := by simp; exact hL0
        have hne3 : ¬ (L.length : Int) = 0 := by omega
        simp only [Prod.mk.injEq] at hd
        obtain ⟨rfl, rfl⟩ := hd
        clear hdef1
        go_wp2
        exact bodyPost_ret (results_tmp2 rfl _ _ _) rfl ⟨_, rfl, HO.out, HB7.out⟩
  · have hd : ((rl, re) : List St × Int) = ([], 3) := by rw [hdef1, if_neg h8]
    have g3 : (8 : Int) < (hs.length : Int) := by omega
    clear hdef1 hb2
    simp only [Prod.mk.injEq] at hd
    obtain ⟨rfl, rfl⟩ := hd
    go_wp2
    exact bodyPost_ret (results_tmp2 rfl _ _ _) rfl ⟨_, rfl, ⟨rfl, .inl ⟨rfl, rfl⟩⟩, HB2.out⟩
end Go.Proofs.Ytdbjifpnbghbaaa
