/- Sound: isFound, Search, first. -/
import Derived.Test.YtdbjifpnbghbaaaA14
import Derived.Lib.QuietBelow
namespace Go.Proofs.Ytdbjifpnbghbaaa
set_option linter.unusedSimpArgs false
set_option linter.unusedVariables false
open Go.RowKit Go.Maps Go.BigFrame

set_option maxRecDepth 100000 in
set_option maxHeartbeats 3200000 in
theorem found_least (l : List Pi) (hok : lineOk l = true) (a : Option Addr) (cp : Nat) (x y gr : Int) (n : Nat) (w : World) (hl : TabAt 3 piC w (.slice a l.length cp) l) : Calls Try.prog 68 #[.agg #[.slice a l.length cp, .int .i64 x, .int .i64 y, .iface 91 (.agg #[]), .int .i64 gr], .int .i64 (n : Nat)] w fun e w' => e = .returned (.bool (foundF l x y false gr n)) ∧ Below w.heap.size w w' := by
  obtain ⟨W1, hW1⟩ : ∃ X, X = w.alloc (.cells #[.slice a l.length cp, .int .i64 x, .int .i64 y, .iface 91 (.agg #[]), .int .i64 gr] 105) := ⟨_, rfl⟩
  have hb1 : Below w.heap.size w W1 := by rw [hW1]; exact (Below.refl _ _).alloc (Nat.le_refl _) _
  have hq1 : W1.heap[w.heap.size]? = some (.cells #[.slice a l.length cp, .int .i64 x, .int .i64 y, .iface 91 (.agg #[]), .int .i64 gr] 105 (0, 0)) := by rw [hW1]; exact alloc_heap w _
  have hl1 := hl.below hb1
  have hP : foundF l x y false gr n = decide (gr ≤ lagF false l x y n) := rfl
  have kk := fun X hX => lag_least l hok a cp x y (n : Nat) X hX
  obtain ⟨v, hv⟩ : ∃ v, lagF false l x y n = v := ⟨_, rfl⟩
  rw [hv] at hP kk
  rw [hP]
  obtain ⟨y0, y1, y2, y3, y4⟩ := five_cells hq1
  obtain ⟨q, hq⟩ : ∃ x, w.heap.size = x := ⟨_, rfl⟩
  rw [hq] at y0 y1 y2 y3 y4
  have C1 := fun d os => Calls.regrown_of (w := W1) (d := d) (os := os) (kk _ (hl1.below (below_regrown W1 d os)))
  have HB1 := Lib.hid hb1
  clear hl hb1 hq1 hl1 hP kk hv
  go_enter Try.func68, Try.ntmps68
  go_upto_region 1 with fail
  rw [← hW1]
  try rw [hq]
  clear hW1
  have k0 := cell_regrown y0
  have k1 := cell_regrown y1
  have k2 := cell_regrown y2
  have k3 := cell_regrown y3
  have k4 := cell_regrown y4
  clear y0 y1 y2 y3 y4 hq
  refine wp_region_quiet_below (by kernel_rfl) (by kernel_rfl) ?_
  repeat (go_big_quiet_step (first | with_reducible exact C1 _ _))
  refine wpQuiet_nil ?_
  intro W2 hw'
  have hbr : Below W1.heap.size W1 W2 := by obtain ⟨⟨dq, osq⟩, hw''⟩ := hw'; rw [hw'']; exact below_regrown W1 dq osq
  have HB2 := Lib.hid (HB1.out.trans (hbr.mono HB1.out.size))
  clear hw' C1 k0 k1 k2 k3 k4 hbr
  go_wp2
  go_ret
  exact ⟨rfl, HB2.out⟩
set_option maxRecDepth 100000 in
set_option maxHeartbeats 3200000 in
theorem found_greatest (l : List Pi) (hok : lineOk l = true) (a : Option Addr) (cp : Nat) (x y gr : Int) (n : Nat) (w : World) (hl : TabAt 3 piC w (.slice a l.length cp) l) : Calls Try.prog 68 #[.agg #[.slice a l.length cp, .int .i64 x, .int .i64 y, .iface 92 (.agg #[]), .int .i64 gr], .int .i64 (n : Nat)] w fun e w' => e = .returned (.bool (foundF l x y true gr n)) ∧ Below w.heap.size w w' := by
  obtain ⟨W1, hW1⟩ : ∃ X, X = w.alloc (.cells #[.slice a l.length cp, .int .i64 x, .int .i64 y, .iface 92 (.agg #[]), .int .i64 gr] 105) := ⟨_, rfl⟩
  have hb1 : Below w.heap.size w W1 := by rw [hW1]; exact (Below.refl _ _).alloc (Nat.le_refl _) _
  have hq1 : W1.heap[w.heap.size]? = some (.cells #[.slice a l.length cp, .int .i64 x, .int .i64 y, .iface 92 (.agg #[]), .int .i64 gr] 105 (0, 0)) := by rw [hW1]; exact alloc_heap w _
  have hl1 := hl.below hb1
  have hP : foundF l x y true gr n = decide (gr ≤ lagF true l x y n) := rfl
  have kk := fun X hX => lag_greatest l hok a cp x y (n : Nat) X hX
  obtain ⟨v, hv⟩ : ∃ v, lagF true l x y n = v := ⟨_, rfl⟩
  rw [hv] at hP kk
  rw [hP]
  obtain ⟨y0, y1, y2, y3, y4⟩ := five_cells hq1
  obtain ⟨q, hq⟩ : ∃ x, w.heap.size = x := ⟨_, rfl⟩
  rw [hq] at y0 y1 y2 y3 y4
  have C1 := fun d os => Calls.regrown_of (w := W1) (d := d) (os := os) (kk _ (hl1.below (below_regrown W1 d os)))
  have HB1 := Lib.hid hb1
  clear hl hb1 hq1 hl1 hP kk hv
  go_enter Try.func68, Try.ntmps68
  go_upto_region 1 with fail
  rw [← hW1]
  try rw [hq]
  clear hW1
  have k0 := cell_regrown y0
  have k1 := cell_regrown y1
  have k2 := cell_regrown y2
  have k3 := cell_regrown y3
  have k4 := cell_regrown y4
  clear y0 y1 y2 y3 y4 hq
  refine wp_region_quiet_below (by kernel_rfl) (by kernel_rfl) ?_
  repeat (go_big_quiet_step (first | with_reducible exact C1 _ _))
  refine wpQuiet_nil ?_
  intro W2 hw'
  have hbr : Below W1.heap.size W1 W2 := by obtain ⟨⟨dq, osq⟩, hw''⟩ := hw'; rw [hw'']; exact below_regrown W1 dq osq
  have HB2 := Lib.hid (HB1.out.trans (hbr.mono HB1.out.size))
  clear hw' C1 k0 k1 k2 k3 k4 hbr
  go_wp2
  go_ret
  exact ⟨rfl, HB2.out⟩
theorem search_end {p : Nat → Bool} {f i j : Nat} (h : ¬ i < j) : searchF p f i j = i := by
  cases f with
  | zero => rfl
  | succ f => rw [searchF, if_neg h]
theorem search_step {p : Nat → Bool} {f i j : Nat} (h : i < j) : searchF p (f + 1) i j = if p ((i + j) / 2) then searchF p f i ((i + j) / 2) else searchF p f ((i + j) / 2 + 1) j := by
  rw [searchF, if_pos h]
theorem search_le {p : Nat → Bool} : ∀ (f i j : Nat), i ≤ j → i ≤ searchF p f i j ∧ searchF p f i j ≤ j
  | 0, i, j, h => ⟨Nat.le_refl _, h⟩
  | f + 1, i, j, h => by
    by_cases hlt : i < j
    · rw [search_step hlt]
      split
      · have := search_le (p := p) f i ((i + j) / 2) (by omega); omega
      · have := search_le (p := p) f ((i + j) / 2 + 1) j (by omega); omega
    · rw [search_end hlt]; omega
set_option maxRecDepth 100000 in
set_option maxHeartbeats 3200000 in
theorem search_any (p : Nat → Bool) (sv : Value) (N : Nat) (hN : N ≤ 1000000) (w : World) (H : ∀ (n : Nat) (X : World), n < N → Below w.heap.size w X → Calls Try.prog 68 #[sv, .int .i64 (n : Nat)] X fun e w' => e = .returned (.bool (p n)) ∧ Below X.heap.size X w') :
    Calls Try.prog 67 #[.int .i64 (N : Nat), .func (.func 68) #[sv] #[]] w fun e w' => e = .returned (.int .i64 (searchF p 20 0 N : Nat)) ∧ Below w.heap.size w w' := by
  obtain ⟨r, hr⟩ : ∃ r, searchF p 20 0 N = r := ⟨_, rfl⟩
  rw [hr]
  have HM := Lib.hid H
  have HR := Lib.hid hr
  clear H hr
  go_enter Try.func67, Try.ntmps67
  go_wp2_with fail
  go_loopw [5, 6] (fun a b wr => ∃ i j f : Nat, i ≤ j ∧ j ≤ N ∧ a = .int .i64 i ∧ b = .int .i64 j ∧ j - i < 2 ^ f ∧ searchF p f i j = r ∧ Below w.heap.size w wr) (fun a b _ => (intOf b).toNat - (intOf a).toNat)
  case atStart => exact ⟨0, N, 20, by omega, by omega, rfl, rfl, by omega, HR.out, Below.refl _ _⟩
  case round =>
    obtain ⟨i, j, f, hij, hj, rfl, rfl, hf, hsr, hbw⟩ := hrel
    by_cases hlt : i < j
    · obtain ⟨f, rfl⟩ : ∃ g, f = g + 1 := ⟨f - 1, by
        rcases f with _ | f
        · simp at hf; omega
        · omega⟩
      rw [search_step hlt] at hsr
      have hp2 : 2 ^ (f + 1) = 2 * 2 ^ f := by rw [Nat.pow_succ]; omega
      rw [hp2] at hf
      obtain ⟨z, hz⟩ : ∃ z, 2 ^ f = z := ⟨_, rfl⟩
      rw [hz] at hf
      obtain ⟨m, hmd⟩ : ∃ m, (i + j) / 2 = m := ⟨_, rfl⟩
      rw [hmd] at hsr
      have him : i ≤ m := by omega
      have hmj : m < j := by omega
      have hf1 : m - i < z := by omega
      have hf2 : j - (m + 1) < z := by omega
      have KP := HM.out m wr (by omega) hbw
      obtain ⟨b, hb⟩ : ∃ b, p m = b := ⟨_, rfl⟩
      rw [hb] at hsr KP
      have KPP := Lib.hid KP
      have HSR := Lib.hid hsr
      have HBW := Lib.hid hbw
      have HZ := Lib.hid (And.intro hz (And.intro hf1 hf2))
      have ij : (i : Int) < (j : Int) := by omega
      have w1 : IntKind.i64.wrap ((i : Int) + (j : Int)) = ((i + j : Nat) : Int) := by rw [IntWalk.i64_in _ (by omega)]; omega
      obtain ⟨s, hs⟩ : ∃ s, i + j = s := ⟨_, rfl⟩
      rw [hs] at w1 hmd
      have w2 : IntKind.u64.wrap (s : Int) = s := by unfold IntKind.wrap; simp [IntKind.signed, IntKind.bits]; omega
      have w3 : (s : Int) / 2 = (m : Int) := by omega
      have w4 : IntKind.i64.wrap (m : Int) = m := IntWalk.i64_in _ (by omega)
      have w4b : IntKind.u64.wrap (m : Int) = m := by unfold IntKind.wrap; simp [IntKind.signed, IntKind.bits]; omega
      have w5 : IntKind.i64.wrap ((m : Int) + 1) = (m : Int) + 1 := IntWalk.i64_in _ (by omega)
      clear KP hb hsr hbw hp2 hf hz hf1 hf2 hs hmd
      go_wp2_with (go_at_call 68; fail)
      refine KPP.out.mono ?_
      rintro e w2 ⟨rfl, hb2⟩
      have HB2 := Lib.hid (HBW.out.trans (hb2.mono HBW.out.size))
      have hsr := HSR.out
      clear hb2
      cases b with
      | true =>
        rw [if_pos rfl] at hsr
        have HS2 := Lib.hid hsr
        clear hsr HSR
        go_wp2
        go_roundw
        case rel => exact ⟨i, m, f, him, by omega, rfl, rfl, by rw [HZ.out.1]; exact HZ.out.2.1, HS2.out, HB2.out⟩
        case measure => simp [intOf]; omega
      | false =>
        rw [if_neg (by simp)] at hsr
        have HS2 := Lib.hid hsr
        clear hsr HSR
        go_wp2
        go_roundw
        case rel => exact ⟨m + 1, j, f, by omega, hj, by go_num, rfl, by rw [HZ.out.1]; exact HZ.out.2.2, HS2.out, HB2.out⟩
        case measure => simp [intOf]; omega
    · have hr := (search_end hlt).symm.trans hsr
      have HRR := Lib.hid hr
      have i1 : ¬ (i : Int) < (j : Int) := by omega
      have HBW := Lib.hid hbw
      clear hr hlt hsr hbw hf
      go_wp2
      go_ret
      exact ⟨by rw [← HRR.out]; rfl, HBW.out⟩
set_option maxRecDepth 100000 in
set_option maxHeartbeats 3200000 in
theorem first_least (l : List Pi) (hok : lineOk l = true) (a : Option Addr) (cp : Nat) (x y gr : Int) (w : World) (hl : TabAt 3 piC w (.slice a l.length cp) l) : Calls Try.prog 61 #[.agg #[.slice a l.length cp, .int .i64 x, .int .i64 y, .iface 91 (.agg #[]), .int .i64 gr]] w fun e w' => e = .returned (.int .i64 (firstF l x y false gr)) ∧ Below w.heap.size w w' := by
  have hmf : ∀ (fn : Fn) (first cap : Array Value) (w : World), (Instr.makeFunc fn first cap).run Try.prog w = .ok (.func fn first cap) w := fun _ _ _ _ => rfl
  obtain ⟨W1, hW1⟩ : ∃ X, X = w.alloc (.cells #[.slice a l.length cp, .int .i64 x, .int .i64 y, .iface 91 (.agg #[]), .int .i64 gr] 105) := ⟨_, rfl⟩
  have hb1 : Below w.heap.size w W1 := by rw [hW1]; exact (Below.refl _ _).alloc (Nat.le_refl _) _
  have hq1 : W1.heap[w.heap.size]? = some (.cells #[.slice a l.length cp, .int .i64 x, .int .i64 y, .iface 91 (.agg #[]), .int .i64 gr] 105 (0, 0)) := by rw [hW1]; exact alloc_heap w _
  have hei := end_in hok
  have hf := field24 0 (endF l)
  have KP := Lib.hid (fun X hX => places_any l hok (.slice a l.length cp) X hX)
  have hF : firstF l x y false gr = (searchF (foundF l x y false gr) 20 0 (endF l + 1).toNat : Nat) := rfl
  obtain ⟨N, hN⟩ : ∃ N : Nat, (N : Int) = endF l + 1 := ⟨(endF l + 1).toNat, by omega⟩
  have hN2 : (endF l + 1).toNat = N := by omega
  rw [hN2] at hF
  have KS := Lib.hid (fun X (hX : TabAt 3 piC X (.slice a l.length cp) l) => search_any (foundF l x y false gr) (.agg #[.slice a l.length cp, .int .i64 x, .int .i64 y, .iface 91 (.agg #[]), .int .i64 gr]) N (by omega) X (fun n Y _ hb => found_least l hok a cp x y gr n Y (hX.below hb)))
  obtain ⟨r, hr⟩ : ∃ r, searchF (foundF l x y false gr) 20 0 N = r := ⟨_, rfl⟩
  rw [hr] at KS hF
  rw [hF]
  obtain ⟨q, hq⟩ : ∃ x, w.heap.size = x := ⟨_, rfl⟩
  rw [hq] at hq1
  have w1 : IntKind.i64.wrap (endF l + 1) = (N : Int) := by rw [IntWalk.i64_in _ (by omega)]; omega
  have HB1 := Lib.hid hb1
  have HL := Lib.hid (hl.below hb1)
  have H0 := Lib.hid hq1
  clear hl hb1 hq1 hF hN hN2 hr hei
  go_enter Try.func61, Try.ntmps61
  go_upto_region 1 with fail
  rw [← hW1]
  try rw [hq]
  clear hW1 hq
  refine wp_region_held_drew (S := fun w' => w'.heap[q]? = some (.cells #[.slice a l.length cp, .int .i64 x, .int .i64 y, .iface 91 (.agg #[]), .int .i64 gr] 105 (0, 0))) (by kernel_rfl) H0.out (fun hHeld => ?_)
  obtain ⟨Y0, hY0⟩ : ∃ X, X = W1.drew := ⟨_, rfl⟩
  have hbX : Below W1.heap.size W1 Y0 := by rw [hY0]; exact (Below.refl _ _).drew
  rw [← hY0] at hHeld ⊢
  have hH := Lib.hid hHeld
  clear hY0 hHeld
  refine wpAnyH_take (i := 0) (oi := _) (v := ?_) rfl (by kernel_rfl) (by kernel_rfl) (by kernel_rfl) (fun _ _ _ h => h) (Or.inl ⟨by rfl, ?_⟩) hH.out ?_
  rotate_left
  · intro w1 hSw
    obtain ⟨d0, d1, d2, d3, d4⟩ := five_cells hSw
    clear hSw
    go_simp; with_reducible rfl
  simp only [List.getElem_toArray, List.getElem_cons_succ, List.getElem_cons_zero, Act.put, List.setIfInBounds_toArray, List.set_cons_zero, List.set_cons_succ]
  refine wpAnyH_take (i := 1) (oi := _) (v := ?_) rfl (by kernel_rfl) (by kernel_rfl) (by kernel_rfl) (fun _ _ _ h => h) (Or.inl ⟨by rfl, ?_⟩) hH.out ?_
  rotate_left
  · intro w1 hSw
    obtain ⟨d0, d1, d2, d3, d4⟩ := five_cells hSw
    clear hSw
    go_simp; with_reducible rfl
  simp only [List.getElem_toArray, List.getElem_cons_succ, List.getElem_cons_zero, Act.put, List.setIfInBounds_toArray, List.set_cons_zero, List.set_cons_succ]
  refine wpAnyH_take (i := 2) (oi := _) (v := ?_) rfl (by kernel_rfl) (by kernel_rfl) (by kernel_rfl) (fun _ _ _ h => h) (Or.inl ⟨by rfl, ?_⟩) hH.out ?_
  rotate_left
  · intro w1 hSw
    obtain ⟨d0, d1, d2, d3, d4⟩ := five_cells hSw
    clear hSw
    go_simp; with_reducible rfl
  simp only [List.getElem_toArray, List.getElem_cons_succ, List.getElem_cons_zero, Act.put, List.setIfInBounds_toArray, List.set_cons_zero, List.set_cons_succ]
  refine wpAnyH_take (i := 6) (oi := _) (v := ?_) rfl (by kernel_rfl) (by kernel_rfl) (by kernel_rfl) (fun _ _ _ h => h) (Or.inl ⟨by rfl, ?_⟩) hH.out ?_
  rotate_left
  · intro w1 hSw
    obtain ⟨d0, d1, d2, d3, d4⟩ := five_cells hSw
    clear hSw
    go_simp; with_reducible rfl
  simp only [List.getElem_toArray, List.getElem_cons_succ, List.getElem_cons_zero, Act.put, List.setIfInBounds_toArray, List.set_cons_zero, List.set_cons_succ]
  refine wpAnyH_take (i := 7) (oi := _) (v := ?_) rfl (by kernel_rfl) (by kernel_rfl) (by kernel_rfl) (fun _ _ _ h => h) (Or.inl ⟨by rfl, ?_⟩) hH.out ?_
  rotate_left
  · intro w1 hSw
    obtain ⟨d0, d1, d2, d3, d4⟩ := five_cells hSw
    clear hSw
    go_simp; with_reducible rfl
  simp only [List.getElem_toArray, List.getElem_cons_succ, List.getElem_cons_zero, Act.put, List.setIfInBounds_toArray, List.set_cons_zero, List.set_cons_succ]
  refine wpAnyH_all (rs := [3]) (by kernel_rfl) (by simp) ?_
  intro i hi; obtain rfl := List.mem_singleton.1 hi; clear hi
  refine wpOp_step rfl (fun K3 hK3 => ?_)
  have HK3 := Lib.hid hK3
  clear hK3
  rw [if_pos (by rfl)]
  go_simp
  refine (KP.out Y0 (HL.out.below hbX)).mono ?_
  rintro e Y1 ⟨rfl, hbn⟩
  have hH2 := box_step (w0 := w) hH.out hbn
  replace hbX := hbX.trans (hbn.mono hbX.size)
  clear hH hbn
  have hH := Lib.hid hH2
  clear hH2
  refine HK3.out _ _ ⟨hH.out, ?_⟩
  clear HK3 K3
  try simp only [List.getElem_toArray, List.getElem_cons_succ, List.getElem_cons_zero, Act.put, List.setIfInBounds_toArray, List.set_cons_zero, List.set_cons_succ]
  refine wpAnyH_take (i := 4) (oi := _) (v := ?_) rfl (by kernel_rfl) (by kernel_rfl) (by kernel_rfl) (fun _ _ _ h => h) (Or.inl ⟨by rfl, ?_⟩) hH.out ?_
  rotate_left
  · intro w1 hSw
    obtain ⟨d0, d1, d2, d3, d4⟩ := five_cells hSw
    clear hSw
    go_simp; with_reducible rfl
  simp only [List.getElem_toArray, List.getElem_cons_succ, List.getElem_cons_zero, Act.put, List.setIfInBounds_toArray, List.set_cons_zero, List.set_cons_succ]
  refine wpAnyH_take (i := 5) (oi := _) (v := ?_) rfl (by kernel_rfl) (by kernel_rfl) (by kernel_rfl) (fun _ _ _ h => h) (Or.inl ⟨by rfl, ?_⟩) hH.out ?_
  rotate_left
  · intro w1 hSw
    obtain ⟨d0, d1, d2, d3, d4⟩ := five_cells hSw
    clear hSw
    go_simp; with_reducible rfl
  simp only [List.getElem_toArray, List.getElem_cons_succ, List.getElem_cons_zero, Act.put, List.setIfInBounds_toArray, List.set_cons_zero, List.set_cons_succ]
  refine wpAnyH_all (rs := [8]) (by kernel_rfl) (by simp) ?_
  intro i hi; obtain rfl := List.mem_singleton.1 hi; clear hi
  refine wpOp_step rfl (fun K3 hK3 => ?_)
  have HK3 := Lib.hid hK3
  clear hK3
  rw [if_pos (by rfl)]
  go_simp
  refine (KS.out Y1 (HL.out.below hbX)).mono ?_
  rintro e Y2 ⟨rfl, hbn⟩
  have hH2 := box_step (w0 := w) hH.out hbn
  replace hbX := hbX.trans (hbn.mono hbX.size)
  clear hH hbn
  have hH := Lib.hid hH2
  clear hH2
  refine HK3.out _ _ ⟨hH.out, ?_⟩
  clear HK3 K3
  try simp only [List.getElem_toArray, List.getElem_cons_succ, List.getElem_cons_zero, Act.put, List.setIfInBounds_toArray, List.set_cons_zero, List.set_cons_succ]
  refine wpAnyH_take (i := 9) (oi := _) (v := ?_) rfl (by kernel_rfl) (by kernel_rfl) (by kernel_rfl) (fun _ _ _ h => h) (Or.inl ⟨by rfl, ?_⟩) hH.out ?_
  rotate_left
  · intro w1 hSw
    obtain ⟨d0, d1, d2, d3, d4⟩ := five_cells hSw
    clear hSw
    go_simp; with_reducible rfl
  simp only [List.getElem_toArray, List.getElem_cons_succ, List.getElem_cons_zero, Act.put, List.setIfInBounds_toArray, List.set_cons_zero, List.set_cons_succ]
  refine wpAnyH_done (by kernel_rfl) ?_ _
  have HBZ := Lib.hid (HB1.out.trans (hbX.mono HB1.out.size))
  clear hbX
  go_wp2
  go_ret
  exact ⟨rfl, HBZ.out⟩
set_option maxRecDepth 100000 in
set_option maxHeartbeats 3200000 in
theorem first_greatest (l : List Pi) (hok : lineOk l = true) (a : Option Addr) (cp : Nat) (x y gr : Int) (w : World) (hl : TabAt 3 piC w (.slice a l.length cp) l) : Calls Try.prog 61 #[.agg #[.slice a l.length cp, .int .i64 x, .int .i64 y, .iface 92 (.agg #[]), .int .i64 gr]] w fun e w' => e = .returned (.int .i64 (firstF l x y true gr)) ∧ Below w.heap.size w w' := by
  have hmf : ∀ (fn : Fn) (first cap : Array Value) (w : World), (Instr.makeFunc fn first cap).run Try.prog w = .ok (.func fn first cap) w := fun _ _ _ _ => rfl
  obtain ⟨W1, hW1⟩ : ∃ X, X = w.alloc (.cells #[.slice a l.length cp, .int .i64 x, .int .i64 y, .iface 92 (.agg #[]), .int .i64 gr] 105) := ⟨_, rfl⟩
  have hb1 : Below w.heap.size w W1 := by rw [hW1]; exact (Below.refl _ _).alloc (Nat.le_refl _) _
  have hq1 : W1.heap[w.heap.size]? = some (.cells #[.slice a l.length cp, .int .i64 x, .int .i64 y, .iface 92 (.agg #[]), .int .i64 gr] 105 (0, 0)) := by rw [hW1]; exact alloc_heap w _
  have hei := end_in hok
  have hf := field24 0 (endF l)
  have KP := Lib.hid (fun X hX => places_any l hok (.slice a l.length cp) X hX)
  have hF : firstF l x y true gr = (searchF (foundF l x y true gr) 20 0 (endF l + 1).toNat : Nat) := rfl
  obtain ⟨N, hN⟩ : ∃ N : Nat, (N : Int) = endF l + 1 := ⟨(endF l + 1).toNat, by omega⟩
  have hN2 : (endF l + 1).toNat = N := by omega
  rw [hN2] at hF
  have KS := Lib.hid (fun X (hX : TabAt 3 piC X (.slice a l.length cp) l) => search_any (foundF l x y true gr) (.agg #[.slice a l.length cp, .int .i64 x, .int .i64 y, .iface 92 (.agg #[]), .int .i64 gr]) N (by omega) X (fun n Y _ hb => found_greatest l hok a cp x y gr n Y (hX.below hb)))
  obtain ⟨r, hr⟩ : ∃ r, searchF (foundF l x y true gr) 20 0 N = r := ⟨_, rfl⟩
  rw [hr] at KS hF
  rw [hF]
  obtain ⟨q, hq⟩ : ∃ x, w.heap.size = x := ⟨_, rfl⟩
  rw [hq] at hq1
  have w1 : IntKind.i64.wrap (endF l + 1) = (N : Int) := by rw [IntWalk.i64_in _ (by omega)]; omega
  have HB1 := Lib.hid hb1
  have HL := Lib.hid (hl.below hb1)
  have H0 := Lib.hid hq1
  clear hl hb1 hq1 hF hN hN2 hr hei
  go_enter Try.func61, Try.ntmps61
  go_upto_region 1 with fail
  rw [← hW1]
  try rw [hq]
  clear hW1 hq
  refine wp_region_held_drew (S := fun w' => w'.heap[q]? = some (.cells #[.slice a l.length cp, .int .i64 x, .int .i64 y, .iface 92 (.agg #[]), .int .i64 gr] 105 (0, 0))) (by kernel_rfl) H0.out (fun hHeld => ?_)
  obtain ⟨Y0, hY0⟩ : ∃ X, X = W1.drew := ⟨_, rfl⟩
  have hbX : Below W1.heap.size W1 Y0 := by rw [hY0]; exact (Below.refl _ _).drew
  rw [← hY0] at hHeld ⊢
  have hH := Lib.hid hHeld
  clear hY0 hHeld
  refine wpAnyH_take (i := 0) (oi := _) (v := ?_) rfl (by kernel_rfl) (by kernel_rfl) (by kernel_rfl) (fun _ _ _ h => h) (Or.inl ⟨by rfl, ?_⟩) hH.out ?_
  rotate_left
  · intro w1 hSw
    obtain ⟨d0, d1, d2, d3, d4⟩ := five_cells hSw
    clear hSw
    go_simp; with_reducible rfl
  simp only [List.getElem_toArray, List.getElem_cons_succ, List.getElem_cons_zero, Act.put, List.setIfInBounds_toArray, List.set_cons_zero, List.set_cons_succ]
  refine wpAnyH_take (i := 1) (oi := _) (v := ?_) rfl (by kernel_rfl) (by kernel_rfl) (by kernel_rfl) (fun _ _ _ h => h) (Or.inl ⟨by rfl, ?_⟩) hH.out ?_
  rotate_left
  · intro w1 hSw
    obtain ⟨d0, d1, d2, d3, d4⟩ := five_cells hSw
    clear hSw
    go_simp; with_reducible rfl
  simp only [List.getElem_toArray, List.getElem_cons_succ, List.getElem_cons_zero, Act.put, List.setIfInBounds_toArray, List.set_cons_zero, List.set_cons_succ]
  refine wpAnyH_take (i := 2) (oi := _) (v := ?_) rfl (by kernel_rfl) (by kernel_rfl) (by kernel_rfl) (fun _ _ _ h => h) (Or.inl ⟨by rfl, ?_⟩) hH.out ?_
  rotate_left
  · intro w1 hSw
    obtain ⟨d0, d1, d2, d3, d4⟩ := five_cells hSw
    clear hSw
    go_simp; with_reducible rfl
  simp only [List.getElem_toArray, List.getElem_cons_succ, List.getElem_cons_zero, Act.put, List.setIfInBounds_toArray, List.set_cons_zero, List.set_cons_succ]
  refine wpAnyH_take (i := 6) (oi := _) (v := ?_) rfl (by kernel_rfl) (by kernel_rfl) (by kernel_rfl) (fun _ _ _ h => h) (Or.inl ⟨by rfl, ?_⟩) hH.out ?_
  rotate_left
  · intro w1 hSw
    obtain ⟨d0, d1, d2, d3, d4⟩ := five_cells hSw
    clear hSw
    go_simp; with_reducible rfl
  simp only [List.getElem_toArray, List.getElem_cons_succ, List.getElem_cons_zero, Act.put, List.setIfInBounds_toArray, List.set_cons_zero, List.set_cons_succ]
  refine wpAnyH_take (i := 7) (oi := _) (v := ?_) rfl (by kernel_rfl) (by kernel_rfl) (by kernel_rfl) (fun _ _ _ h => h) (Or.inl ⟨by rfl, ?_⟩) hH.out ?_
  rotate_left
  · intro w1 hSw
    obtain ⟨d0, d1, d2, d3, d4⟩ := five_cells hSw
    clear hSw
    go_simp; with_reducible rfl
  simp only [List.getElem_toArray, List.getElem_cons_succ, List.getElem_cons_zero, Act.put, List.setIfInBounds_toArray, List.set_cons_zero, List.set_cons_succ]
  refine wpAnyH_all (rs := [3]) (by kernel_rfl) (by simp) ?_
  intro i hi; obtain rfl := List.mem_singleton.1 hi; clear hi
  refine wpOp_step rfl (fun K3 hK3 => ?_)
  have HK3 := Lib.hid hK3
  clear hK3
  rw [if_pos (by rfl)]
  go_simp
  refine (KP.out Y0 (HL.out.below hbX)).mono ?_
  rintro e Y1 ⟨rfl, hbn⟩
  have hH2 := box_step (w0 := w) hH.out hbn
  replace hbX := hbX.trans (hbn.mono hbX.size)
  clear hH hbn
  have hH := Lib.hid hH2
  clear hH2
  refine HK3.out _ _ ⟨hH.out, ?_⟩
  clear HK3 K3
  try simp only [List.getElem_toArray, List.getElem_cons_succ, List.getElem_cons_zero, Act.put, List.setIfInBounds_toArray, List.set_cons_zero, List.set_cons_succ]
  refine wpAnyH_take (i := 4) (oi := _) (v := ?_) rfl (by kernel_rfl) (by kernel_rfl) (by kernel_rfl) (fun _ _ _ h => h) (Or.inl ⟨by rfl, ?_⟩) hH.out ?_
  rotate_left
  · intro w1 hSw
    obtain ⟨d0, d1, d2, d3, d4⟩ := five_cells hSw
    clear hSw
    go_simp; with_reducible rfl
  simp only [List.getElem_toArray, List.getElem_cons_succ, List.getElem_cons_zero, Act.put, List.setIfInBounds_toArray, List.set_cons_zero, List.set_cons_succ]
  refine wpAnyH_take (i := 5) (oi := _) (v := ?_) rfl (by kernel_rfl) (by kernel_rfl) (by kernel_rfl) (fun _ _ _ h => h) (Or.inl ⟨by rfl, ?_⟩) hH.out ?_
  rotate_left
  · intro w1 hSw
    obtain ⟨d0, d1, d2, d3, d4⟩ := five_cells hSw
    clear hSw
    go_simp; with_reducible rfl
  simp only [List.getElem_toArray, List.getElem_cons_succ, List.getElem_cons_zero, Act.put, List.setIfInBounds_toArray, List.set_cons_zero, List.set_cons_succ]
  refine wpAnyH_all (rs := [8]) (by kernel_rfl) (by simp) ?_
  intro i hi; obtain rfl := List.mem_singleton.1 hi; clear hi
  refine wpOp_step rfl (fun K3 hK3 => ?_)
  have HK3 := Lib.hid hK3
  clear hK3
  rw [if_pos (by rfl)]
  go_simp
  refine (KS.out Y1 (HL.out.below hbX)).mono ?_
  rintro e Y2 ⟨rfl, hbn⟩
  have hH2 := box_step (w0 := w) hH.out hbn
  replace hbX := hbX.trans (hbn.mono hbX.size)
  clear hH hbn
  have hH := Lib.hid hH2
  clear hH2
  refine HK3.out _ _ ⟨hH.out, ?_⟩
  clear HK3 K3
  try simp only [List.getElem_toArray, List.getElem_cons_succ, List.getElem_cons_zero, Act.put, List.setIfInBounds_toArray, List.set_cons_zero, List.set_cons_succ]
  refine wpAnyH_take (i := 9) (oi := _) (v := ?_) rfl (by kernel_rfl) (by kernel_rfl) (by kernel_rfl) (fun _ _ _ h => h) (Or.inl ⟨by rfl, ?_⟩) hH.out ?_
  rotate_left
  · intro w1 hSw
    obtain ⟨d0, d1, d2, d3, d4⟩ := five_cells hSw
    clear hSw
    go_simp; with_reducible rfl
  simp only [List.getElem_toArray, List.getElem_cons_succ, List.getElem_cons_zero, Act.put, List.setIfInBounds_toArray, List.set_cons_zero, List.set_cons_succ]
  refine wpAnyH_done (by kernel_rfl) ?_ _
  have HBZ := Lib.hid (HB1.out.trans (hbX.mono HB1.out.size))
  clear hbX
  go_wp2
  go_ret
  exact ⟨rfl, HBZ.out⟩
end Go.Proofs.Ytdbjifpnbghbaaa
