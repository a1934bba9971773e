/- Size: the walk of SizeStarved. -/
import Derived.Test.YtlcmedfjghcigaaM2
import Derived.Test.YtlcmedfjghcigaaA25
namespace Go.Proofs.Ytlcmedfjghcigaa
set_option linter.unusedSimpArgs false
set_option linter.unusedVariables false
open Go.RowKit Go.Maps Go.BigFrame

def shortF (h : Hs) (z : Sz) (s : Nat) : Bool := decide (z.full < (loadF h.tp s).f.2)
theorem bad_split (h : Hs) (z : Sz) (s : Nat) : badF h z s = (shortF h z s || decide ((h.head - (loadF h.tp s).n) * z.full * z.full < z.loss * (loadF h.tp s).f.2 * (loadF h.tp s).f.2)) := by
  unfold badF findF shortF
  by_cases k : z.full < (loadF h.tp s).f.2
  · rw [if_pos k]; simp [k]
  · rw [if_neg k]; simp [k]
theorem find_snd {h : Hs} {z : Sz} {s : Nat} (k : badF h z s = true) : (findF h z s).2 = !shortF h z s := by
  rw [bad_split] at k
  unfold findF shortF at *
  by_cases q : z.full < (loadF h.tp s).f.2
  · rw [if_pos q]; simp [q]
  · rw [if_neg q]; simp [q] at k ⊢; exact k
theorem load_zero (ts : List Tp) : ∀ k, loadUp ts 0 k = ⟨(0, 0), 0⟩
  | 0 => rfl
  | k + 1 => by
    rw [loadUp]
    have : hasF 0 k = false := by unfold hasF; simp
    rw [this, load_zero ts k]; rfl
theorem bad_zero {h : Hs} {z : Sz} (hok : hsOk h = true) (hz : szOk z = true) : badF h z 0 = false := by
  have hf := (szOk_iff.1 hz).1
  have hhead := (headOk_iff.1 (hsOk_iff.1 hok).1).1
  rw [bad_split]
  unfold shortF loadF
  rw [load_zero]
  have hp : 0 ≤ h.head * z.full * z.full := Int.mul_nonneg (Int.mul_nonneg (by omega) (by omega)) (by omega)
  simp only [Int.sub_zero, Int.mul_zero, Bool.or_eq_false_iff, decide_eq_false_iff_not]
  exact ⟨by omega, by omega⟩
theorem starve_first {h : Hs} {z : Sz} {x : Nat} (k : starveF h z = some x) : x < 2 ^ h.tp.length ∧ openF h.rl x = true ∧ badF h z x = true ∧ ∀ y ∈ setsF h, badF h z y = true → x ≤ y := by
  unfold starveF setsF setsUp at k
  rw [List.find?_filter, List.find?_range_eq_some] at k
  obtain ⟨k3, k4, k5⟩ := k
  have q : openF h.rl x = true ∧ badF h z x = true := by simpa using k3
  refine ⟨List.mem_range.1 k4, q.1, q.2, fun y hy hb => ?_⟩
  apply Decidable.byContradiction
  intro hlt
  have k6 := k5 y (by omega)
  have hy2 : openF h.rl y = true := by
    unfold setsF setsUp at hy
    exact (List.mem_filter.1 hy).2
  simp [hy2, hb] at k6
set_option maxRecDepth 100000 in
set_option maxHeartbeats 6400000 in
theorem starvesC_any (h : Hs) (hok : hsOk h = true) (a1 : Option Addr) (c1 : Nat) (a2 : Option Addr) (c2 P Q : Nat) (z : Sz) (hz : szOk z = true) (s : Nat) (hs : s < 2 ^ h.tp.length) (w : World) (hh : HsAt w h a1 c1 a2 c2) (hp : w.heap[P]? = some (.cells #[.int .i64 h.head, .int .i64 h.drip, .slice a1 h.tp.length c1, .slice a2 h.rl.length c2] 25 (0, 0))) (hq : w.heap[Q]? = some (.cells #[.int .i64 z.start, .int .i64 z.full, .int .i64 z.loss, .int .i64 z.price] 27 (0, 0))) : Calls Try.prog 31 #[.int .i64 (s : Nat), .pointer (some ⟨P, 0, none⟩), .pointer (some ⟨Q, 0, none⟩)] w fun e w' => e = .returned (.tuple #[.bool (decide (s ≠ 0) && badF h z s), .bool (!shortF h z s)]) ∧ Below w.heap.size w w' := by
  have hsb : s < 1024 := by have := pow_table (few_taps hok).2; omega
  obtain ⟨hb1, hb2, hb3⟩ := load_in hok s
  have hhead := (headOk_iff.1 (hsOk_iff.1 hok).1).1
  obtain ⟨⟨hz1, hz2⟩, _, ⟨hz3, hz4⟩, _⟩ := szOk_iff.1 hz
  have KF := Flow_any h hok a1 c1 a2 c2 s (by omega) w hh
  rw [bad_split]
  have hsh : shortF h z s = decide (z.full < (loadF h.tp s).f.2) := rfl
  rw [hsh]
  clear hsh hb1 hz hs
  obtain ⟨lo1, hlo⟩ : ∃ f, (loadF h.tp s).f.1 = f := ⟨_, rfl⟩
  obtain ⟨f, hf⟩ : ∃ f, (loadF h.tp s).f.2 = f := ⟨_, rfl⟩
  obtain ⟨nd, hnd⟩ : ∃ f, (loadF h.tp s).n = f := ⟨_, rfl⟩
  rw [hlo, hf, hnd] at KF
  rw [hf] at hb2 ⊢
  rw [hnd] at hb3 ⊢
  obtain ⟨s0, s1, s2, s3⟩ := z
  simp only [] at *
  obtain ⟨PR, hPR⟩ : ∃ p, decide ((h.head - nd) * s1 * s1 < s2 * f * f) = p := ⟨_, rfl⟩
  rw [hPR]
  have HPR := Lib.hid hPR
  clear hPR
  obtain ⟨y0, y1, y2, y3⟩ := four_cells hp
  obtain ⟨x0, x1, x2, x3⟩ := four_cells hq
  have KFF := Lib.hid KF
  have HP := Lib.hid hp
  have HQ := Lib.hid hq
  have EV : hsV h a1 c1 a2 c2 = .agg #[.int .i64 h.head, .int .i64 h.drip, .slice a1 h.tp.length c1, .slice a2 h.rl.length c2] := rfl
  rw [EV] at KFF
  clear KF hh hp hq hlo hf hnd EV
  go_enter Try.func31, Try.ntmps31
  go_wp2_with (go_at_call 28; fail)
  refine KFF.out.mono ?_
  rintro e w2 ⟨rfl, hb2'⟩
  obtain ⟨R, hR⟩ : ∃ x, w2.heap.size = x := ⟨_, rfl⟩
  obtain ⟨W3, hW3⟩ : ∃ X, w2.alloc (.cells #[.int .i64 lo1, .int .i64 f] 31) = X := ⟨_, rfl⟩
  have hb3' : Below w2.heap.size w2 W3 := by rw [← hW3]; exact (Below.refl _ _).alloc (Nat.le_refl _) _
  have hr3 : W3.heap[R]? = some (.cells #[.int .i64 lo1, .int .i64 f] 31 (0, 0)) := by rw [← hW3, ← hR]; exact alloc_heap w2 _
  have hbb := hb2'.trans (hb3'.mono hb2'.size)
  have HB := Lib.hid hbb
  have hp3 := box_step (w0 := w) HP.out hbb
  have hq3 := box_step (w0 := w) HQ.out hbb
  clear y0 y1 y2 y3 x0 x1 x2 x3 hb2' hb3' hbb
  obtain ⟨y0, y1, y2, y3⟩ := four_cells hp3
  obtain ⟨x0, x1, x2, x3⟩ := four_cells hq3
  obtain ⟨r0, r1⟩ := two_cells hr3
  clear hp3 hq3 hr3
  by_cases hs0 : s = 0
  · subst hs0
    by_cases hlt : s1 < f
    · go_wp2
      clear hW3 hR
      go_wp2
      exact bodyPost_ret (results_tmp2 rfl _ _ _) rfl ⟨by simp [hlt], HB.out⟩
    · go_wp2
      clear hW3 hR
      go_wp2
      exact bodyPost_ret (results_tmp2 rfl _ _ _) rfl ⟨by simp [hlt], HB.out⟩
  · have hsi : ¬ (s : Int) = 0 := by omega
    have hsi2 : ((s : Int) == 0) = false := by simp; omega
    by_cases hlt : s1 < f
    · go_wp2
      clear hW3 hR
      go_wp2
      exact bodyPost_ret (results_tmp2 rfl _ _ _) rfl ⟨by simp [hlt, hs0], HB.out⟩
    · obtain ⟨l, hl⟩ : ∃ l, h.head - nd = l := ⟨_, rfl⟩
      have w0 : IntKind.i64.wrap (h.head - nd) = l := by rw [hl]; exact IntWalk.i64_in _ (by omega)
      have p1 := prod_in (a := l) (b := s1) (A := 10000) (B := 1000000) (by omega) (by omega) (by omega)
      obtain ⟨l1, hl1⟩ : ∃ x, l * s1 = x := ⟨_, rfl⟩
      have p2 := prod_in (a := l1) (b := s1) (A := 10000 * 1000000) (B := 1000000) (by rw [← hl1]; exact p1) (by omega) (by omega)
      obtain ⟨l2, hl2⟩ : ∃ x, l1 * s1 = x := ⟨_, rfl⟩
      have p3 := prod_in (a := s2) (b := f) (A := 10000) (B := 1000000) (by omega) (by omega) (by omega)
      obtain ⟨m1, hm1⟩ : ∃ x, s2 * f = x := ⟨_, rfl⟩
      have p4 := prod_in (a := m1) (b := f) (A := 10000 * 1000000) (B := 1000000) (by rw [← hm1]; exact p3) (by omega) (by omega)
      obtain ⟨m2, hm2⟩ : ∃ x, m1 * f = x := ⟨_, rfl⟩
      have hpr := HPR.out
      rw [hl, hl1, hl2, hm1, hm2] at hpr
      have HPR2 := Lib.hid hpr
      rw [hl1] at p1
      rw [hl2] at p2
      rw [hm1] at p3
      rw [hm2] at p4
      have w1 : IntKind.i64.wrap (l * s1) = l1 := by rw [hl1]; exact IntWalk.i64_in _ (by omega)
      have w2' : IntKind.i64.wrap (l1 * s1) = l2 := by rw [hl2]; exact IntWalk.i64_in _ (by omega)
      have w3 : IntKind.i64.wrap (s2 * f) = m1 := by rw [hm1]; exact IntWalk.i64_in _ (by omega)
      have w4 : IntKind.i64.wrap (m1 * f) = m2 := by rw [hm2]; exact IntWalk.i64_in _ (by omega)
      clear hl hl1 hl2 hm1 hm2 p1 p2 p3 p4 hpr HPR
      go_wp2
      clear hW3 hR
      go_wp2
      exact bodyPost_ret (results_tmp2 rfl _ _ _) rfl ⟨by rw [← HPR2.out]; simp [hlt, hs0], HB.out⟩
set_option maxRecDepth 100000 in
set_option maxHeartbeats 12800000 in
theorem starved_law (h : Hs) (a1 : Option Addr) (c1 : Nat) (a2 : Option Addr) (c2 : Nat) (z : Sz) (b : Nat) (hb : b ≤ 65535) (w : World) (hh : HsAt w h a1 c1 a2 c2) : Calls Try.prog 7 #[hsV h a1 c1 a2 c2, szV z, .int .u16 (b : Nat)] w fun e w' => e = .returned (.bool true) ∧ Below w.heap.size w w' := by
  have mt : h.tp.length ≤ 9223372036854775807 := hh.tp.1
  obtain ⟨W0, hW0⟩ : ∃ X, X = (w.alloc (.cells #[.int .i64 h.head, .int .i64 h.drip, .slice a1 h.tp.length c1, .slice a2 h.rl.length c2] 25)).alloc (.cells #[.int .i64 z.start, .int .i64 z.full, .int .i64 z.loss, .int .i64 z.price] 27) := ⟨_, rfl⟩
  have hal : W0 = al w [(.cells #[.int .i64 h.head, .int .i64 h.drip, .slice a1 h.tp.length c1, .slice a2 h.rl.length c2] 25), (.cells #[.int .i64 z.start, .int .i64 z.full, .int .i64 z.loss, .int .i64 z.price] 27)] := hW0
  have hb0 : Below w.heap.size w W0 := by rw [hal]; exact al_below w _ (Nat.le_refl _)
  have hs0 : W0.heap.size = w.heap.size + 2 := by rw [hal]; exact al_size w _
  have hr0 : W0.heap[w.heap.size]? = some (.cells #[.int .i64 h.head, .int .i64 h.drip, .slice a1 h.tp.length c1, .slice a2 h.rl.length c2] 25 (0, 0)) := by rw [hal]; exact al_get w _ 0 _ rfl
  have hr1 : W0.heap[w.heap.size + 1]? = some (.cells #[.int .i64 z.start, .int .i64 z.full, .int .i64 z.loss, .int .i64 z.price] 27 (0, 0)) := by rw [hal]; exact al_get w _ 1 _ rfl
  obtain ⟨P, hP0⟩ : ∃ x, w.heap.size = x := ⟨_, rfl⟩
  rw [hP0] at hr0 hr1 hs0
  obtain ⟨Q, hP1⟩ : ∃ x, P + 1 = x := ⟨_, rfl⟩
  rw [hP1] at hr1
  clear hal
  have HB0 := Lib.hid hb0
  have H0 := Lib.hid hr0
  have Q0 := Lib.hid hr1
  have hh0 := hh.below hb0
  have HH0 := Lib.hid hh0
  have KG := Lib.hid (great_any h a1 c1 a2 c2 10 W0 hh0)
  have KA := Lib.hid alive_any
  obtain ⟨g, hg⟩ : ∃ g, greatB h 10 = g := ⟨_, rfl⟩
  rw [hg] at KG
  obtain ⟨y0, y1, y2, y3⟩ := four_cells hr0
  obtain ⟨x0, x1, x2, x3⟩ := four_cells hr1
  clear hb0 hr0 hr1 hs0 hh hh0 hg
  have EV : hsV h a1 c1 a2 c2 = .agg #[.int .i64 h.head, .int .i64 h.drip, .slice a1 h.tp.length c1, .slice a2 h.rl.length c2] := rfl
  have HEV := Lib.hid EV
  have EZ : szV z = .agg #[.int .i64 z.start, .int .i64 z.full, .int .i64 z.loss, .int .i64 z.price] := rfl
  have HEZ := Lib.hid EZ
  rw [EV] at KG ⊢
  rw [EZ]
  clear EV EZ
  go_enter Try.func7, Try.ntmps7
  go_upto_region 1 with fail
  rw [← hW0]
  clear hW0 hP0 hP1
  go_wp2_with (go_at_call 12; fail)
  refine KG.out.mono ?_
  rintro e w2 ⟨rfl, hb2⟩
  have HB2 := Lib.hid (HB0.out.trans (hb2.mono HB0.out.size))
  have h2 := box_step (w0 := w) H0.out hb2
  have q2 := box_step (w0 := w) Q0.out hb2
  have hh2 := HH0.out.below hb2
  have H2 := Lib.hid h2
  have Q2 := Lib.hid q2
  have HH2 := Lib.hid hh2
  clear hb2 y0 y1 y2 y3 x0 x1 x2 x3
  cases g with
  | true =>
    clear h2 q2 hh2
    go_wp2_with (go_at_call 13; fail)
    refine (KA.out _).mono ?_
    rintro e9 w3 ⟨rfl, hbz⟩
    go_wp2
    go_ret
    exact ⟨rfl, HB2.out.trans (hbz.mono HB2.out.size)⟩
  | false =>
  obtain ⟨y0, y1, y2, y3⟩ := four_cells h2
  obtain ⟨x0, x1, x2, x3⟩ := four_cells q2
  have KS := Starved_any h a1 c1 a2 c2 z w2 hh2
  obtain ⟨f0, f1, f2, hr⟩ : ∃ x b e, starvedF h z = (x, b, e) := ⟨_, _, _, rfl⟩
  rw [hr, HEV.out, HEZ.out] at KS
  unfold MixR at KS
  have KSS := Lib.hid KS
  have HR := Lib.hid hr
  clear KS hr h2 q2 hh2
  go_wp2_with (go_at_call 16; fail)
  refine KSS.out.mono ?_
  rintro e w3 ⟨rfl, hb3⟩
  have HB3 := Lib.hid (HB2.out.trans (hb3.mono HB2.out.size))
  have h3 := box_step (w0 := w) H2.out hb3
  have q3 := box_step (w0 := w) Q2.out hb3
  have hh3 := HH2.out.below hb3
  have H3 := Lib.hid h3
  have Q3 := Lib.hid q3
  have HH3 := Lib.hid hh3
  clear hb3 y0 y1 y2 y3 x0 x1 x2 x3
  obtain ⟨y0, y1, y2, y3⟩ := four_cells h3
  obtain ⟨x0, x1, x2, x3⟩ := four_cells q3
  have KH := Lib.hid (House_any h a1 c1 a2 c2 w3 hh3)
  rw [HEV.out] at KH
  obtain ⟨g, hg⟩ : ∃ b, hsOk h = b := ⟨_, rfl⟩
  rw [hg] at KH
  have HOK := Lib.hid hg
  clear h3 q3 hh3 hg
  go_wp2_with (go_at_call 25; fail)
  refine KH.out.mono ?_
  rintro e w4 ⟨rfl, hb4⟩
  have HB4 := Lib.hid (HB3.out.trans (hb4.mono HB3.out.size))
  have h4 := box_step (w0 := w) H3.out hb4
  have q4 := box_step (w0 := w) Q3.out hb4
  have hh4 := HH3.out.below hb4
  have H4 := Lib.hid h4
  have Q4 := Lib.hid q4
  have HH4 := Lib.hid hh4
  clear hb4 y0 y1 y2 y3 x0 x1 x2 x3
  obtain ⟨y0, y1, y2, y3⟩ := four_cells h4
  obtain ⟨x0, x1, x2, x3⟩ := four_cells q4
  cases g with
  | false =>
    have he : starvedF h z = (0, false, 1) := by
      have e1 : errF h [z] = 1 := by unfold errF; rw [HOK.out]; rfl
      rw [starved_bad (by rw [e1]; decide), e1]
    rw [HR.out] at he
    simp only [Prod.mk.injEq] at he
    obtain ⟨rfl, rfl, rfl⟩ := he
    have KH2 := Lib.hid (House_any h a1 c1 a2 c2 w4 hh4)
    rw [HEV.out, HOK.out] at KH2
    clear h4 q4 hh4
    go_wp2_with (go_at_call 25; fail)
    refine KH2.out.mono ?_
    rintro e w5 ⟨rfl, hb5⟩
    have HB5 := Lib.hid (HB4.out.trans (hb5.mono HB4.out.size))
    clear hb5 y0 y1 y2 y3 x0 x1 x2 x3
    go_wp2_with (go_at_call 13; fail)
    refine (KA.out _).mono ?_
    rintro e9 w6 ⟨rfl, hbz⟩
    go_wp2
    go_ret
    exact ⟨rfl, HB5.out.trans (hbz.mono HB5.out.size)⟩
  | true =>
  have hok := HOK.out
  have KZ := Lib.hid (rSize_any z w4)
  rw [HEZ.out] at KZ
  obtain ⟨g, hg⟩ : ∃ b, szOk z = b := ⟨_, rfl⟩
  rw [hg] at KZ
  have HSZ := Lib.hid hg
  clear h4 q4 hh4 hg
  go_wp2_with (go_at_call 30; fail)
  refine KZ.out.mono ?_
  rintro e w5 ⟨rfl, hb5⟩
  have HB5 := Lib.hid (HB4.out.trans (hb5.mono HB4.out.size))
  have h5 := box_step (w0 := w) H4.out hb5
  have q5 := box_step (w0 := w) Q4.out hb5
  have hh5 := HH4.out.below hb5
  have H5 := Lib.hid h5
  have Q5 := Lib.hid q5
  have HH5 := Lib.hid hh5
  clear hb5 y0 y1 y2 y3 x0 x1 x2 x3
  obtain ⟨y0, y1, y2, y3⟩ := four_cells h5
  obtain ⟨x0, x1, x2, x3⟩ := four_cells q5
  cases g with
  | false =>
    have he : starvedF h z = (0, false, 2) := by
      have e1 : errF h [z] = 2 := by rw [errF_one hok, HSZ.out]; rfl
      rw [starved_bad (by rw [e1]; decide), e1]
    rw [HR.out] at he
    simp only [Prod.mk.injEq] at he
    obtain ⟨rfl, rfl, rfl⟩ := he
    have KH2 := Lib.hid (House_any h a1 c1 a2 c2 w5 hh5)
    rw [HEV.out, HOK.out] at KH2
    clear h5 q5 hh5
    go_wp2_with (go_at_call 25; fail)
    refine KH2.out.mono ?_
    rintro e w6 ⟨rfl, hb6⟩
    have HB6 := Lib.hid (HB5.out.trans (hb6.mono HB5.out.size))
    clear hb6 y0 y1 y2 y3 x0 x1 x2 x3
    go_wp2_with (go_at_call 13; fail)
    refine (KA.out _).mono ?_
    rintro e9 w7 ⟨rfl, hbz⟩
    go_wp2
    go_ret
    exact ⟨rfl, HB6.out.trans (hbz.mono HB6.out.size)⟩
  | true =>
  have hzok := HSZ.out
  have KO := Lib.hid (openL_any h hok a1 c1 a2 c2 b hb w5 hh5)
  rw [HEV.out] at KO
  have hown := own_in hok b
  have hol : ownF h b < 2 ^ h.tp.length := openUp_lt _ _ _
  obtain ⟨own, hwn⟩ : ∃ x, ownF h b = x := ⟨_, rfl⟩
  rw [hwn] at KO hown hol
  have hmf : ∀ (fn : Fn) (first cap : Array Value) (w : World), (Instr.makeFunc fn first cap).run Try.prog w = .ok (.func fn first cap) w := fun _ _ _ _ => rfl
  clear h5 q5 hh5 hwn
  go_wp2_with (go_at_call 27; fail)
  refine KO.out.mono ?_
  rintro e w6 ⟨rfl, hb6⟩
  have HB6 := Lib.hid (HB5.out.trans (hb6.mono HB5.out.size))
  have h6 := box_step (w0 := w) H5.out hb6
  have q6 := box_step (w0 := w) Q5.out hb6
  have hh6 := HH5.out.below hb6
  have H6 := Lib.hid h6
  have Q6 := Lib.hid q6
  have HH6 := Lib.hid hh6
  clear hb6 y0 y1 y2 y3 x0 x1 x2 x3
  have KC := Lib.hid (starvesC_any h hok a1 c1 a2 c2 P Q z hzok own hol w6 hh6 h6 q6)
  clear h6 q6 hh6
  go_wp2_with (go_at_call 31; fail)
  refine KC.out.mono ?_
  rintro e w7 ⟨rfl, hb7⟩
  have HB7 := Lib.hid (HB6.out.trans (hb7.mono HB6.out.size))
  have h7 := box_step (w0 := w) H6.out hb7
  have q7 := box_step (w0 := w) Q6.out hb7
  have hh7 := HH6.out.below hb7
  have H7 := Lib.hid h7
  have Q7 := Lib.hid q7
  have HH7 := Lib.hid hh7
  clear hb7
  have he0 : errF h [z] = 0 := by rw [errF_one hok, if_pos hzok]
  have hsf : starvedF h z = (match starveF h z with | some s => ((s : Nat), (findF h z s).2, 0) | none => (0, false, 4)) := by unfold starvedF; rw [if_pos he0]; cases starveF h z <;> rfl
  rw [HR.out] at hsf
  have hz0 := bad_zero hok hzok
  cases hst : starveF h z with
  | none =>
    rw [hst] at hsf
    simp only [Prod.mk.injEq] at hsf
    obtain ⟨rfl, rfl, rfl⟩ := hsf
    have hnb : (decide (own ≠ 0) && badF h z own) = false := by
      have := starve_none.1 hst
      unfold fullF at this
      rw [List.all_eq_true] at this
      have := this own hown
      simp at this
      simp [this]
    rw [hnb]
    clear hnb hst hz0 h7 q7 hh7
    go_wp2_with (go_at_call 13; fail)
    refine (KA.out _).mono ?_
    rintro e9 w8 ⟨rfl, hbz⟩
    go_wp2
    go_ret
    exact ⟨rfl, HB7.out.trans (hbz.mono HB7.out.size)⟩
  | some x =>
    rw [hst] at hsf
    simp only [Prod.mk.injEq] at hsf
    obtain ⟨rfl, rfl, rfl⟩ := hsf
    obtain ⟨k1, k2, k3, k4⟩ := starve_first hst
    have hx0 : x ≠ 0 := fun e => by rw [e, hz0] at k3; cases k3
    have hfs := find_snd k3
    rw [hfs]
    have KX := fun X hh hp hq => starvesC_any h hok a1 c1 a2 c2 P Q z hzok x k1 X hh hp hq
    have e1 : (decide (x ≠ 0) && badF h z x) = true := by rw [k3]; simp [hx0]
    rw [e1] at KX
    have KXX := Lib.hid KX
    obtain ⟨sh, hsh⟩ : ∃ s, (!shortF h z x) = s := ⟨_, rfl⟩
    rw [hsh]
    rw [hsh] at KXX
    have hge : (decide (own ≠ 0) && badF h z own) = true → x ≤ own := fun e => by
      rw [Bool.and_eq_true] at e
      exact k4 own hown e.2
    obtain ⟨is, his⟩ : ∃ s, (decide (own ≠ 0) && badF h z own) = s := ⟨_, rfl⟩
    rw [his] at hge ⊢
    have KO2 := Lib.hid (Open_any h hok a1 c1 a2 c2 x k1 w7 hh7)
    rw [HEV.out, k2] at KO2
    have HGE := Lib.hid hge
    have hpw := pow_table (few_taps hok).2
    obtain ⟨n2, hn2⟩ : ∃ n, 2 ^ h.tp.length = n := ⟨_, rfl⟩
    have hshl : (2 : Int) ^ h.tp.length = (n2 : Int) := by rw [← hn2]; simp
    rw [hn2] at hpw k1
    have w1 : IntKind.i64.wrap (n2 : Int) = (n2 : Int) := IntWalk.i64_in _ (by omega)
    have t1 : ¬ (x : Int) < 1 := by omega
    have t2 : ¬ (x : Int) ≥ (n2 : Int) := by omega
    have t3 : h.tp.length ≤ 10 := (few_taps hok).2
    have t4 : min h.tp.length 64 = h.tp.length := by omega
    obtain ⟨y0, y1, y2, y3⟩ := four_cells h7
    clear e1 hst hz0 hsh his hge hfs h7 q7 hh7 KX k3 k4 hx0 hn2 hpw
    go_wp2_with (go_at_call 26; fail)
    refine KO2.out.mono ?_
    rintro e w8 ⟨rfl, hb8⟩
    have HB8 := Lib.hid (HB7.out.trans (hb8.mono HB7.out.size))
    have h8 := box_step (w0 := w) H7.out hb8
    have q8 := box_step (w0 := w) Q7.out hb8
    have hh8 := HH7.out.below hb8
    have H8 := Lib.hid h8
    have Q8 := Lib.hid q8
    have HH8 := Lib.hid hh8
    have KX2 := Lib.hid (KXX.out w8 hh8 h8 q8)
    clear hb8 h8 q8 hh8 y0 y1 y2 y3
    go_wp2_with (go_at_call 31; fail)
    refine KX2.out.mono ?_
    rintro e w9 ⟨rfl, hb9⟩
    have HB9 := Lib.hid (HB8.out.trans (hb9.mono HB8.out.size))
    clear hb9
    by_cases hox : x ≤ own
    · have g1 : (own : Int) ≥ (x : Int) := by omega
      cases sh
      all_goals
        go_wp2_with (go_at_call 13; fail)
        refine (KA.out _).mono ?_
        rintro e9 w10 ⟨rfl, hbz⟩
        go_wp2
        go_ret
        exact ⟨rfl, HB9.out.trans (hbz.mono HB9.out.size)⟩
    · have g1 : ¬ (own : Int) ≥ (x : Int) := by omega
      cases is with
      | true => exact absurd (HGE.out rfl) hox
      | false =>
        cases sh
        all_goals
          go_wp2_with (go_at_call 13; fail)
          refine (KA.out _).mono ?_
          rintro e9 w10 ⟨rfl, hbz⟩
          go_wp2
          go_ret
          exact ⟨rfl, HB9.out.trans (hbz.mono HB9.out.size)⟩
end Go.Proofs.Ytlcmedfjghcigaa
