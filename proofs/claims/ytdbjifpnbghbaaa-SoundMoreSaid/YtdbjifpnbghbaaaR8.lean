/- Sound: the reference Tune. -/
import Derived.Test.YtdbjifpnbghbaaaR7
namespace Go.Proofs.Ytdbjifpnbghbaaa
set_option linter.unusedSimpArgs false
set_option linter.unusedVariables false
open Go.RowKit Go.Maps Go.BigFrame Go.ChangeShapes Go.WideShapes Go.ChangeAt

theorem cell_two_new (w : World) (x y : Value) (t : TypeId) : ∀ j u, [x, y][j]? = some u → (w.alloc (.cells #[x, y] t)).cell? ((⟨w.heap.size, 0, none⟩ : Addr).add j) = some u := by
  intro j u hj
  have hq := alloc_heap w (.cells #[x, y] t)
  rw [Addr.add_lit, Nat.zero_add]
  generalize w.alloc (.cells #[x, y] t) = W at hq ⊢
  simp [World.cell?, hq, hj]
def rowT (l : List Pi) (a b t lo hi : Int) (i : Nat) : Int × Int := ((tuneP l a b t lo hi i).lo, (tuneP l a b t lo hi i).hi)
def rowsT (l : List Pi) (a b t lo hi : Int) (k : Nat) : List (Int × Int) := (List.range k).map (rowT l a b t lo hi)
theorem rows_len (l : List Pi) (a b t lo hi : Int) (k : Nat) : (rowsT l a b t lo hi k).length = k := by simp [rowsT]
theorem rows_snoc (l : List Pi) (a b t lo hi : Int) (k : Nat) : rowsT l a b t lo hi (k + 1) = rowsT l a b t lo hi k ++ [rowT l a b t lo hi k] := by simp [rowsT, List.range_succ]
theorem rows_all (l : List Pi) (a b t lo hi : Int) : rowsT l a b t lo hi l.length = slowsF (tunedF l a b t lo hi) := by
  simp [rowsT, slowsF, tunedF, List.map_map]
  intro i hi
  rfl
theorem row_zero {l : List Pi} {a b t lo hi : Int} {i : Nat} (h : shareF l a b (nearF (a, b) t) i = 0) : rowT l a b t lo hi i = ((l.getD i default).lo, (l.getD i default).hi) := by
  unfold rowT tuneP
  simp only [h, if_true]
theorem row_pos {l : List Pi} {a b t lo hi sh : Int} {i : Nat} {p : Pi} (hp : l.getD i default = p) (h : shareF l a b (nearF (a, b) t) i = sh) (h0 : 0 < sh) : rowT l a b t lo hi i = (max p.lo (downF (lo - ((lagsF l a b t).2 - ofF true sh p.lo p.hi)) sh), min p.hi (-(downF (-(hi - ((lagsF l a b t).1 - ofF false sh p.lo p.hi))) sh))) := by
  unfold rowT tuneP byF upF
  simp only [h, hp, if_neg (show ¬ sh = 0 by omega), if_neg (show ¬ sh < 0 by omega), (cutF_one _ _).1, (cutF_one _ _).2]
theorem row_neg {l : List Pi} {a b t lo hi sh : Int} {i : Nat} {p : Pi} (hp : l.getD i default = p) (h : shareF l a b (nearF (a, b) t) i = sh) (h0 : sh < 0) : rowT l a b t lo hi i = (max p.lo (downF (hi - ((lagsF l a b t).1 - ofF false sh p.lo p.hi)) sh), min p.hi (-(downF (-(lo - ((lagsF l a b t).2 - ofF true sh p.lo p.hi))) sh))) := by
  unfold rowT tuneP byF upF
  simp only [h, hp, if_neg (show ¬ sh = 0 by omega), if_pos h0, (cutF_one _ _).1, (cutF_one _ _).2]
theorem tuneR_ref {l : List Pi} (hok : lineOk l = true) (x y lo hi t : Int) : tuneR l t ⟨x, y, lo, hi⟩ = if inF t 0 (endF l) then (if hearOk l ⟨x, y, lo, hi⟩ then (if allowsF l ⟨x, y, lo, hi⟩ t then (rowsT l x y t lo hi l.length, 0) else ([], 6)) else ([], 2)) else ([], 2) := by
  unfold tuneR
  rw [hok, if_pos rfl, show placeF l t = inF t 0 (endF l) from rfl]
  cases inF t 0 (endF l) with
  | false => rfl
  | true =>
    cases hh : hearOk l ⟨x, y, lo, hi⟩ with
    | false => rfl
    | true =>
      have hw : lo ≤ hi := by
        unfold hearOk at hh
        simp only [Bool.and_eq_true, withinF_iff] at hh
        exact hh.2.2.1
      simp only [Bool.and_true, if_true]
      rw [allows_empty hw, rows_all]
      cases allowsF l ⟨x, y, lo, hi⟩ t <;> rfl
/-- what Tune of the reference returns -/
def TuneQ (w : World) (r : List (Int × Int) × Int) (e : Ending) (w' : World) : Prop := ∃ v, e = .returned (.tuple #[v, .int .i64 r.2]) ∧ w'.ownsRow w.heap.size 24 2 v r.1.length (flatK 2 spC r.1) ∧ Below w.heap.size w w'
theorem cell_step {X Y : World} {b o : Nat} {v : Value} (h : X.cell? ⟨b, o, none⟩ = some v) (hb : Below X.heap.size X Y) : Y.cell? ⟨b, o, none⟩ = some v := by
  by_cases hlt : b < X.heap.size
  · exact (hb.cell (p := ⟨b, o, none⟩) hlt).trans h
  · have : X.heap[b]? = none := by simp; omega
    simp [World.cell?, this] at h
set_option maxRecDepth 100000 in
set_option maxHeartbeats 6400000 in
theorem rTune_any (l : List Pi) (v : Value) (t : Int) (h : He) (w : World) (hl : TabAt 3 piC w v l) : Calls Try.prog 16 #[v, .int .i64 t, heV h] w (TuneQ w (tuneR l t h)) := by
  obtain ⟨a, cp, rfl⟩ := hl.shape
  obtain ⟨x, y, lo, hi⟩ := h
  obtain ⟨i0, hi0, hz0, hz1, hz2⟩ := info_parts Try.info24
  unfold heV TuneQ
  simp only []
  obtain ⟨W0, hW0⟩ : ∃ X, X = w.alloc (.cells #[.int .i64 x, .int .i64 y, .int .i64 lo, .int .i64 hi] 26) := ⟨_, rfl⟩
  have hb0 : Below w.heap.size w W0 := by rw [hW0]; exact (Below.refl _ _).alloc (Nat.le_refl _) _
  have hr0 : W0.heap[w.heap.size]? = some (.cells #[.int .i64 x, .int .i64 y, .int .i64 lo, .int .i64 hi] 26 (0, 0)) := by rw [hW0]; exact alloc_heap w _
  obtain ⟨P, hP⟩ : ∃ x, w.heap.size = x := ⟨_, rfl⟩
  rw [hP] at hr0
  have HPw := Lib.hid hP
  have H0 := Lib.hid hr0
  have HL := Lib.hid (hl.below hb0)
  have HB0 := Lib.hid hb0
  have KV := Lib.hid (Line_any l (.slice a l.length cp) W0 (hl.below hb0))
  have hdef : lineOk l = false → tuneR l t ⟨x, y, lo, hi⟩ = ([], 1) := fun h => by unfold tuneR; rw [h]; rfl
  have HD := Lib.hid (fun h : lineOk l = true => tuneR_ref h x y lo hi t)
  obtain ⟨ok, hok⟩ : ∃ b, lineOk l = b := ⟨_, rfl⟩
  have HOK := Lib.hid hok
  rw [hok] at KV hdef
  obtain ⟨⟨rl, re⟩, hrr⟩ : ∃ r, tuneR l t ⟨x, y, lo, hi⟩ = r := ⟨_, rfl⟩
  rw [hrr] at hdef ⊢
  simp only [hrr] at HD
  simp only []
  clear hl hb0 hr0 hok hrr
  go_enter Try.func16, Try.ntmps16
  go_upto_region 1 with fail
  rw [← hW0]
  try rw [hP]
  clear hW0 hP
  go_wp2_with (go_at_call 24; fail)
  refine KV.out.mono ?_
  rintro e w2 ⟨rfl, hb2⟩
  have HL2 := Lib.hid (HL.out.below hb2)
  have H2 := Lib.hid (box_step (w0 := w) H0.out hb2)
  have HB2 := Lib.hid (HB0.out.trans (hb2.mono HB0.out.size))
  clear hb2 HL H0 HB0 KV
  cases ok with
  | false =>
    have hd := hdef rfl
    simp only [Prod.mk.injEq] at hd
    obtain ⟨rfl, rfl⟩ := hd
    clear hdef HD
    go_wp2
    go_ret2
    exact ⟨_, rfl, World.ownsRow_nil _ _ _ _, HB2.out⟩
  | true =>
    have hok := HOK.out
    have hdef1 := HD.out hok
    have HOK2 := Lib.hid hok
    have KE2 := Lib.hid (End_any l (.slice a l.length cp) w2 HL2.out (fun i hi => by have := pos_small hok hi; omega))
    have KI1 := Lib.hid (in_any t 0 (endF l) w2)
    have KH := Lib.hid (rHearing_any l hok (.slice a l.length cp) ⟨x, y, lo, hi⟩ w2 HL2.out)
    have HEN := Lib.hid (end_in hok)
    obtain ⟨E, hE⟩ : ∃ z, endF l = z := ⟨_, rfl⟩
    rw [hE] at KE2 KI1 hdef1 HEN
    obtain ⟨b1, hb1⟩ : ∃ b, inF t 0 E = b := ⟨_, rfl⟩
    rw [hb1] at KI1 hdef1
    have HEE := Lib.hid hE
    obtain ⟨b2, hb2⟩ : ∃ b, hearOk l ⟨x, y, lo, hi⟩ = b := ⟨_, rfl⟩
    have HHO := Lib.hid hb2
    rw [hb2] at KH hdef1
    unfold heV at KH
    simp only [] at KH
    obtain ⟨y0, y1, y2, y3⟩ := four_cells H2.out
    clear hdef HD hE hb1 hb2 hok HOK
    cases b1 with
    | false =>
      simp only [Bool.false_eq_true, if_false, Prod.mk.injEq] at hdef1
      obtain ⟨rfl, rfl⟩ := hdef1
      go_wp2_with (first
        | (go_at_call 25; (with_reducible refine KE2.out.mono ?_); rintro e w3 ⟨rfl, rfl⟩)
        | (go_at_call 37; (with_reducible refine KI1.out.mono ?_); rintro e w3 ⟨rfl, rfl⟩))
      go_ret2
      exact ⟨_, rfl, World.ownsRow_nil _ _ _ _, HB2.out⟩
    | true =>
      simp only [if_true] at hdef1
      go_wp2_with (first
        | (go_at_call 25; (with_reducible refine KE2.out.mono ?_); rintro e w3 ⟨rfl, rfl⟩)
        | (go_at_call 37; (with_reducible refine KI1.out.mono ?_); rintro e w3 ⟨rfl, rfl⟩)
        | (go_at_call 29; fail))
      refine KH.out.mono ?_
      rintro e w3 ⟨rfl, hb3⟩
      have HL3 := Lib.hid (HL2.out.below hb3)
      have H3 := Lib.hid (box_step (w0 := w) H2.out hb3)
      have HB3 := Lib.hid (HB2.out.trans (hb3.mono HB2.out.size))
      clear y0 y1 y2 y3 hb3 KE2 KI1 KH HL2 H2 HB2
      cases b2 with
      | false =>
        simp only [Bool.false_eq_true, if_false, Prod.mk.injEq] at hdef1
        obtain ⟨rfl, rfl⟩ := hdef1
        go_wp2
        go_ret2
        exact ⟨_, rfl, World.ownsRow_nil _ _ _ _, HB3.out⟩
      | true =>
        simp only [if_true] at hdef1
        have hxy : (0 ≤ x ∧ x ≤ y ∧ y ≤ E) ∧ -1099511627776 ≤ lo ∧ lo ≤ hi ∧ hi ≤ 1099511627776 := by
          have h1 := HHO.out
          unfold hearOk at h1
          simp only [Bool.and_eq_true, earsF_iff, withinF_iff, HEE.out] at h1
          exact h1
        have KA := Lib.hid (rAllows_any l HOK2.out (.slice a l.length cp) ⟨x, y, lo, hi⟩ t HHO.out w3 HL3.out)
        obtain ⟨b3, hb3⟩ : ∃ b, allowsF l ⟨x, y, lo, hi⟩ t = b := ⟨_, rfl⟩
        rw [hb3] at KA hdef1
        unfold heV at KA
        simp only [] at KA
        obtain ⟨y0, y1, y2, y3⟩ := four_cells H3.out
        clear hb3
        go_wp2_with (go_at_call 30; fail)
        refine KA.out.mono ?_
        rintro e w4 ⟨rfl, hb4⟩
        have HL4 := Lib.hid (HL3.out.below hb4)
        have H4 := Lib.hid (box_step (w0 := w) H3.out hb4)
        have HB4 := Lib.hid (HB3.out.trans (hb4.mono HB3.out.size))
        clear y0 y1 y2 y3 hb4 KA HL3 H3 HB3
        cases b3 with
        | false =>
          simp only [Bool.false_eq_true, if_false, Prod.mk.injEq] at hdef1
          obtain ⟨rfl, rfl⟩ := hdef1
          go_wp2
          go_ret2
          exact ⟨_, rfl, World.ownsRow_nil _ _ _ _, HB4.out⟩
        | true =>
          simp only [if_true, Prod.mk.injEq] at hdef1
          obtain ⟨rfl, rfl⟩ := hdef1
          have hen := HEN.out
          have KC := Lib.hid (counts_any l HOK2.out (.slice a l.length cp) x y t hxy.1.2.1 (by omega) (by omega) w4 HL4.out)
          have KO := Lib.hid (fun X hX => of_any l HOK2.out (.slice a l.length cp) x y t hxy.1.2.1 (by omega) (by omega) X hX)
          have HGI := Lib.hid (And.intro (lagF_in HOK2.out false x y t) (lagF_in HOK2.out true x y t))
          have hlg : lagsF l x y t = (lagF false l x y t, lagF true l x y t) := rfl
          obtain ⟨g, hg⟩ : ∃ z, lagF false l x y t = z := ⟨_, rfl⟩
          obtain ⟨q, hq⟩ : ∃ z, lagF true l x y t = z := ⟨_, rfl⟩
          rw [hg, hq] at hlg HGI
          simp only [hlg] at KO
          unfold spV at KO
          simp only [] at KO
          have HLG := Lib.hid hlg
          have HXY := Lib.hid hxy
          obtain ⟨y0, y1, y2, y3⟩ := four_cells H4.out
          clear hg hq hlg hen hxy HEN HEE HHO
          go_wp2_with (go_at_call 31; fail)
          refine KC.out.mono ?_
          rintro e w5 ⟨v', rfl, hown, hb5⟩
          have ht := tab_of_own hown (cnt_len l x y t l.length).symm (by rw [cnt_len]; have := line_few HOK2.out; unfold maxLen; omega)
          obtain ⟨a1, c1, rfl⟩ : ∃ a1 c1, v' = .slice a1 l.length c1 := by
            have := ht.shape
            rw [cnt_len] at this
            exact this
          have HL5 := Lib.hid (HL4.out.below hb5)
          have H5 := Lib.hid (box_step (w0 := w) H4.out hb5)
          have HB5 := Lib.hid (HB4.out.trans (hb5.mono HB4.out.size))
          have HT5 := Lib.hid ht
          clear y0 y1 y2 y3 hb5 hown ht KC HL4 H4 HB4
          obtain ⟨y0, y1, y2, y3⟩ := four_cells H5.out
          go_wp2_with (go_at_call 38; fail)
          refine (KO.out w5 HL5.out).mono ?_
          rintro e w6 ⟨rfl, hb6⟩
          obtain ⟨W7, hW7⟩ : ∃ X, X = w6.alloc (.cells #[.int .i64 g, .int .i64 q] 24) := ⟨_, rfl⟩
          have hb7 : Below w6.heap.size w6 W7 := by rw [hW7]; exact (Below.refl _ _).alloc (Nat.le_refl _) _
          have hr7 : W7.heap[w6.heap.size]? = some (.cells #[.int .i64 g, .int .i64 q] 24 (0, 0)) := by rw [hW7]; exact alloc_heap w6 _
          have hb57 := hb6.trans (hb7.mono hb6.size)
          have HL7 := Lib.hid (HL5.out.below hb57)
          have HT7 := Lib.hid (HT5.out.below hb57)
          have H7 := Lib.hid (box_step (w0 := w) H5.out hb57)
          have HB7 := Lib.hid (HB5.out.trans (hb57.mono HB5.out.size))
          obtain ⟨B9, hB9⟩ : ∃ x, w6.heap.size = x := ⟨_, rfl⟩
          rw [hB9] at hr7
          have HR9 := Lib.hid hr7
          clear y0 y1 y2 y3 hb6 hb7 hr7 hb57 KO HL5 H5 HB5 HT5
          go_upto_region 9 with fail
          rw [← hW7]
          try rw [hB9]
          clear hW7 hB9
          go_wp2_with fail
          go_loopw [10, 11] (fun o i wr => ∃ k : Nat, k ≤ l.length ∧ i = .int .i64 k ∧ Below W7.heap.size W7 wr ∧ wr.ownsRow W7.heap.size 24 2 o k (flatK 2 spC (rowsT l x y t lo hi k))) (fun _ i _ => l.length - (intOf i).toNat)
          case atStart => exact ⟨0, by omega, rfl, Below.refl _ _, World.ownsRow_nil _ _ _ _⟩
          case round =>
            obtain ⟨k, hk, rfl, hbw, hd⟩ := hrel
            by_cases hlt : k < l.length
            · obtain ⟨lb, lof, e2, hlb, hlx⟩ := (HL7.out.below hbw).at (by omega)
              subst e2
              obtain ⟨gb, gof, e3, hgb, hgx⟩ := (HT7.out.below hbw).at (by rw [cnt_len]; omega)
              subst e3
              have x0 := hgx k (by rw [cnt_len]; exact hlt) 0 (by omega)
              have x1 := hlx k hlt 1 (by omega)
              have x2 := hlx k hlt 2 (by omega)
              rw [cnt_at l x y t hlt] at x0
              have hr4 := box_step (w0 := w) H7.out hbw
              have hr9 := box_step (w0 := w) HR9.out hbw
              have hp := pipe_in HOK2.out hlt
              have hsh := share_in HOK2.out hlt x y (nearF (x, y) t)
              have hz := row_zero (l := l) (a := x) (b := y) (t := t) (lo := lo) (hi := hi) (i := k)
              have hps := fun sh p hq he => row_pos (l := l) (a := x) (b := y) (t := t) (lo := lo) (hi := hi) (sh := sh) (i := k) (p := p) hq he
              have hng := fun sh p hq he => row_neg (l := l) (a := x) (b := y) (t := t) (lo := lo) (hi := hi) (sh := sh) (i := k) (p := p) hq he
              have hsn := rows_snoc l x y t lo hi k
              obtain ⟨⟨t0, t1, t2⟩, hrow⟩ : ∃ z : Pi, l.getD k default = z := ⟨_, rfl⟩
              obtain ⟨sh, hse⟩ : ∃ z, shareF l x y (nearF (x, y) t) k = z := ⟨_, rfl⟩
              replace hps := hps _ _ hrow hse
              replace hng := hng _ _ hrow hse
              rw [hrow] at x1 x2 hp hz
              rw [hse] at x0 hsh hz
              rw [HLG.out] at hps hng
              simp only [Nat.add_zero, Nat.mul_one, piC, inC] at x0 x1 x2 hp hz hps hng
              have o0 := of_in (e := false) hsh hp.2.2.1 hp.2.2.2.1 hp.2.2.2.2
              have o1 := of_in (e := true) hsh hp.2.2.1 hp.2.2.2.1 hp.2.2.2.2
              have hct := fun X => term_any sh t1 t2 hsh hp.2.2.1 hp.2.2.2.1 hp.2.2.2.2 X
              obtain ⟨s0, hs0⟩ : ∃ z, ofF false sh t1 t2 = z := ⟨_, rfl⟩
              obtain ⟨s1, hs1⟩ : ∃ z, ofF true sh t1 t2 = z := ⟨_, rfl⟩
              rw [hs0] at hps hng o0 hct
              rw [hs1] at hps hng o1 hct
              obtain ⟨m1, hm1⟩ : ∃ z, q - s1 = z := ⟨_, rfl⟩
              obtain ⟨m0, hm0⟩ : ∃ z, g - s0 = z := ⟨_, rfl⟩
              rw [hm1, hm0] at hps hng
              obtain ⟨n0, hn0⟩ : ∃ z, lo - m1 = z := ⟨_, rfl⟩
              obtain ⟨n1, hn1⟩ : ∃ z, hi - m0 = z := ⟨_, rfl⟩
              rw [hn0, hn1] at hps hng
              have hxy := HXY.out
              have hgi := HGI.out
              have w1 : IntKind.i64.wrap (q - s1) = m1 := by rw [hm1]; exact IntWalk.i64_in _ (by omega)
              have w2 : IntKind.i64.wrap (g - s0) = m0 := by rw [hm0]; exact IntWalk.i64_in _ (by omega)
              have w3 : IntKind.i64.wrap (lo - m1) = n0 := by rw [hn0]; exact IntWalk.i64_in _ (by omega)
              have w4 : IntKind.i64.wrap (hi - m0) = n1 := by rw [hn1]; exact IntWalk.i64_in _ (by omega)
              have w5 : IntKind.i64.wrap ((k : Int) + 1) = (k : Int) + 1 := IntWalk.i64_in _ (by have := line_few HOK2.out; omega)
              have HNB := Lib.hid (show (-2000000000000 ≤ n0 ∧ n0 ≤ 2000000000000) ∧ (-2000000000000 ≤ n1 ∧ n1 ≤ 2000000000000) from by omega)
              have HSH := Lib.hid hsh
              have ij1 : (k : Int) < (l.length : Int) := Int.ofNat_lt.2 hlt
              have ij0 : (0 : Int) ≤ (k : Int) := by omega
              have HK := Lib.hid (show k ≤ 8 by have := line_few HOK2.out; omega)
              have HCT := Lib.hid hct
              have HZR := Lib.hid hz
              have HPS := Lib.hid hps
              have HNG := Lib.hid hng
              have HSN := Lib.hid hsn
              have HBW := Lib.hid hbw
              have HD := Lib.hid hd
              have HR4 := Lib.hid hr4
              have H9 := Lib.hid hr9
              have HLT := Lib.hid (show lb < wr.heap.size ∧ gb < wr.heap.size ∧ P < wr.heap.size ∧ B9 < wr.heap.size from ⟨hlb, hgb, (Array.getElem?_eq_some_iff.1 hr4).1, (Array.getElem?_eq_some_iff.1 hr9).1⟩)
              have HX0 := Lib.hid x0
              have hwsz := hbw.size
              have HWS := Lib.hid hwsz
              clear hwsz hlb hgb hlx hgx hr4 hr9 hp hsh hz hps hng hsn hrow hse o0 o1 hct hs0 hs1 hm0 hm1 hn0 hn1 hxy hgi hbw hd
              obtain ⟨W8, hW8⟩ : ∃ X, X = wr.alloc (.cells #[.int .i64 t1, .int .i64 t2] 24) := ⟨_, rfl⟩
              have hb8 : Below wr.heap.size wr W8 := by rw [hW8]; exact (Below.refl _ _).alloc (Nat.le_refl _) _
              have hr8 : W8.heap[wr.heap.size]? = some (.cells #[.int .i64 t1, .int .i64 t2] 24 (0, 0)) := by rw [hW8]; exact alloc_heap wr _
              obtain ⟨A, hA⟩ : ∃ z, wr.heap.size = z := ⟨_, rfl⟩
              rw [hA] at hr8
              have HA := Lib.hid hA
              have HB8 := Lib.hid hb8
              have HR8 := Lib.hid hr8
              clear hb8 hr8
              go_upto_region 14 with fail
              rw [← hW8]
              try rw [hA]
              clear hW8 hA x0 x1 x2
              go_cut [13] (fun p wx => ∃ B, p = .pointer (some ⟨B, 0, none⟩) ∧ wx.heap[B]? = some (.cells #[.int .i64 s0, .int .i64 s1] 24 (0, 0)) ∧ Below W8.heap.size W8 wx)
              case first =>
                have hx8 : W8.cell? ⟨gb, gof + k, none⟩ = some (.int .i64 sh) ∧ W8.heap[A]? = some (.cells #[.int .i64 t1, .int .i64 t2] 24 (0, 0)) := ⟨(HB8.out.cell (p := ⟨gb, gof + k, none⟩) HLT.out.2.1).trans HX0.out, HR8.out⟩
                have HX8 := Lib.hid hx8
                clear hx8
                refine wp_region_last (fun w' => w'.cell? ⟨gb, gof + k, none⟩ = some (.int .i64 sh) ∧ w'.heap[A]? = some (.cells #[.int .i64 t1, .int .i64 t2] 24 (0, 0))) 7 (by kernel_rfl) HX8.out (fun hHeld => ?_)
                obtain ⟨Y0, hY0⟩ : ∃ X, X = W8.drew := ⟨_, rfl⟩
                have hbX : Below W8.heap.size W8 Y0 := by rw [hY0]; exact (Below.refl _ _).drew
                rw [← hY0] at hHeld ⊢
                have hH := Lib.hid hHeld
                clear hY0 hHeld
                refine wpLast_take (i := 0) (oi := _) (v := ?_) rfl (by kernel_rfl) (by kernel_rfl) (by decide) (by kernel_rfl) (by kernel_rfl) (fun _ _ _ h => h) (Or.inl ⟨by rfl, ?_⟩) hH.out ?_
                rotate_left
                · intro w1 hSw
                  obtain ⟨e0, e1⟩ := hSw
                  obtain ⟨z0, z1⟩ := two_cells e1
                  clear e1
                  go_simp; with_reducible rfl
                simp only [List.getElem_toArray, List.getElem_cons_succ, List.getElem_cons_zero, Act.put, List.setIfInBounds_toArray, List.set_cons_zero, List.set_cons_succ]
                refine wpLast_take (i := 1) (oi := _) (v := ?_) rfl (by kernel_rfl) (by kernel_rfl) (by decide) (by kernel_rfl) (by kernel_rfl) (fun _ _ _ h => h) (Or.inl ⟨by rfl, ?_⟩) hH.out ?_
                rotate_left
                · intro w1 hSw
                  obtain ⟨e0, e1⟩ := hSw
                  obtain ⟨z0, z1⟩ := two_cells e1
                  clear e1
                  go_simp; with_reducible rfl
                simp only [List.getElem_toArray, List.getElem_cons_succ, List.getElem_cons_zero, Act.put, List.setIfInBounds_toArray, List.set_cons_zero, List.set_cons_succ]
                refine wpLast_take (i := 2) (oi := _) (v := ?_) rfl (by kernel_rfl) (by kernel_rfl) (by decide) (by kernel_rfl) (by kernel_rfl) (fun _ _ _ h => h) (Or.inl ⟨by rfl, ?_⟩) hH.out ?_
                rotate_left
                · intro w1 hSw
                  obtain ⟨e0, e1⟩ := hSw
                  obtain ⟨z0, z1⟩ := two_cells e1
                  clear e1
                  go_simp; with_reducible rfl
                simp only [List.getElem_toArray, List.getElem_cons_succ, List.getElem_cons_zero, Act.put, List.setIfInBounds_toArray, List.set_cons_zero, List.set_cons_succ]
                refine wpLast_take (i := 3) (oi := _) (v := ?_) rfl (by kernel_rfl) (by kernel_rfl) (by decide) (by kernel_rfl) (by kernel_rfl) (fun _ _ _ h => h) (Or.inl ⟨by rfl, ?_⟩) hH.out ?_
                rotate_left
                · intro w1 hSw
                  obtain ⟨e0, e1⟩ := hSw
                  obtain ⟨z0, z1⟩ := two_cells e1
                  clear e1
                  go_simp; with_reducible rfl
                simp only [List.getElem_toArray, List.getElem_cons_succ, List.getElem_cons_zero, Act.put, List.setIfInBounds_toArray, List.set_cons_zero, List.set_cons_succ]
                refine wpLast_take (i := 4) (oi := _) (v := ?_) rfl (by kernel_rfl) (by kernel_rfl) (by decide) (by kernel_rfl) (by kernel_rfl) (fun _ _ _ h => h) (Or.inl ⟨by rfl, ?_⟩) hH.out ?_
                rotate_left
                · intro w1 hSw
                  obtain ⟨e0, e1⟩ := hSw
                  obtain ⟨z0, z1⟩ := two_cells e1
                  clear e1
                  go_simp; with_reducible rfl
                simp only [List.getElem_toArray, List.getElem_cons_succ, List.getElem_cons_zero, Act.put, List.setIfInBounds_toArray, List.set_cons_zero, List.set_cons_succ]
                refine wpLast_ready (rs := [5, 6]) (by kernel_rfl) (by simp) ?_
                intro i hi
                rcases List.mem_cons.1 hi with rfl | hi
                · clear hi
                  refine wpOp_step rfl (fun K3 hK3 => ?_)
                  have HK3 := Lib.hid hK3
                  clear hK3
                  rw [if_pos (by rfl)]
                  go_simp
                  refine (HCT.out Y0).mono ?_
                  rintro e Y1 ⟨rfl, hbn⟩
                  have hH2 := Lib.hid (show Y1.cell? ⟨gb, gof + k, none⟩ = some (.int .i64 sh) ∧ Y1.heap[A]? = some (.cells #[.int .i64 t1, .int .i64 t2] 24 (0, 0)) from ⟨cell_step hH.out.1 hbn, box_step (w0 := w) hH.out.2 hbn⟩)
                  have hbX2 := hbX.trans (hbn.mono hbX.size)
                  refine HK3.out _ _ ⟨fun _ => hH2.out, fun _ => ?_⟩
                  clear HK3 K3
                  try simp only [List.getElem_toArray, List.getElem_cons_succ, List.getElem_cons_zero, Act.put, List.setIfInBounds_toArray, List.set_cons_zero, List.set_cons_succ]
                  clear hH hbX
                  have hbX := hbX2
                  have hH := Lib.hid hH2.out
                  clear hH2 hbX2
                  clear hbn
                  refine wpLast_ready (rs := [6]) (by kernel_rfl) (by simp) ?_
                  intro i hi; obtain rfl := List.mem_singleton.1 hi; clear hi
                  refine wpOp_step rfl (fun K3 hK3 => ?_)
                  have HK3 := Lib.hid hK3
                  clear hK3
                  rw [if_pos (by rfl)]
                  go_simp
                  obtain ⟨Y2, hY⟩ : ∃ Z, Z = Y1.alloc (.cells #[.int .i64 0, .int .i64 0] 24) := ⟨_, rfl⟩
                  have hbn : Below Y1.heap.size Y1 Y2 := by rw [hY]; exact (Below.refl _ _).alloc (Nat.le_refl _) _
                  have hbx : Y2.heap[Y1.heap.size]? = some (.cells #[.int .i64 0, .int .i64 0] 24 (0, 0)) := by rw [hY]; exact alloc_heap Y1 _
                  rw [← hY]
                  clear hY
                  have hH2 := Lib.hid (show Y2.cell? ⟨gb, gof + k, none⟩ = some (.int .i64 sh) ∧ Y2.heap[A]? = some (.cells #[.int .i64 t1, .int .i64 t2] 24 (0, 0)) from ⟨cell_step hH.out.1 hbn, box_step (w0 := w) hH.out.2 hbn⟩)
                  have hbX2 := hbX.trans (hbn.mono hbX.size)
                  refine HK3.out _ _ ⟨fun _ => hH2.out, fun _ => ?_⟩
                  clear HK3 K3
                  try simp only [List.getElem_toArray, List.getElem_cons_succ, List.getElem_cons_zero, Act.put, List.setIfInBounds_toArray, List.set_cons_zero, List.set_cons_succ]
                  obtain ⟨B, hB⟩ : ∃ x, Y1.heap.size = x := ⟨_, rfl⟩
                  have hBW : W8.heap.size ≤ B := by rw [← hB]; exact hbX.size
                  rw [hB] at hbx
                  try rw [hB]
                  clear hH hbX
                  have hbX := hbX2
                  have hH := Lib.hid hH2.out
                  clear hH2 hbX2
                  clear hB hbn
                  have f0 : Y2.frozen? ⟨B, 0, none⟩ = false := frozen_of hbx
                  have f1 : Y2.frozen? ⟨B, 1, none⟩ = false := frozen_of hbx
                  obtain ⟨y0, y1⟩ := two_cells hbx
                  have hz := set2 (A := .int .i64 s0) (B := .int .i64 s1) hbx
                  have hbz := below2 hbX (R := B) hBW (.int .i64 s0) (.int .i64 s1)
                  obtain ⟨X3, hX3⟩ : ∃ X, X = (Y2.setCell ⟨B, 0, none⟩ (.int .i64 s0)).setCell ⟨B, 1, none⟩ (.int .i64 s1) := ⟨_, rfl⟩
                  rw [← hX3] at hz hbz
                  refine wpLast_ready (rs := [7]) (by kernel_rfl) (by simp) ?_
                  intro i hi; obtain rfl := List.mem_singleton.1 hi; clear hi
                  refine wpOp_step rfl (fun K3 hK3 => ?_)
                  have HK3 := Lib.hid hK3
                  clear hK3
                  rw [if_pos (by rfl)]
                  go_simp
                  rw [← hX3]
                  clear hX3 f0 f1 y0 y1 hbx
                  refine HK3.out _ _ ⟨fun h => absurd rfl h, fun _ => ?_⟩
                  clear HK3 K3
                  try simp only [List.getElem_toArray, List.getElem_cons_succ, List.getElem_cons_zero, Act.put, List.setIfInBounds_toArray, List.set_cons_zero, List.set_cons_succ]
                  refine wpLast_done (by kernel_rfl) ?_ _
                  try go_wp2
                  go_meet
                  case rel => exact ⟨B, rfl, hz, hbz⟩
                · obtain rfl := List.mem_singleton.1 hi
                  clear hi
                  refine wpOp_step rfl (fun K3 hK3 => ?_)
                  have HK3 := Lib.hid hK3
                  clear hK3
                  rw [if_pos (by rfl)]
                  go_simp
                  obtain ⟨Y1, hY⟩ : ∃ Z, Z = Y0.alloc (.cells #[.int .i64 0, .int .i64 0] 24) := ⟨_, rfl⟩
                  have hbn : Below Y0.heap.size Y0 Y1 := by rw [hY]; exact (Below.refl _ _).alloc (Nat.le_refl _) _
                  have hbx : Y1.heap[Y0.heap.size]? = some (.cells #[.int .i64 0, .int .i64 0] 24 (0, 0)) := by rw [hY]; exact alloc_heap Y0 _
                  rw [← hY]
                  clear hY
                  have hH2 := Lib.hid (show Y1.cell? ⟨gb, gof + k, none⟩ = some (.int .i64 sh) ∧ Y1.heap[A]? = some (.cells #[.int .i64 t1, .int .i64 t2] 24 (0, 0)) from ⟨cell_step hH.out.1 hbn, box_step (w0 := w) hH.out.2 hbn⟩)
                  have hbX2 := hbX.trans (hbn.mono hbX.size)
                  refine HK3.out _ _ ⟨fun _ => hH2.out, fun _ => ?_⟩
                  clear HK3 K3
                  try simp only [List.getElem_toArray, List.getElem_cons_succ, List.getElem_cons_zero, Act.put, List.setIfInBounds_toArray, List.set_cons_zero, List.set_cons_succ]
                  obtain ⟨B, hB⟩ : ∃ x, Y0.heap.size = x := ⟨_, rfl⟩
                  have hBW : W8.heap.size ≤ B := by rw [← hB]; exact hbX.size
                  have hB1 : B < Y1.heap.size := (Array.getElem?_eq_some_iff.1 (by rw [hB] at hbx; exact hbx)).1
                  rw [hB] at hbx
                  try rw [hB]
                  clear hH hbX
                  have hbX := hbX2
                  have hH := Lib.hid hH2.out
                  clear hH2 hbX2
                  clear hB hbn
                  refine wpLast_ready (rs := [5]) (by kernel_rfl) (by simp) ?_
                  intro i hi; obtain rfl := List.mem_singleton.1 hi; clear hi
                  refine wpOp_step rfl (fun K3 hK3 => ?_)
                  have HK3 := Lib.hid hK3
                  clear hK3
                  rw [if_pos (by rfl)]
                  go_simp
                  refine (HCT.out Y1).mono ?_
                  rintro e Y2 ⟨rfl, hbn⟩
                  have hH2 := Lib.hid (show Y2.cell? ⟨gb, gof + k, none⟩ = some (.int .i64 sh) ∧ Y2.heap[A]? = some (.cells #[.int .i64 t1, .int .i64 t2] 24 (0, 0)) from ⟨cell_step hH.out.1 hbn, box_step (w0 := w) hH.out.2 hbn⟩)
                  have hbX2 := hbX.trans (hbn.mono hbX.size)
                  refine HK3.out _ _ ⟨fun _ => hH2.out, fun _ => ?_⟩
                  clear HK3 K3
                  try simp only [List.getElem_toArray, List.getElem_cons_succ, List.getElem_cons_zero, Act.put, List.setIfInBounds_toArray, List.set_cons_zero, List.set_cons_succ]
                  replace hbx := (hbn.block B hB1).trans hbx
                  clear hH hbX
                  have hbX := hbX2
                  have hH := Lib.hid hH2.out
                  clear hH2 hbX2
                  clear hbn hB1
                  have f0 : Y2.frozen? ⟨B, 0, none⟩ = false := frozen_of hbx
                  have f1 : Y2.frozen? ⟨B, 1, none⟩ = false := frozen_of hbx
                  obtain ⟨y0, y1⟩ := two_cells hbx
                  have hz := set2 (A := .int .i64 s0) (B := .int .i64 s1) hbx
                  have hbz := below2 hbX (R := B) hBW (.int .i64 s0) (.int .i64 s1)
                  obtain ⟨X3, hX3⟩ : ∃ X, X = (Y2.setCell ⟨B, 0, none⟩ (.int .i64 s0)).setCell ⟨B, 1, none⟩ (.int .i64 s1) := ⟨_, rfl⟩
                  rw [← hX3] at hz hbz
                  refine wpLast_ready (rs := [7]) (by kernel_rfl) (by simp) ?_
                  intro i hi; obtain rfl := List.mem_singleton.1 hi; clear hi
                  refine wpOp_step rfl (fun K3 hK3 => ?_)
                  have HK3 := Lib.hid hK3
                  clear hK3
                  rw [if_pos (by rfl)]
                  go_simp
                  rw [← hX3]
                  clear hX3 f0 f1 y0 y1 hbx
                  refine HK3.out _ _ ⟨fun h => absurd rfl h, fun _ => ?_⟩
                  clear HK3 K3
                  try simp only [List.getElem_toArray, List.getElem_cons_succ, List.getElem_cons_zero, Act.put, List.setIfInBounds_toArray, List.set_cons_zero, List.set_cons_succ]
                  refine wpLast_done (by kernel_rfl) ?_ _
                  try go_wp2
                  go_meet
                  case rel => exact ⟨B, rfl, hz, hbz⟩
              case rest =>
                obtain ⟨B, rfl, hrB, hbc⟩ := hcut
                have hbr := HB8.out.trans (hbc.mono HB8.out.size)
                have hrA := box_step (w0 := w) HR8.out hbc
                have hcP := box_step (w0 := w) HR4.out hbr
                have hc9 := box_step (w0 := w) H9.out hbr
                have hx := cell_step HX0.out hbr
                obtain ⟨y0, y1, y2, y3⟩ := four_cells hcP
                obtain ⟨z0, z1⟩ := two_cells hc9
                obtain ⟨v0, v1⟩ := two_cells hrB
                obtain ⟨W10, hW10⟩ : ∃ X, X = wc.alloc (.cells #[.int .i64 n0, .int .i64 n1] 24) := ⟨_, rfl⟩
                have hb10 : Below wc.heap.size wc W10 := by rw [hW10]; exact (Below.refl _ _).alloc (Nat.le_refl _) _
                have hr10 : W10.heap[wc.heap.size]? = some (.cells #[.int .i64 n0, .int .i64 n1] 24 (0, 0)) := by rw [hW10]; exact alloc_heap wc _
                obtain ⟨D, hD⟩ : ∃ z, wc.heap.size = z := ⟨_, rfl⟩
                rw [hD] at hr10
                have HBR := Lib.hid (hbr.trans (hb10.mono hbr.size))
                have hxx : W10.cell? ⟨gb, gof + k, none⟩ = some (.int .i64 sh) ∧ W10.heap[A]? = some (.cells #[.int .i64 t1, .int .i64 t2] 24 (0, 0)) ∧ W10.heap[D]? = some (.cells #[.int .i64 n0, .int .i64 n1] 24 (0, 0)) := ⟨cell_step hx hb10, box_step (w0 := w) hrA hb10, hr10⟩
                have HXX := Lib.hid hxx
                clear hbr hrA hcP hc9 hx hrB hbc hb10 hr10 hxx
                go_upto_region 16 with fail
                rw [← hW10]
                try rw [hD]
                clear hW10 hD y0 y1 y2 y3 z0 z1 v0 v1
                rcases (by omega : 0 < sh ∨ sh < 0 ∨ sh = 0) with c0 | c0 | c0
                · have hd0 := down_in (n := n0) (d := sh) (by have := HNB.out; omega)
                  have hd1 := down_in (n := -n1) (d := sh) (by have := HNB.out; omega)
                  have HC1 := Lib.hid (fun X => rDown_any n0 sh (by have := HNB.out; omega) HSH.out (by omega) X)
                  have hc2 := fun X => rDown_any (-n1) sh (by have := HNB.out; omega) HSH.out (by omega) X
                  have hrw := HPS.out (by omega)
                  obtain ⟨d0, hd0e⟩ : ∃ z, downF n0 sh = z := ⟨_, rfl⟩
                  obtain ⟨d1, hd1e⟩ : ∃ z, downF (-n1) sh = z := ⟨_, rfl⟩
                  rw [hd0e] at hd0 HC1 hrw
                  rw [hd1e] at hd1 hc2 hrw
                  obtain ⟨nn, hnn⟩ : ∃ z, -n1 = z := ⟨_, rfl⟩
                  obtain ⟨dd, hdd⟩ : ∃ z, -d1 = z := ⟨_, rfl⟩
                  rw [hnn] at hc2
                  rw [hdd] at hrw
                  have w6 : IntKind.i64.wrap (-n1) = nn := by rw [hnn]; exact IntWalk.i64_in _ (by have := HNB.out; omega)
                  have w7 : IntKind.i64.wrap (-d1) = dd := by rw [hdd]; exact IntWalk.i64_in _ (by omega)
                  have HC2 := Lib.hid hc2
                  have HRW := Lib.hid hrw
                  have xc := HXX.out.1
                  clear hc2 hd0 hd1 hd0e hd1e hnn hdd hrw
                  go_upto_region 17 with fail
                  clear xc
                  refine wp_region_last (fun w' => w'.cell? ⟨gb, gof + k, none⟩ = some (.int .i64 sh) ∧ w'.heap[A]? = some (.cells #[.int .i64 t1, .int .i64 t2] 24 (0, 0)) ∧ w'.heap[D]? = some (.cells #[.int .i64 n0, .int .i64 n1] 24 (0, 0))) 23 (by kernel_rfl) HXX.out (fun hHeld => ?_)
                  obtain ⟨Y0, hY0⟩ : ∃ X, X = W10.drew := ⟨_, rfl⟩
                  have hbX : Below wr.heap.size wr Y0 := by rw [hY0]; exact HBR.out.drew
                  rw [← hY0] at hHeld ⊢
                  have hH := Lib.hid hHeld
                  clear hY0 hHeld
                  refine wpLast_take (i := 0) (oi := _) (v := ?_) rfl (by kernel_rfl) (by kernel_rfl) (by decide) (by kernel_rfl) (by kernel_rfl) (fun _ _ _ h => h) (Or.inl ⟨by rfl, ?_⟩) hH.out ?_
                  rotate_left
                  · intro w1 hSw
                    obtain ⟨e0, e1, e2⟩ := hSw
                    obtain ⟨z0, z1⟩ := two_cells e1
                    obtain ⟨v0, v1⟩ := two_cells e2
                    clear e1 e2
                    go_simp; with_reducible rfl
                  simp only [List.getElem_toArray, List.getElem_cons_succ, List.getElem_cons_zero, Act.put, List.setIfInBounds_toArray, List.set_cons_zero, List.set_cons_succ]
                  refine wpLast_take (i := 1) (oi := _) (v := ?_) rfl (by kernel_rfl) (by kernel_rfl) (by decide) (by kernel_rfl) (by kernel_rfl) (fun _ _ _ h => h) (Or.inl ⟨by rfl, ?_⟩) hH.out ?_
                  rotate_left
                  · intro w1 hSw
                    obtain ⟨e0, e1, e2⟩ := hSw
                    obtain ⟨z0, z1⟩ := two_cells e1
                    obtain ⟨v0, v1⟩ := two_cells e2
                    clear e1 e2
                    go_simp; with_reducible rfl
                  simp only [List.getElem_toArray, List.getElem_cons_succ, List.getElem_cons_zero, Act.put, List.setIfInBounds_toArray, List.set_cons_zero, List.set_cons_succ]
                  refine wpLast_take (i := 2) (oi := _) (v := ?_) rfl (by kernel_rfl) (by kernel_rfl) (by decide) (by kernel_rfl) (by kernel_rfl) (fun _ _ _ h => h) (Or.inl ⟨by rfl, ?_⟩) hH.out ?_
                  rotate_left
                  · intro w1 hSw
                    obtain ⟨e0, e1, e2⟩ := hSw
                    obtain ⟨z0, z1⟩ := two_cells e1
                    obtain ⟨v0, v1⟩ := two_cells e2
                    clear e1 e2
                    go_simp; with_reducible rfl
                  simp only [List.getElem_toArray, List.getElem_cons_succ, List.getElem_cons_zero, Act.put, List.setIfInBounds_toArray, List.set_cons_zero, List.set_cons_succ]
                  refine wpLast_take (i := 3) (oi := _) (v := ?_) rfl (by kernel_rfl) (by kernel_rfl) (by decide) (by kernel_rfl) (by kernel_rfl) (fun _ _ _ h => h) (Or.inl ⟨by rfl, ?_⟩) hH.out ?_
                  rotate_left
                  · intro w1 hSw
                    obtain ⟨e0, e1, e2⟩ := hSw
                    obtain ⟨z0, z1⟩ := two_cells e1
                    obtain ⟨v0, v1⟩ := two_cells e2
                    clear e1 e2
                    go_simp; with_reducible rfl
                  simp only [List.getElem_toArray, List.getElem_cons_succ, List.getElem_cons_zero, Act.put, List.setIfInBounds_toArray, List.set_cons_zero, List.set_cons_succ]
                  refine wpLast_take (i := 4) (oi := _) (v := ?_) rfl (by kernel_rfl) (by kernel_rfl) (by decide) (by kernel_rfl) (by kernel_rfl) (fun _ _ _ h => h) (Or.inl ⟨by rfl, ?_⟩) hH.out ?_
                  rotate_left
                  · intro w1 hSw
                    obtain ⟨e0, e1, e2⟩ := hSw
                    obtain ⟨z0, z1⟩ := two_cells e1
                    obtain ⟨v0, v1⟩ := two_cells e2
                    clear e1 e2
                    go_simp; with_reducible rfl
                  simp only [List.getElem_toArray, List.getElem_cons_succ, List.getElem_cons_zero, Act.put, List.setIfInBounds_toArray, List.set_cons_zero, List.set_cons_succ]
                  refine wpLast_take (i := 5) (oi := _) (v := ?_) rfl (by kernel_rfl) (by kernel_rfl) (by decide) (by kernel_rfl) (by kernel_rfl) (fun _ _ _ h => h) (Or.inl ⟨by rfl, ?_⟩) hH.out ?_
                  rotate_left
                  · intro w1 hSw
                    obtain ⟨e0, e1, e2⟩ := hSw
                    obtain ⟨z0, z1⟩ := two_cells e1
                    obtain ⟨v0, v1⟩ := two_cells e2
                    clear e1 e2
                    go_simp; with_reducible rfl
                  simp only [List.getElem_toArray, List.getElem_cons_succ, List.getElem_cons_zero, Act.put, List.setIfInBounds_toArray, List.set_cons_zero, List.set_cons_succ]
                  refine wpLast_take (i := 6) (oi := _) (v := ?_) rfl (by kernel_rfl) (by kernel_rfl) (by decide) (by kernel_rfl) (by kernel_rfl) (fun _ _ _ h => h) (Or.inl ⟨by rfl, ?_⟩) hH.out ?_
                  rotate_left
                  · intro w1 hSw
                    obtain ⟨e0, e1, e2⟩ := hSw
                    obtain ⟨z0, z1⟩ := two_cells e1
                    obtain ⟨v0, v1⟩ := two_cells e2
                    clear e1 e2
                    go_simp; with_reducible rfl
                  simp only [List.getElem_toArray, List.getElem_cons_succ, List.getElem_cons_zero, Act.put, List.setIfInBounds_toArray, List.set_cons_zero, List.set_cons_succ]
                  refine wpLast_take (i := 7) (oi := _) (v := ?_) rfl (by kernel_rfl) (by kernel_rfl) (by decide) (by kernel_rfl) (by kernel_rfl) (fun _ _ _ h => h) (Or.inl ⟨by rfl, ?_⟩) hH.out ?_
                  rotate_left
                  · intro w1 hSw
                    obtain ⟨e0, e1, e2⟩ := hSw
                    obtain ⟨z0, z1⟩ := two_cells e1
                    obtain ⟨v0, v1⟩ := two_cells e2
                    clear e1 e2
                    go_simp; with_reducible rfl
                  simp only [List.getElem_toArray, List.getElem_cons_succ, List.getElem_cons_zero, Act.put, List.setIfInBounds_toArray, List.set_cons_zero, List.set_cons_succ]
                  refine wpLast_take (i := 10) (oi := _) (v := ?_) rfl (by kernel_rfl) (by kernel_rfl) (by decide) (by kernel_rfl) (by kernel_rfl) (fun _ _ _ h => h) (Or.inl ⟨by rfl, ?_⟩) hH.out ?_
                  rotate_left
                  · intro w1 hSw
                    obtain ⟨e0, e1, e2⟩ := hSw
                    obtain ⟨z0, z1⟩ := two_cells e1
                    obtain ⟨v0, v1⟩ := two_cells e2
                    clear e1 e2
                    go_simp; with_reducible rfl
                  simp only [List.getElem_toArray, List.getElem_cons_succ, List.getElem_cons_zero, Act.put, List.setIfInBounds_toArray, List.set_cons_zero, List.set_cons_succ]
                  refine wpLast_take (i := 11) (oi := _) (v := ?_) rfl (by kernel_rfl) (by kernel_rfl) (by decide) (by kernel_rfl) (by kernel_rfl) (fun _ _ _ h => h) (Or.inl ⟨by rfl, ?_⟩) hH.out ?_
                  rotate_left
                  · intro w1 hSw
                    obtain ⟨e0, e1, e2⟩ := hSw
                    obtain ⟨z0, z1⟩ := two_cells e1
                    obtain ⟨v0, v1⟩ := two_cells e2
                    clear e1 e2
                    go_simp; with_reducible rfl
                  simp only [List.getElem_toArray, List.getElem_cons_succ, List.getElem_cons_zero, Act.put, List.setIfInBounds_toArray, List.set_cons_zero, List.set_cons_succ]
                  refine wpLast_take (i := 12) (oi := _) (v := ?_) rfl (by kernel_rfl) (by kernel_rfl) (by decide) (by kernel_rfl) (by kernel_rfl) (fun _ _ _ h => h) (Or.inl ⟨by rfl, ?_⟩) hH.out ?_
                  rotate_left
                  · intro w1 hSw
                    obtain ⟨e0, e1, e2⟩ := hSw
                    obtain ⟨z0, z1⟩ := two_cells e1
                    obtain ⟨v0, v1⟩ := two_cells e2
                    clear e1 e2
                    go_simp; with_reducible rfl
                  simp only [List.getElem_toArray, List.getElem_cons_succ, List.getElem_cons_zero, Act.put, List.setIfInBounds_toArray, List.set_cons_zero, List.set_cons_succ]
                  refine wpLast_take (i := 13) (oi := _) (v := ?_) rfl (by kernel_rfl) (by kernel_rfl) (by decide) (by kernel_rfl) (by kernel_rfl) (fun _ _ _ h => h) (Or.inl ⟨by rfl, ?_⟩) hH.out ?_
                  rotate_left
                  · intro w1 hSw
                    obtain ⟨e0, e1, e2⟩ := hSw
                    obtain ⟨z0, z1⟩ := two_cells e1
                    obtain ⟨v0, v1⟩ := two_cells e2
                    clear e1 e2
                    go_simp; with_reducible rfl
                  simp only [List.getElem_toArray, List.getElem_cons_succ, List.getElem_cons_zero, Act.put, List.setIfInBounds_toArray, List.set_cons_zero, List.set_cons_succ]
                  refine wpLast_take (i := 14) (oi := _) (v := ?_) rfl (by kernel_rfl) (by kernel_rfl) (by decide) (by kernel_rfl) (by kernel_rfl) (fun _ _ _ h => h) (Or.inl ⟨by rfl, ?_⟩) hH.out ?_
                  rotate_left
                  · intro w1 hSw
                    obtain ⟨e0, e1, e2⟩ := hSw
                    obtain ⟨z0, z1⟩ := two_cells e1
                    obtain ⟨v0, v1⟩ := two_cells e2
                    clear e1 e2
                    go_simp; with_reducible rfl
                  simp only [List.getElem_toArray, List.getElem_cons_succ, List.getElem_cons_zero, Act.put, List.setIfInBounds_toArray, List.set_cons_zero, List.set_cons_succ]
                  refine wpLast_take (i := 15) (oi := _) (v := ?_) rfl (by kernel_rfl) (by kernel_rfl) (by decide) (by kernel_rfl) (by kernel_rfl) (fun _ _ _ h => h) (Or.inl ⟨by rfl, ?_⟩) hH.out ?_
                  rotate_left
                  · intro w1 hSw
                    obtain ⟨e0, e1, e2⟩ := hSw
                    obtain ⟨z0, z1⟩ := two_cells e1
                    obtain ⟨v0, v1⟩ := two_cells e2
                    clear e1 e2
                    go_simp; with_reducible rfl
                  simp only [List.getElem_toArray, List.getElem_cons_succ, List.getElem_cons_zero, Act.put, List.setIfInBounds_toArray, List.set_cons_zero, List.set_cons_succ]
                  refine wpLast_take (i := 16) (oi := _) (v := ?_) rfl (by kernel_rfl) (by kernel_rfl) (by decide) (by kernel_rfl) (by kernel_rfl) (fun _ _ _ h => h) (Or.inl ⟨by rfl, ?_⟩) hH.out ?_
                  rotate_left
                  · intro w1 hSw
                    obtain ⟨e0, e1, e2⟩ := hSw
                    obtain ⟨z0, z1⟩ := two_cells e1
                    obtain ⟨v0, v1⟩ := two_cells e2
                    clear e1 e2
                    go_simp; with_reducible rfl
                  simp only [List.getElem_toArray, List.getElem_cons_succ, List.getElem_cons_zero, Act.put, List.setIfInBounds_toArray, List.set_cons_zero, List.set_cons_succ]
                  refine wpLast_take (i := 17) (oi := _) (v := ?_) rfl (by kernel_rfl) (by kernel_rfl) (by decide) (by kernel_rfl) (by kernel_rfl) (fun _ _ _ h => h) (Or.inl ⟨by rfl, ?_⟩) hH.out ?_
                  rotate_left
                  · intro w1 hSw
                    obtain ⟨e0, e1, e2⟩ := hSw
                    obtain ⟨z0, z1⟩ := two_cells e1
                    obtain ⟨v0, v1⟩ := two_cells e2
                    clear e1 e2
                    go_simp; with_reducible rfl
                  simp only [List.getElem_toArray, List.getElem_cons_succ, List.getElem_cons_zero, Act.put, List.setIfInBounds_toArray, List.set_cons_zero, List.set_cons_succ]
                  refine wpLast_take (i := 18) (oi := _) (v := ?_) rfl (by kernel_rfl) (by kernel_rfl) (by decide) (by kernel_rfl) (by kernel_rfl) (fun _ _ _ h => h) (Or.inl ⟨by rfl, ?_⟩) hH.out ?_
                  rotate_left
                  · intro w1 hSw
                    obtain ⟨e0, e1, e2⟩ := hSw
                    obtain ⟨z0, z1⟩ := two_cells e1
                    obtain ⟨v0, v1⟩ := two_cells e2
                    clear e1 e2
                    go_simp; with_reducible rfl
                  simp only [List.getElem_toArray, List.getElem_cons_succ, List.getElem_cons_zero, Act.put, List.setIfInBounds_toArray, List.set_cons_zero, List.set_cons_succ]
                  refine wpLast_ready (rs := [8]) (by kernel_rfl) (by simp) ?_
                  intro i hi; obtain rfl := List.mem_singleton.1 hi; clear hi
                  refine wpOp_step rfl (fun K3 hK3 => ?_)
                  have HK3 := Lib.hid hK3
                  clear hK3
                  rw [if_pos (by rfl)]
                  go_simp
                  refine (HC1.out Y0).mono ?_
                  rintro e w9 ⟨rfl, rfl⟩
                  refine HK3.out _ _ ⟨fun _ => hH.out, fun _ => ?_⟩
                  clear HK3 K3
                  try simp only [List.getElem_toArray, List.getElem_cons_succ, List.getElem_cons_zero, Act.put, List.setIfInBounds_toArray, List.set_cons_zero, List.set_cons_succ]
                  refine wpLast_take (i := 9) (oi := _) (v := ?_) rfl (by kernel_rfl) (by kernel_rfl) (by decide) (by kernel_rfl) (by kernel_rfl) (fun _ _ _ h => h) (Or.inl ⟨by rfl, ?_⟩) hH.out ?_
                  rotate_left
                  · intro w1 hSw
                    obtain ⟨e0, e1, e2⟩ := hSw
                    obtain ⟨z0, z1⟩ := two_cells e1
                    obtain ⟨v0, v1⟩ := two_cells e2
                    clear e1 e2
                    go_simp; with_reducible rfl
                  simp only [List.getElem_toArray, List.getElem_cons_succ, List.getElem_cons_zero, Act.put, List.setIfInBounds_toArray, List.set_cons_zero, List.set_cons_succ]
                  refine wpLast_ready (rs := [19]) (by kernel_rfl) (by simp) ?_
                  intro i hi; obtain rfl := List.mem_singleton.1 hi; clear hi
                  refine wpOp_step rfl (fun K3 hK3 => ?_)
                  have HK3 := Lib.hid hK3
                  clear hK3
                  rw [if_pos (by rfl)]
                  go_simp
                  refine (HC2.out Y0).mono ?_
                  rintro e w9 ⟨rfl, rfl⟩
                  refine HK3.out _ _ ⟨fun _ => hH.out, fun _ => ?_⟩
                  clear HK3 K3
                  try simp only [List.getElem_toArray, List.getElem_cons_succ, List.getElem_cons_zero, Act.put, List.setIfInBounds_toArray, List.set_cons_zero, List.set_cons_succ]
                  refine wpLast_take (i := 20) (oi := _) (v := ?_) rfl (by kernel_rfl) (by kernel_rfl) (by decide) (by kernel_rfl) (by kernel_rfl) (fun _ _ _ h => h) (Or.inl ⟨by rfl, ?_⟩) hH.out ?_
                  rotate_left
                  · intro w1 hSw
                    obtain ⟨e0, e1, e2⟩ := hSw
                    obtain ⟨z0, z1⟩ := two_cells e1
                    obtain ⟨v0, v1⟩ := two_cells e2
                    clear e1 e2
                    go_simp; with_reducible rfl
                  simp only [List.getElem_toArray, List.getElem_cons_succ, List.getElem_cons_zero, Act.put, List.setIfInBounds_toArray, List.set_cons_zero, List.set_cons_succ]
                  refine wpLast_take (i := 21) (oi := _) (v := ?_) rfl (by kernel_rfl) (by kernel_rfl) (by decide) (by kernel_rfl) (by kernel_rfl) (fun _ _ _ h => h) (Or.inl ⟨by rfl, ?_⟩) hH.out ?_
                  rotate_left
                  · intro w1 hSw
                    obtain ⟨e0, e1, e2⟩ := hSw
                    obtain ⟨z0, z1⟩ := two_cells e1
                    obtain ⟨v0, v1⟩ := two_cells e2
                    clear e1 e2
                    go_simp; with_reducible rfl
                  simp only [List.getElem_toArray, List.getElem_cons_succ, List.getElem_cons_zero, Act.put, List.setIfInBounds_toArray, List.set_cons_zero, List.set_cons_succ]
                  refine wpLast_take (i := 22) (oi := _) (v := ?_) rfl (by kernel_rfl) (by kernel_rfl) (by decide) (by kernel_rfl) (by kernel_rfl) (fun _ _ _ h => h) (Or.inl ⟨by rfl, ?_⟩) hH.out ?_
                  rotate_left
                  · intro w1 hSw
                    obtain ⟨e0, e1, e2⟩ := hSw
                    obtain ⟨z0, z1⟩ := two_cells e1
                    obtain ⟨v0, v1⟩ := two_cells e2
                    clear e1 e2
                    go_simp; with_reducible rfl
                  simp only [List.getElem_toArray, List.getElem_cons_succ, List.getElem_cons_zero, Act.put, List.setIfInBounds_toArray, List.set_cons_zero, List.set_cons_succ]
                  have hbx := hH.out.2.1
                  have f0 : Y0.frozen? ⟨A, 0, none⟩ = false := frozen_of hbx
                  have f1 : Y0.frozen? ⟨A, 1, none⟩ = false := frozen_of hbx
                  obtain ⟨y0, y1⟩ := two_cells hbx
                  have hz := set2 (A := .int .i64 (max t1 d0)) (B := .int .i64 (min t2 dd)) hbx
                  have hbz := below2 hbX (R := A) (by rw [HA.out]; exact Nat.le_refl _) (.int .i64 (max t1 d0)) (.int .i64 (min t2 dd))
                  obtain ⟨X3, hX3⟩ : ∃ X, X = (Y0.setCell ⟨A, 0, none⟩ (.int .i64 (max t1 d0))).setCell ⟨A, 1, none⟩ (.int .i64 (min t2 dd)) := ⟨_, rfl⟩
                  rw [← hX3] at hz hbz
                  refine wpLast_ready (rs := [23]) (by kernel_rfl) (by simp) ?_
                  intro i hi; obtain rfl := List.mem_singleton.1 hi; clear hi
                  refine wpOp_step rfl (fun K3 hK3 => ?_)
                  have HK3 := Lib.hid hK3
                  clear hK3
                  rw [if_pos (by rfl)]
                  go_simp
                  rw [← hX3]
                  clear hX3 f0 f1 y0 y1 hbx hbX hH
                  refine HK3.out _ _ ⟨fun h => absurd rfl h, fun _ => ?_⟩
                  clear HK3 K3
                  try simp only [List.getElem_toArray, List.getElem_cons_succ, List.getElem_cons_zero, Act.put, List.setIfInBounds_toArray, List.set_cons_zero, List.set_cons_succ]
                  refine wpLast_done (by kernel_rfl) ?_ _
                  have x3 := cell_step HX0.out hbz
                  have ho3 := row_below HD.out hbz
                  have hws3 : W7.heap.size ≤ X3.heap.size := Nat.le_trans HWS.out hbz.size
                  have hdl := ho3.lt
                  have HLN := Lib.hid HRW.out
                  have HBZ := Lib.hid (HBW.out.trans (hbz.mono HWS.out))
                  have hkk := HK.out
                  have hsn : flatK 2 spC (rowsT l x y t lo hi k) ++ [.int .i64 (max t1 d0), .int .i64 (min t2 dd)] = flatK 2 spC (rowsT l x y t lo hi (k + 1)) := by rw [HSN.out, HLN.out, flat_snoc]; rfl
                  have HS3 := Lib.hid hsn
                  generalize flatK 2 spC (rowsT l x y t lo hi k) = L1 at *
                  obtain ⟨z0, z1⟩ := two_cells hz
                  clear hz hbz hsn
                  go_wp2_with (at_builtin; refine wpList_append_own_at _ rfl (.tmp 140) (.tmp 142) 32 rfl W7.heap.size 24 i0 (.agg #[.int .i64 0, .int .i64 0]) 2 16 Try.underlying32 hi0 hz0 hz1 hz2 rfl (by decide) _ _ _ rfl (ho3.alloc _) ⟨_, 0, none⟩ 1 1 [.int .i64 (max t1 d0), .int .i64 (min t2 dd)] rfl rfl (cell_two_new _ _ _ _) (ints_oneCell .i64 [max t1 d0, min t2 dd]) (by unfold maxLen; omega) (by omega) (by simp; try omega) ?_; intro v1 w9 hd1 hg1 hnil1 hloc1)
                  go_roundw
                  case rel =>
                    refine ⟨k + 1, by omega, by go_num, ?_, ?_⟩
                    · exact (HBZ.out.alloc hws3 _).grown hg1 (by simp; omega) (fun t ht => (hdl t ht).1)
                    · rw [← HS3.out]; exact hd1
                  case measure => simp [intOf]; omega
                · have hd0 := down_in (n := n1) (d := sh) (by have := HNB.out; omega)
                  have hd1 := down_in (n := -n0) (d := sh) (by have := HNB.out; omega)
                  have HC1 := Lib.hid (fun X => rDown_any n1 sh (by have := HNB.out; omega) HSH.out (by omega) X)
                  have hc2 := fun X => rDown_any (-n0) sh (by have := HNB.out; omega) HSH.out (by omega) X
                  have hrw := HNG.out (by omega)
                  obtain ⟨d0, hd0e⟩ : ∃ z, downF n1 sh = z := ⟨_, rfl⟩
                  obtain ⟨d1, hd1e⟩ : ∃ z, downF (-n0) sh = z := ⟨_, rfl⟩
                  rw [hd0e] at hd0 HC1 hrw
                  rw [hd1e] at hd1 hc2 hrw
                  obtain ⟨nn, hnn⟩ : ∃ z, -n0 = z := ⟨_, rfl⟩
                  obtain ⟨dd, hdd⟩ : ∃ z, -d1 = z := ⟨_, rfl⟩
                  rw [hnn] at hc2
                  rw [hdd] at hrw
                  have w6 : IntKind.i64.wrap (-n0) = nn := by rw [hnn]; exact IntWalk.i64_in _ (by have := HNB.out; omega)
                  have w7 : IntKind.i64.wrap (-d1) = dd := by rw [hdd]; exact IntWalk.i64_in _ (by omega)
                  have HC2 := Lib.hid hc2
                  have HRW := Lib.hid hrw
                  have xc := HXX.out.1
                  clear hc2 hd0 hd1 hd0e hd1e hnn hdd hrw
                  go_upto_region 19 with fail
                  clear xc
                  refine wp_region_last (fun w' => w'.cell? ⟨gb, gof + k, none⟩ = some (.int .i64 sh) ∧ w'.heap[A]? = some (.cells #[.int .i64 t1, .int .i64 t2] 24 (0, 0)) ∧ w'.heap[D]? = some (.cells #[.int .i64 n0, .int .i64 n1] 24 (0, 0))) 23 (by kernel_rfl) HXX.out (fun hHeld => ?_)
                  obtain ⟨Y0, hY0⟩ : ∃ X, X = W10.drew := ⟨_, rfl⟩
                  have hbX : Below wr.heap.size wr Y0 := by rw [hY0]; exact HBR.out.drew
                  rw [← hY0] at hHeld ⊢
                  have hH := Lib.hid hHeld
                  clear hY0 hHeld
                  refine wpLast_take (i := 0) (oi := _) (v := ?_) rfl (by kernel_rfl) (by kernel_rfl) (by decide) (by kernel_rfl) (by kernel_rfl) (fun _ _ _ h => h) (Or.inl ⟨by rfl, ?_⟩) hH.out ?_
                  rotate_left
                  · intro w1 hSw
                    obtain ⟨e0, e1, e2⟩ := hSw
                    obtain ⟨z0, z1⟩ := two_cells e1
                    obtain ⟨v0, v1⟩ := two_cells e2
                    clear e1 e2
                    go_simp; with_reducible rfl
                  simp only [List.getElem_toArray, List.getElem_cons_succ, List.getElem_cons_zero, Act.put, List.setIfInBounds_toArray, List.set_cons_zero, List.set_cons_succ]
                  refine wpLast_take (i := 1) (oi := _) (v := ?_) rfl (by kernel_rfl) (by kernel_rfl) (by decide) (by kernel_rfl) (by kernel_rfl) (fun _ _ _ h => h) (Or.inl ⟨by rfl, ?_⟩) hH.out ?_
                  rotate_left
                  · intro w1 hSw
                    obtain ⟨e0, e1, e2⟩ := hSw
                    obtain ⟨z0, z1⟩ := two_cells e1
                    obtain ⟨v0, v1⟩ := two_cells e2
                    clear e1 e2
                    go_simp; with_reducible rfl
                  simp only [List.getElem_toArray, List.getElem_cons_succ, List.getElem_cons_zero, Act.put, List.setIfInBounds_toArray, List.set_cons_zero, List.set_cons_succ]
                  refine wpLast_take (i := 2) (oi := _) (v := ?_) rfl (by kernel_rfl) (by kernel_rfl) (by decide) (by kernel_rfl) (by kernel_rfl) (fun _ _ _ h => h) (Or.inl ⟨by rfl, ?_⟩) hH.out ?_
                  rotate_left
                  · intro w1 hSw
                    obtain ⟨e0, e1, e2⟩ := hSw
                    obtain ⟨z0, z1⟩ := two_cells e1
                    obtain ⟨v0, v1⟩ := two_cells e2
                    clear e1 e2
                    go_simp; with_reducible rfl
                  simp only [List.getElem_toArray, List.getElem_cons_succ, List.getElem_cons_zero, Act.put, List.setIfInBounds_toArray, List.set_cons_zero, List.set_cons_succ]
                  refine wpLast_take (i := 3) (oi := _) (v := ?_) rfl (by kernel_rfl) (by kernel_rfl) (by decide) (by kernel_rfl) (by kernel_rfl) (fun _ _ _ h => h) (Or.inl ⟨by rfl, ?_⟩) hH.out ?_
                  rotate_left
                  · intro w1 hSw
                    obtain ⟨e0, e1, e2⟩ := hSw
                    obtain ⟨z0, z1⟩ := two_cells e1
                    obtain ⟨v0, v1⟩ := two_cells e2
                    clear e1 e2
                    go_simp; with_reducible rfl
                  simp only [List.getElem_toArray, List.getElem_cons_succ, List.getElem_cons_zero, Act.put, List.setIfInBounds_toArray, List.set_cons_zero, List.set_cons_succ]
                  refine wpLast_take (i := 4) (oi := _) (v := ?_) rfl (by kernel_rfl) (by kernel_rfl) (by decide) (by kernel_rfl) (by kernel_rfl) (fun _ _ _ h => h) (Or.inl ⟨by rfl, ?_⟩) hH.out ?_
                  rotate_left
                  · intro w1 hSw
                    obtain ⟨e0, e1, e2⟩ := hSw
                    obtain ⟨z0, z1⟩ := two_cells e1
                    obtain ⟨v0, v1⟩ := two_cells e2
                    clear e1 e2
                    go_simp; with_reducible rfl
                  simp only [List.getElem_toArray, List.getElem_cons_succ, List.getElem_cons_zero, Act.put, List.setIfInBounds_toArray, List.set_cons_zero, List.set_cons_succ]
                  refine wpLast_take (i := 5) (oi := _) (v := ?_) rfl (by kernel_rfl) (by kernel_rfl) (by decide) (by kernel_rfl) (by kernel_rfl) (fun _ _ _ h => h) (Or.inl ⟨by rfl, ?_⟩) hH.out ?_
                  rotate_left
                  · intro w1 hSw
                    obtain ⟨e0, e1, e2⟩ := hSw
                    obtain ⟨z0, z1⟩ := two_cells e1
                    obtain ⟨v0, v1⟩ := two_cells e2
                    clear e1 e2
                    go_simp; with_reducible rfl
                  simp only [List.getElem_toArray, List.getElem_cons_succ, List.getElem_cons_zero, Act.put, List.setIfInBounds_toArray, List.set_cons_zero, List.set_cons_succ]
                  refine wpLast_take (i := 6) (oi := _) (v := ?_) rfl (by kernel_rfl) (by kernel_rfl) (by decide) (by kernel_rfl) (by kernel_rfl) (fun _ _ _ h => h) (Or.inl ⟨by rfl, ?_⟩) hH.out ?_
                  rotate_left
                  · intro w1 hSw
                    obtain ⟨e0, e1, e2⟩ := hSw
                    obtain ⟨z0, z1⟩ := two_cells e1
                    obtain ⟨v0, v1⟩ := two_cells e2
                    clear e1 e2
                    go_simp; with_reducible rfl
                  simp only [List.getElem_toArray, List.getElem_cons_succ, List.getElem_cons_zero, Act.put, List.setIfInBounds_toArray, List.set_cons_zero, List.set_cons_succ]
                  refine wpLast_take (i := 7) (oi := _) (v := ?_) rfl (by kernel_rfl) (by kernel_rfl) (by decide) (by kernel_rfl) (by kernel_rfl) (fun _ _ _ h => h) (Or.inl ⟨by rfl, ?_⟩) hH.out ?_
                  rotate_left
                  · intro w1 hSw
                    obtain ⟨e0, e1, e2⟩ := hSw
                    obtain ⟨z0, z1⟩ := two_cells e1
                    obtain ⟨v0, v1⟩ := two_cells e2
                    clear e1 e2
                    go_simp; with_reducible rfl
                  simp only [List.getElem_toArray, List.getElem_cons_succ, List.getElem_cons_zero, Act.put, List.setIfInBounds_toArray, List.set_cons_zero, List.set_cons_succ]
                  refine wpLast_take (i := 10) (oi := _) (v := ?_) rfl (by kernel_rfl) (by kernel_rfl) (by decide) (by kernel_rfl) (by kernel_rfl) (fun _ _ _ h => h) (Or.inl ⟨by rfl, ?_⟩) hH.out ?_
                  rotate_left
                  · intro w1 hSw
                    obtain ⟨e0, e1, e2⟩ := hSw
                    obtain ⟨z0, z1⟩ := two_cells e1
                    obtain ⟨v0, v1⟩ := two_cells e2
                    clear e1 e2
                    go_simp; with_reducible rfl
                  simp only [List.getElem_toArray, List.getElem_cons_succ, List.getElem_cons_zero, Act.put, List.setIfInBounds_toArray, List.set_cons_zero, List.set_cons_succ]
                  refine wpLast_take (i := 11) (oi := _) (v := ?_) rfl (by kernel_rfl) (by kernel_rfl) (by decide) (by kernel_rfl) (by kernel_rfl) (fun _ _ _ h => h) (Or.inl ⟨by rfl, ?_⟩) hH.out ?_
                  rotate_left
                  · intro w1 hSw
                    obtain ⟨e0, e1, e2⟩ := hSw
                    obtain ⟨z0, z1⟩ := two_cells e1
                    obtain ⟨v0, v1⟩ := two_cells e2
                    clear e1 e2
                    go_simp; with_reducible rfl
                  simp only [List.getElem_toArray, List.getElem_cons_succ, List.getElem_cons_zero, Act.put, List.setIfInBounds_toArray, List.set_cons_zero, List.set_cons_succ]
                  refine wpLast_take (i := 12) (oi := _) (v := ?_) rfl (by kernel_rfl) (by kernel_rfl) (by decide) (by kernel_rfl) (by kernel_rfl) (fun _ _ _ h => h) (Or.inl ⟨by rfl, ?_⟩) hH.out ?_
                  rotate_left
                  · intro w1 hSw
                    obtain ⟨e0, e1, e2⟩ := hSw
                    obtain ⟨z0, z1⟩ := two_cells e1
                    obtain ⟨v0, v1⟩ := two_cells e2
                    clear e1 e2
                    go_simp; with_reducible rfl
                  simp only [List.getElem_toArray, List.getElem_cons_succ, List.getElem_cons_zero, Act.put, List.setIfInBounds_toArray, List.set_cons_zero, List.set_cons_succ]
                  refine wpLast_take (i := 13) (oi := _) (v := ?_) rfl (by kernel_rfl) (by kernel_rfl) (by decide) (by kernel_rfl) (by kernel_rfl) (fun _ _ _ h => h) (Or.inl ⟨by rfl, ?_⟩) hH.out ?_
                  rotate_left
                  · intro w1 hSw
                    obtain ⟨e0, e1, e2⟩ := hSw
                    obtain ⟨z0, z1⟩ := two_cells e1
                    obtain ⟨v0, v1⟩ := two_cells e2
                    clear e1 e2
                    go_simp; with_reducible rfl
                  simp only [List.getElem_toArray, List.getElem_cons_succ, List.getElem_cons_zero, Act.put, List.setIfInBounds_toArray, List.set_cons_zero, List.set_cons_succ]
                  refine wpLast_take (i := 14) (oi := _) (v := ?_) rfl (by kernel_rfl) (by kernel_rfl) (by decide) (by kernel_rfl) (by kernel_rfl) (fun _ _ _ h => h) (Or.inl ⟨by rfl, ?_⟩) hH.out ?_
                  rotate_left
                  · intro w1 hSw
                    obtain ⟨e0, e1, e2⟩ := hSw
                    obtain ⟨z0, z1⟩ := two_cells e1
                    obtain ⟨v0, v1⟩ := two_cells e2
                    clear e1 e2
                    go_simp; with_reducible rfl
                  simp only [List.getElem_toArray, List.getElem_cons_succ, List.getElem_cons_zero, Act.put, List.setIfInBounds_toArray, List.set_cons_zero, List.set_cons_succ]
                  refine wpLast_take (i := 15) (oi := _) (v := ?_) rfl (by kernel_rfl) (by kernel_rfl) (by decide) (by kernel_rfl) (by kernel_rfl) (fun _ _ _ h => h) (Or.inl ⟨by rfl, ?_⟩) hH.out ?_
                  rotate_left
                  · intro w1 hSw
                    obtain ⟨e0, e1, e2⟩ := hSw
                    obtain ⟨z0, z1⟩ := two_cells e1
                    obtain ⟨v0, v1⟩ := two_cells e2
                    clear e1 e2
                    go_simp; with_reducible rfl
                  simp only [List.getElem_toArray, List.getElem_cons_succ, List.getElem_cons_zero, Act.put, List.setIfInBounds_toArray, List.set_cons_zero, List.set_cons_succ]
                  refine wpLast_take (i := 16) (oi := _) (v := ?_) rfl (by kernel_rfl) (by kernel_rfl) (by decide) (by kernel_rfl) (by kernel_rfl) (fun _ _ _ h => h) (Or.inl ⟨by rfl, ?_⟩) hH.out ?_
                  rotate_left
                  · intro w1 hSw
                    obtain ⟨e0, e1, e2⟩ := hSw
                    obtain ⟨z0, z1⟩ := two_cells e1
                    obtain ⟨v0, v1⟩ := two_cells e2
                    clear e1 e2
                    go_simp; with_reducible rfl
                  simp only [List.getElem_toArray, List.getElem_cons_succ, List.getElem_cons_zero, Act.put, List.setIfInBounds_toArray, List.set_cons_zero, List.set_cons_succ]
                  refine wpLast_take (i := 17) (oi := _) (v := ?_) rfl (by kernel_rfl) (by kernel_rfl) (by decide) (by kernel_rfl) (by kernel_rfl) (fun _ _ _ h => h) (Or.inl ⟨by rfl, ?_⟩) hH.out ?_
                  rotate_left
                  · intro w1 hSw
                    obtain ⟨e0, e1, e2⟩ := hSw
                    obtain ⟨z0, z1⟩ := two_cells e1
                    obtain ⟨v0, v1⟩ := two_cells e2
                    clear e1 e2
                    go_simp; with_reducible rfl
                  simp only [List.getElem_toArray, List.getElem_cons_succ, List.getElem_cons_zero, Act.put, List.setIfInBounds_toArray, List.set_cons_zero, List.set_cons_succ]
                  refine wpLast_take (i := 18) (oi := _) (v := ?_) rfl (by kernel_rfl) (by kernel_rfl) (by decide) (by kernel_rfl) (by kernel_rfl) (fun _ _ _ h => h) (Or.inl ⟨by rfl, ?_⟩) hH.out ?_
                  rotate_left
                  · intro w1 hSw
                    obtain ⟨e0, e1, e2⟩ := hSw
                    obtain ⟨z0, z1⟩ := two_cells e1
                    obtain ⟨v0, v1⟩ := two_cells e2
                    clear e1 e2
                    go_simp; with_reducible rfl
                  simp only [List.getElem_toArray, List.getElem_cons_succ, List.getElem_cons_zero, Act.put, List.setIfInBounds_toArray, List.set_cons_zero, List.set_cons_succ]
                  refine wpLast_ready (rs := [8]) (by kernel_rfl) (by simp) ?_
                  intro i hi; obtain rfl := List.mem_singleton.1 hi; clear hi
                  refine wpOp_step rfl (fun K3 hK3 => ?_)
                  have HK3 := Lib.hid hK3
                  clear hK3
                  rw [if_pos (by rfl)]
                  go_simp
                  refine (HC1.out Y0).mono ?_
                  rintro e w9 ⟨rfl, rfl⟩
                  refine HK3.out _ _ ⟨fun _ => hH.out, fun _ => ?_⟩
                  clear HK3 K3
                  try simp only [List.getElem_toArray, List.getElem_cons_succ, List.getElem_cons_zero, Act.put, List.setIfInBounds_toArray, List.set_cons_zero, List.set_cons_succ]
                  refine wpLast_take (i := 9) (oi := _) (v := ?_) rfl (by kernel_rfl) (by kernel_rfl) (by decide) (by kernel_rfl) (by kernel_rfl) (fun _ _ _ h => h) (Or.inl ⟨by rfl, ?_⟩) hH.out ?_
                  rotate_left
                  · intro w1 hSw
                    obtain ⟨e0, e1, e2⟩ := hSw
                    obtain ⟨z0, z1⟩ := two_cells e1
                    obtain ⟨v0, v1⟩ := two_cells e2
                    clear e1 e2
                    go_simp; with_reducible rfl
                  simp only [List.getElem_toArray, List.getElem_cons_succ, List.getElem_cons_zero, Act.put, List.setIfInBounds_toArray, List.set_cons_zero, List.set_cons_succ]
                  refine wpLast_ready (rs := [19]) (by kernel_rfl) (by simp) ?_
                  intro i hi; obtain rfl := List.mem_singleton.1 hi; clear hi
                  refine wpOp_step rfl (fun K3 hK3 => ?_)
                  have HK3 := Lib.hid hK3
                  clear hK3
                  rw [if_pos (by rfl)]
                  go_simp
                  refine (HC2.out Y0).mono ?_
                  rintro e w9 ⟨rfl, rfl⟩
                  refine HK3.out _ _ ⟨fun _ => hH.out, fun _ => ?_⟩
                  clear HK3 K3
                  try simp only [List.getElem_toArray, List.getElem_cons_succ, List.getElem_cons_zero, Act.put, List.setIfInBounds_toArray, List.set_cons_zero, List.set_cons_succ]
                  refine wpLast_take (i := 20) (oi := _) (v := ?_) rfl (by kernel_rfl) (by kernel_rfl) (by decide) (by kernel_rfl) (by kernel_rfl) (fun _ _ _ h => h) (Or.inl ⟨by rfl, ?_⟩) hH.out ?_
                  rotate_left
                  · intro w1 hSw
                    obtain ⟨e0, e1, e2⟩ := hSw
                    obtain ⟨z0, z1⟩ := two_cells e1
                    obtain ⟨v0, v1⟩ := two_cells e2
                    clear e1 e2
                    go_simp; with_reducible rfl
                  simp only [List.getElem_toArray, List.getElem_cons_succ, List.getElem_cons_zero, Act.put, List.setIfInBounds_toArray, List.set_cons_zero, List.set_cons_succ]
                  refine wpLast_take (i := 21) (oi := _) (v := ?_) rfl (by kernel_rfl) (by kernel_rfl) (by decide) (by kernel_rfl) (by kernel_rfl) (fun _ _ _ h => h) (Or.inl ⟨by rfl, ?_⟩) hH.out ?_
                  rotate_left
                  · intro w1 hSw
                    obtain ⟨e0, e1, e2⟩ := hSw
                    obtain ⟨z0, z1⟩ := two_cells e1
                    obtain ⟨v0, v1⟩ := two_cells e2
                    clear e1 e2
                    go_simp; with_reducible rfl
                  simp only [List.getElem_toArray, List.getElem_cons_succ, List.getElem_cons_zero, Act.put, List.setIfInBounds_toArray, List.set_cons_zero, List.set_cons_succ]
                  refine wpLast_take (i := 22) (oi := _) (v := ?_) rfl (by kernel_rfl) (by kernel_rfl) (by decide) (by kernel_rfl) (by kernel_rfl) (fun _ _ _ h => h) (Or.inl ⟨by rfl, ?_⟩) hH.out ?_
                  rotate_left
                  · intro w1 hSw
                    obtain ⟨e0, e1, e2⟩ := hSw
                    obtain ⟨z0, z1⟩ := two_cells e1
                    obtain ⟨v0, v1⟩ := two_cells e2
                    clear e1 e2
                    go_simp; with_reducible rfl
                  simp only [List.getElem_toArray, List.getElem_cons_succ, List.getElem_cons_zero, Act.put, List.setIfInBounds_toArray, List.set_cons_zero, List.set_cons_succ]
                  have hbx := hH.out.2.1
                  have f0 : Y0.frozen? ⟨A, 0, none⟩ = false := frozen_of hbx
                  have f1 : Y0.frozen? ⟨A, 1, none⟩ = false := frozen_of hbx
                  obtain ⟨y0, y1⟩ := two_cells hbx
                  have hz := set2 (A := .int .i64 (max t1 d0)) (B := .int .i64 (min t2 dd)) hbx
                  have hbz := below2 hbX (R := A) (by rw [HA.out]; exact Nat.le_refl _) (.int .i64 (max t1 d0)) (.int .i64 (min t2 dd))
                  obtain ⟨X3, hX3⟩ : ∃ X, X = (Y0.setCell ⟨A, 0, none⟩ (.int .i64 (max t1 d0))).setCell ⟨A, 1, none⟩ (.int .i64 (min t2 dd)) := ⟨_, rfl⟩
                  rw [← hX3] at hz hbz
                  refine wpLast_ready (rs := [23]) (by kernel_rfl) (by simp) ?_
                  intro i hi; obtain rfl := List.mem_singleton.1 hi; clear hi
                  refine wpOp_step rfl (fun K3 hK3 => ?_)
                  have HK3 := Lib.hid hK3
                  clear hK3
                  rw [if_pos (by rfl)]
                  go_simp
                  rw [← hX3]
                  clear hX3 f0 f1 y0 y1 hbx hbX hH
                  refine HK3.out _ _ ⟨fun h => absurd rfl h, fun _ => ?_⟩
                  clear HK3 K3
                  try simp only [List.getElem_toArray, List.getElem_cons_succ, List.getElem_cons_zero, Act.put, List.setIfInBounds_toArray, List.set_cons_zero, List.set_cons_succ]
                  refine wpLast_done (by kernel_rfl) ?_ _
                  have x3 := cell_step HX0.out hbz
                  have ho3 := row_below HD.out hbz
                  have hws3 : W7.heap.size ≤ X3.heap.size := Nat.le_trans HWS.out hbz.size
                  have hdl := ho3.lt
                  have HLN := Lib.hid HRW.out
                  have HBZ := Lib.hid (HBW.out.trans (hbz.mono HWS.out))
                  have hkk := HK.out
                  have hsn : flatK 2 spC (rowsT l x y t lo hi k) ++ [.int .i64 (max t1 d0), .int .i64 (min t2 dd)] = flatK 2 spC (rowsT l x y t lo hi (k + 1)) := by rw [HSN.out, HLN.out, flat_snoc]; rfl
                  have HS3 := Lib.hid hsn
                  generalize flatK 2 spC (rowsT l x y t lo hi k) = L1 at *
                  obtain ⟨z0, z1⟩ := two_cells hz
                  clear hz hbz hsn
                  go_wp2_with (at_builtin; refine wpList_append_own_at _ rfl (.tmp 140) (.tmp 142) 32 rfl W7.heap.size 24 i0 (.agg #[.int .i64 0, .int .i64 0]) 2 16 Try.underlying32 hi0 hz0 hz1 hz2 rfl (by decide) _ _ _ rfl (ho3.alloc _) ⟨_, 0, none⟩ 1 1 [.int .i64 (max t1 d0), .int .i64 (min t2 dd)] rfl rfl (cell_two_new _ _ _ _) (ints_oneCell .i64 [max t1 d0, min t2 dd]) (by unfold maxLen; omega) (by omega) (by simp; try omega) ?_; intro v1 w9 hd1 hg1 hnil1 hloc1)
                  go_roundw
                  case rel =>
                    refine ⟨k + 1, by omega, by go_num, ?_, ?_⟩
                    · exact (HBZ.out.alloc hws3 _).grown hg1 (by simp; omega) (fun t ht => (hdl t ht).1)
                    · rw [← HS3.out]; exact hd1
                  case measure => simp [intOf]; omega
                · have hrw := HZR.out (by omega)
                  have HRW := Lib.hid hrw
                  have x3 := HXX.out.1
                  have hz := HXX.out.2.1
                  have hbz := HBR.out
                  obtain ⟨X3, hX3⟩ : ∃ X, W10 = X := ⟨_, rfl⟩
                  rw [hX3] at x3 hz hbz ⊢
                  clear hX3 hrw
                  have ho3 := row_below HD.out hbz
                  have hws3 : W7.heap.size ≤ X3.heap.size := Nat.le_trans HWS.out hbz.size
                  have hdl := ho3.lt
                  have HLN := Lib.hid HRW.out
                  have HBZ := Lib.hid (HBW.out.trans (hbz.mono HWS.out))
                  have hkk := HK.out
                  have hsn : flatK 2 spC (rowsT l x y t lo hi k) ++ [.int .i64 (t1), .int .i64 (t2)] = flatK 2 spC (rowsT l x y t lo hi (k + 1)) := by rw [HSN.out, HLN.out, flat_snoc]; rfl
                  have HS3 := Lib.hid hsn
                  generalize flatK 2 spC (rowsT l x y t lo hi k) = L1 at *
                  obtain ⟨z0, z1⟩ := two_cells hz
                  clear hz hbz hsn
                  go_wp2_with (at_builtin; refine wpList_append_own_at _ rfl (.tmp 140) (.tmp 142) 32 rfl W7.heap.size 24 i0 (.agg #[.int .i64 0, .int .i64 0]) 2 16 Try.underlying32 hi0 hz0 hz1 hz2 rfl (by decide) _ _ _ rfl (ho3.alloc _) ⟨_, 0, none⟩ 1 1 [.int .i64 (t1), .int .i64 (t2)] rfl rfl (cell_two_new _ _ _ _) (ints_oneCell .i64 [t1, t2]) (by unfold maxLen; omega) (by omega) (by simp; try omega) ?_; intro v1 w9 hd1 hg1 hnil1 hloc1)
                  go_roundw
                  case rel =>
                    refine ⟨k + 1, by omega, by go_num, ?_, ?_⟩
                    · exact (HBZ.out.alloc hws3 _).grown hg1 (by simp; omega) (fun t ht => (hdl t ht).1)
                    · rw [← HS3.out]; exact hd1
                  case measure => simp [intOf]; omega
            · have i1 : ¬ (k : Int) < (l.length : Int) := by omega
              have hkl : k = l.length := by omega
              subst hkl
              have HD := Lib.hid (own_base hd HB7.out.size)
              have HBW := Lib.hid (HB7.out.trans (hbw.mono HB7.out.size))
              clear hd hbw
              go_wp2
              go_ret2
              exact ⟨_, rfl, by rw [rows_len]; exact HD.out, HBW.out⟩
end Go.Proofs.Ytdbjifpnbghbaaa
