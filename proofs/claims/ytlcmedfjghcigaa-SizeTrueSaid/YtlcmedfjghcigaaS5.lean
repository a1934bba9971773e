/- Size: the walk of SizeTrue. -/
import Derived.Test.YtlcmedfjghcigaaM5
import Derived.Test.YtlcmedfjghcigaaA12
import Derived.Test.YtlcmedfjghcigaaA13
namespace Go.Proofs.Ytlcmedfjghcigaa
set_option linter.unusedSimpArgs false
set_option linter.unusedVariables false
open Go.RowKit Go.Maps Go.BigFrame

/-- ints of two bytes in memory -/
def U16At (w : World) (v : Value) (L : List Nat) : Prop := L.length ≤ maxLen ∧ ((L = [] ∧ ∃ a c, v = .slice a 0 c) ∨ ∃ b off cap, v = .slice (some ⟨b, off, none⟩) L.length cap ∧ b < w.heap.size ∧ ∀ i, i < L.length → w.cell? ⟨b, off + i, none⟩ = some (.int .u16 (L.getD i 0 : Nat)) ∧ L.getD i 0 < 65536)
theorem U16At.shape {w : World} {v : Value} {L : List Nat} (h : U16At w v L) : ∃ a c, v = .slice a L.length c := by
  obtain ⟨_, ⟨rfl, a, c, rfl⟩ | ⟨b, off, cap, rfl, _⟩⟩ := h
  · exact ⟨a, c, rfl⟩
  · exact ⟨_, _, rfl⟩
theorem U16At.below {w w' : World} {v : Value} {L : List Nat} (h : U16At w v L) (hb : Below w.heap.size w w') : U16At w' v L := by
  obtain ⟨h1, h2 | ⟨b, off, cap, h2, h3, h4⟩⟩ := h
  · exact ⟨h1, .inl h2⟩
  · exact ⟨h1, .inr ⟨b, off, cap, h2, Nat.lt_of_lt_of_le h3 hb.size, fun i hi => ⟨(hb.cell (p := ⟨b, off + i, none⟩) h3).trans (h4 i hi).1, (h4 i hi).2⟩⟩⟩
theorem U16At.at {w : World} {a : Option Addr} {n c : Nat} {L : List Nat} (h : U16At w (.slice a n c) L) (hl : 0 < L.length) : ∃ b off, a = some ⟨b, off, none⟩ ∧ b < w.heap.size ∧ ∀ i, i < L.length → w.cell? ⟨b, off + i, none⟩ = some (.int .u16 (L.getD i 0 : Nat)) ∧ L.getD i 0 < 65536 := by
  obtain ⟨_, ⟨rfl, _⟩ | ⟨b, off, cap, e, h1, h2⟩⟩ := h
  · simp at hl
  · simp only [Value.slice.injEq] at e
    exact ⟨b, off, e.1, h1, h2⟩
theorem flow_yes {ts : List Tp} {tk : List Nat} {s k : Nat} (h : hasF s k = true) : flowUp ts tk s (k + 1) = flowUp ts tk s k + tookF tk ts[k]! k := by rw [flowUp, if_pos h]
theorem flow_no {ts : List Tp} {tk : List Nat} {s k : Nat} (h : hasF s k = false) : flowUp ts tk s (k + 1) = flowUp ts tk s k := by rw [flowUp, h]; rfl
set_option maxRecDepth 100000 in
set_option maxHeartbeats 12800000 in
theorem true_law (h : Hs) (a1 : Option Addr) (c1 : Nat) (a2 : Option Addr) (c2 : Nat) (l : List Sz) (v : Value) (b : Nat) (hb : b ≤ 65535) (tk : List Nat) (v2 : Value) (w : World) (hh : HsAt w h a1 c1 a2 c2) (hl : TabAt 4 szC w v l) (ht : U16At w v2 tk) : Calls Try.prog 6 #[hsV h a1 c1 a2 c2, v, .int .u16 (b : Nat), v2] w fun e w' => e = .returned (.bool true) ∧ Below w.heap.size w w' := by
  obtain ⟨la, lc, rfl⟩ := hl.shape
  obtain ⟨ta, tc, rfl⟩ := ht.shape
  have mt : h.tp.length ≤ 9223372036854775807 := hh.tp.1
  have ml : l.length ≤ 9223372036854775807 := hl.1
  have mk : tk.length ≤ 9223372036854775807 := ht.1
  obtain ⟨W0, hW0⟩ : ∃ X, X = w.alloc (.cells #[.int .i64 h.head, .int .i64 h.drip, .slice a1 h.tp.length c1, .slice a2 h.rl.length c2] 25) := ⟨_, rfl⟩
  have hal : W0 = al w [(.cells #[.int .i64 h.head, .int .i64 h.drip, .slice a1 h.tp.length c1, .slice a2 h.rl.length c2] 25)] := hW0
  have hb0 : Below w.heap.size w W0 := by rw [hal]; exact al_below w _ (Nat.le_refl _)
  have hs0 : W0.heap.size = w.heap.size + 1 := by rw [hal]; exact al_size w _
  have hr0 : W0.heap[w.heap.size]? = some (.cells #[.int .i64 h.head, .int .i64 h.drip, .slice a1 h.tp.length c1, .slice a2 h.rl.length c2] 25 (0, 0)) := by rw [hal]; exact al_get w _ 0 _ rfl
  obtain ⟨P, hP0⟩ : ∃ x, w.heap.size = x := ⟨_, rfl⟩
  rw [hP0] at hr0 hs0
  clear hal
  have HB0 := Lib.hid hb0
  have H0 := Lib.hid hr0
  have hh0 := hh.below hb0
  have HH0 := Lib.hid hh0
  have HL0 := Lib.hid (hl.below hb0)
  have HT0 := Lib.hid (ht.below hb0)
  have KG := Lib.hid (great_any h a1 c1 a2 c2 8 W0 hh0)
  have KA := Lib.hid alive_any
  obtain ⟨g, hg⟩ : ∃ g, greatB h 8 = g := ⟨_, rfl⟩
  rw [hg] at KG
  obtain ⟨y0, y1, y2, y3⟩ := four_cells hr0
  clear hb0 hr0 hs0 hh hl ht hh0 hg
  have EV : hsV h a1 c1 a2 c2 = .agg #[.int .i64 h.head, .int .i64 h.drip, .slice a1 h.tp.length c1, .slice a2 h.rl.length c2] := rfl
  have HEV := Lib.hid EV
  rw [EV] at KG ⊢
  clear EV
  go_enter Try.func6, Try.ntmps6
  go_upto_region 1 with fail
  rw [← hW0]
  clear hW0 hP0
  cases g with
  | true =>
    go_wp2_with (go_at_call 12; fail)
    refine KG.out.mono ?_
    rintro e w2 ⟨rfl, hb2⟩
    have HB2 := Lib.hid (HB0.out.trans (hb2.mono HB0.out.size))
    have h2 := box_step (w0 := w) H0.out hb2
    have hh2 := HH0.out.below hb2
    have hl2 := HL0.out.below hb2
    have ht2 := HT0.out.below hb2
    have H2 := Lib.hid h2
    have HH2 := Lib.hid hh2
    have HL2 := Lib.hid hl2
    have HT2 := Lib.hid ht2
    clear hb2 y0 y1 y2 y3
    clear h2 hh2 hl2 ht2
    go_wp2_with (go_at_call 13; fail)
    refine (KA.out _).mono ?_
    rintro e9 w3 ⟨rfl, hbz⟩
    go_wp2
    go_ret
    exact ⟨rfl, HB2.out.trans (hbz.mono HB2.out.size)⟩
  | false =>
  by_cases hl18 : 18 < l.length
  · have hg1 : ((l.length : Int) > 18) := by omega
    go_wp2_with (go_at_call 12; fail)
    refine KG.out.mono ?_
    rintro e w2 ⟨rfl, hb2⟩
    have HB2 := Lib.hid (HB0.out.trans (hb2.mono HB0.out.size))
    have h2 := box_step (w0 := w) H0.out hb2
    have hh2 := HH0.out.below hb2
    have hl2 := HL0.out.below hb2
    have ht2 := HT0.out.below hb2
    have H2 := Lib.hid h2
    have HH2 := Lib.hid hh2
    have HL2 := Lib.hid hl2
    have HT2 := Lib.hid ht2
    clear hb2 y0 y1 y2 y3
    clear h2 hh2 hl2 ht2
    go_wp2_with (go_at_call 13; fail)
    refine (KA.out _).mono ?_
    rintro e9 w3 ⟨rfl, hbz⟩
    go_wp2
    go_ret
    exact ⟨rfl, HB2.out.trans (hbz.mono HB2.out.size)⟩
  · have hg1 : decide ((18 : Int) < (l.length : Int)) = false := by simp; omega
    have hg1b : decide (18 < l.length) = false := by simp; omega
    by_cases hk0 : tk.length = 0
    · have hg2 : ((tk.length : Int) = 0) := by omega
      go_wp2_with (go_at_call 12; fail)
      refine KG.out.mono ?_
      rintro e w2 ⟨rfl, hb2⟩
      have HB2 := Lib.hid (HB0.out.trans (hb2.mono HB0.out.size))
      have h2 := box_step (w0 := w) H0.out hb2
      have hh2 := HH0.out.below hb2
      have hl2 := HL0.out.below hb2
      have ht2 := HT0.out.below hb2
      have H2 := Lib.hid h2
      have HH2 := Lib.hid hh2
      have HL2 := Lib.hid hl2
      have HT2 := Lib.hid ht2
      clear hb2 y0 y1 y2 y3
      clear h2 hh2 hl2 ht2
      go_wp2_with (go_at_call 13; fail)
      refine (KA.out _).mono ?_
      rintro e9 w3 ⟨rfl, hbz⟩
      go_wp2
      go_ret
      exact ⟨rfl, HB2.out.trans (hbz.mono HB2.out.size)⟩
    · have hg2 : ((tk.length : Int) == 0) = false := by simp; exact fun e => hk0 (by simp [e])
      have hg2b : (tk.length == 0) = false := by simpa using hk0
      have hg2c : ¬ tk = [] := fun e => hk0 (by simp [e])
      go_wp2_with (go_at_call 12; fail)
      refine KG.out.mono ?_
      rintro e w2 ⟨rfl, hb2⟩
      have HB2 := Lib.hid (HB0.out.trans (hb2.mono HB0.out.size))
      have h2 := box_step (w0 := w) H0.out hb2
      have hh2 := HH0.out.below hb2
      have hl2 := HL0.out.below hb2
      have ht2 := HT0.out.below hb2
      have H2 := Lib.hid h2
      have HH2 := Lib.hid hh2
      have HL2 := Lib.hid hl2
      have HT2 := Lib.hid ht2
      clear hb2 y0 y1 y2 y3
      obtain ⟨y0, y1, y2, y3⟩ := four_cells h2
      have KH := Lib.hid (House_any h a1 c1 a2 c2 w2 hh2)
      rw [HEV.out] at KH
      obtain ⟨g, hg⟩ : ∃ b, hsOk h = b := ⟨_, rfl⟩
      rw [hg] at KH
      have HOK := Lib.hid hg
      clear h2 hh2 hl2 ht2 hg
      go_wp2_with (go_at_call 25; fail)
      refine KH.out.mono ?_
      rintro e w3 ⟨rfl, hb3⟩
      have HB3 := Lib.hid (HB2.out.trans (hb3.mono HB2.out.size))
      have h3 := box_step (w0 := w) H2.out hb3
      have hh3 := HH2.out.below hb3
      have hl3 := HL2.out.below hb3
      have ht3 := HT2.out.below hb3
      have H3 := Lib.hid h3
      have HH3 := Lib.hid hh3
      have HL3 := Lib.hid hl3
      have HT3 := Lib.hid ht3
      clear hb3 y0 y1 y2 y3
      cases g with
      | false =>
        clear h3 hh3 hl3 ht3
        go_wp2_with (go_at_call 13; fail)
        refine (KA.out _).mono ?_
        rintro e9 w4 ⟨rfl, hbz⟩
        go_wp2
        go_ret
        exact ⟨rfl, HB3.out.trans (hbz.mono HB3.out.size)⟩
      | true =>
      have hok := HOK.out
      obtain ⟨y0, y1, y2, y3⟩ := four_cells h3
      have KP := Peak_any h a1 c1 a2 c2 w3 hh3
      obtain ⟨slo, shi, best, hpk, hb1, hb2, hb3, hb4, hb5⟩ := peak_facts hok
      rw [hpk, HEV.out] at KP
      unfold PeakR at KP
      have KPP := Lib.hid KP
      have HB5' := Lib.hid hb5
      clear KP hpk h3 hh3 hl3 ht3 hb5
      go_wp2_with (go_at_call 14; fail)
      refine KPP.out.mono ?_
      rintro e w4 ⟨rfl, hb4'⟩
      have HB4 := Lib.hid (HB3.out.trans (hb4'.mono HB3.out.size))
      have h4 := box_step (w0 := w) H3.out hb4'
      have hh4 := HH3.out.below hb4'
      have hl4 := HL3.out.below hb4'
      have ht4 := HT3.out.below hb4'
      have H4 := Lib.hid h4
      have HH4 := Lib.hid hh4
      have HL4 := Lib.hid hl4
      have HT4 := Lib.hid ht4
      clear hb4' y0 y1 y2 y3
      obtain ⟨S, hS⟩ : ∃ x, w4.heap.size = x := ⟨_, rfl⟩
      obtain ⟨w5, hw5⟩ : ∃ X, w4.alloc (.cells #[.int .i64 slo, .int .i64 shi] 31) = X := ⟨_, rfl⟩
      have hbs : Below w4.heap.size w4 w5 := by rw [← hw5]; exact (Below.refl _ _).alloc (Nat.le_refl _) _
      have hs5 : w5.heap[S]? = some (.cells #[.int .i64 slo, .int .i64 shi] 31 (0, 0)) := by rw [← hw5, ← hS]; exact alloc_heap w4 _
      have HS5 := Lib.hid hs5
      clear h4 hh4 hl4 ht4
      have HB5 := Lib.hid (HB4.out.trans (hbs.mono HB4.out.size))
      have h5 := box_step (w0 := w) H4.out hbs
      have hh5 := HH4.out.below hbs
      have hl5 := HL4.out.below hbs
      have ht5 := HT4.out.below hbs
      have H5 := Lib.hid h5
      have HH5 := Lib.hid hh5
      have HL5 := Lib.hid hl5
      have HT5 := Lib.hid ht5
      clear hbs hs5
      obtain ⟨y0, y1, y2, y3⟩ := four_cells h5
      have KO := Lib.hid (Open_any h hok a1 c1 a2 c2 best hb1 w5 hh5)
      rw [HEV.out, hb2] at KO
      have hpw := pow_table (few_taps hok).2
      obtain ⟨n2, hn2⟩ : ∃ n, 2 ^ h.tp.length = n := ⟨_, rfl⟩
      have hshl : (2 : Int) ^ h.tp.length = (n2 : Int) := by rw [← hn2]; simp
      rw [hn2] at hpw hb1
      have w1 : IntKind.i64.wrap (n2 : Int) = (n2 : Int) := IntWalk.i64_in _ (by omega)
      have t1 : ¬ (best : Int) < 0 := by omega
      have t2 : ¬ (best : Int) ≥ (n2 : Int) := by omega
      have t3 : h.tp.length ≤ 10 := (few_taps hok).2
      have t4 : min h.tp.length 64 = h.tp.length := by omega
      clear h5 hh5 hl5 ht5
      go_wp2_with (go_at_call 26; fail)
      clear hw5 hS
      refine KO.out.mono ?_
      rintro e w6 ⟨rfl, hb6⟩
      have HS6 := Lib.hid (box_step (w0 := w) HS5.out hb6)
      have HB6 := Lib.hid (HB5.out.trans (hb6.mono HB5.out.size))
      have h6 := box_step (w0 := w) H5.out hb6
      have hh6 := HH5.out.below hb6
      have hl6 := HL5.out.below hb6
      have ht6 := HT5.out.below hb6
      have H6 := Lib.hid h6
      have HH6 := Lib.hid hh6
      have HL6 := Lib.hid hl6
      have HT6 := Lib.hid ht6
      clear hb6 y0 y1 y2 y3
      obtain ⟨y0, y1, y2, y3⟩ := four_cells h6
      have KL := Lib.hid (openL_any h hok a1 c1 a2 c2 b hb w6 hh6)
      rw [HEV.out] at KL
      have hown := own_in hok b
      have hol : ownF h b < 2 ^ h.tp.length := openUp_lt _ _ _
      obtain ⟨own, hwn⟩ : ∃ x, ownF h b = x := ⟨_, rfl⟩
      rw [hwn] at KL hown hol
      clear h6 hh6 hl6 ht6 hwn
      go_wp2_with (go_at_call 27; fail)
      refine KL.out.mono ?_
      rintro e w7 ⟨rfl, hb7⟩
      have HS7 := Lib.hid (box_step (w0 := w) HS6.out hb7)
      have HB7 := Lib.hid (HB6.out.trans (hb7.mono HB6.out.size))
      have h7 := box_step (w0 := w) H6.out hb7
      have hh7 := HH6.out.below hb7
      have hl7 := HL6.out.below hb7
      have ht7 := HT6.out.below hb7
      have H7 := Lib.hid h7
      have HH7 := Lib.hid hh7
      have HL7 := Lib.hid hl7
      have HT7 := Lib.hid ht7
      clear hb7 y0 y1 y2 y3 KL KO KPP KH KG HB0 HB2 HB3 HB4 HB5 HB6 H0 H2 H3 H4 H5 H6 HH0 HH2 HH3 HH4 HH5 HH6 HL0 HL2 HL3 HL4 HL5 HL6 HT0 HT2 HT3 HT4 HT5 HT6 HS5 HS6
      obtain ⟨y0, y1, y2, y3⟩ := four_cells h7
      clear h7 hh7 hl7 ht7
      go_wp2_with fail
      clear y0 y1 y2 y3
      have HTP := Lib.hid HH7.out.tp
      have HOKT := Lib.hid (hsOk_iff.1 hok).2.1
      have hol10 : own < 1024 := by omega
      go_loopw [13, 14, 74] (fun f n i wr => ∃ j : Nat, j ≤ h.tp.length ∧ i = .int .i64 j ∧ f = .int .i64 (flowUp h.tp tk own j) ∧ n = .int .i64 (loadUp h.tp own j).n ∧ Below w7.heap.size w7 wr) (fun _ _ i _ => h.tp.length - (intOf i).toNat)
      case atStart => exact ⟨0, by omega, rfl, rfl, rfl, Below.refl _ _⟩
      case round =>
        obtain ⟨j, hj, rfl, rfl, rfl, hbw⟩ := hrel
        have HBW := Lib.hid hbw
        by_cases hlt : j < h.tp.length
        · obtain ⟨lb, lo, e1, hlb, hlx⟩ := HTP.out.at (by omega)
          subst e1
          obtain ⟨tb, tq, e1, htb, htx⟩ := HT7.out.at (by omega)
          subst e1
          have x0 := (hbw.cell (p := ⟨lb, lo + j * 3 + 0, none⟩) hlb).trans (hlx j hlt 0 (by omega))
          have x1 := (hbw.cell (p := ⟨lb, lo + j * 3 + 1, none⟩) hlb).trans (hlx j hlt 1 (by omega))
          have x2 := (hbw.cell (p := ⟨lb, lo + j * 3 + 2, none⟩) hlb).trans (hlx j hlt 2 (by omega))
          have hin := tapOk_iff.1 (HOKT.out j hlt)
          have hly := loadUp_yes (ts := h.tp) (s := own) (k := j)
          have hln := loadUp_no (ts := h.tp) (s := own) (k := j)
          have hfy := flow_yes (ts := h.tp) (tk := tk) (s := own) (k := j)
          have hfn := flow_no (ts := h.tp) (tk := tk) (s := own) (k := j)
          rw [← getD_bang h.tp hlt] at hly hfy
          have hfb := flow_in HOKT.out tk own j (by omega)
          have hlb2 := load_bnd HOKT.out own j (by omega)
          obtain ⟨⟨⟨t0, t1⟩, tn⟩, hrow⟩ : ∃ x : Tp, h.tp.getD j default = x := ⟨_, rfl⟩
          rw [hrow] at x0 x1 x2 hin hly hfy
          simp only [Nat.add_zero, tpC] at x0 x1 x2 hin
          obtain ⟨⟨⟨l0, l1⟩, ln⟩, hl⟩ : ∃ x : Ld, loadUp h.tp own j = x := ⟨_, rfl⟩
          obtain ⟨F, hF⟩ : ∃ x, flowUp h.tp tk own j = x := ⟨_, rfl⟩
          rw [hl] at hly hln hfb hlb2
          rw [hF] at hfy hfn hfb
          obtain ⟨⟨b0, b1⟩, b2, b3⟩ := hlb2
          simp only [] at b0 b1 b2 b3 hfb hin
          have hF6 : 0 ≤ F ∧ F ≤ 1000000 := by omega
          obtain ⟨jm, hjm⟩ : ∃ m, j % tk.length = m := ⟨_, rfl⟩
          have hjl : jm < tk.length := by rw [← hjm]; exact Nat.mod_lt _ (by omega)
          have htm : Int.tmod (j : Int) (tk.length : Int) = (jm : Int) := by rw [Int.tmod_eq_emod_of_nonneg (by omega), ← hjm]; rfl
          obtain ⟨xt, xv⟩ := htx jm hjl
          have xt' := (hbw.cell (p := ⟨tb, tq + jm, none⟩) htb).trans xt
          obtain ⟨vv, hvv⟩ : ∃ x, tk.getD jm 0 = x := ⟨_, rfl⟩
          rw [hvv] at xt' xv
          have htk : tookF tk ⟨(t0, t1), tn⟩ j = t0 + (vv : Int) % (t1 - t0 + 1) := by unfold tookF; rw [hjm, hvv]
          rw [htk] at hfy
          obtain ⟨r, hr⟩ : ∃ r, (vv : Int) % (t1 - t0 + 1) = r := ⟨_, rfl⟩
          have hr0 : 0 ≤ r := by rw [← hr]; exact Int.emod_nonneg _ (by omega)
          have hr1 : r < t1 - t0 + 1 := by rw [← hr]; exact Int.emod_lt_of_pos _ (by omega)
          have htr : Int.tmod (vv : Int) (t1 - t0 + 1) = r := by rw [Int.tmod_eq_emod_of_nonneg (by omega), hr]
          rw [hr] at hfy
          have ij0 : (0 : Int) ≤ (j : Int) := by omega
          have ij1 : (j : Int) < (h.tp.length : Int) := Int.ofNat_lt.2 hlt
          have im0 : (0 : Int) ≤ (jm : Int) := by omega
          have im1 : (jm : Int) < (tk.length : Int) := Int.ofNat_lt.2 hjl
          have v1 : IntKind.i64.wrap (jm : Int) = (jm : Int) := IntWalk.i64_in _ (by omega)
          have v2 : IntKind.i64.wrap (vv : Int) = (vv : Int) := IntWalk.i64_in _ (by omega)
          have v3 : IntKind.i64.wrap (t1 - t0) = t1 - t0 := IntWalk.i64_in _ (by omega)
          have v4 : IntKind.i64.wrap (t1 - t0 + 1) = t1 - t0 + 1 := IntWalk.i64_in _ (by omega)
          have v5 : IntKind.i64.wrap r = r := IntWalk.i64_in _ (by omega)
          have v6 : IntKind.i64.wrap (t0 + r) = t0 + r := IntWalk.i64_in _ (by omega)
          have v7 : IntKind.i64.wrap (F + (t0 + r)) = F + (t0 + r) := IntWalk.i64_in _ (by omega)
          have v8 : ¬ t1 - t0 + 1 = 0 := by omega
          have hm : min j 64 = j := by omega
          have he : bits BinOp.and IntKind.i64 ((own : Int) / 2 ^ j) 1 = ((own / 2 ^ j % 2 : Nat) : Int) := by
            have := and_one (own / 2 ^ j) (Nat.lt_of_le_of_lt (Nat.div_le_self _ _) (by omega))
            rw [← this]; rfl
          have hab : hasF own j = decide (own / 2 ^ j % 2 = 1) := rfl
          obtain ⟨m, hmm⟩ : ∃ m, own / 2 ^ j % 2 = m := ⟨_, rfl⟩
          rw [hmm] at he hab
          have hm01 : m = 0 ∨ m = 1 := by omega
          obtain ⟨B, hB⟩ : ∃ x, wr.heap.size = x := ⟨_, rfl⟩
          obtain ⟨W1, hW1⟩ : ∃ X, wr.alloc (.cells #[.int .i64 t0, .int .i64 t1, .int .i64 tn] 52) = X := ⟨_, rfl⟩
          have hbB : Below wr.heap.size wr W1 := by rw [← hW1]; exact (Below.refl _ _).alloc (Nat.le_refl _) _
          have hrB : W1.heap[B]? = some (.cells #[.int .i64 t0, .int .i64 t1, .int .i64 tn] 52 (0, 0)) := by rw [← hW1, ← hB]; exact alloc_heap wr _
          have xt1 := (hbB.cell (p := ⟨tb, tq + jm, none⟩) (Nat.lt_of_lt_of_le htb hbw.size)).trans xt'
          have HBB := Lib.hid (hbw.trans (hbB.mono hbw.size))
          have HRB := Lib.hid hrB
          have HAB := Lib.hid hab
          have HLY := Lib.hid hly
          have HLN := Lib.hid hln
          have HFY := Lib.hid hfy
          have HFN := Lib.hid hfn
          obtain ⟨d0, d1, d2⟩ := three_cells hrB
          rw [hl, hF]
          simp only []
          clear hlx htx hrow hin hly hln hfy hfn hfb b0 b1 b2 b3 hF6 hjm xt xv xt' hvv htk hr hr0 hr1 hab hmm hbB hrB hlb htb hl hF hbw
          rcases hm01 with rfl | rfl
          · have e1 := HLN.out (by rw [HAB.out]; rfl)
            have e2 := HFN.out (by rw [HAB.out]; rfl)
            have E1 := Lib.hid e1
            have E2 := Lib.hid e2
            clear e1 e2
            go_wp2
            clear hW1 hB
            go_wp2
            go_roundw
            case rel => exact ⟨j + 1, by omega, by go_num, by rw [E2.out], by rw [E1.out], HBB.out⟩
            case measure => simp [intOf]; omega
          · have e1 := HLY.out (by rw [HAB.out]; rfl)
            have e2 := HFY.out (by rw [HAB.out]; rfl)
            have E1 := Lib.hid e1
            have E2 := Lib.hid e2
            have k0 := cell_regrown d0
            have k1 := cell_regrown d1
            have k2 := cell_regrown d2
            have k3 := cell_regrown xt1
            clear e1 e2
            go_upto_region 12 with fail
            clear hW1 hB d0 d1 d2 xt1 x0 x1 x2
            refine wp_region_quiet_below (by kernel_rfl) (by kernel_rfl) ?_
            repeat (go_big_quiet_step (fail))
            refine wpQuiet_nil ?_
            intro Y hw'
            have hbr : Below W1.heap.size W1 Y := by obtain ⟨⟨dq, osq⟩, hw''⟩ := hw'; rw [hw'']; exact below_regrown W1 dq osq
            clear hw' k0 k1 k2 k3
            have HY := Lib.hid (HBB.out.trans (hbr.mono HBB.out.size))
            obtain ⟨d0, d1, d2⟩ := three_cells (box_step (w0 := w) HRB.out hbr)
            clear hbr
            go_wp2
            go_roundw
            case rel => exact ⟨j + 1, by omega, by go_num, by rw [E2.out], by rw [E1.out]; rfl, HY.out⟩
            case measure => simp [intOf]; omega
        · have hjl : j = h.tp.length := by omega
          have i1 : ¬ (j : Int) < (h.tp.length : Int) := by omega
          subst hjl
          have hF := flow_in HOKT.out tk own h.tp.length (Nat.le_refl _)
          have hB8 := HB7.out.trans (hbw.mono HB7.out.size)
          have HB8 := Lib.hid hB8
          have H8 := Lib.hid (box_step (w0 := w) H7.out hbw)
          have HS8 := Lib.hid (box_step (w0 := w) HS7.out hbw)
          have hh8 := HH7.out.below hbw
          have HH8 := Lib.hid hh8
          have HL8 := Lib.hid (HL7.out.below hbw)
          have hlf : loadUp h.tp own h.tp.length = loadF h.tp own := rfl
          rw [hlf] at hF ⊢
          have hlo := load_in hok own
          have hpk := HB5'.out own hown
          have KB := Flow_any h hok a1 c1 a2 c2 best (by omega) wr hh8
          rw [HEV.out, hb3] at KB
          have KW := fun X hx => Flow_any h hok a1 c1 a2 c2 own (by omega) X hx
          rw [HEV.out] at KW
          have hsv := fun (z : Sz) (hz : szOk z = true) (hf : fullF h z = true) => serves hok hz hf hown hF.1 hF.2
          obtain ⟨F, hFF⟩ : ∃ x, flowUp h.tp tk own h.tp.length = x := ⟨_, rfl⟩
          obtain ⟨⟨⟨olo, ohi⟩, on⟩, ho⟩ : ∃ x : Ld, loadF h.tp own = x := ⟨_, rfl⟩
          obtain ⟨mlo, hmlo⟩ : ∃ x, (loadF h.tp best).f.1 = x := ⟨_, rfl⟩
          obtain ⟨mn, hmn⟩ : ∃ x, (loadF h.tp best).n = x := ⟨_, rfl⟩
          rw [hFF, ho] at hF hsv ⊢
          rw [ho] at hlo hpk KW
          rw [hmlo, hmn] at KB
          simp only [] at hF hlo hpk KW hsv ⊢
          have KBB := Lib.hid KB
          have KWW := Lib.hid KW
          have HSV := Lib.hid hsv
          have g1 : decide (shi < F) = false := by simp; omega
          have g2 : decide (slo < olo) = false := by simp; omega
          have g3 : decide (shi < slo) = false := by simp; omega
          have g1' : ¬ F > shi := by omega
          have g2' : ¬ olo > slo := by omega
          have g3' : ¬ slo > shi := by omega
          obtain ⟨y0, y1, y2, y3⟩ := four_cells H8.out
          clear hbw hB8 hh8 hlf KB KW hsv hFF ho hmlo hmn
          go_wp2_with (go_at_call 28; fail)
          refine KBB.out.mono ?_
          rintro e w9 ⟨rfl, hb9⟩
          obtain ⟨R1, hR1⟩ : ∃ x, w9.heap.size = x := ⟨_, rfl⟩
          obtain ⟨wa, hwa⟩ : ∃ X, w9.alloc (.cells #[.int .i64 mlo, .int .i64 shi] 31) = X := ⟨_, rfl⟩
          have hba : Below w9.heap.size w9 wa := by rw [← hwa]; exact (Below.refl _ _).alloc (Nat.le_refl _) _
          have hra : wa.heap[R1]? = some (.cells #[.int .i64 mlo, .int .i64 shi] 31 (0, 0)) := by rw [← hwa, ← hR1]; exact alloc_heap w9 _
          have h9a := hb9.trans (hba.mono hb9.size)
          have HBa := Lib.hid (HB8.out.trans (h9a.mono HB8.out.size))
          have Ha := Lib.hid (box_step (w0 := w) H8.out h9a)
          have HSa := Lib.hid (box_step (w0 := w) HS8.out h9a)
          have HHa := Lib.hid (HH8.out.below h9a)
          have HLa := Lib.hid (HL8.out.below h9a)
          have HRa := Lib.hid hra
          have KWa := Lib.hid (KWW.out wa HHa.out)
          clear y0 y1 y2 y3 hb9 hba hra h9a
          obtain ⟨y0, y1, y2, y3⟩ := four_cells Ha.out
          go_wp2_with (go_at_call 28; fail)
          clear hwa hR1
          refine KWa.out.mono ?_
          rintro e wb ⟨rfl, hbb⟩
          obtain ⟨R2, hR2⟩ : ∃ x, wb.heap.size = x := ⟨_, rfl⟩
          obtain ⟨wc, hwc⟩ : ∃ X, wb.alloc (.cells #[.int .i64 olo, .int .i64 ohi] 31) = X := ⟨_, rfl⟩
          have hbc : Below wb.heap.size wb wc := by rw [← hwc]; exact (Below.refl _ _).alloc (Nat.le_refl _) _
          have hrc : wc.heap[R2]? = some (.cells #[.int .i64 olo, .int .i64 ohi] 31 (0, 0)) := by rw [← hwc, ← hR2]; exact alloc_heap wb _
          have hac := hbb.trans (hbc.mono hbb.size)
          have HBc := Lib.hid (HBa.out.trans (hac.mono HBa.out.size))
          have Hc := Lib.hid (box_step (w0 := w) Ha.out hac)
          have hsc := box_step (w0 := w) HSa.out hac
          have hrac := box_step (w0 := w) HRa.out hac
          have hhc := HHa.out.below hac
          have hlc := HLa.out.below hac
          have HHc := Lib.hid hhc
          have HLc := Lib.hid hlc
          have KC := Choose_any h a1 c1 a2 c2 l _ wc hhc hlc
          obtain ⟨k, e, hc⟩ : ∃ k e, chooseF h l = (k, e) := ⟨_, _, rfl⟩
          rw [hc, HEV.out] at KC
          unfold IntR at KC
          have KCC := Lib.hid KC
          have HC := Lib.hid hc
          clear y0 y1 y2 y3 hbb hbc hac hhc hlc KC hc
          obtain ⟨y0, y1, y2, y3⟩ := four_cells Hc.out
          obtain ⟨m0, m1⟩ := two_cells hsc
          obtain ⟨m2, m3⟩ := two_cells hrac
          obtain ⟨m4, m5⟩ := two_cells hrc
          clear hsc hrac hrc
          go_wp2_with (go_at_call 18; fail)
          clear hwc hR2
          refine KCC.out.mono ?_
          rintro e2 wd ⟨rfl, hbd⟩
          have HBd := Lib.hid (HBc.out.trans (hbd.mono HBc.out.size))
          have Hd := Lib.hid (box_step (w0 := w) Hc.out hbd)
          have HLd := Lib.hid (HLc.out.below hbd)
          clear y0 y1 y2 y3 m0 m1 m2 m3 m4 m5 hbd
          cases hsz : szsOk l with
          | false =>
            have hcc : chooseF h l = (0, 2) := by
              have e0 : errF h l = 2 := by unfold errF; rw [if_pos hok, hsz]; rfl
              unfold chooseF; rw [e0]; rfl
            rw [HC.out] at hcc
            simp only [Prod.mk.injEq] at hcc
            obtain ⟨rfl, rfl⟩ := hcc
            have KE := Sizes_any l _ wd HLd.out
            rw [hsz] at KE
            have KEE := Lib.hid KE
            clear KE
            go_wp2_with (go_at_call 29; fail)
            refine KEE.out.mono ?_
            rintro e3 we ⟨rfl, hbe⟩
            have HBe := Lib.hid (HBd.out.trans (hbe.mono HBd.out.size))
            clear hbe
            go_wp2_with (go_at_call 13; fail)
            refine (KA.out _).mono ?_
            rintro e9 wf ⟨rfl, hbz⟩
            go_wp2
            go_ret
            exact ⟨rfl, HBe.out.trans (hbz.mono HBe.out.size)⟩
          | true =>
          have hfa := choose_facts hok hsz
          rw [HC.out] at hfa
          rcases hfa with ⟨k2, q1, q2, q3, q4, _⟩ | ⟨q1, _⟩ | ⟨q1, _⟩
          · simp only [Prod.mk.injEq] at q2
            obtain ⟨rfl, rfl⟩ := q2
            obtain ⟨lb, lo, e1, hlb, hlx⟩ := HLd.out.at (by omega)
            subst e1
            have hzok : szOk l[k2]! = true := by
              have := (szsOk_iff.1 hsz).2 k2 q1
              unfold SzOkAt at this
              rw [Bool.and_eq_true] at this
              exact this.1
            have x0 := hlx k2 q1 0 (by omega)
            have x1 := hlx k2 q1 1 (by omega)
            have x2 := hlx k2 q1 2 (by omega)
            have x3 := hlx k2 q1 3 (by omega)
            rw [getD_bang l q1] at x0 x1 x2 x3
            have hserve := HSV.out _ hzok q3
            obtain ⟨⟨s0, s1, s2, s3⟩, hz⟩ : ∃ z, l[k2]! = z := ⟨_, rfl⟩
            rw [hz] at x0 x1 x2 x3 hserve hzok q4
            simp only [Nat.add_zero, szC] at x0 x1 x2 x3 hserve
            have hhear : s0 ≤ h.drip := of_decide_eq_true q4
            obtain ⟨⟨z1, z2⟩, _, ⟨z3, z4⟩, _⟩ := szOk_iff.1 hzok
            simp only [] at z1 z2 z3 z4
            have hhead := (headOk_iff.1 (hsOk_iff.1 hok).1).1
            have ik0 : (0 : Int) ≤ (k2 : Int) := by omega
            have ik1 : (k2 : Int) < (l.length : Int) := Int.ofNat_lt.2 q1
            have ik2 : ¬ (k2 : Int) < 0 := by omega
            have ik3 : ¬ (k2 : Int) ≥ (l.length : Int) := by omega
            obtain ⟨sv1, sv2⟩ := hserve
            obtain ⟨R3, hR3⟩ : ∃ x, wd.heap.size = x := ⟨_, rfl⟩
            obtain ⟨we, hwe⟩ : ∃ X, wd.alloc (.cells #[.int .i64 s0, .int .i64 s1, .int .i64 s2, .int .i64 s3] 27) = X := ⟨_, rfl⟩
            have hbe : Below wd.heap.size wd we := by rw [← hwe]; exact (Below.refl _ _).alloc (Nat.le_refl _) _
            have hre : we.heap[R3]? = some (.cells #[.int .i64 s0, .int .i64 s1, .int .i64 s2, .int .i64 s3] 27 (0, 0)) := by rw [← hwe, ← hR3]; exact alloc_heap wd _
            have HBe := Lib.hid (HBd.out.trans (hbe.mono HBd.out.size))
            have hpe := box_step (w0 := w) Hd.out hbe
            obtain ⟨y0, y1, y2, y3⟩ := four_cells hpe
            obtain ⟨r0, r1, r2, r3⟩ := four_cells hre
            obtain ⟨ll, hl⟩ : ∃ l, h.head - on = l := ⟨_, rfl⟩
            have w0 : IntKind.i64.wrap (h.head - on) = ll := by rw [hl]; exact IntWalk.i64_in _ (by omega)
            have p1 := prod_in (a := ll) (b := s1) (A := 10000) (B := 1000000) (by omega) (by omega) (by omega)
            have p3 := prod_in (a := s2) (b := F) (A := 10000) (B := 1000000) (by omega) (by omega) (by omega)
            rw [hl] at sv2
            obtain ⟨l1, hl1⟩ : ∃ x, ll * s1 = x := ⟨_, rfl⟩
            obtain ⟨m1, hm1⟩ : ∃ x, s2 * F = x := ⟨_, rfl⟩
            rw [hl1] at p1 sv2
            rw [hm1] at p3 sv2
            have p2 := prod_in (a := l1) (b := s1) (A := 10000 * 1000000) (B := 1000000) p1 (by omega) (by omega)
            have p4 := prod_in (a := m1) (b := F) (A := 10000 * 1000000) (B := 1000000) p3 (by omega) (by omega)
            obtain ⟨l2, hl2⟩ : ∃ x, l1 * s1 = x := ⟨_, rfl⟩
            obtain ⟨m2, hm2⟩ : ∃ x, m1 * F = x := ⟨_, rfl⟩
            rw [hl2] at p2 sv2
            rw [hm2] at p4 sv2
            have v1 : IntKind.i64.wrap (ll * s1) = l1 := by rw [hl1]; exact IntWalk.i64_in _ (by omega)
            have v2 : IntKind.i64.wrap (l1 * s1) = l2 := by rw [hl2]; exact IntWalk.i64_in _ (by omega)
            have v3 : IntKind.i64.wrap (s2 * F) = m1 := by rw [hm1]; exact IntWalk.i64_in _ (by omega)
            have v4 : IntKind.i64.wrap (m1 * F) = m2 := by rw [hm2]; exact IntWalk.i64_in _ (by omega)
            clear hlx hz hzok hbe hre hpe hl hl1 hl2 hm1 hm2 p1 p2 p3 p4 q3 q4 HSV z1 z2 z3 z4 hhead
            by_cases ho0 : own = 0
            · subst ho0
              go_wp2_with (go_at_call 13; fail)
              refine (KA.out _).mono ?_
              rintro e9 wf ⟨rfl, hbz⟩
              go_wp2
              go_ret
              exact ⟨rfl, HBe.out.trans (hbz.mono HBe.out.size)⟩
            · have ho1 : ((own : Int) == 0) = false := by simp; omega
              have ho2 : ¬ (own : Int) = 0 := by omega
              go_wp2_with (go_at_call 13; fail)
              refine (KA.out _).mono ?_
              rintro e9 wf ⟨rfl, hbz⟩
              go_wp2
              go_ret
              exact ⟨rfl, HBe.out.trans (hbz.mono HBe.out.size)⟩
          · simp only [Prod.mk.injEq] at q1
            obtain ⟨rfl, rfl⟩ := q1
            go_wp2_with (go_at_call 13; fail)
            refine (KA.out _).mono ?_
            rintro e9 wf ⟨rfl, hbz⟩
            go_wp2
            go_ret
            exact ⟨rfl, HBd.out.trans (hbz.mono HBd.out.size)⟩
          · simp only [Prod.mk.injEq] at q1
            obtain ⟨rfl, rfl⟩ := q1
            go_wp2_with (go_at_call 13; fail)
            refine (KA.out _).mono ?_
            rintro e9 wf ⟨rfl, hbz⟩
            go_wp2
            go_ret
            exact ⟨rfl, HBd.out.trans (hbz.mono HBd.out.size)⟩
end Go.Proofs.Ytlcmedfjghcigaa
