/- Size: the cheapest pair of all. -/
import Derived.Test.YtlcmedfjghcigaaA15
namespace Go.Proofs.Ytlcmedfjghcigaa
set_option linter.unusedSimpArgs false
set_option linter.unusedVariables false
open Go.RowKit Go.Maps
attribute [local go_sem] Oper.semAt_some

theorem pairStep_eq (h : Hs) (l : List Sz) (i : Nat) (b : Best) (k : Nat) {z y : Sz} (hz : z = l[i]!) (hy : y = l[k]!) {bh : Bool} (e : decide (z.start ≤ h.drip) = bh) : pairStep h l i b k = if decide (i < k) && (bh && decide (y.start ≤ z.full)) then offerF b (i, k) (z.price + y.price) else b := by
  subst hz; subst hy; subst e; rfl
def bestUp (h : Hs) (l : List Sz) (i : Nat) : Best := (List.range i).foldl (pairRow h l) none
theorem bestUp_succ (h : Hs) (l : List Sz) (i : Nat) : bestUp h l (i + 1) = pairRow h l (bestUp h l i) i := by
  unfold bestUp; rw [List.range_succ, List.foldl_append]; rfl
def bestIn (h : Hs) (l : List Sz) (i t : Nat) : Best := ((enoughF h l).take t).foldl (pairStep h l i) (bestUp h l i)
theorem bestIn_all (h : Hs) (l : List Sz) (i : Nat) : bestIn h l i (enoughF h l).length = bestUp h l (i + 1) := by
  unfold bestIn; rw [List.take_length, bestUp_succ]; rfl
theorem bestIn_zero (h : Hs) (l : List Sz) (i : Nat) : bestIn h l i 0 = bestUp h l i := by unfold bestIn; rw [List.take_zero]; rfl
theorem bestIn_succ {h : Hs} {l : List Sz} {i t : Nat} (ht : t < (enoughF h l).length) : bestIn h l i (t + 1) = pairStep h l i (bestIn h l i t) ((enoughF h l).getD t default) := by
  unfold bestIn
  rw [List.take_succ_eq_append_getElem ht, List.foldl_append, List.getD, List.getElem?_eq_getElem ht]; rfl
theorem pair_all (h : Hs) (l : List Sz) : bestUp h l l.length = pairF h l := rfl
/-- what holds while pairs are tried -/
structure PH (h : Hs) (a1 : Option Addr) (c1 : Nat) (a2 : Option Addr) (c2 M : Nat) (l : List Sz) (la : Option Addr) (lc : Nat) (ua : Option Addr) (uc P Q C : Nat) (w : World) (b : Best) (wr : World) : Prop where
  sz : C + 1 ≤ wr.heap.size
  below : Below P w wr
  dp : wr.heap[P]? = some (.cells (setsCells h a1 c1 a2 c2 M) 72 (0, 0))
  q : wr.heap[Q]? = some (.cells #[.int .i64 0, .int .i64 0, .int .i64 0, .bool false] 94 (0, 0))
  best : BestAt wr C b
  tl : TabAt 4 szC wr (.slice la l.length lc) l
  te : TabAt 1 natC wr (.slice ua (enoughF h l).length uc) (enoughF h l)
section
variable {h : Hs} {a1 : Option Addr} {c1 : Nat} {a2 : Option Addr} {c2 M : Nat} {l : List Sz} {la : Option Addr} {lc : Nat} {ua : Option Addr} {uc P Q C : Nat} {w : World} {b : Best} {wr : World}
theorem PH.next (k : PH h a1 c1 a2 c2 M l la lc ua uc P Q C w b wr) (hP : P ≤ C) {w' : World} (hb : Below wr.heap.size wr w') : PH h a1 c1 a2 c2 M l la lc ua uc P Q C w b w' :=
  ⟨Nat.le_trans k.sz hb.size, k.below.trans (hb.mono (by have := k.sz; omega)), box_step (w0 := w) k.dp hb, box_step (w0 := w) k.q hb, box_step (w0 := w) k.best hb, k.tl.below hb, k.te.below hb⟩
theorem PH.turn (k : PH h a1 c1 a2 c2 M l la lc ua uc P Q C w b wr) (hP : P < C) (hQ : Q < C) (hl : 0 < l.length → ∀ x off, la = some ⟨x, off, none⟩ → x < C) (he : 0 < (enoughF h l).length → ∀ x off, ua = some ⟨x, off, none⟩ → C < x) {w' : World} {b' : Best} (ho : OnlyE (· = C) wr w') (hb : BestAt w' C b') : PH h a1 c1 a2 c2 M l la lc ua uc P Q C w b' w' :=
  ⟨Nat.le_trans k.sz ho.size, k.below.trans (ho.below (by have := k.sz; omega) (fun x e => by omega)), ho.get k.dp (by omega), ho.get k.q (by omega), hb,
    k.tl.keep ho.keep (fun h1 x off e hx => by have := hl h1 x off e; omega), k.te.keep ho.keep (fun h1 x off e hx => by have := he h1 x off e; omega)⟩
end
theorem res1_94 {fn : Func} {p : Tmp} (hr : fn.results = #[.cell p 94]) {tmps : Array Value} {w : World} {g : Nat} {t : TypeId} {f : Nat × Nat} {x y z : Int} {b : Bool} (hp : tmps.getD p undef = .pointer (some ⟨g, 0, none⟩)) (hg : w.heap[g]? = some (.cells #[.int .i64 x, .int .i64 y, .int .i64 z, .bool b] t f)) :
    (results fn tmps).run Try.prog w = .ok (.agg #[.int .i64 x, .int .i64 y, .int .i64 z, .bool b]) w :=
  results_cell_row hr tmps w g t _ f _ hp hg Try.underlying94 rfl (by kernel_rfl)
def bestV (b : Best) : Value := .agg #[.int .i64 (bestI b), .int .i64 (bestK b), .int .i64 (bestP b), .bool (bestF b)]
theorem szs_price {l : List Sz} (k : szsOk l = true) : ∀ i, i < l.length → 0 ≤ (l.getD i default).price ∧ (l.getD i default).price ≤ 1000000 := fun i hi => by
  have := (szsOk_iff.1 k).2 i hi
  unfold SzOkAt at this
  rw [Bool.and_eq_true, ← getD_bang l hi] at this
  have := szOk_iff.1 this.1
  omega
set_option maxRecDepth 100000 in
set_option maxHeartbeats 6400000 in
theorem cheapest_any (h : Hs) (hok : hsOk h = true) (a1 : Option Addr) (c1 : Nat) (a2 : Option Addr) (c2 M : Nat) (l : List Sz) (hsz : szsOk l = true) (v : Value) (w : World) (hd : DAt w h a1 c1 a2 c2 M) (hl : TabAt 4 szC w v l) : Calls Try.prog 47 #[dV h a1 c1 a2 c2 M, v] w fun e w' => e = .returned (bestV (pairF h l)) ∧ Below w.heap.size w w' := by
  obtain ⟨la, lc, rfl⟩ := hl.shape
  have mt : h.tp.length ≤ 9223372036854775807 := hd.tp.1
  have ml : l.length ≤ 9223372036854775807 := hl.1
  obtain ⟨hlen, hsane⟩ := szs_sane hsz
  have HPR := Lib.hid (szs_price hsz)
  obtain ⟨W0, hW0⟩ : ∃ X, X = ((w.alloc (.cells #[.int .i64 h.head, .int .i64 h.drip, .slice a1 h.tp.length c1, .slice a2 h.rl.length c2, .map (some M)] 72)).alloc (.cells #[.int .i64 0, .int .i64 0, .int .i64 0, .bool false] 94)).alloc (.cells #[.int .i64 0, .int .i64 0, .int .i64 0, .bool false] 94) := ⟨_, rfl⟩
  have hal : W0 = al w [(.cells #[.int .i64 h.head, .int .i64 h.drip, .slice a1 h.tp.length c1, .slice a2 h.rl.length c2, .map (some M)] 72), (.cells #[.int .i64 0, .int .i64 0, .int .i64 0, .bool false] 94), (.cells #[.int .i64 0, .int .i64 0, .int .i64 0, .bool false] 94)] := hW0
  have hb0 : Below w.heap.size w W0 := by rw [hal]; exact al_below w _ (Nat.le_refl _)
  have hs0 : W0.heap.size = w.heap.size + 3 := by rw [hal]; exact al_size w _
  have hr0 : W0.heap[w.heap.size]? = some (.cells #[.int .i64 h.head, .int .i64 h.drip, .slice a1 h.tp.length c1, .slice a2 h.rl.length c2, .map (some M)] 72 (0, 0)) := by rw [hal]; exact al_get w _ 0 _ rfl
  have hr1 : W0.heap[w.heap.size + 1]? = some (.cells #[.int .i64 0, .int .i64 0, .int .i64 0, .bool false] 94 (0, 0)) := by rw [hal]; exact al_get w _ 1 _ rfl
  have hr2 : W0.heap[w.heap.size + 1 + 1]? = some (.cells #[.int .i64 0, .int .i64 0, .int .i64 0, .bool false] 94 (0, 0)) := by rw [hal]; exact al_get w _ 2 _ rfl
  obtain ⟨P, hP0⟩ : ∃ x, w.heap.size = x := ⟨_, rfl⟩
  rw [hP0] at hr0 hr1 hr2 hs0
  obtain ⟨Q, hP1⟩ : ∃ x, P + 1 = x := ⟨_, rfl⟩
  rw [hP1] at hr1 hr2
  obtain ⟨C, hP2⟩ : ∃ x, Q + 1 = x := ⟨_, rfl⟩
  rw [hP2] at hr2
  clear hal
  rw [hP0] at hb0
  have HS := Lib.hid (show w.heap.size = P ∧ Q = P + 1 ∧ C = P + 2 ∧ W0.heap.size = P + 3 from ⟨by omega, by omega, by omega, by omega⟩)
  have HB := Lib.hid hb0
  have H0 := Lib.hid hr0
  have H1 := Lib.hid hr1
  have H2 := Lib.hid hr2
  have hd0 := hd.below (by rw [hP0]; exact hb0)
  have hl0 := hl.below (by rw [hP0]; exact hb0)
  have HL0 := Lib.hid hl0
  have HROW := Lib.hid (tab_row hl)
  have KN := Lib.hid (enough_any h hok a1 c1 a2 c2 M l _ hlen hsane W0 hd0 hl0)
  obtain ⟨y0, y1, y2, y3, y4⟩ := five_cells hr0
  clear hb0 hr0 hr1 hr2 hs0 hd hl hd0 hl0 hsane
  unfold dV setsCells at *
  go_enter Try.func47, Try.ntmps47
  go_upto_region 2 with fail
  rw [← hW0]
  clear hW0 hP0 hP1 hP2
  go_wp2_with (go_at_call 45; fail)
  refine KN.out.mono ?_
  rintro e w2 ⟨u, rfl, hu, hfr, hb2⟩
  obtain ⟨ua, uc, rfl⟩ := hu.shape
  have hPH : PH h a1 c1 a2 c2 M l la lc ua uc P Q C w none w2 := ⟨by have := hb2.size; have := HS.out; omega, HB.out.trans (hb2.mono (by have := HS.out; omega)), box_step (w0 := w) H0.out hb2, box_step (w0 := w) H1.out hb2, box_step (w0 := w) H2.out hb2, HL0.out.below hb2, hu⟩
  have HFR := Lib.hid (show 0 < (enoughF h l).length → ∀ x off, ua = some ⟨x, off, none⟩ → C < x from fun h1 x off e => by have := hfr _ _ _ x off rfl h1 e; have := HS.out; omega)
  have hef : (enoughF h l).length ≤ l.length := enough_few h l l.length
  have HEN := Lib.hid (enough_lt (h := h) (l := l))
  have me : (enoughF h l).length ≤ 9223372036854775807 := hu.1
  have HP0 := Lib.hid hPH
  clear hPH hu hfr hb2 y0 y1 y2 y3 y4
  go_wp2_with fail
  go_loopw [16] (fun i wr => ∃ j : Nat, j ≤ l.length ∧ i = .int .i64 j ∧ PH h a1 c1 a2 c2 M l la lc ua uc P Q C w (bestUp h l j) wr) (fun i _ => l.length - (intOf i).toNat)
  case atStart => exact ⟨0, by omega, rfl, HP0.out⟩
  case round =>
    obtain ⟨j, hj, rfl, hph⟩ := hrel
    have HPH := Lib.hid hph
    by_cases hlt : j < l.length
    · obtain ⟨lb, lo, e1, hlb, hlx⟩ := hph.tl.at (by omega)
      subst e1
      have x0 := hlx j hlt 0 (by omega)
      have x1 := hlx j hlt 1 (by omega)
      have x2 := hlx j hlt 2 (by omega)
      have x3 := hlx j hlt 3 (by omega)
      have hrow0 : l.getD j default = l[j]! := getD_bang l hlt
      have hpj := HPR.out j hlt
      obtain ⟨⟨s0, s1, s2, s3⟩, hrow⟩ : ∃ x : Sz, l.getD j default = x := ⟨_, rfl⟩
      rw [hrow] at x0 x1 x2 x3 hrow0 hpj
      simp only [Nat.add_zero, szC] at x0 x1 x2 x3 hpj
      have ij1 : (j : Int) < (l.length : Int) := Int.ofNat_lt.2 hlt
      obtain ⟨Z, hZ⟩ : ∃ x, wr.heap.size = x := ⟨_, rfl⟩
      obtain ⟨W1, hW1⟩ : ∃ X, wr.alloc (.cells #[.int .i64 s0, .int .i64 s1, .int .i64 s2, .int .i64 s3] 27) = X := ⟨_, rfl⟩
      have hb1 : Below wr.heap.size wr W1 := by rw [← hW1]; exact (Below.refl _ _).alloc (Nat.le_refl _) _
      have hz1 : W1.heap.size = Z + 1 := by rw [← hW1, ← hZ]; simp
      have hZ1 : W1.heap[Z]? = some (.cells #[.int .i64 s0, .int .i64 s1, .int .i64 s2, .int .i64 s3] 27 (0, 0)) := by rw [← hW1, ← hZ]; exact alloc_heap wr _
      have HPH1 := Lib.hid (hph.next (by have := HS.out; omega) hb1)
      have HZC := Lib.hid (show C < Z by have := hph.sz; omega)
      have HZ1 := Lib.hid hZ1
      have HR0 := Lib.hid hrow0
      clear hlx hrow hrow0 hb1 hz1 hZ1 hph hlb
      go_upto_region 6 with fail
      clear hW1 hZ x0 x1 x2 x3
      go_wp2_with fail
      go_loopw [23] (fun i wr2 => ∃ t : Nat, t ≤ (enoughF h l).length ∧ i = .int .i64 t ∧ PH h a1 c1 a2 c2 M l (some ⟨lb, lo, none⟩) lc ua uc P Q C w (bestIn h l j t) wr2 ∧ wr2.heap[Z]? = some (.cells #[.int .i64 s0, .int .i64 s1, .int .i64 s2, .int .i64 s3] 27 (0, 0))) (fun i _ => (enoughF h l).length - (intOf i).toNat)
      case atStart => exact ⟨0, by omega, rfl, by rw [bestIn_zero]; exact HPH1.out, HZ1.out⟩
      case round =>
        obtain ⟨t, ht, rfl, hph2, hz2⟩ := hrel
        have HP2 := Lib.hid hph2
        have HZ2 := Lib.hid hz2
        by_cases hlt2 : t < (enoughF h l).length
        · obtain ⟨eb, eo, e1, heb, hex⟩ := hph2.te.at (by omega)
          subst e1
          have z0 := hex t hlt2 0 (by omega)
          have hkl : (enoughF h l).getD t default < l.length := HEN.out _ (by rw [List.getD, List.getElem?_eq_getElem hlt2]; exact List.getElem_mem hlt2)
          have hstep := bestIn_succ (h := h) (l := l) (i := j) hlt2
          obtain ⟨k, hk⟩ : ∃ k, (enoughF h l).getD t default = k := ⟨_, rfl⟩
          rw [hk] at z0 hkl hstep
          simp only [Nat.add_zero, Nat.mul_one, natC] at z0
          obtain ⟨lb2, lo2, e2, hlb2, hlx2⟩ := hph2.tl.at (by omega)
          simp only [Option.some.injEq, Addr.mk.injEq, and_true] at e2
          obtain ⟨rfl, rfl⟩ := e2
          have r0 := hlx2 k hkl 0 (by omega)
          have r1 := hlx2 k hkl 1 (by omega)
          have r2 := hlx2 k hkl 2 (by omega)
          have r3 := hlx2 k hkl 3 (by omega)
          have hrk : l.getD k default = l[k]! := getD_bang l hkl
          have hpk := HPR.out k hkl
          obtain ⟨⟨q0, q1, q2, q3⟩, hrow⟩ : ∃ x : Sz, l.getD k default = x := ⟨_, rfl⟩
          rw [hrow] at r0 r1 r2 r3 hrk hpk
          simp only [Nat.add_zero, szC] at r0 r1 r2 r3 hpk
          have kh := fun X => hears_any h.head h.drip undef undef a1 a2 h.tp.length c1 h.rl.length c2 ⟨s0, s1, s2, s3⟩ X
          simp only [szV] at kh
          obtain ⟨bh, hbh⟩ : ∃ b, decide (s0 ≤ h.drip) = b := ⟨_, rfl⟩
          simp only [hbh] at kh
          rw [pairStep_eq h l j _ k HR0.out hrk hbh] at hstep
          simp only [] at hstep
          have C1 := fun d os => Calls.regrown_of (w := wr) (d := d) (os := os) (kh _)
          obtain ⟨c0, c1', c2', c3⟩ := four_cells hz2
          obtain ⟨d0, d1, d2, d3, d4⟩ := five_cells hph2.dp
          have k0 := cell_regrown r0
          have k1 := cell_regrown c0
          have k2 := cell_regrown c1'
          have k3 := cell_regrown c2'
          have k4 := cell_regrown c3
          have k5 := cell_regrown d0
          have k6 := cell_regrown d1
          have k7 := cell_regrown d2
          have k8 := cell_regrown d3
          have it : (t : Int) < ((enoughF h l).length : Int) := by omega
          have ik0 : (0 : Int) ≤ (k : Int) := by omega
          have ik : (k : Int) < (l.length : Int) := by omega
          have HSTEP := Lib.hid hstep
          have HR3 := Lib.hid r3
          clear hex hk hstep hrk hrow kh hbh hlx2 hlb2 heb hph2 hz2 d4
          by_cases hjk : j < k
          · have hjk1 : (j : Int) < (k : Int) := by omega
            cases bh with
            | false =>
              have HN := Lib.hid (show bestIn h l j (t + 1) = bestIn h l j t by rw [HSTEP.out]; simp)
              clear HSTEP
              go_upto_region 9 with fail
              clear z0 r0 r1 r2 r3 c0 c1' c2' c3 d0 d1 d2 d3
              refine wp_region_quiet_below (by kernel_rfl) (by kernel_rfl) ?_
              repeat (go_big_quiet_step (first | with_reducible exact C1 _ _))
              refine wpQuiet_nil ?_
              intro Y hw'
              have hbr : Below wr.heap.size wr Y := by obtain ⟨⟨dq, osq⟩, hw''⟩ := hw'; rw [hw'']; exact below_regrown wr dq osq
              clear hw'
              have HPN := Lib.hid (HP2.out.next (by have := HS.out; omega) hbr)
              have HZN := Lib.hid (box_step (w0 := w) HZ2.out hbr)
              clear hbr
              go_wp2
              go_roundw
              case rel => exact ⟨t + 1, by omega, by go_num, by rw [HN.out]; exact HPN.out, HZN.out⟩
              case measure => simp [intOf]; omega
            | true =>
              by_cases hfl : q0 ≤ s1
              · have HN := Lib.hid (show bestIn h l j (t + 1) = offerF (bestIn h l j t) (j, k) (s3 + q3) by rw [HSTEP.out]; simp [hjk, hfl])
                clear HSTEP
                go_upto_region 9 with fail
                clear z0 r0 r1 r2 r3 c0 c1' c2' c3 d0 d1 d2 d3
                refine wp_region_quiet_below (by kernel_rfl) (by kernel_rfl) ?_
                repeat (go_big_quiet_step (first | with_reducible exact C1 _ _))
                refine wpQuiet_nil ?_
                intro Y hw'
                have hbr : Below wr.heap.size wr Y := by obtain ⟨⟨dq, osq⟩, hw''⟩ := hw'; rw [hw'']; exact below_regrown wr dq osq
                clear hw'
                have HPN := Lib.hid (HP2.out.next (by have := HS.out; omega) hbr)
                have HZN := Lib.hid (box_step (w0 := w) HZ2.out hbr)
                have HY3 := Lib.hid ((hbr.cell (p := ⟨lb, lo + k * 4 + 3, none⟩) (World.block_lt_of_cell? _ _ HR3.out)).trans HR3.out)
                clear hbr
                go_wp2_with fail
                have ew : IntKind.i64.wrap (s3 + q3) = s3 + q3 := IntWalk.i64_in _ (by omega)
                clear k0 k1 k2 k3 k4 k5 k6 k7 k8
                refine (wpIn_wide (n := 9)).1 ?_
                refine region_lastIn (fun w' => w'.heap[Z]? = some (.cells #[.int .i64 s0, .int .i64 s1, .int .i64 s2, .int .i64 s3] 27 (0, 0)) ∧ w'.cell? ⟨lb, lo + k * 4 + 3, none⟩ = some (.int .i64 q3)) [11] (by as_aux_lemma => kernel_rfl) ⟨HZN.out, HY3.out⟩ (fun hHeld => ?_)
                obtain ⟨Y0, hY0⟩ : ∃ X, X = Y.drew := ⟨_, rfl⟩
                have hb0' : Below Y.heap.size Y Y0 := by rw [hY0]; exact (Below.refl _ _).drew
                rw [← hY0] at hHeld ⊢
                have hH := Lib.hid hHeld
                have HPY := Lib.hid (HPN.out.next (by have := HS.out; omega) hb0')
                clear hY0 hHeld hb0'
                refine lastIn_take (i := 0) (oi := _) (v := ?_) rfl (by as_aux_lemma => kernel_rfl) (by as_aux_lemma => kernel_rfl) (by as_aux_lemma => kernel_rfl) (by as_aux_lemma => kernel_rfl) (by as_aux_lemma => kernel_rfl) (fun _ _ _ h => h) (Or.inl ⟨by rfl, ?_⟩) hH.out ?_
                rotate_left
                · intro w1 hSw
                  obtain ⟨s1', s2'⟩ := hSw
                  obtain ⟨d0, d1, d2, d3⟩ := four_cells s1'
                  clear s1'
                  go_simp; with_reducible rfl
                simp only [List.getElem_toArray, List.getElem_cons_succ, List.getElem_cons_zero, Act.put, List.setIfInBounds_toArray, List.set_cons_zero, List.set_cons_succ]
                refine lastIn_take (i := 1) (oi := _) (v := ?_) rfl (by as_aux_lemma => kernel_rfl) (by as_aux_lemma => kernel_rfl) (by as_aux_lemma => kernel_rfl) (by as_aux_lemma => kernel_rfl) (by as_aux_lemma => kernel_rfl) (fun _ _ _ h => h) (Or.inl ⟨by rfl, ?_⟩) hH.out ?_
                rotate_left
                · intro w1 hSw
                  obtain ⟨s1', s2'⟩ := hSw
                  obtain ⟨d0, d1, d2, d3⟩ := four_cells s1'
                  clear s1'
                  go_simp; with_reducible rfl
                simp only [List.getElem_toArray, List.getElem_cons_succ, List.getElem_cons_zero, Act.put, List.setIfInBounds_toArray, List.set_cons_zero, List.set_cons_succ]
                refine lastIn_take (i := 2) (oi := _) (v := ?_) rfl (by as_aux_lemma => kernel_rfl) (by as_aux_lemma => kernel_rfl) (by as_aux_lemma => kernel_rfl) (by as_aux_lemma => kernel_rfl) (by as_aux_lemma => kernel_rfl) (fun _ _ _ h => h) (Or.inl ⟨by rfl, ?_⟩) hH.out ?_
                rotate_left
                · intro w1 hSw
                  obtain ⟨s1', s2'⟩ := hSw
                  obtain ⟨d0, d1, d2, d3⟩ := four_cells s1'
                  clear s1'
                  go_simp; with_reducible rfl
                simp only [List.getElem_toArray, List.getElem_cons_succ, List.getElem_cons_zero, Act.put, List.setIfInBounds_toArray, List.set_cons_zero, List.set_cons_succ]
                refine lastIn_take (i := 3) (oi := _) (v := ?_) rfl (by as_aux_lemma => kernel_rfl) (by as_aux_lemma => kernel_rfl) (by as_aux_lemma => kernel_rfl) (by as_aux_lemma => kernel_rfl) (by as_aux_lemma => kernel_rfl) (fun _ _ _ h => h) (Or.inl ⟨by rfl, ?_⟩) hH.out ?_
                rotate_left
                · intro w1 hSw
                  obtain ⟨s1', s2'⟩ := hSw
                  obtain ⟨d0, d1, d2, d3⟩ := four_cells s1'
                  clear s1'
                  go_simp; with_reducible rfl
                simp only [List.getElem_toArray, List.getElem_cons_succ, List.getElem_cons_zero, Act.put, List.setIfInBounds_toArray, List.set_cons_zero, List.set_cons_succ]
                refine lastIn_take (i := 4) (oi := _) (v := ?_) rfl (by as_aux_lemma => kernel_rfl) (by as_aux_lemma => kernel_rfl) (by as_aux_lemma => kernel_rfl) (by as_aux_lemma => kernel_rfl) (by as_aux_lemma => kernel_rfl) (fun _ _ _ h => h) (Or.inl ⟨by rfl, ?_⟩) hH.out ?_
                rotate_left
                · intro w1 hSw
                  obtain ⟨s1', s2'⟩ := hSw
                  obtain ⟨d0, d1, d2, d3⟩ := four_cells s1'
                  clear s1'
                  go_simp; with_reducible rfl
                simp only [List.getElem_toArray, List.getElem_cons_succ, List.getElem_cons_zero, Act.put, List.setIfInBounds_toArray, List.set_cons_zero, List.set_cons_succ]
                refine lastIn_take (i := 5) (oi := _) (v := ?_) rfl (by as_aux_lemma => kernel_rfl) (by as_aux_lemma => kernel_rfl) (by as_aux_lemma => kernel_rfl) (by as_aux_lemma => kernel_rfl) (by as_aux_lemma => kernel_rfl) (fun _ _ _ h => h) (Or.inl ⟨by rfl, ?_⟩) hH.out ?_
                rotate_left
                · intro w1 hSw
                  obtain ⟨s1', s2'⟩ := hSw
                  obtain ⟨d0, d1, d2, d3⟩ := four_cells s1'
                  clear s1'
                  go_simp; with_reducible rfl
                simp only [List.getElem_toArray, List.getElem_cons_succ, List.getElem_cons_zero, Act.put, List.setIfInBounds_toArray, List.set_cons_zero, List.set_cons_succ]
                refine lastIn_take (i := 6) (oi := _) (v := ?_) rfl (by as_aux_lemma => kernel_rfl) (by as_aux_lemma => kernel_rfl) (by as_aux_lemma => kernel_rfl) (by as_aux_lemma => kernel_rfl) (by as_aux_lemma => kernel_rfl) (fun _ _ _ h => h) (Or.inl ⟨by rfl, ?_⟩) hH.out ?_
                rotate_left
                · intro w1 hSw
                  obtain ⟨s1', s2'⟩ := hSw
                  obtain ⟨d0, d1, d2, d3⟩ := four_cells s1'
                  clear s1'
                  go_simp; with_reducible rfl
                simp only [List.getElem_toArray, List.getElem_cons_succ, List.getElem_cons_zero, Act.put, List.setIfInBounds_toArray, List.set_cons_zero, List.set_cons_succ]
                refine lastIn_take (i := 7) (oi := _) (v := ?_) rfl (by as_aux_lemma => kernel_rfl) (by as_aux_lemma => kernel_rfl) (by as_aux_lemma => kernel_rfl) (by as_aux_lemma => kernel_rfl) (by as_aux_lemma => kernel_rfl) (fun _ _ _ h => h) (Or.inl ⟨by rfl, ?_⟩) hH.out ?_
                rotate_left
                · intro w1 hSw
                  obtain ⟨s1', s2'⟩ := hSw
                  obtain ⟨d0, d1, d2, d3⟩ := four_cells s1'
                  clear s1'
                  go_simp; with_reducible rfl
                simp only [List.getElem_toArray, List.getElem_cons_succ, List.getElem_cons_zero, Act.put, List.setIfInBounds_toArray, List.set_cons_zero, List.set_cons_succ]
                refine lastIn_take (i := 8) (oi := _) (v := ?_) rfl (by as_aux_lemma => kernel_rfl) (by as_aux_lemma => kernel_rfl) (by as_aux_lemma => kernel_rfl) (by as_aux_lemma => kernel_rfl) (by as_aux_lemma => kernel_rfl) (fun _ _ _ h => h) (Or.inl ⟨by rfl, ?_⟩) hH.out ?_
                rotate_left
                · intro w1 hSw
                  obtain ⟨s1', s2'⟩ := hSw
                  obtain ⟨d0, d1, d2, d3⟩ := four_cells s1'
                  clear s1'
                  go_simp; with_reducible rfl
                simp only [List.getElem_toArray, List.getElem_cons_succ, List.getElem_cons_zero, Act.put, List.setIfInBounds_toArray, List.set_cons_zero, List.set_cons_succ]
                refine lastIn_take (i := 9) (oi := _) (v := ?_) rfl (by as_aux_lemma => kernel_rfl) (by as_aux_lemma => kernel_rfl) (by as_aux_lemma => kernel_rfl) (by as_aux_lemma => kernel_rfl) (by as_aux_lemma => kernel_rfl) (fun _ _ _ h => h) (Or.inl ⟨by rfl, ?_⟩) hH.out ?_
                rotate_left
                · intro w1 hSw
                  obtain ⟨s1', s2'⟩ := hSw
                  obtain ⟨d0, d1, d2, d3⟩ := four_cells s1'
                  clear s1'
                  go_simp; with_reducible rfl
                simp only [List.getElem_toArray, List.getElem_cons_succ, List.getElem_cons_zero, Act.put, List.setIfInBounds_toArray, List.set_cons_zero, List.set_cons_succ]
                refine lastIn_take (i := 10) (oi := _) (v := ?_) rfl (by as_aux_lemma => kernel_rfl) (by as_aux_lemma => kernel_rfl) (by as_aux_lemma => kernel_rfl) (by as_aux_lemma => kernel_rfl) (by as_aux_lemma => kernel_rfl) (fun _ _ _ h => h) (Or.inl ⟨by rfl, ?_⟩) hH.out ?_
                rotate_left
                · intro w1 hSw
                  obtain ⟨s1', s2'⟩ := hSw
                  obtain ⟨d0, d1, d2, d3⟩ := four_cells s1'
                  clear s1'
                  go_simp; with_reducible rfl
                simp only [List.getElem_toArray, List.getElem_cons_succ, List.getElem_cons_zero, Act.put, List.setIfInBounds_toArray, List.set_cons_zero, List.set_cons_succ]
                refine lastIn_ready (rs := [11]) (by as_aux_lemma => kernel_rfl) (by simp) ?_
                intro i hi; obtain rfl := List.mem_singleton.1 hi; clear hi
                refine wpOpIn_step rfl (fun K3 hK3 => ?_)
                have HK3 := Lib.hid hK3
                clear hK3
                rw [if_pos (by rfl)]
                simp only [Oper.wpIn, Oper.semAt_none]; go_simp
                have KO := offer_any C (bestIn h l j t) j k (s3 + q3) Y0 HPY.out.best
                rw [← HN.out] at KO
                refine ⟨trivial, callsIn_wide.2 (KO.mono ?_)⟩
                rintro e Y2 ⟨rfl, hbst, honly⟩
                have HPT := Lib.hid (HPY.out.turn (by have := HS.out; omega) (by have := HS.out; omega) (fun h1 x off e => by have := HROW.out h1 x off e; have := HS.out; omega) HFR.out honly hbst)
                have HZT := Lib.hid (honly.get hH.out.1 (by have := HZC.out; omega))
                clear hbst honly KO
                refine HK3.out _ _ ⟨fun h => absurd (by decide) h, fun _ => ?_⟩
                clear HK3 K3
                try simp only [List.getElem_toArray, List.getElem_cons_succ, List.getElem_cons_zero, Act.put, List.setIfInBounds_toArray, List.set_cons_zero, List.set_cons_succ]
                refine lastIn_done (by as_aux_lemma => kernel_rfl) ?_ _
                go_wp2
                go_roundw
                case rel => exact ⟨t + 1, by omega, by go_num, HPT.out, HZT.out⟩
                case measure => simp [intOf]; omega
              · have HN := Lib.hid (show bestIn h l j (t + 1) = bestIn h l j t by rw [HSTEP.out]; simp [hfl])
                have hfl2 : decide (q0 ≤ s1) = false := decide_eq_false hfl
                clear HSTEP hfl
                go_upto_region 9 with fail
                clear z0 r0 r1 r2 r3 c0 c1' c2' c3 d0 d1 d2 d3
                refine wp_region_quiet_below (by kernel_rfl) (by kernel_rfl) ?_
                repeat (go_big_quiet_step (first | with_reducible exact C1 _ _))
                refine wpQuiet_nil ?_
                intro Y hw'
                have hbr : Below wr.heap.size wr Y := by obtain ⟨⟨dq, osq⟩, hw''⟩ := hw'; rw [hw'']; exact below_regrown wr dq osq
                clear hw'
                have HPN := Lib.hid (HP2.out.next (by have := HS.out; omega) hbr)
                have HZN := Lib.hid (box_step (w0 := w) HZ2.out hbr)
                clear hbr
                go_wp2
                go_roundw
                case rel => exact ⟨t + 1, by omega, by go_num, by rw [HN.out]; exact HPN.out, HZN.out⟩
                case measure => simp [intOf]; omega
          · have HN := Lib.hid (show bestIn h l j (t + 1) = bestIn h l j t by rw [HSTEP.out]; simp [hjk])
            have hjk1 : decide (j < k) = false := decide_eq_false hjk
            have hjk2 : ¬ (j : Int) < (k : Int) := by omega
            clear HSTEP hjk
            go_upto_region 9 with fail
            clear z0 r0 r1 r2 r3 c0 c1' c2' c3 d0 d1 d2 d3
            refine wp_region_quiet_below (by kernel_rfl) (by kernel_rfl) ?_
            repeat (go_big_quiet_step (first | with_reducible exact C1 _ _))
            refine wpQuiet_nil ?_
            intro Y hw'
            have hbr : Below wr.heap.size wr Y := by obtain ⟨⟨dq, osq⟩, hw''⟩ := hw'; rw [hw'']; exact below_regrown wr dq osq
            clear hw'
            have HPN := Lib.hid (HP2.out.next (by have := HS.out; omega) hbr)
            have HZN := Lib.hid (box_step (w0 := w) HZ2.out hbr)
            clear hbr
            go_wp2
            go_roundw
            case rel => exact ⟨t + 1, by omega, by go_num, by rw [HN.out]; exact HPN.out, HZN.out⟩
            case measure => simp [intOf]; omega
        · have hte : t = (enoughF h l).length := by omega
          have i1 : ¬ (t : Int) < ((enoughF h l).length : Int) := by omega
          rw [hte, bestIn_all] at HP2
          clear hte hlt2 hph2 hz2
          go_wp2
          go_roundw
          case rel => exact ⟨j + 1, by omega, by go_num, HP2.out⟩
          case measure => simp [intOf]; omega
    · have hjl : j = l.length := by omega
      have i1 : ¬ (j : Int) < (l.length : Int) := by omega
      rw [hjl, pair_all] at HPH
      obtain ⟨x0, x1, x2, x3⟩ := four_cells HPH.out.best
      obtain ⟨q0, q1, q2, q3⟩ := four_cells HPH.out.q
      have fz : ∀ o, wr.frozen? ⟨Q, o, none⟩ = false := fun o => frozen_of HPH.out.q
      have fz0 := fz 0
      have fz1 := fz 1
      have fz2 := fz 2
      have fz3 := fz 3
      have HZ := Lib.hid (st4_same (A := .int .i64 (bestI (pairF h l))) (B := .int .i64 (bestK (pairF h l))) (C := .int .i64 (bestP (pairF h l))) (D := .bool (bestF (pairF h l))) HPH.out.q)
      have HB3 := Lib.hid (HPH.out.below.trans ((st4_only wr Q (.int .i64 (bestI (pairF h l))) (.int .i64 (bestK (pairF h l))) (.int .i64 (bestP (pairF h l))) (.bool (bestF (pairF h l)))).below (n := P) (by have := HPH.out.sz; have := HS.out; omega) (fun k e => by have := HS.out; omega)))
      obtain ⟨bv, hbv⟩ : ∃ b, pairF h l = b := ⟨_, rfl⟩
      rw [hbv] at x0 x1 x2 x3 HZ HB3
      have HBV := Lib.hid hbv
      clear hjl hlt hph fz hbv hj
      go_wp2
      exact bodyPost_ret (res1_94 Try.results47 rfl HZ.out) rfl ⟨by rw [HBV.out]; rfl, by rw [HS.out.1]; exact HB3.out⟩
end Go.Proofs.Ytlcmedfjghcigaa
