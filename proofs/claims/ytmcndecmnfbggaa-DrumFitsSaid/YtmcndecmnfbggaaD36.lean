/- Contract of the document's Fit (all totals are tried), readings of few drums; DrumFits returns true for all inputs: the walk. -/
import Derived.Test.YtmcndecmnfbggaaD35
import Derived.Deep.DeepCutAuto
import Derived.Outline
namespace Go.Proofs.Ytmcndecmnfbggaa
set_option linter.unusedSimpArgs false
set_option linter.unusedVariables false
open Go.RowKit

theorem set_take1 (cur : List Value) (Q : List Value) (b x y : Value) (n : Nat) (h : cur.take n = Q ++ [x, y]) (hn : n = Q.length + 2) : (cur.set (Q.length + 1) b).take n = Q ++ [x, b] := by
  rw [List.take_set, h]
  simp [List.set_append]
theorem own_set1 {X : World} {base g cap : Nat} {Q : List (Int × Int)} {l : Int × Int} (h : X.ownsRow base 45 2 (.slice (some ⟨g, 0, none⟩) (Q.length + 1) cap) (Q.length + 1) (flatS (Q ++ [l]))) (b : Int) :
    (X.setCell ⟨g, Q.length * 2 + 1, none⟩ (.int .i64 b)).ownsRow base 45 2 (.slice (some ⟨g, 0, none⟩) (Q.length + 1) cap) (Q.length + 1) (flatS (Q ++ [(l.1, b)])) := by
  rcases h with ⟨hl, ⟨e, _⟩ | ⟨g', cap', cur, e, h2, h3, h4, h5, h6, h7⟩⟩
  · cases e
  · simp only [Value.slice.injEq, Option.some.injEq, Addr.mk.injEq, and_true, true_and] at e
    obtain ⟨rfl, rfl⟩ := e
    refine ⟨by rw [flatS_len]; simp, .inr ⟨g, cap, cur.setIfInBounds (Q.length * 2 + 1) (.int .i64 b), rfl, h2, ?_, h4, h5, by simp [h6], ?_⟩⟩
    · obtain ⟨hlt, hk⟩ := Array.getElem?_eq_some_iff.1 h3
      show (X.heap.modify g _)[g]? = _
      rw [Array.getElem?_eq_getElem (by rw [Array.size_modify]; exact hlt), Array.getElem_modify_self, hk]; rfl
    · rw [flatS_snoc] at h7 ⊢
      have hq := flatS_len Q
      have := set_take1 cur.toList (flatS Q) (.int .i64 b) _ _ ((Q.length + 1) * 2) h7 (by omega)
      rw [hq] at this
      simpa using this
/-- one number more -/
theorem canon_more {P : Int → Prop} {k : Int} {L : List (Int × Int)} (h : Canon (fun t => t < k ∧ P t) L) (hp : P k) : Canon (fun t => t < k + 1 ∧ P t) (joinS L (k, k)) := by
  have hs : ∀ s ∈ L, s.2 < k := fun s hs => by
    have := (h.2.2 s.2).1 ⟨s, hs, h.1 s hs, Int.le_refl _⟩
    exact this.1
  refine canon_congr (joinS_canon h (x := (k, k)) (Int.le_refl _) hs).1 (fun t => ⟨?_, ?_⟩)
  · rintro (⟨h1, h2⟩ | ⟨h1, h2⟩)
    · exact ⟨by omega, h2⟩
    · have : t = k := by simp only [] at h1 h2; omega
      subst this; exact ⟨by omega, hp⟩
  · rintro ⟨h1, h2⟩
    by_cases e : t = k
    · right; subst e; exact ⟨Int.le_refl _, Int.le_refl _⟩
    · left; exact ⟨by omega, h2⟩
theorem canon_less {P : Int → Prop} {k : Int} {L : List (Int × Int)} (h : Canon (fun t => t < k ∧ P t) L) (hp : ¬ P k) : Canon (fun t => t < k + 1 ∧ P t) L :=
  canon_congr h (fun t => ⟨fun ⟨h1, h2⟩ => ⟨by omega, h2⟩, fun ⟨h1, h2⟩ => ⟨by
    by_cases e : t = k
    · subst e; exact absurd h2 hp
    · omega, h2⟩⟩)
theorem own_below2 {base e size n : Nat} {w w' : World} {v : Value} {xs : List Value} (h : w.ownsRow base e size v n xs) (hb : Below w.heap.size w w') : w'.ownsRow base e size v n xs := by
  refine ⟨h.1, ?_⟩
  rcases h.2 with h | ⟨g, cap, cur, rfl, g1, g2, g3⟩
  · exact .inl h
  · exact .inr ⟨g, cap, cur, rfl, g1, (hb.block g (Array.getElem?_eq_some_iff.1 g2).1).trans g2, g3⟩
theorem news_two' {X : World} {q : Nat} {x y : Int} {t : TypeId} (h : X.heap[q]? = some (.cells #[.int .i64 x, .int .i64 y] t)) : ∀ (j : Nat) u, ([.int .i64 x, .int .i64 y] : List Value)[j]? = some u → X.cell? ((⟨q, 0, none⟩ : Addr).add j) = some u := news_two h
set_option maxRecDepth 100000 in
set_option maxHeartbeats 6400000 in
theorem refFit_any (figs : List Int) (wi : Int) (v : Value) (w : World) (hl : IntsAt w v figs) (hlen : figs.length ≤ 2 ∨ 6 < figs.length) : Calls Try.prog 18 #[v, .int .i64 wi] w (FitRes w figs wi) := by
  obtain ⟨va, vc, rfl⟩ := hl.shape
  have hempty : ∀ (h : ¬ fitOk figs wi), Canon (fun t => fitOk figs wi ∧ FitP figs wi t) [] := fun h => canon_congr canon_empty (fun t => ⟨fun f => f.elim, fun f => h f.1⟩)
  have ha := refFigures_any figs _ w hl
  obtain ⟨i0, hi, hz0, hz1, hz2⟩ := info_parts Try.info45
  obtain ⟨F, hF⟩ : ∃ F, figsB figs = F := ⟨_, rfl⟩
  rw [hF] at ha
  have HA := Lib.hid ha
  have HF := Lib.hid hF
  have HEM := Lib.hid hempty
  clear ha hF hempty
  cases F with
  | false =>
    have H := Lib.hid (show fitErr figs wi [] = 1 by unfold fitErr; rw [if_pos HF.out])
    go_enter Try.func18, Try.ntmps18
    go_wp2_with fail
    refine HA.out.mono ?_
    rintro e w1 ⟨rfl, rfl⟩
    go_wp2
    go_ret2
    exact ⟨_, [], by rw [H.out]; rfl, HEM.out (fun h => by unfold fitOk at h; rw [HF.out] at h; cases h.1), by simp, World.ownsRow_nil _ _ _ _, Below.refl _ _⟩
  | true =>
    have hfb := HF.out
    unfold figsB at hfb
    simp only [Bool.and_eq_true, decide_eq_true_eq, List.all_eq_true] at hfb
    obtain ⟨⟨hl1, hl6⟩, hf9⟩ := hfb
    have h9 : ∀ k, k < figs.length → 0 ≤ figs.getD k 0 ∧ figs.getD k 0 ≤ 9 := fun k hk => by
      have := hf9 (figs.getD k 0) (by simp [List.getD, hk])
      exact this
    have hl2 : figs.length ≤ 2 := by omega
    have hI := fun X => in_any wi 0 999 X
    by_cases hw : 0 ≤ wi ∧ wi ≤ 999
    rotate_left
    · have H := Lib.hid (show fitErr figs wi [] = 2 by unfold fitErr; rw [if_neg (by rw [HF.out]; simp), if_pos (by omega)])
      have HE := Lib.hid (HEM.out (fun h => hw h.2))
      rw [show inB wi 0 999 = false by unfold inB; simp; omega] at hI
      have HI := Lib.hid hI
      clear hI hw
      go_enter Try.func18, Try.ntmps18
      go_wp2_with fail
      refine HA.out.mono ?_
      rintro e w1 ⟨rfl, rfl⟩
      go_wp2_with fail
      refine (HI.out _).mono ?_
      rintro e w1 ⟨rfl, rfl⟩
      go_wp2
      go_ret2
      exact ⟨_, [], by rw [H.out]; rfl, HE.out, by simp, World.ownsRow_nil _ _ _ _, Below.refl _ _⟩
    · rw [show inB wi 0 999 = true by unfold inB; simp; omega] at hI
      have HI := Lib.hid hI
      have HFE := Lib.hid (show ∀ L, fitErr figs wi L = if L = [] then 4 else 0 from fun L => by unfold fitErr; rw [if_neg (by rw [HF.out]; simp), if_neg (by omega)])
      have hok := Lib.hid (show fitOk figs wi from ⟨HF.out, hw⟩)
      have htb : 1000 ≤ turnP figs.length ∧ turnP figs.length ≤ 100000 := by
        have h0 : (figs.length : Int).toNat = figs.length := by omega
        unfold turnP
        rw [h0]
        rcases (by omega : figs.length = 1 ∨ figs.length = 2) with e | e <;> rw [e] <;> decide
      have hT := fun X => turn_any (figs.length : Int) X (by omega)
      obtain ⟨U, hU⟩ : ∃ U, turnP figs.length = U := ⟨_, rfl⟩
      rw [hU] at htb hT
      obtain ⟨htb0, htb1⟩ := htb
      have HU := Lib.hid hU
      have HTT := Lib.hid hT
      have H9 := Lib.hid h9
      have HW := Lib.hid hw
      clear hU hT hI h9 hf9 hlen hw
      go_enter Try.func18, Try.ntmps18
      go_wp2_with fail
      refine HA.out.mono ?_
      rintro e w1 ⟨rfl, rfl⟩
      go_wp2_with fail
      refine (HI.out _).mono ?_
      rintro e w1 ⟨rfl, rfl⟩
      go_wp2_with fail
      go_loopw [6, 7] (fun d i wr => ∃ (k : Nat) (L : List (Int × Int)), (k : Int) ≤ U ∧ i = .int .i64 k ∧ Canon (fun t => t < k ∧ FitP figs wi t) L ∧ L.length ≤ k ∧ wr.ownsRow w.heap.size 45 2 d L.length (flatS L) ∧ Below w.heap.size w wr) (fun _ i _ => U.toNat - (intOf i).toNat)
      case atStart =>
        refine ⟨0, [], by omega, rfl, canon_congr canon_empty (fun t => ⟨fun h => h.elim, fun ⟨h1, h2⟩ => ?_⟩), by simp, World.ownsRow_nil _ _ _ _, Below.refl _ _⟩
        have := h2.1
        simp at h1
        omega
      case round =>
        obtain ⟨k, L, hk, rfl, hcan, hLk, hown, hbr⟩ := hrel
        have HC := Lib.hid hcan
        clear hcan
        by_cases hlt : (k : Int) < U
        · have hk0 : (0 : Int) ≤ k := by omega
          go_wp2_with fail
          refine (HTT.out _).mono ?_
          rintro e wr ⟨rfl, rfl⟩
          obtain ⟨R, hR⟩ : ∃ R, fitsB figs k wi = R := ⟨_, rfl⟩
          have hfit := fits_any figs k wi _ wr (hl.below hbr) (by omega) H9.out ⟨hk0, by omega⟩ HW.out
          rw [hR] at hfit
          have HR := Lib.hid hR
          have HFT := Lib.hid hfit
          clear hR hfit
          go_wp2_with fail
          refine HFT.out.mono ?_
          rintro e w2 ⟨rfl, hb2⟩
          have hb02 := hbr.trans (hb2.mono hbr.size)
          have hz := hb02.size
          have hown2 := own_below2 hown hb2
          cases R with
          | false =>
            have HC2 := Lib.hid (canon_less HC.out (fun h => by have := (fitsB_iff figs k wi).2 h.2.2; rw [HR.out] at this; cases this))
            clear hown hb2
            go_wp2
            go_roundw
            case rel => exact ⟨k + 1, L, by omega, by go_num, by rw [show ((k + 1 : Nat) : Int) = (k : Int) + 1 by omega]; exact HC2.out, by omega, hown2, hb02⟩
            case measure => simp [intOf]; omega
          | true =>
            have HC2 := Lib.hid (canon_more HC.out (show FitP figs wi k from ⟨hk0, by rw [HU.out]; exact hlt, (fitsB_iff figs k wi).1 HR.out⟩))
            have hdl := hown2.lt
            have HDL := Lib.hid hdl
            clear hown hb2 hdl
            rcases List.eq_nil_or_concat L with rfl | ⟨Q, l, rfl⟩
            · obtain ⟨da, dc, rfl⟩ := ownsRow_shape hown2
              simp only [List.length_nil] at hown2 ⊢
              have H1 := Lib.hid (show joinS [] ((k : Int), (k : Int)) = [((k : Int), (k : Int))] from rfl)
              go_wp2_with (at_builtin; refine wpList_append_own_at _ rfl (.tmp 48) (.tmp 52) 35 rfl w.heap.size 45 i0 (.agg #[.int .i64 0, .int .i64 0]) 2 16 Try.underlying35 hi hz0 hz1 hz2 rfl (by decide) _ _ _ rfl (hown2.alloc _) ⟨w2.heap.size, 0, none⟩ 1 1 [.int .i64 k, .int .i64 k] rfl rfl (news_two (MapKept.heap_alloc _ _).1) (two_oneCell k k) (by unfold maxLen; omega) (by omega) (by simp; omega) ?_; intro v1 X4 hd1 hg1 hnil1 hloc1)
              go_roundw
              case rel => exact ⟨k + 1, _, by omega, by go_num, by rw [show ((k + 1 : Nat) : Int) = (k : Int) + 1 by omega]; exact HC2.out, by rw [H1.out]; simp, by rw [H1.out]; exact hd1, (hb02.alloc hz _).grown hg1 (by simp; omega) (fun t ht => (HDL.out t ht).1)⟩
              case measure => simp [intOf]; omega
            · rw [List.concat_eq_append] at hown2 hLk HC2 HC
              obtain ⟨l1, l2⟩ := l
              rw [List.length_append] at hown2 hLk
              simp only [List.length_cons, List.length_nil, Nat.zero_add] at hown2 hLk
              obtain ⟨g, dc, rfl⟩ := ownsRow_succ hown2
              have hl2b : 0 ≤ l2 ∧ l2 < k := by
                have := (HC.out.2.2 l2).1 ⟨(l1, l2), by simp, HC.out.1 (l1, l2) (by simp), Int.le_refl _⟩
                exact ⟨this.2.1, this.1⟩
              obtain ⟨cur, hcur, hcap⟩ : ∃ cur, w2.heap[g]? = some (.cells cur 45 (0, 0)) ∧ w.heap.size ≤ g := by
                rcases hown2.2 with ⟨e, _⟩ | ⟨g', cap', cur, e, h2, h3, _⟩
                · cases e
                · simp only [Value.slice.injEq, Option.some.injEq, Addr.mk.injEq, and_true, true_and] at e
                  obtain ⟨rfl, rfl⟩ := e
                  exact ⟨cur, h3, h2⟩
              have hget := flatS_get (Q ++ [(l1, l2)]) Q.length (by simp)
              have e2 := hown2.cellAt (2 * Q.length + 1) (by omega)
              rw [hget.2, Nat.mul_comm] at e2
              simp at e2
              have hfr := frozen_of hcur
              obtain ⟨cc, hccv⟩ : ∃ cc, (l2 == (k : Int) - 1) = cc := ⟨_, rfl⟩
              have hcc := Lib.hid hccv
              have hgl := (Array.getElem?_eq_some_iff.1 hcur).1
              have HOWN := Lib.hid hown2
              have iq0 : (0 : Int) ≤ (Q.length : Int) := by omega
              have hq1 : (Q.length : Int) + 1 ≤ 1000000 := by omega
              obtain ⟨hl20, hl21⟩ := hl2b
              clear hget hccv
              cases cc with
              | true =>
                have ek : l2 = (k : Int) - 1 := by simpa using hcc.out
                have HS2 := Lib.hid (show joinS (Q ++ [(l1, l2)]) ((k : Int), (k : Int)) = Q ++ [(l1, (k : Int))] by unfold joinS; simp [show l2 + 1 = (k : Int) by omega])
                have hee := hcc.out
                have HSET := Lib.hid (own_set1 hown2 (k : Int))
                clear ek hown2
                go_wp2
                go_roundw
                case rel => exact ⟨k + 1, _, by omega, by go_num, by rw [show ((k + 1 : Nat) : Int) = (k : Int) + 1 by omega]; exact HC2.out, by rw [HS2.out]; simp; omega, by rw [HS2.out, show (Q ++ [(l1, (k : Int))]).length = Q.length + 1 by simp]; exact HSET.out, hb02.setCell (p := ⟨g, Q.length * 2 + 1, none⟩) hcap _⟩
                case measure => simp [intOf]; omega
              | false =>
                have ek : ¬ l2 + 1 = (k : Int) := by
                  have := hcc.out
                  rw [beq_eq_false_iff_ne] at this
                  omega
                have HS2 := Lib.hid (show joinS (Q ++ [(l1, l2)]) ((k : Int), (k : Int)) = (Q ++ [(l1, l2)]) ++ [((k : Int), (k : Int))] by unfold joinS; simp [ek])
                have hfl := Lib.hid (flatS_snoc (Q ++ [(l1, l2)]) ((k : Int), (k : Int)))
                have hee := hcc.out
                clear ek
                go_wp2_with (at_builtin; refine wpList_append_own_at _ rfl (.tmp 48) (.tmp 52) 35 rfl w.heap.size 45 i0 (.agg #[.int .i64 0, .int .i64 0]) 2 16 Try.underlying35 hi hz0 hz1 hz2 rfl (by decide) _ _ _ rfl (hown2.alloc _) ⟨w2.heap.size, 0, none⟩ 1 1 [.int .i64 k, .int .i64 k] rfl rfl (news_two (MapKept.heap_alloc _ _).1) (two_oneCell k k) (by unfold maxLen; omega) (by omega) (by simp; omega) ?_; intro v1 X4 hd1 hg1 hnil1 hloc1)
                go_roundw
                case rel => exact ⟨k + 1, _, by omega, by go_num, by rw [show ((k + 1 : Nat) : Int) = (k : Int) + 1 by omega]; exact HC2.out, by rw [HS2.out]; simp; omega, by rw [HS2.out, hfl.out, show ((Q ++ [(l1, l2)]) ++ [((k : Int), (k : Int))]).length = Q.length + 1 + 1 by simp]; exact hd1, (hb02.alloc hz _).grown hg1 (by simp; omega) (fun t ht => (HDL.out t ht).1)⟩
                case measure => simp [intOf]; omega
        · have hkU : (k : Int) = U := by omega
          have hc2 := Lib.hid (canon_congr (Q := fun t => fitOk figs wi ∧ FitP figs wi t) HC.out (fun t => ⟨fun h => ⟨hok.out, h.2⟩, fun h => ⟨by have := h.2.2.1; rw [HU.out] at this; omega, h.2⟩⟩))
          have i1 : ¬ (k : Int) < U := hlt
          obtain ⟨sa, sc, rfl⟩ := ownsRow_shape hown
          go_wp2_with fail
          refine (HTT.out _).mono ?_
          rintro e wr ⟨rfl, rfl⟩
          cases L with
          | nil =>
            have H := Lib.hid (show fitErr figs wi [] = 4 by rw [HFE.out]; rfl)
            go_wp2
            go_ret2
            exact ⟨_, [], by rw [H.out]; rfl, hc2.out, by simp, World.ownsRow_nil _ _ _ _, hbr⟩
          | cons x L =>
            have H := Lib.hid (show fitErr figs wi (x :: L) = 0 by rw [HFE.out]; rfl)
            have hn0 : ((((x :: L).length : Nat) : Int) == 0) = false := by simp; omega
            obtain ⟨n, hn⟩ : ∃ n, (x :: L).length = n := ⟨_, rfl⟩
            rw [hn] at hown hn0 hLk ⊢
            have HN2 := Lib.hid hn
            clear hn
            go_wp2
            go_ret2
            exact ⟨_, x :: L, by rw [H.out]; rfl, hc2.out, by rw [HN2.out]; omega, by rw [HN2.out]; exact hown, hbr⟩
set_option maxRecDepth 100000 in
set_option maxHeartbeats 3200000 in
theorem drumFits_any (figs : List Int) (wi : Int) (v : Value) (w : World) (hl : IntsAt w v figs) : Calls Try.prog 4 #[v, .int .i64 wi] w fun e w' => e = .returned (.bool true) ∧ Below w.heap.size w w' := by
  obtain ⟨va, vc, rfl⟩ := hl.shape
  have hlm : figs.length ≤ 9223372036854775807 := hl.1
  go_enter Try.func4, Try.ntmps4
  by_cases h2 : 2 < figs.length
  · have h2' : (2 : Int) < (figs.length : Int) := by omega
    by_cases h6 : figs.length ≤ 6
    · have h6' : (figs.length : Int) ≤ 6 := by omega
      go_wp2_with fail
      refine (awake_any _).mono ?_
      rintro e w1 ⟨rfl, hb1⟩
      go_wp2
      go_ret
      exact ⟨rfl, hb1⟩
    · have h6' : ¬ (figs.length : Int) ≤ 6 := by omega
      by_cases h20 : 20 < figs.length
      · have h20' : (20 : Int) < (figs.length : Int) := by omega
        go_wp2_with fail
        refine (awake_any _).mono ?_
        rintro e w1 ⟨rfl, hb1⟩
        go_wp2
        go_ret
        exact ⟨rfl, hb1⟩
      · have h20' : ¬ (20 : Int) < (figs.length : Int) := by omega
        have hfew : figs.length ≤ 2 ∨ 6 < figs.length := by omega
        go_wp2_with fail
        refine (fit_any figs wi _ _ hl).mono ?_
        rintro e w1 ⟨v1, L1, rfl, hc1, hl1, ho1, hb1⟩
        have s1 := spans_own ho1 hl1
        have hlA := hl.below hb1
        clear ho1
        go_wp2_with fail
        refine (refFit_any figs wi _ _ hlA hfew).mono ?_
        rintro e w2 ⟨v2, L2, rfl, hc2, hl2, ho2, hb2⟩
        have s2 := spans_own ho2 hl2
        have s1' := s1.below hb2
        have hbw2 := hb1.trans (hb2.mono hb1.size)
        obtain rfl := canon_unique hc1 hc2
        clear ho2 hc1 hc2 hb1 hb2 s1 hlA hl
        go_wp2_with fail
        refine (refSpans_any _ _ _ _ _ s1' s2).mono ?_
        rintro e w3 ⟨rfl, hb3⟩
        rw [sameS_refl]
        have hbw3 := hbw2.trans (hb3.mono hbw2.size)
        clear hb3 hbw2 s1' s2
        go_wp2_with fail
        refine (awake_any _).mono ?_
        rintro e w4 ⟨rfl, hb4⟩
        have hbw4 := hbw3.trans (hb4.mono hbw3.size)
        go_wp2
        go_ret
        exact ⟨rfl, hbw4⟩
  · have h2' : ¬ (2 : Int) < (figs.length : Int) := by omega
    have h20' : ¬ (20 : Int) < (figs.length : Int) := by omega
    have hfew : figs.length ≤ 2 ∨ 6 < figs.length := by omega
    go_wp2_with fail
    refine (fit_any figs wi _ _ hl).mono ?_
    rintro e w1 ⟨v1, L1, rfl, hc1, hl1, ho1, hb1⟩
    have s1 := spans_own ho1 hl1
    have hlA := hl.below hb1
    clear ho1
    go_wp2_with fail
    refine (refFit_any figs wi _ _ hlA hfew).mono ?_
    rintro e w2 ⟨v2, L2, rfl, hc2, hl2, ho2, hb2⟩
    have s2 := spans_own ho2 hl2
    have s1' := s1.below hb2
    have hbw2 := hb1.trans (hb2.mono hb1.size)
    obtain rfl := canon_unique hc1 hc2
    clear ho2 hc1 hc2 hb1 hb2 s1 hlA hl
    go_wp2_with fail
    refine (refSpans_any _ _ _ _ _ s1' s2).mono ?_
    rintro e w3 ⟨rfl, hb3⟩
    rw [sameS_refl]
    have hbw3 := hbw2.trans (hb3.mono hbw2.size)
    clear hb3 hbw2 s1' s2
    go_wp2_with fail
    refine (awake_any _).mono ?_
    rintro e w4 ⟨rfl, hb4⟩
    have hbw4 := hbw3.trans (hb4.mono hbw3.size)
    go_wp2
    go_ret
    exact ⟨rfl, hbw4⟩
end Go.Proofs.Ytmcndecmnfbggaa
