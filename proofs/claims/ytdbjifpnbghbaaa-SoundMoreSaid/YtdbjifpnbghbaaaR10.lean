/- Sound: the reference Where. -/
import Derived.Test.YtdbjifpnbghbaaaR9
import Derived.Test.YtdbjifpnbghbaaaA19
namespace Go.Proofs.Ytdbjifpnbghbaaa
set_option linter.unusedSimpArgs false
set_option linter.unusedVariables false
open Go.RowKit Go.Maps Go.BigFrame Go.ChangeShapes Go.WideShapes Go.ChangeAt

theorem cell_three_new (w : World) (x y z : Value) (t : TypeId) : ∀ j u, [x, y, z][j]? = some u → (w.alloc (.cells #[x, y, z] t)).cell? ((⟨w.heap.size, 0, none⟩ : Addr).add j) = some u := by
  intro j u hj
  have hq := alloc_heap w (.cells #[x, y, z] t)
  rw [Addr.add_lit, Nat.zero_add]
  generalize w.alloc (.cells #[x, y, z] t) = W at hq ⊢
  simp [World.cell?, hq, hj]
theorem fl_next (l : List Pi) (hs : List He) (i d : Nat) : flUp l hs i (d + 1) = if allPF l hs (posF l i + (d : Nat)) then (if (flUp l hs i d).1 < 0 then ((d : Nat) : Int) else (flUp l hs i d).1, ((d : Nat) : Int)) else flUp l hs i d := rfl
theorem rStr_next (l : List Pi) (hs : List He) (i : Nat) : rStrUp l hs (i + 1) = if 0 ≤ (flUp l hs i ((l.getD i default).len.toNat + 1)).1 then rStrUp l hs i ++ [⟨i, (flUp l hs i ((l.getD i default).len.toNat + 1)).1, (flUp l hs i ((l.getD i default).len.toNat + 1)).2⟩] else rStrUp l hs i := rfl
theorem rStr_few (l : List Pi) (hs : List He) : ∀ k : Nat, (rStrUp l hs k).length ≤ k
  | 0 => Nat.le_refl _
  | k + 1 => by
    have := rStr_few l hs k
    rw [rStr_next]
    split
    · simp; omega
    · omega
set_option maxRecDepth 100000 in
set_option maxHeartbeats 6400000 in
theorem rWhere_any (l : List Pi) (v : Value) (hs : List He) (v2 : Value) (w : World) (hl : TabAt 3 piC w v l) (hh : TabAt 4 heC w v2 hs) : Calls Try.prog 19 #[v, v2] w (WhereR w (whereF l hs)) := by
  obtain ⟨a, cp, rfl⟩ := hl.shape
  obtain ⟨la, lc, rfl⟩ := hh.shape
  obtain ⟨i0, hi0, hz0, hz1, hz2⟩ := info_parts Try.info49
  have ml : hs.length ≤ 9223372036854775807 := hh.1
  have HL := Lib.hid hl
  have HH := Lib.hid hh
  have KV := Lib.hid (Line_any l (.slice a l.length cp) w hl)
  have hdef : whereF l hs = if lineOk l then (if hs.length ≤ 8 then (if hs.all (hearOk l) then
    (if strUp l (spanF l hs) l.length = [] then ([], 4) else (strUp l (spanF l hs) l.length, 0)) else ([], 2)) else ([], 3)) else ([], 1) := rfl
  obtain ⟨ok, hok⟩ : ∃ b, lineOk l = b := ⟨_, rfl⟩
  have HOK := Lib.hid hok
  rw [hok] at hdef KV
  obtain ⟨⟨rl, re⟩, hrr⟩ : ∃ r, whereF l hs = r := ⟨_, rfl⟩
  rw [hrr] at hdef ⊢
  unfold WhereR
  simp only []
  clear hl hh hrr hok
  go_enter Try.func19, Try.ntmps19
  go_wp2_with (go_at_call 24; fail)
  refine KV.out.mono ?_
  rintro e w2 ⟨rfl, hb2⟩
  have HB2 := Lib.hid hb2
  cases ok with
  | false =>
    have hd : ((rl, re) : List St × Int) = ([], 1) := by simpa using hdef
    clear hdef hb2
    simp only [Prod.mk.injEq] at hd
    obtain ⟨rfl, rfl⟩ := hd
    go_wp2
    exact bodyPost_ret (results_tmp2 rfl _ _ _) rfl ⟨_, rfl, ⟨rfl, .inl ⟨rfl, rfl⟩⟩, HB2.out⟩
  | true =>
  have hdef1 : ((rl, re) : List St × Int) = (if hs.length ≤ 8 then (if hs.all (hearOk l) then
    (if strUp l (spanF l hs) l.length = [] then ([], 4) else (strUp l (spanF l hs) l.length, 0)) else ([], 2)) else ([], 3)) := by simpa using hdef
  clear hdef
  by_cases h8 : hs.length ≤ 8
  · rw [if_pos h8] at hdef1
    have g1 : decide ((8 : Int) < (hs.length : Int)) = false := decide_eq_false (by omega)
    have g3 : ¬ ((8 : Int) < (hs.length : Int)) := by omega
    have KH := Lib.hid (fun h X hX => rHearing_any l HOK.out (.slice a l.length cp) h X hX)
    have hall := all_iff (p := hearOk l) (l := hs)
    have HALL := Lib.hid hall
    have HD1 := Lib.hid hdef1
    clear hb2 hdef1 hall
    go_wp2_with fail
    go_loopw [6] (fun i wr => ∃ j : Nat, j ≤ hs.length ∧ i = .int .i64 j ∧ (∀ b, b < j → hearOk l (hs.getD b default) = true) ∧ Below w.heap.size w wr) (fun i _ => hs.length - (intOf i).toNat)
    case atStart => exact ⟨0, by omega, rfl, fun b hb => absurd hb (Nat.not_lt_zero _), HB2.out⟩
    case round =>
      obtain ⟨j, hj, rfl, hfo, hbw⟩ := hrel
      have HFO := Lib.hid hfo
      have HBW := Lib.hid hbw
      clear hfo
      by_cases hlt : j < hs.length
      · obtain ⟨lb, lo, e1, hlb, hlx⟩ := HH.out.at (by omega)
        subst e1
        have x0 := (hbw.cell (p := ⟨lb, lo + j * 4 + 0, none⟩) hlb).trans (hlx j hlt 0 (by omega))
        have x1 := (hbw.cell (p := ⟨lb, lo + j * 4 + 1, none⟩) hlb).trans (hlx j hlt 1 (by omega))
        have x2 := (hbw.cell (p := ⟨lb, lo + j * 4 + 2, none⟩) hlb).trans (hlx j hlt 2 (by omega))
        have x3 := (hbw.cell (p := ⟨lb, lo + j * 4 + 3, none⟩) hlb).trans (hlx j hlt 3 (by omega))
        have hbad : hearOk l (hs.getD j default) = false → ((rl, re) : List St × Int) = ([], 2) := fun h => by
          have := HD1.out
          rw [this, if_neg]
          intro h2
          rw [HALL.out.1 h2 j hlt] at h; cases h
        have hnx : hearOk l (hs.getD j default) = true → ∀ b, b < j + 1 → hearOk l (hs.getD b default) = true := fun h b hb => by
          by_cases e : b = j
          · rw [e]; exact h
          · exact HFO.out b (by omega)
        obtain ⟨⟨t0, t1, t2, t3⟩, hrow⟩ : ∃ x : He, hs.getD j default = x := ⟨_, rfl⟩
        rw [hrow] at x0 x1 x2 x3 hbad hnx
        simp only [Nat.add_zero, heC] at x0 x1 x2 x3
        have kw := KH.out ⟨t0, t1, t2, t3⟩ wr (HL.out.below hbw)
        unfold heV at kw
        simp only [] at kw
        obtain ⟨b, hb⟩ : ∃ b, hearOk l ⟨t0, t1, t2, t3⟩ = b := ⟨_, rfl⟩
        rw [hb] at kw hbad hnx
        have KW := Lib.hid kw
        have HBA := Lib.hid hbad
        have HNX := Lib.hid hnx
        have ij1 : (j : Int) < (hs.length : Int) := Int.ofNat_lt.2 hlt
        have w1 : IntKind.i64.wrap ((j : Int) + 1) = (j : Int) + 1 := IntWalk.i64_in _ (by omega)
        clear hlx hrow hb kw hbad hnx hbw hlb
        go_wp2_with (go_at_call 29; fail)
        refine KW.out.mono ?_
        rintro e w3 ⟨rfl, hb3⟩
        have HB3 := Lib.hid (HBW.out.trans (hb3.mono HBW.out.size))
        clear hb3 x0 x1 x2 x3
        cases b with
        | false =>
          have hd := HBA.out rfl
          simp only [Prod.mk.injEq] at hd
          obtain ⟨rfl, rfl⟩ := hd
          go_wp2
          exact bodyPost_ret (results_tmp2 rfl _ _ _) rfl ⟨_, rfl, ⟨rfl, .inl ⟨rfl, rfl⟩⟩, HB3.out⟩
        | true =>
          go_wp2
          go_roundw
          case rel => exact ⟨j + 1, by omega, by go_num, HNX.out (by simp), HB3.out⟩
          case measure => simp [intOf]; omega
      · have i1 : ¬ (j : Int) < (hs.length : Int) := by omega
        have hjl : j = hs.length := by omega
        have hho := HALL.out.2 (by rw [← hjl]; exact HFO.out)
        have HHO := Lib.hid hho
        have hd := HD1.out
        rw [if_pos hho, ← rStr_eq HOK.out hs l.length (Nat.le_refl _)] at hd
        have HD := Lib.hid hd
        have KA := Lib.hid (fun t X hX hX2 => rAll_any l HOK.out (.slice a l.length cp) hs HHO.out (.slice la hs.length lc) t X hX hX2)
        obtain ⟨wa, hwa⟩ : ∃ wa : World, wa = wr := ⟨_, rfl⟩
        subst hwa
        clear hho hd hbw HFO HALL HD1 KH
        go_wp2_with fail
        go_loopw [7, 8, 9, 10, 11, 12] (fun o i _ _ _ _ wr => ∃ k : Nat, k ≤ l.length ∧ i = .int .i64 k ∧ Below w.heap.size w wr ∧ OutT w.heap.size (rStrUp l hs k) o wr) (fun _ i _ _ _ _ _ => l.length - (intOf i).toNat)
        case atStart => exact ⟨0, by omega, rfl, HBW.out, ⟨rfl, .inl ⟨rfl, rfl⟩⟩⟩
        case round =>
          obtain ⟨k, hk, rfl, hbw, ho⟩ := hrel
          by_cases hlt : k < l.length
          · obtain ⟨lb, lof, e1, hlb, hlx⟩ := HL.out.at (by omega)
            subst e1
            have hcap : l.length ≤ cp := by
              obtain ⟨_, ⟨h0, _⟩ | ⟨b', off', cap, e, h1, _⟩⟩ := HL.out
              · subst h0; simp at hlt
              · simp only [Value.slice.injEq] at e; omega
            have x0 := (hbw.cell (p := ⟨lb, lof + k * 3 + 0, none⟩) hlb).trans (hlx k hlt 0 (by omega))
            have htk := (HL.out.below hbw).take (i := k) (by omega) (by omega)
            have hln : (l.take k).length = k := by simp; omega
            have KE := End_any (l.take k) (.slice (some ⟨lb, lof, none⟩) k cp) wr htk (fun j hj => by
              rw [hln] at hj
              rw [pos_take l k j hj]
              have := pos_small HOK.out (i := j) (by omega)
              omega)
            have he : endF (l.take k) = posF l k := by unfold endF; rw [hln, pos_take l k k (Nat.le_refl _)]
            rw [he] at KE
            have hp0 := pos_small HOK.out (i := k) (by omega)
            have hpi := pipe_in HOK.out hlt
            have hnx := rStr_next l hs k
            have hfl := fl_next l hs k
            have hfew := rStr_few l hs k
            have h8l := line_few HOK.out
            obtain ⟨⟨t0, t1, t2⟩, hrow⟩ : ∃ x : Pi, l.getD k default = x := ⟨_, rfl⟩
            rw [hrow] at x0 hpi hnx
            simp only [Nat.add_zero, piC] at x0 hpi hnx
            obtain ⟨p, hp⟩ : ∃ p, posF l k = p := ⟨_, rfl⟩
            simp only [hp] at KE hp0 hfl
            obtain ⟨LL, hLL⟩ : ∃ L, rStrUp l hs k = L := ⟨_, rfl⟩
            rw [hLL] at hnx hfew ho
            obtain ⟨N, hN⟩ : ∃ N, t0.toNat + 1 = N := ⟨_, rfl⟩
            rw [hN] at hnx
            have HN := Lib.hid (show (N : Int) = t0 + 1 ∧ t0 ≤ 100000 by omega)
            have ij1 : (k : Int) < (l.length : Int) := Int.ofNat_lt.2 hlt
            have ij0 : (0 : Int) ≤ (k : Int) := by omega
            have ij2 : (k : Int) ≤ (cp : Int) := by omega
            have hic : k ≤ cp := by omega
            have HFL := Lib.hid hfl
            have HNX := Lib.hid hnx
            have HFEW := Lib.hid (show LL.length ≤ 8 ∧ k ≤ 8 by omega)
            have HP0 := Lib.hid hp0
            have HO := Lib.hid ho
            have HBWO := Lib.hid hbw
            have HLB := Lib.hid hlb
            have KEE := Lib.hid KE
            have w1 : IntKind.i64.wrap ((k : Int) + 1) = (k : Int) + 1 := IntWalk.i64_in _ (by omega)
            obtain ⟨wo, hwo⟩ : ∃ wo : World, wo = wr := ⟨_, rfl⟩
            subst hwo
            have X0 := Lib.hid x0
            clear hlx hrow hp hLL hN hfl hnx hfew hp0 hpi h8l htk hln he KE ho hbw hlb x0
            go_wp2_with (go_at_call 25; (with_reducible refine KEE.out.mono ?_); rintro e w3 ⟨rfl, rfl⟩)
            go_loopw [10, 11, 12] (fun f la d wr => ∃ n : Nat, n ≤ N ∧ d = .int .i64 n ∧ f = .int .i64 (flUp l hs k n).1 ∧ la = .int .i64 (flUp l hs k n).2 ∧ Below wo.heap.size wo wr) (fun _ _ d _ => N - (intOf d).toNat)
            case atStart => exact ⟨0, by omega, rfl, rfl, rfl, Below.refl _ _⟩
            case round =>
              obtain ⟨n, hn, rfl, rfl, rfl, hbi⟩ := hrel
              have x0 := (hbi.cell (p := ⟨lb, lof + k * 3, none⟩) (Nat.lt_of_lt_of_le HLB.out HBWO.out.size)).trans X0.out
              have hNN := HN.out
              have HBI := Lib.hid hbi
              by_cases hn2 : n < N
              · have hle : (n : Int) ≤ t0 := by omega
                have hp0 := HP0.out
                have w2 : IntKind.i64.wrap (p + (n : Int)) = p + (n : Int) := IntWalk.i64_in _ (by omega)
                have w3 : IntKind.i64.wrap ((n : Int) + 1) = (n : Int) + 1 := IntWalk.i64_in _ (by omega)
                have hfn := HFL.out n
                have hb0 := HBWO.out.trans (hbi.mono HBWO.out.size)
                have kw := KA.out (p + (n : Int)) wr (HL.out.below hb0) (HH.out.below hb0)
                obtain ⟨b, hb⟩ : ∃ b, allPF l hs (p + (n : Int)) = b := ⟨_, rfl⟩
                rw [hb] at kw hfn
                obtain ⟨⟨F1, F2⟩, hF⟩ : ∃ x, flUp l hs k n = x := ⟨_, rfl⟩
                rw [hF] at hfn ⊢
                simp only [] at hfn ⊢
                have KW := Lib.hid kw
                have HFN := Lib.hid hfn
                have HNB := Lib.hid hn2
                clear hfn kw hb hF hb0 hbi hNN hp0
                go_wp2_with (go_at_call 50; fail)
                refine KW.out.mono ?_
                rintro e w5 ⟨rfl, hb5⟩
                have HB5 := Lib.hid (HBI.out.trans (hb5.mono HBI.out.size))
                clear hb5 x0 KW
                cases b with
                | false =>
                  have hff : flUp l hs k (n + 1) = (F1, F2) := by rw [HFN.out]; rfl
                  have HFF := Lib.hid hff
                  clear hff
                  go_wp2
                  go_roundw
                  case rel => exact ⟨n + 1, by have := HNB.out; omega, by go_num, by rw [HFF.out], by rw [HFF.out], HB5.out⟩
                  case measure => simp [intOf]; have := HNB.out; omega
                | true =>
                  by_cases hF1 : F1 < 0
                  · have hff : flUp l hs k (n + 1) = ((n : Int), (n : Int)) := by rw [HFN.out, if_pos rfl, if_pos hF1]
                    have HFF := Lib.hid hff
                    clear hff
                    go_wp2
                    go_roundw
                    case rel => exact ⟨n + 1, by have := HNB.out; omega, by go_num, by rw [HFF.out], by rw [HFF.out], HB5.out⟩
                    case measure => simp [intOf]; have := HNB.out; omega
                  · have hff : flUp l hs k (n + 1) = (F1, (n : Int)) := by rw [HFN.out, if_pos rfl, if_neg hF1]
                    have HFF := Lib.hid hff
                    clear hff
                    go_wp2
                    go_roundw
                    case rel => exact ⟨n + 1, by have := HNB.out; omega, by go_num, by rw [HFF.out], by rw [HFF.out], HB5.out⟩
                    case measure => simp [intOf]; have := HNB.out; omega
              · have hnN : n = N := by omega
                subst hnN
                have hgt : ¬ (n : Int) ≤ t0 := by omega
                have hnx := HNX.out
                obtain ⟨⟨F1, F2⟩, hF⟩ : ∃ x, flUp l hs k n = x := ⟨_, rfl⟩
                rw [hF] at hnx ⊢
                simp only [] at hnx ⊢
                have HB0 := Lib.hid (HBWO.out.trans (hbi.mono HBWO.out.size))
                have ho' := HO.out
                unfold OutT at ho'
                have hd := row_below ho' hbi
                clear ho'
                clear hbi hNN hF
                by_cases hF1 : 0 ≤ F1
                · have hnn : rStrUp l hs (k + 1) = LL ++ [⟨k, F1, F2⟩] := by rw [hnx, if_pos hF1]
                  have HNN := Lib.hid hnn
                  have hdl := hd.lt
                  have hfew := HFEW.out
                  have hws := HB0.out.size
                  have hdd := hd
                  clear hnx hnn
                  obtain ⟨m, hm⟩ : ∃ m, LL.length = m := ⟨_, rfl⟩
                  obtain ⟨G, hG⟩ : ∃ m, flatK 3 stC LL = m := ⟨_, rfl⟩
                  have HM := Lib.hid (And.intro hm hG)
                  rw [hm, hG] at hd
                  rw [hm] at hfew
                  clear hm hG hdd
                  go_wp2_with (at_builtin; refine wpList_append_own_at _ rfl (.tmp 63) (.tmp 68) 38 rfl w.heap.size 49 i0 (.agg #[.int .i64 0, .int .i64 0, .int .i64 0]) 3 24 Try.underlying38 hi0 hz0 hz1 hz2 rfl (by decide) _ _ _ rfl (hd.alloc _) ⟨_, 0, none⟩ 1 1 [.int .i64 (k : Nat), .int .i64 F1, .int .i64 F2] rfl rfl (cell_three_new _ _ _ _ _) (ints_oneCell .i64 [(k : Int), F1, F2]) (by unfold maxLen; omega) (by omega) (by simp; try omega) ?_; intro v1 w9 hd1 hg1 hnil1 hloc1)
                  go_roundw
                  case rel =>
                    refine ⟨k + 1, by omega, by go_num, ?_, ?_⟩
                    · exact (HB0.out.alloc hws _).grown hg1 (by simp; omega) (fun t ht => (hdl t ht).1)
                    · rw [HNN.out]
                      unfold OutT
                      rw [flat_snoc, HM.out.2, List.length_append, HM.out.1]
                      exact hd1
                  case measure => simp [intOf]; omega
                · have hnn : rStrUp l hs (k + 1) = LL := by rw [hnx, if_neg hF1]
                  have HNN := Lib.hid hnn
                  have HDD := Lib.hid hd
                  clear hnx hnn hd
                  go_wp2
                  go_roundw
                  case rel =>
                    refine ⟨k + 1, by omega, by go_num, HB0.out, ?_⟩
                    rw [HNN.out]
                    exact HDD.out
                  case measure => simp [intOf]; omega
          · have i2 : ¬ (k : Int) < (l.length : Int) := by omega
            have hkl : k = l.length := by omega
            subst hkl
            have hd := HD.out
            obtain ⟨ua, uc, rfl⟩ := out_len ho
            have HO := Lib.hid ho
            have HB7 := Lib.hid hbw
            obtain ⟨L, hL⟩ : ∃ x, rStrUp l hs l.length = x := ⟨_, rfl⟩
            rw [hL] at hd HO ⊢
            clear ho hbw hL HD
            by_cases hL0 : L = []
            · rw [if_pos hL0] at hd
              subst hL0
              simp only [Prod.mk.injEq] at hd
              obtain ⟨rfl, rfl⟩ := hd
              go_wp2
              exact bodyPost_ret (results_tmp2 rfl _ _ _) rfl ⟨_, rfl, ⟨rfl, .inl ⟨rfl, rfl⟩⟩, HB7.out⟩
            · rw [if_neg hL0] at hd
              have hne : ¬ L.length = 0 := fun e => hL0 (List.length_eq_zero_iff.1 e)
              have hne2 : ((L.length : Int) == 0) = false := by simp; exact hL0
              have hne3 : ¬ (L.length : Int) = 0 := by omega
              simp only [Prod.mk.injEq] at hd
              obtain ⟨rfl, rfl⟩ := hd
              go_wp2
              exact bodyPost_ret (results_tmp2 rfl _ _ _) rfl ⟨_, rfl, HO.out, HB7.out⟩
  · have hd : ((rl, re) : List St × Int) = ([], 3) := by rw [hdef1, if_neg h8]
    have g3 : (8 : Int) < (hs.length : Int) := by omega
    clear hdef1 hb2
    simp only [Prod.mk.injEq] at hd
    obtain ⟨rfl, rfl⟩ := hd
    go_wp2
    exact bodyPost_ret (results_tmp2 rfl _ _ _) rfl ⟨_, rfl, ⟨rfl, .inl ⟨rfl, rfl⟩⟩, HB2.out⟩
end Go.Proofs.Ytdbjifpnbghbaaa
