/- Contract: Run of the document. -/
import Derived.Test.YtmcndecmnfbggaaD8
import Derived.Outline
namespace Go.Proofs.Ytmcndecmnfbggaa
set_option linter.unusedSimpArgs false
open Go.RowKit

set_option maxRecDepth 100000 in
set_option maxHeartbeats 6400000 in
theorem refRun_any (d s : Int) (l : List Int) (v : Value) (w : World) (hl : IntsAt w v l) : Calls Try.prog 13 #[.agg #[.int .i64 d, .int .i64 s], v] w (RunRes w (runTot d s l) (runFigs d s l) (runsErr d s l)) := by
  obtain ⟨a, c, rfl⟩ := hl.shape
  obtain ⟨i0, hi, hz0, hz1, hz2⟩ := info_parts Try.info3
  obtain ⟨W0, hW0⟩ : ∃ X, X = w.alloc (.cells #[.int .i64 d, .int .i64 s] 23) := ⟨_, rfl⟩
  have hb0 : Below w.heap.size w W0 := by rw [hW0]; exact (Below.refl _ _).alloc (Nat.le_refl _) _
  have hr0 : W0.heap[w.heap.size]? = some (.cells #[.int .i64 d, .int .i64 s] 23 (0, 0)) := by rw [hW0]; exact (MapKept.heap_alloc w _).1
  have hz0' : W0.heap.size = w.heap.size + 1 := by rw [hW0]; simp
  obtain ⟨c0, c1⟩ := regcells hr0
  obtain ⟨N, hN⟩ : ∃ N, runTot d s l = N := ⟨_, rfl⟩
  obtain ⟨L, hL⟩ : ∃ L, runFigs d s l = L := ⟨_, rfl⟩
  obtain ⟨E, hE⟩ : ∃ E, runsErr d s l = E := ⟨_, rfl⟩
  have hr := refErrors_any d s l (.slice a l.length c) W0 (hl.below hb0)
  rw [hE] at hr
  rw [hL, hE, hN]
  have HL := Lib.hid hL
  have HN := Lib.hid hN
  have HE := Lib.hid hE
  have HRR := Lib.hid hr
  have HC := Lib.hid hr0
  have hz := Lib.hid hz0'
  clear hL hE hN hr hr0 hz0'
  go_enter Try.func13, Try.ntmps13
  go_wp2_with fail
  rw [← hW0]
  clear hW0
  go_wp2_with fail
  refine HRR.out.mono ?_
  rintro e w1 ⟨rfl, hb1⟩
  have hbw1 := hb0.trans (hb1.mono hb0.size)
  have hr1 := (hb1.block w.heap.size (by rw [hz.out]; omega)).trans HC.out
  clear c0 c1 hb1 HRR
  by_cases hE0 : E = 0
  rotate_left
  · have H1 := Lib.hid (show L = [] by rw [← HL.out]; unfold runFigs; rw [if_neg (by rw [HE.out]; exact hE0)])
    have H2 := Lib.hid (show N = 0 by rw [← HN.out]; unfold runTot; rw [if_neg (by rw [HE.out]; exact hE0)])
    go_wp2
    go_ret3
    exact ⟨_, by rw [H2.out]; rfl, by rw [H1.out]; exact World.ownsRow_nil _ _ _ _, hbw1⟩
  have H1 := Lib.hid (show L = figsL (totalP d s l) d.toNat by rw [← HL.out]; unfold runFigs; rw [if_pos (by rw [HE.out]; exact hE0)])
  have H2 := Lib.hid (show N = totalP d s l by rw [← HN.out]; unfold runTot; rw [if_pos (by rw [HE.out]; exact hE0)])
  obtain ⟨z1, z2, z3⟩ := runsErr_zero (HE.out.trans hE0)
  obtain ⟨hd, hs0, hs1, hs2⟩ := regB_bd z1
  obtain ⟨tb0, tb1, tb2⟩ := totalP_bd d s l hd.2
  have sb := Lib.hid (sum_bd l z3)
  have rb := Lib.hid (runs_bd l z3)
  have htb := turnP_bd d hd.2
  have ht := turn_any d w1 hd.2
  subst hE0
  obtain ⟨T, hT⟩ : ∃ T, turnP d = T := ⟨_, rfl⟩
  have hP : totalP d s l = (s + l.sum) % T := by unfold totalP; rw [hT]
  obtain ⟨n, hn⟩ : ∃ n : Nat, d = n := ⟨d.toNat, by omega⟩
  have hn2 : d.toNat = n := by omega
  rw [hT] at ht htb
  rw [hP] at H1 H2 tb0 tb2
  rw [hn2] at H1
  clear hT hP hn2 z1 z3 tb1 hs1
  have HT := Lib.hid ht
  have HNN := Lib.hid hn
  have hr1' := Lib.hid hr1
  obtain ⟨c0, c1⟩ := regcells hr1
  have hl1 := hl.below hbw1
  clear ht hr1 hn
  go_wp2_with fail
  go_loop [8, 9] (fun t c => ∃ k : Nat, k ≤ l.length ∧ c = .int .i64 k ∧ t = .int .i64 (s + (l.take k).sum)) (fun _ c => l.length - (intOf c).toNat)
  case atStart => exact ⟨0, by omega, rfl, by simp⟩
  case round =>
    obtain ⟨k, hk, rfl, rfl⟩ := hrel
    have b0 := sb.out k hk
    by_cases hlt : k < l.length
    · obtain ⟨b, off, e0, _, hc⟩ := hl1.at (by omega)
      subst e0
      have c0 := hc k hlt
      have b1 := rb.out k hlt
      have hst := sum_take l k hlt
      obtain ⟨x, hx⟩ : ∃ x, l.getD k 0 = x := ⟨_, rfl⟩
      obtain ⟨y, hy⟩ : ∃ y, (l.take k).sum = y := ⟨_, rfl⟩
      rw [hx] at c0 b1 hst
      rw [hy] at b0 hst ⊢
      have HST := Lib.hid hst
      have i0 : (0 : Int) ≤ (k : Int) := by omega
      have i1 : (k : Int) < (l.length : Int) := by omega
      clear hx hy hst hc
      go_wp2
      go_round
      case rel => exact ⟨k + 1, by omega, by go_num, by rw [HST.out]; congr 1; omega⟩
      case measure => simp [intOf]; omega
    · obtain rfl : k = l.length := by omega
      rw [List.take_length] at b0 ⊢
      have i1 : ¬ (l.length : Int) < (l.length : Int) := by omega
      obtain ⟨y, hy⟩ : ∃ y, l.sum = y := ⟨_, rfl⟩
      rw [hy] at b0 H1 H2 tb0 tb2 ⊢
      clear hy
      go_wp2_with fail
      refine HT.out.mono ?_
      rintro e w' ⟨rfl, rfl⟩
      go_wp2_with fail
      refine (refModulo_any _ _ _ (by omega) (by omega)).mono ?_
      rintro e w' ⟨rfl, rfl⟩
      obtain ⟨t, ht⟩ : ∃ t, (s + y) % T = t := ⟨_, rfl⟩
      rw [ht] at H1 H2 tb0 tb2 ⊢
      clear ht
      go_wp2
      go_loopw [10, 11] (fun d i wr => ∃ k : Nat, k ≤ n ∧ i = .int .i64 k ∧ Below w1.heap.size w1 wr ∧ wr.ownsRow w1.heap.size 3 1 d k ((figsL t k).map (Value.int .i64))) (fun _ i _ => n - (intOf i).toNat)
      case atStart => exact ⟨0, by omega, rfl, Below.refl _ _, World.ownsRow_nil _ _ _ _⟩
      case round =>
        obtain ⟨k, hk, rfl, hbel, hown⟩ := hrel
        have hrr := (hbel.block w.heap.size (Array.getElem?_eq_some_iff.1 hr1'.out).1).trans hr1'.out
        obtain ⟨c0, c1⟩ := regcells hrr
        by_cases hlt : k < n
        · have i1 : (k : Int) < d := by rw [HNN.out]; omega
          have hc := refPlace_any t tb0 tb2 k (by have := HNN.out; omega) wr
          have hpb := plc_bd t k
          have hs := figsL_succ t k
          obtain ⟨q, hq⟩ : ∃ q, plc t k = q := ⟨_, rfl⟩
          have hfp : figP q = (q + 500) / 1000 % 10 := rfl
          obtain ⟨F, hF⟩ : ∃ F, (figsL t k).map (Value.int .i64) = F := ⟨_, rfl⟩
          have hs2 : (figsL t (k + 1)).map (Value.int .i64) = F ++ [.int .i64 ((q + 500) / 1000 % 10)] := by rw [hs, List.map_append, hF, hq]; rfl
          rw [hq] at hc hpb
          rw [hF] at hown
          have HS := Lib.hid hs2
          have HCC := Lib.hid hc
          have hws := hbel.size
          have hdl := hown.lt
          clear hs hs2 hq hF hc hfp
          go_wp2_with fail
          refine HCC.out.mono ?_
          rintro e w' ⟨rfl, rfl⟩
          go_wp2_with (at_builtin; refine wpList_append_own_at _ rfl (.tmp 43) (.tmp 50) 24 rfl w1.heap.size 3 i0 (.int .i64 0) 1 8 Try.underlying24 hi hz0 hz1 hz2 rfl (by decide) _ _ _ rfl (hown.alloc _) ⟨wr.heap.size, 0, none⟩ 1 1 [.int .i64 ((q + 500) / 1000 % 10)] rfl rfl (cell_one_new _ _ _) (one_oneCell _) (by unfold maxLen; have := HNN.out; omega) (by have := HNN.out; omega) (by simp; try omega) ?_; intro v1 x1 hd1 hg1 hnil1 hloc1)
          go_roundw
          case rel =>
            refine ⟨k + 1, by omega, by go_num, ?_, ?_⟩
            · exact (hbel.alloc hws _).grown hg1 (by simp; omega) (fun t ht => (hdl t ht).1)
            · rw [HS.out]; exact hd1
          case measure => simp [intOf]; omega
        · obtain rfl : k = n := by omega
          have i1 : ¬ (k : Int) < d := by rw [HNN.out]; omega
          have hbX2 := hbw1.trans (hbel.mono hbw1.size)
          have hv2 := ownsRow_mono' hown hbw1.size
          go_wp2
          go_ret3
          exact ⟨_, by rw [H2.out]; rfl, by rw [H1.out, figsL_len]; exact hv2, hbX2⟩
end Go.Proofs.Ytmcndecmnfbggaa
