/- Sound: the reference's Counts, of. -/
import Derived.Test.YtdbjifpnbghbaaaR1
import Derived.Test.YtdbjifpnbghbaaaG4
namespace Go.Proofs.Ytdbjifpnbghbaaa
set_option linter.unusedSimpArgs false
set_option linter.unusedVariables false
open Go.RowKit Go.Maps Go.BigFrame Go.ChangeShapes Go.WideShapes Go.ChangeAt

def inC (n : Int) (_ : Nat) : Int := n
/-- the counts of the first k pipes -/
def cntF (l : List Pi) (a b t : Int) (k : Nat) : List Int := (List.range k).map (shareF l a b (nearF (a, b) t))
theorem cnt_len (l : List Pi) (a b t : Int) (k : Nat) : (cntF l a b t k).length = k := by simp [cntF]
theorem cnt_snoc (l : List Pi) (a b t : Int) (k : Nat) : cntF l a b t (k + 1) = cntF l a b t k ++ [shareF l a b (nearF (a, b) t) k] := by simp [cntF, List.range_succ]
theorem cnt_at (l : List Pi) (a b t : Int) {i k : Nat} (h : i < k) : (cntF l a b t k).getD i default = shareF l a b (nearF (a, b) t) i := by
  simp [cntF, List.getD, h]
theorem share_common {l : List Pi} (hok : lineOk l = true) {i : Nat} (hi : i < l.length) {a b p : Int} (h1 : a ≤ p) (h2 : p ≤ b) : commonF l i a p - commonF l i p b = shareF l a b p i := by
  have hp := pipe_in hok hi
  have hs : posF l (i + 1) = posF l i + (l.getD i default).len := rfl
  unfold commonF shareF nearF
  simp only []
  omega
theorem Try.info3 : (Try.prog.info? 3).map (fun i => (i.zero, i.size, i.bytes)) = some (some (.int .i64 0), 1, 8) := by kernel_rfl
theorem und54 : Try.prog.underlying 54 = some (.slice 3) := by kernel_rfl
set_option maxRecDepth 100000 in
set_option maxHeartbeats 3200000 in
theorem counts_any (l : List Pi) (hok : lineOk l = true) (v : Value) (a b t : Int) (hab : a ≤ b) (ha : -1000000000 ≤ a) (hb : b ≤ 1000000000) (w : World) (hl : TabAt 3 piC w v l) : Calls Try.prog 31 #[v, .int .i64 a, .int .i64 b, .int .i64 t] w fun e w' => ∃ v', e = .returned v' ∧ w'.ownsRow w.heap.size 3 1 v' l.length (flatK 1 inC (cntF l a b t l.length)) ∧ Below w.heap.size w w' := by
  obtain ⟨a0, c, rfl⟩ := hl.shape
  have h8 := line_few hok
  obtain ⟨i0, hi, hz0, hz1, hz2⟩ := info_parts Try.info3
  have HL := Lib.hid hl
  have hn := near_in (s := (a, b)) t hab
  simp only [] at hn
  obtain ⟨p, hp⟩ : ∃ p, nearF (a, b) t = p := ⟨_, rfl⟩
  have hpd : min (max t a) b = p := hp
  rw [hp] at hn
  have HP := Lib.hid hp
  have KC := Lib.hid (fun (i : Nat) (hi : i < l.length) (x y : Int) (hx : -1000000000 ≤ x ∧ x ≤ 1000000000) (hy : -1000000000 ≤ y ∧ y ≤ 1000000000) (w1 : World) (h : TabAt 3 piC w1 (.slice a0 l.length c) l) => common_any l hok (.slice a0 l.length c) i hi x y (by omega) (by omega) w1 h)
  have HO := Lib.hid hok
  clear hl hp hok
  go_enter Try.func31, Try.ntmps31
  go_wp2_with fail
  clear hpd
  go_loopw [10, 11] (fun o i wr => ∃ k : Nat, k ≤ l.length ∧ i = .int .i64 k ∧ Below w.heap.size w wr ∧ wr.ownsRow w.heap.size 3 1 o k (flatK 1 inC (cntF l a b t k))) (fun _ i _ => l.length - (intOf i).toNat)
  case atStart => exact ⟨0, by omega, rfl, Below.refl _ _, World.ownsRow_nil _ _ _ _⟩
  case round =>
    obtain ⟨k, hk, rfl, hbw, hd⟩ := hrel
    by_cases hlt : k < l.length
    · have hl2 := HL.out.below hbw
      have hc1 := KC.out k hlt a p (by omega) (by omega) wr hl2
      have hc2 := KC.out k hlt p b (by omega) (by omega) wr hl2
      have hsh := share_common HO.out hlt hn.1 hn.2
      have hsi := share_in HO.out hlt a b p
      have hpk := pos_small HO.out (i := k) (by omega)
      have hpk1 := pos_small HO.out (i := k + 1) (by omega)
      have hcm1 : 0 ≤ commonF l k a p ∧ commonF l k a p ≤ 800000 := by unfold commonF; omega
      have hcm2 : 0 ≤ commonF l k p b ∧ commonF l k p b ≤ 800000 := by unfold commonF; omega
      have hsn := cnt_snoc l a b t k
      rw [HP.out] at hsn
      obtain ⟨c1, hc1e⟩ : ∃ x, commonF l k a p = x := ⟨_, rfl⟩
      obtain ⟨c2, hc2e⟩ : ∃ x, commonF l k p b = x := ⟨_, rfl⟩
      obtain ⟨sh, hse⟩ : ∃ x, shareF l a b p k = x := ⟨_, rfl⟩
      rw [hc1e] at hc1 hsh hcm1
      rw [hc2e] at hc2 hsh hcm2
      rw [hse] at hsh hsn
      have w1 : IntKind.i64.wrap (c1 - c2) = sh := by rw [← hsh]; exact IntWalk.i64_in _ (by omega)
      have w2 : IntKind.i64.wrap ((k : Int) + 1) = (k : Int) + 1 := IntWalk.i64_in _ (by omega)
      have ij1 : (k : Int) < (l.length : Int) := Int.ofNat_lt.2 hlt
      have HC1 := Lib.hid hc1
      have HC2 := Lib.hid hc2
      have G1 := Lib.hid (show flatK 1 inC (cntF l a b t k) ++ [.int .i64 sh] = flatK 1 inC (cntF l a b t (k + 1)) by rw [hsn, flat_snoc]; rfl)
      have HBW := Lib.hid hbw
      have hws := hbw.size
      have hdl := hd.lt
      generalize flatK 1 inC (cntF l a b t k) = L1 at *
      clear hl2 hc1 hc2 hsh hsi hpk hpk1 hcm1 hcm2 hsn hc1e hc2e hse hbw
      go_wp2_with (first
        | (go_at_call 52; (with_reducible refine HC1.out.mono ?_); rintro e w3 ⟨rfl, rfl⟩)
        | (go_at_call 52; (with_reducible refine HC2.out.mono ?_); rintro e w4 ⟨rfl, rfl⟩)
        | (at_builtin; refine wpList_append_own_at _ rfl (.tmp 23) (.tmp 35) 54 rfl w.heap.size 3 i0 (.int .i64 0) 1 8 und54 hi hz0 hz1 hz2 rfl (by decide) _ _ _ rfl (hd.alloc _) ⟨_, 0, none⟩ 1 1 [.int .i64 sh] rfl rfl (cell_one_new _ _ _) (ints_oneCell .i64 [sh]) (by unfold maxLen; omega) (by omega) (by simp; try omega) ?_; intro v1 w5 hd1 hg1 hnil1 hloc1))
      go_roundw
      case rel =>
        refine ⟨k + 1, by omega, by go_num, ?_, ?_⟩
        · exact (HBW.out.alloc hws _).grown hg1 (by simp; omega) (fun t ht => (hdl t ht).1)
        · rw [← G1.out]; exact hd1
      case measure => simp [intOf]; omega
    · have i1 : ¬ (k : Int) < (l.length : Int) := by omega
      have hkl : k = l.length := by omega
      subst hkl
      have HD := Lib.hid hd
      have HBW := Lib.hid hbw
      clear hd hbw
      go_wp2
      go_ret
      exact ⟨_, rfl, HD.out, HBW.out⟩
end Go.Proofs.Ytdbjifpnbghbaaa
