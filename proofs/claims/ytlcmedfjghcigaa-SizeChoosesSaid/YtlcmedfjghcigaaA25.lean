/- Size: a set that can be open, by bits (the law's open). -/
import Derived.Test.YtlcmedfjghcigaaA24
import Derived.Test.YtlcmedfjghcigaaA21
namespace Go.Proofs.Ytlcmedfjghcigaa
set_option linter.unusedSimpArgs false
set_option linter.unusedVariables false
open Go.RowKit Go.Maps Go.BigFrame

theorem bits_or_i64 (a b : Nat) (ha : a < 1048576) (hb : b < 1048576) : bits BinOp.or IntKind.i64 (a : Int) (b : Int) = ((a ||| b : Nat) : Int) := by
  have hx : a ||| b < 2 ^ 20 := Nat.or_lt_two_pow (by omega) (by omega)
  have h1 : (BitVec.ofInt 64 (a : Int)).toNat = a := by
    rw [BitVec.ofInt_natCast, BitVec.toNat_ofNat]; exact Nat.mod_eq_of_lt (by omega)
  have h2 : (BitVec.ofInt 64 (b : Int)).toNat = b := by
    rw [BitVec.ofInt_natCast, BitVec.toNat_ofNat]; exact Nat.mod_eq_of_lt (by omega)
  show IntKind.i64.wrap ((BitVec.ofInt 64 (a : Int) ||| BitVec.ofInt 64 (b : Int)).toNat : Int) = _
  rw [BitVec.toNat_or, h1, h2]
  exact IntWalk.i64_in _ (by omega)
theorem bits_one_u16 (a : Nat) (ha : a < 65536) : bits BinOp.and IntKind.u16 (a : Int) 1 = ((a % 2 : Nat) : Int) := by
  have h1 : (BitVec.ofInt 16 (a : Int)).toNat = a := by
    rw [BitVec.ofInt_natCast, BitVec.toNat_ofNat]; exact Nat.mod_eq_of_lt (by omega)
  have h2 : (BitVec.ofInt 16 (1 : Int)).toNat = 1 := by decide
  show IntKind.u16.wrap ((BitVec.ofInt 16 (a : Int) &&& BitVec.ofInt 16 (1 : Int)).toNat : Int) = _
  rw [BitVec.toNat_and, h1, h2, Nat.and_one_is_mod]
  have : a % 2 = 0 ∨ a % 2 = 1 := by omega
  rcases this with e | e <;> rw [e] <;> decide
/-- taps taken one after the other, as long as the rules allow it -/
def openUp (rs : List Rl) (b : Nat) : Nat → Nat
  | 0 => 0
  | k + 1 => if hasF b k && openF rs (openUp rs b k ||| 2 ^ k) then openUp rs b k ||| 2 ^ k else openUp rs b k
theorem openUp_lt (rs : List Rl) (b : Nat) : ∀ k, openUp rs b k < 2 ^ k
  | 0 => by simp [openUp]
  | k + 1 => by
    have ih := openUp_lt rs b k
    have hp : (2 : Nat) ^ (k + 1) = 2 ^ k + 2 ^ k := by rw [Nat.pow_succ]; omega
    rw [openUp]
    split
    · exact Nat.or_lt_two_pow (by omega) (by omega)
    · omega
theorem open_zero {h : Hs} (hok : hsOk h = true) : openF h.rl 0 = true := by
  unfold openF
  rw [all_iff]
  intro i hi
  have := (hsOk_iff.1 hok).2.2 i hi
  unfold keepF
  rw [Nat.zero_and, onesN_zero]
  have h2 := this
  unfold ruleOk at h2
  rw [Bool.and_eq_true] at h2
  have := (inF_iff.1 h2.2).1
  simpa using this
theorem openUp_open {h : Hs} (hok : hsOk h = true) (b : Nat) : ∀ k, openF h.rl (openUp h.rl b k) = true
  | 0 => open_zero hok
  | k + 1 => by
    rw [openUp]
    split
    · rename_i q; rw [Bool.and_eq_true] at q; exact q.2
    · exact openUp_open hok b k
def ownF (h : Hs) (b : Nat) : Nat := openUp h.rl b h.tp.length
theorem own_in {h : Hs} (hok : hsOk h = true) (b : Nat) : ownF h b ∈ setsF h := by
  unfold setsF setsUp
  exact List.mem_filter.2 ⟨List.mem_range.2 (openUp_lt _ _ _), openUp_open hok b _⟩
set_option maxRecDepth 100000 in
set_option maxHeartbeats 6400000 in
theorem openL_any (h : Hs) (hok : hsOk h = true) (a1 : Option Addr) (c1 : Nat) (a2 : Option Addr) (c2 : Nat) (b : Nat) (hb : b ≤ 65535) (w : World) (hh : HsAt w h a1 c1 a2 c2) : Calls Try.prog 27 #[hsV h a1 c1 a2 c2, .int .u16 (b : Nat)] w fun e w' => e = .returned (.int .i64 (ownF h b : Nat)) ∧ Below w.heap.size w w' := by
  have mt : h.tp.length ≤ 9223372036854775807 := hh.tp.1
  have h10 := (few_taps hok).2
  obtain ⟨W0, hW0⟩ : ∃ X, X = w.alloc (.cells #[.int .i64 h.head, .int .i64 h.drip, .slice a1 h.tp.length c1, .slice a2 h.rl.length c2] 25) := ⟨_, rfl⟩
  have hal : W0 = al w [(.cells #[.int .i64 h.head, .int .i64 h.drip, .slice a1 h.tp.length c1, .slice a2 h.rl.length c2] 25)] := hW0
  have hb0 : Below w.heap.size w W0 := by rw [hal]; exact al_below w _ (Nat.le_refl _)
  have hs0 : W0.heap.size = w.heap.size + 1 := by rw [hal]; exact al_size w _
  have hr0 : W0.heap[w.heap.size]? = some (.cells #[.int .i64 h.head, .int .i64 h.drip, .slice a1 h.tp.length c1, .slice a2 h.rl.length c2] 25 (0, 0)) := by rw [hal]; exact al_get w _ 0 _ rfl
  obtain ⟨P, hP0⟩ : ∃ x, w.heap.size = x := ⟨_, rfl⟩
  rw [hP0] at hr0 hs0
  clear hal
  have HB := Lib.hid hb0
  have H0 := Lib.hid hr0
  have HH0 := Lib.hid (hh.below hb0)
  obtain ⟨y0, y1, y2, y3⟩ := four_cells hr0
  clear hb0 hr0 hs0 hh
  have EV : hsV h a1 c1 a2 c2 = .agg #[.int .i64 h.head, .int .i64 h.drip, .slice a1 h.tp.length c1, .slice a2 h.rl.length c2] := rfl
  have HEV := Lib.hid EV
  have hown : ownF h b = openUp h.rl b h.tp.length := rfl
  rw [EV, hown]
  clear EV hown
  go_enter Try.func27, Try.ntmps27
  go_upto_region 1 with fail
  rw [← hW0]
  clear hW0 hP0
  go_wp2_with fail
  clear y0 y1 y2 y3
  go_loopw [5, 10] (fun s i wr => ∃ j : Nat, j ≤ h.tp.length ∧ i = .int .i64 j ∧ s = .int .i64 (openUp h.rl b j : Nat) ∧ Below w.heap.size w wr ∧ wr.heap[P]? = some (.cells #[.int .i64 h.head, .int .i64 h.drip, .slice a1 h.tp.length c1, .slice a2 h.rl.length c2] 25 (0, 0)) ∧ HsAt wr h a1 c1 a2 c2) (fun _ i _ => h.tp.length - (intOf i).toNat)
  case atStart => exact ⟨0, by omega, rfl, rfl, HB.out, H0.out, HH0.out⟩
  case round =>
    obtain ⟨j, hj, rfl, rfl, hbw, hp, hh⟩ := hrel
    have HBW := Lib.hid hbw
    have HP := Lib.hid hp
    have HH := Lib.hid hh
    obtain ⟨y0, y1, y2, y3⟩ := four_cells hp
    by_cases hlt : j < h.tp.length
    · have hsl := openUp_lt h.rl b j
      have hp2 : (2 : Nat) ^ j ≤ 512 := Nat.pow_le_pow_right (n := 2) (by decide) (show j ≤ 9 by omega)
      have hpn : (2 : Nat) ^ j < 2 ^ h.tp.length := Nat.pow_lt_pow_right (by decide) hlt
      have hst : openUp h.rl b (j + 1) = if hasF b j && openF h.rl (openUp h.rl b j ||| 2 ^ j) then openUp h.rl b j ||| 2 ^ j else openUp h.rl b j := rfl
      have hm : min j 16 = j := by omega
      have hm2 : min j 64 = j := by omega
      have ij0 : (0 : Int) ≤ (j : Int) := by omega
      have ij1 : (j : Int) < (h.tp.length : Int) := by omega
      have he : bits BinOp.and IntKind.u16 ((b : Int) / 2 ^ j) 1 = ((b / 2 ^ j % 2 : Nat) : Int) := by
        have := bits_one_u16 (b / 2 ^ j) (Nat.lt_of_le_of_lt (Nat.div_le_self _ _) (by omega))
        rw [← this]; rfl
      have hab : hasF b j = decide (b / 2 ^ j % 2 = 1) := rfl
      have hshl : (2 : Int) ^ j = ((2 ^ j : Nat) : Int) := by simp
      obtain ⟨m, hmm⟩ : ∃ m, b / 2 ^ j % 2 = m := ⟨_, rfl⟩
      rw [hmm] at he hab
      have hm01 : m = 0 ∨ m = 1 := by omega
      obtain ⟨s, hs⟩ : ∃ s, openUp h.rl b j = s := ⟨_, rfl⟩
      obtain ⟨q, hq⟩ : ∃ q, 2 ^ j = q := ⟨_, rfl⟩
      rw [hs, hq] at hst
      rw [hs, hq] at hsl
      rw [hq] at hp2 hpn hshl
      rw [hshl] at he
      have hor := bits_or_i64 s q (by omega) (by omega)
      have hsn : s ||| q < 2 ^ h.tp.length := Nat.or_lt_two_pow (by omega) hpn
      have ht10 : 2 ^ h.tp.length ≤ 1024 := (pow_table h10).2
      obtain ⟨t, ht⟩ : ∃ t, s ||| q = t := ⟨_, rfl⟩
      rw [ht] at hst hor hsn
      have w1 : IntKind.i64.wrap (q : Int) = (q : Int) := IntWalk.i64_in _ (by omega)
      have w2 : IntKind.i64.wrap (t : Int) = (t : Int) := IntWalk.i64_in _ (by omega)
      have w3 : IntKind.i64.wrap ((j : Int) + 1) = (j : Int) + 1 := IntWalk.i64_in _ (by omega)
      have KO := fun X => Open_any h hok a1 c1 a2 c2 t hsn X
      obtain ⟨O, hO⟩ : ∃ O, openF h.rl t = O := ⟨_, rfl⟩
      rw [hO] at hst
      simp only [hO] at KO
      rw [HEV.out] at KO
      have k0 := cell_regrown y0
      have k1 := cell_regrown y1
      have k2 := cell_regrown y2
      have k3 := cell_regrown y3
      have C1 := fun d os => Calls.regrown_of (w := wr) (d := d) (os := os) (KO _ (hh.below (below_regrown wr d os)))
      have HSS := Lib.hid hs
      have HST := Lib.hid hst
      have HAB := Lib.hid hab
      clear hst hab hmm hq ht hO KO hp hh hbw hp2 hpn hsn hsl
      rw [hs]
      clear hs
      rcases hm01 with rfl | rfl
      · have hnx : openUp h.rl b (j + 1) = s := by rw [HST.out, HAB.out]; rfl
        have HNX := Lib.hid hnx
        clear hnx
        go_upto_region 5 with fail
        clear y0 y1 y2 y3
        refine wp_region_quiet_below (by kernel_rfl) (by kernel_rfl) ?_
        repeat (go_big_quiet_step (first | with_reducible exact C1 _ _))
        refine wpQuiet_nil ?_
        intro Y hw'
        have hbr : Below wr.heap.size wr Y := by obtain ⟨⟨dq, osq⟩, hw''⟩ := hw'; rw [hw'']; exact below_regrown wr dq osq
        clear hw' C1 k0 k1 k2 k3
        have HBR := Lib.hid hbr
        clear hbr
        go_wp2
        go_roundw
        case rel => exact ⟨j + 1, by omega, by go_num, by rw [HNX.out], HBW.out.trans (HBR.out.mono HBW.out.size), box_step (w0 := w) HP.out HBR.out, HH.out.below HBR.out⟩
        case measure => simp [intOf]; omega
      · cases O with
        | false =>
          have hnx : openUp h.rl b (j + 1) = s := by rw [HST.out, HAB.out]; rfl
          have HNX := Lib.hid hnx
          clear hnx
          go_upto_region 5 with fail
          clear y0 y1 y2 y3
          refine wp_region_quiet_below (by kernel_rfl) (by kernel_rfl) ?_
          repeat (go_big_quiet_step (first | with_reducible exact C1 _ _))
          refine wpQuiet_nil ?_
          intro Y hw'
          have hbr : Below wr.heap.size wr Y := by obtain ⟨⟨dq, osq⟩, hw''⟩ := hw'; rw [hw'']; exact below_regrown wr dq osq
          clear hw' C1 k0 k1 k2 k3
          have HBR := Lib.hid hbr
          clear hbr
          go_wp2
          go_roundw
          case rel => exact ⟨j + 1, by omega, by go_num, by rw [HNX.out], HBW.out.trans (HBR.out.mono HBW.out.size), box_step (w0 := w) HP.out HBR.out, HH.out.below HBR.out⟩
          case measure => simp [intOf]; omega
        | true =>
          have hnx : openUp h.rl b (j + 1) = t := by rw [HST.out, HAB.out]; rfl
          have HNX := Lib.hid hnx
          clear hnx
          go_upto_region 5 with fail
          clear y0 y1 y2 y3
          refine wp_region_quiet_below (by kernel_rfl) (by kernel_rfl) ?_
          repeat (go_big_quiet_step (first | with_reducible exact C1 _ _))
          refine wpQuiet_nil ?_
          intro Y hw'
          have hbr : Below wr.heap.size wr Y := by obtain ⟨⟨dq, osq⟩, hw''⟩ := hw'; rw [hw'']; exact below_regrown wr dq osq
          clear hw' C1 k0 k1 k2 k3
          have HBR := Lib.hid hbr
          clear hbr
          go_wp2
          go_roundw
          case rel => exact ⟨j + 1, by omega, by go_num, by rw [HNX.out], HBW.out.trans (HBR.out.mono HBW.out.size), box_step (w0 := w) HP.out HBR.out, HH.out.below HBR.out⟩
          case measure => simp [intOf]; omega
    · have hjl : j = h.tp.length := by omega
      have i1 : ¬ (j : Int) < (h.tp.length : Int) := by omega
      subst hjl
      clear hp hh hbw
      go_wp2
      go_ret
      exact ⟨rfl, HBW.out⟩
end Go.Proofs.Ytlcmedfjghcigaa
