/- LotOwns: its walk. -/
import Derived.Test.YtclcconllkfjiaaA21
import Derived.Laws.AppendOwnNone
namespace Go.Proofs.Ytclcconllkfjiaa
set_option linter.unusedSimpArgs false
set_option linter.unusedVariables false
open Go.RowKit

theorem proofL_len (n g b m u : Int) : (proofL n g b m u).length ≤ 51 := by
  unfold proofL
  by_cases h : isLotB n g b m u = true
  · rw [if_pos h]
    obtain ⟨⟨n1, n2⟩, _⟩ := isLotB_spec h
    unfold proofRows
    rw [rowsL_len]
    have := choose_le n.toNat (risksL g b m u)
    omega
  · rw [if_neg h]; simp
theorem flat3_one (L : List (Int × Int × Int)) : ∀ v ∈ flat3 L, v.oneCell' = true := by
  intro v hv
  unfold flat3 at hv
  obtain ⟨x, _, hx⟩ := List.mem_flatMap.1 hv
  exact three_oneCell _ _ _ v hx
theorem set_block {X : World} {g : Nat} {cs : Array Value} {t : TypeId} (h : X.heap[g]? = some (.cells cs t (0, 0))) (o : Nat) (v : Value) : ∃ cs', (X.setCell ⟨g, o, none⟩ v).heap[g]? = some (.cells cs' t (0, 0)) ∧ cs'.size = cs.size := by
  obtain ⟨hlt, hk⟩ := Array.getElem?_eq_some_iff.1 h
  show ∃ cs', (X.heap.modify g _)[g]? = _ ∧ _
  rw [Array.getElem?_eq_getElem (by rw [Array.size_modify]; exact hlt), Array.getElem_modify_self, hk]
  exact ⟨_, rfl, by simp⟩
/-- the rows' block, whatever is in it -/
def SomeCells (X : World) (g k : Nat) : Prop := ∃ cs, X.heap[g]? = some (.cells cs 51 (0, 0)) ∧ cs.size = k
set_option maxRecDepth 100000 in
set_option maxHeartbeats 6400000 in
theorem owns_any (n g b m u : Int) (w : World) : Calls Try.prog 8 #[lotV n g b m u] w fun e w' => e = .returned (.bool true) ∧ Below w.heap.size w w' := by
  obtain ⟨i0, hi, hz0, hz1, hz2⟩ := info_parts Try.info51
  obtain ⟨W0, hW0⟩ : ∃ X, X = w.alloc (.cells #[.int .i64 n, .int .i64 g, .int .i64 b, .int .i64 m, .int .i64 u] 40) := ⟨_, rfl⟩
  have hb0 : Below w.heap.size w W0 := by rw [hW0]; exact (Below.refl _ _).alloc (Nat.le_refl _) _
  obtain ⟨H, hH⟩ : ∃ H, H = w.heap.size := ⟨_, rfl⟩
  have k0 : W0.heap[H]? = some (.cells #[.int .i64 n, .int .i64 g, .int .i64 b, .int .i64 m, .int .i64 u] 40 (0, 0)) := by rw [hW0, hH]; exact alloc_heap _ _
  have hLl := proofL_len n g b m u
  have hpf := fun W => proof_any n g b m u W
  obtain ⟨L, hL⟩ : ∃ L, proofL n g b m u = L := ⟨_, rfl⟩
  obtain ⟨er, her⟩ : ∃ er, proofE n g b m u = er := ⟨_, rfl⟩
  rw [hL, her] at hpf
  rw [hL] at hLl
  unfold lotV at hpf ⊢
  obtain ⟨c0, c1, c2, c3, c4⟩ := five_cells k0
  have HPF := Lib.hid hpf
  have HH := Lib.hid hH
  have K0 := Lib.hid k0
  clear hpf hL her k0
  by_cases hbig : 24 < n ∧ n ≤ 50
  · obtain ⟨hg1, hg2⟩ := hbig
    go_enter Try.func8, Try.ntmps8
    go_wp2_with fail
    rw [← hW0]
    clear hW0
    refine (alive_any _).mono ?_
    rintro e w1 ⟨rfl, hb1⟩
    go_wp2
    go_ret
    exact ⟨rfl, hb0.trans (hb1.mono hb0.size)⟩
  · have hgrd : (24 < n ∧ ¬ n ≤ 50) ∨ n ≤ 24 := by omega
    have hw0 : Below H w W0 := by rw [HH.out]; exact hb0
    have hHl := (Array.getElem?_eq_some_iff.1 K0.out).1
    clear hbig hb0
    rcases hgrd with ⟨q1, q2⟩ | q1
    all_goals
      go_enter Try.func8, Try.ntmps8
      go_wp2_with fail
      rw [← hW0, ← hH]
      clear hW0 hH
      refine (HPF.out _).mono ?_
      rintro e w1 ⟨v, rfl, hown1, hb1⟩
      clear c0 c1 c2 c3 c4
      have j0 := (hb1.block _ hHl).trans K0.out
      have J0 := Lib.hid j0
      clear j0
      have hHw : H ≤ w.heap.size := by rw [HH.out]; exact Nat.le_refl _
      have hBw1 : Below H w w1 := hw0.trans (hb1.mono (by omega))
      have hHw1 : H < w1.heap.size := (Array.getElem?_eq_some_iff.1 J0.out).1
      have OWN := Lib.hid hown1
      rcases hown1.2 with ⟨rfl, hl0⟩ | ⟨gb, cap, cur, rfl, g1, g2, g3⟩
      · have hLe : L = [] := List.length_eq_zero_iff.1 hl0
        subst hLe
        have hcop := World.ownsRow_lit (base := w1.heap.size) (e := 51) (size := 3) w1 #[] 0 (by omega) (by unfold maxLen; omega) rfl
        have hBr := hBw1.alloc (by omega) (.cells #[] 51)
        have hj1 : (w1.alloc (.cells #[] 51)).heap[H]? = _ := (Below.heap_alloc _ _ _ hHw1).trans J0.out
        clear hl0 hown1
        go_wp2_with (at_builtin; refine wpList_append_own_none rfl _ _ 47 rfl w1.heap.size 51 i0 3 Try.underlying47 hi _ _ _ rfl hcop rfl ?_)
        refine wp_loop_rounds 1 ?_
        rw [rounds_succ]
        have hcop : (w1.alloc (.cells #[] 51)).ownsRow w1.heap.size 51 3 (.slice (some ⟨w1.heap.size, 0, none⟩) 0 0) (List.length ([] : List (Int × Int × Int))) (flat3 []) := hcop
        obtain ⟨c0, c1, c2, c3, c4⟩ := five_cells hj1
        go_wp2_with fail
        refine (HPF.out _).mono ?_
        rintro e w5 ⟨v2, rfl, hown5, hb5⟩
        have hR1 := rowsAt_of_own hown5
        have hR2 := rowsAt_of_own (row_below hcop hb5)
        have hB5 := hBr.trans (hb5.mono (Nat.le_trans hHw hBr.size))
        clear c0 c1 c2 c3 c4 hown5 hb5 hcop hBr
        go_wp2_with fail
        refine (rows_eq _ _ _ _ hR1 hR2).mono ?_
        rintro e w6 ⟨rfl, hb6⟩
        have hB6 := hB5.trans (hb6.mono (Nat.le_trans hHw hB5.size))
        clear hR1 hR2 hb6 hB5
        go_wp2_with fail
        refine (alive_any _).mono ?_
        rintro e w7 ⟨rfl, hb7⟩
        go_wp2
        go_ret
        exact ⟨rfl, by rw [← HH.out]; exact hB6.trans (hb7.mono (Nat.le_trans hHw hB6.size))⟩
      · have hgl : gb < w1.heap.size := (Array.getElem?_eq_some_iff.1 g2).1
        have hcop0 := World.ownsRow_lit (base := w1.heap.size) (e := 51) (size := 3) w1 #[] 0 (by omega) (by unfold maxLen; omega) rfl
        have hsrc := OWN.out.alloc (.cells #[] 51)
        have hB2 := hBw1.alloc (by omega) (.cells #[] 51)
        have HSRC := Lib.hid (hsrc.cells (g := gb) rfl)
        have hj1 : (w1.alloc (.cells #[] 51)).heap[H]? = _ := (Below.heap_alloc _ _ _ hHw1).trans J0.out
        have hll : (flat3 L).length = L.length * 3 := flat3_length L
        have hmx : 0 + L.length ≤ maxLen := by unfold maxLen; omega
        have hby : (0 + L.length) * 24 ≤ 140737488355328 := by omega
        have hgH : H < gb := by omega
        clear hown1 g2 g3
        have HLL := Lib.hid hll
        clear hll
        go_wp2_with (at_builtin; refine wpList_append_own _ rfl _ _ 47 rfl w1.heap.size 51 i0 (.agg #[.int .i64 0, .int .i64 0, .int .i64 0]) 3 24 Try.underlying47 hi hz0 hz1 hz2 rfl (by decide) _ _ _ rfl hcop0 ⟨gb, 0, none⟩ L.length cap (flat3 L) rfl HLL.out HSRC.out (flat3_one L) hmx hby (by simp) ?_; intro v' X2 hcop1 hg2 hnil2)
        have hg2 : (w1.alloc (.cells #[] 51)).grownBy X2 (some w1.heap.size) := hg2
        have hcop2 : X2.ownsRow w1.heap.size 51 3 v' L.length (flat3 L) := by simpa using hcop1
        have hown2 := hsrc.kept hg2 (.inr (fun e => by have e1 : gb = w1.heap.size := Option.some.inj e; omega))
        have hj2 := (hg2.block _ (by simp; omega) (fun e => absurd (Option.some.inj e) (by omega))).trans hj1
        have hBX := hB2.grown hg2 (by simp; omega) (fun k e => by have := Option.some.inj e; omega)
        have hXs := hg2.size
        have hXl : w1.heap.size < X2.heap.size := by simp at hXs; omega
        obtain ⟨Z, hZ⟩ : ∃ Z, Z = w1.heap.size := ⟨_, rfl⟩
        rw [← hZ] at hcop2 hgl hXl hHw1
        have HL := Lib.hid hLl
        obtain ⟨m, hm⟩ : ∃ m, L.length = m := ⟨_, rfl⟩
        have HM := Lib.hid hm
        have hm51 : m ≤ 51 := by omega
        clear hcop1 hnil2 hsrc hcop0 hg2 hB2 hj1 hmx hby hXs hZ hLl
        rw [hm] at hown2 ⊢
        clear hm
        go_loopw [28] (fun i wr => ∃ k : Nat, k ≤ m ∧ i = .int .i64 k ∧ (∃ xs, wr.ownsRow W0.heap.size 51 3 (.slice (some ⟨gb, 0, none⟩) m cap) m xs) ∧ X2.grownBy wr (some gb)) (fun i _ => m - (intOf i).toNat)
        case atStart => exact ⟨0, by omega, rfl, ⟨_, hown2⟩, World.grownBy.refl _ _⟩
        case round =>
          obtain ⟨k, hk, rfl, ⟨xs, howr⟩, hgr⟩ := hrel
          by_cases hlt : k < m
          · have hc := howr.cellAt (k * 3) (by omega)
            have hf := howr.frozenAt (k * 3)
            have hxl := howr.1
            rw [List.getElem?_eq_getElem (by omega)] at hc
            obtain ⟨uv, huv⟩ : ∃ uv, xs[k * 3]'(by omega) = uv := ⟨_, rfl⟩
            rw [huv] at hc
            clear huv hxl
            obtain ⟨hst, hst2⟩ := howr.stored (k * 3) (.int .i64 (-1))
            have HST := Lib.hid hst
            have HST2 := Lib.hid hst2
            clear hst hst2
            go_wp2_with fail
            go_roundw
            case rel => exact ⟨k + 1, by omega, by go_num, ⟨_, HST.out⟩, hgr.trans HST2.out⟩
            case measure => simp [intOf]; omega
          · have hkm : k = m := by omega
            subst hkm
            have hge : ¬ ((k : Int) < (k : Int)) := by omega
            have hcop : wr.ownsRow Z 51 3 v' L.length (flat3 L) := hcop2.kept hgr (.inr (fun e => by have := (hcop2.lt _ e).1; omega))
            have hBr := hBX.grown hgr (by omega) (fun t e => by simp at e; omega)
            obtain ⟨c0, c1, c2, c3, c4⟩ := five_cells ((hgr.block _ (by omega) (by simp; omega)).trans hj2)
            go_wp2_with fail
            refine (HPF.out _).mono ?_
            rintro e w5 ⟨v2, rfl, hown5, hb5⟩
            have hR1 := rowsAt_of_own hown5
            have hR2 := rowsAt_of_own (row_below hcop hb5)
            have hB5 := hBr.trans (hb5.mono (Nat.le_trans hHw hBr.size))
            clear c0 c1 c2 c3 c4 hown5 hb5 hcop hBr
            go_wp2_with fail
            refine (rows_eq _ _ _ _ hR1 hR2).mono ?_
            rintro e w6 ⟨rfl, hb6⟩
            have hB6 := hB5.trans (hb6.mono (Nat.le_trans hHw hB5.size))
            clear hR1 hR2 hb6 hB5
            go_wp2_with fail
            refine (alive_any _).mono ?_
            rintro e w7 ⟨rfl, hb7⟩
            go_wp2
            go_ret
            exact ⟨rfl, by rw [← HH.out]; exact hB6.trans (hb7.mono (Nat.le_trans hHw hB6.size))⟩
end Go.Proofs.Ytclcconllkfjiaa
