/- Contract: Proof, where the lot is valid. -/
import Derived.Test.YtclcconllkfjiaaA15
import Derived.Test.YtclcconllkfjiaaA16
import Derived.Maps.AppendAt
import Derived.Laws.AppendOwn
namespace Go.Proofs.Ytclcconllkfjiaa
set_option linter.unusedSimpArgs false
set_option linter.unusedVariables false
open Go.RowKit

theorem Try.info51 : (Try.prog.info? 51).map (fun i => (i.zero, i.size, i.bytes)) = some (some (.agg #[.int .i64 0, .int .i64 0, .int .i64 0]), 3, 24) := by kernel_rfl
theorem field23 (p q : Int) (w : World) : (Instr.field 23 (.agg #[.int .i64 p, .int .i64 q]) 0).run Try.prog w = .ok (.int .i64 p) w := by kernel_rfl
def flat3 (L : List (Int × Int × Int)) : List Value := L.flatMap fun x => [.int .i64 x.1, .int .i64 x.2.1, .int .i64 x.2.2]
theorem flat3_snoc (L : List (Int × Int × Int)) (x : Int × Int × Int) : flat3 (L ++ [x]) = flat3 L ++ [.int .i64 x.1, .int .i64 x.2.1, .int .i64 x.2.2] := by unfold flat3; rw [List.flatMap_append]; simp
theorem news_three {X : World} {q : Nat} {x y z : Int} {t : TypeId} (h : X.heap[q]? = some (.cells #[.int .i64 x, .int .i64 y, .int .i64 z] t (0, 0))) : ∀ (j : Nat) u, ([.int .i64 x, .int .i64 y, .int .i64 z] : List Value)[j]? = some u → X.cell? ((⟨q, 0, none⟩ : Addr).add j) = some u := by
  obtain ⟨c0, c1, c2⟩ := three_cells h
  intro j u hj
  match j, hj with
  | 0, hj => simp at hj; rw [← hj]; simpa [Addr.add] using c0
  | 1, hj => simp at hj; rw [← hj]; simpa [Addr.add] using c1
  | 2, hj => simp at hj; rw [← hj]; simpa [Addr.add] using c2
theorem three_oneCell (x y z : Int) : ∀ v ∈ ([.int .i64 x, .int .i64 y, .int .i64 z] : List Value), v.oneCell' = true := by
  intro v hv; simp at hv; rcases hv with rfl | rfl | rfl <;> rfl
theorem ownsRow_mono' {w : World} {base base' : Nat} {e : TypeId} {size : Nat} {v : Value} {n : Nat} {xs : List Value} (h : w.ownsRow base e size v n xs) (hb : base' ≤ base) : w.ownsRow base' e size v n xs := by
  obtain ⟨h1, h2 | ⟨g, cap, cur, h3, h4, h5⟩⟩ := h
  · exact ⟨h1, .inl h2⟩
  · exact ⟨h1, .inr ⟨g, cap, cur, h3, by omega, h5⟩⟩
theorem row_below {base e size n : Nat} {w w' : World} {v : Value} {xs : List Value} (h : w.ownsRow base e size v n xs) (hb : Below w.heap.size w w') : w'.ownsRow base e size v n xs := by
  refine ⟨h.1, ?_⟩
  rcases h.2 with h | ⟨g, cap, cur, rfl, g1, g2, g3⟩
  · exact .inl h
  · exact .inr ⟨g, cap, cur, rfl, g1, (hb.block g (Array.getElem?_eq_some_iff.1 g2).1).trans g2, g3⟩
/-- the rows of the proof up to some number of samples -/
def rowsL (n : Nat) (g b m u : Int) (k : Nat) : List (Int × Int × Int) := (List.range k).map fun (s : Nat) => ((s : Int), rowMak n s ⟨true, g, m⟩, rowBuy n s ⟨false, b, u⟩)
theorem rowsL_len (n : Nat) (g b m u : Int) (k : Nat) : (rowsL n g b m u k).length = k := by simp [rowsL]
theorem rowsL_succ (n : Nat) (g b m u : Int) (k : Nat) : rowsL n g b m u (k + 1) = rowsL n g b m u k ++ [((k : Int), rowMak n k ⟨true, g, m⟩, rowBuy n k ⟨false, b, u⟩)] := by unfold rowsL; rw [List.range_succ, List.map_append]; rfl
def proofRows (n : Nat) (g b m u : Int) : List (Int × Int × Int) := rowsL n g b m u ((chooseP n (risksL g b m u)).1 + 1)
/-- a row of rows of this call's own is handed back -/
def RowsRes (w : World) (er : Int) (L : List (Int × Int × Int)) (e : Ending) (w' : World) : Prop := ∃ v, e = .returned (.tuple #[v, .int .i64 er]) ∧ w'.ownsRow w.heap.size 51 3 v L.length (flat3 L) ∧ Below w.heap.size w w'
theorem choose_le (n : Nat) (L : List Rk) : (chooseP n L).1 ≤ n := by
  unfold chooseP
  cases h : (plansL n).find? (goodP n L) with
  | none => exact Nat.le_refl _
  | some x => exact (plansL_in (List.mem_of_find?_eq_some h)).1
set_option maxRecDepth 100000 in
set_option maxHeartbeats 3200000 in
theorem proof_ok (n : Nat) (g b m u : Int) (w : World) (hv : isLotB (n : Nat) g b m u = true) :
    Calls Try.prog 20 #[lotV (n : Nat) g b m u] w (RowsRes w 0 (proofRows n g b m u)) := by
  obtain ⟨⟨n1, n2⟩, ⟨b1, b2⟩, ⟨g1, g2⟩, hm, hu⟩ := isLotB_spec hv
  have hn : n ≤ 50 := by omega
  obtain ⟨i0, hi, hz0, hz1, hz2⟩ := info_parts Try.info51
  obtain ⟨W0, hW0⟩ : ∃ X, X = w.alloc (.cells #[.int .i64 (n : Nat), .int .i64 g, .int .i64 b, .int .i64 m, .int .i64 u] 40) := ⟨_, rfl⟩
  have hb0 : Below w.heap.size w W0 := by rw [hW0]; exact (Below.refl _ _).alloc (Nat.le_refl _) _
  obtain ⟨H, hH⟩ : ∃ H, H = w.heap.size := ⟨_, rfl⟩
  have k0 : W0.heap[H]? = some (.cells #[.int .i64 (n : Nat), .int .i64 g, .int .i64 b, .int .i64 m, .int .i64 u] 40 (0, 0)) := by rw [hW0, hH]; exact alloc_heap _ _
  have hlo := fun W => isLot_any (n : Nat) g b m u W
  rw [hv] at hlo
  have hch := fun T W (h : TriAt W T) => choose_any T n g b m u W h hn g1 (by omega) b2 hm hu
  have hPn := choose_le n (risksL g b m u)
  have hpr : proofRows n g b m u = rowsL n g b m u ((chooseP n (risksL g b m u)).1 + 1) := rfl
  obtain ⟨P, hP⟩ : ∃ P, (chooseP n (risksL g b m u)).1 = P := ⟨_, rfl⟩
  obtain ⟨Q, hQ⟩ : ∃ Q, (chooseP n (risksL g b m u)).2 = Q := ⟨_, rfl⟩
  rw [hP, hQ] at hch
  rw [hP] at hPn hpr
  have hro := fun T W s (h : TriAt W T) (hs : s ≤ n) => row_any T n s g b m u W h hs hn hm hu
  unfold lotV planV at hch
  unfold lotV at hro ⊢
  obtain ⟨c0, c1, c2, c3, c4⟩ := five_cells k0
  have HLO := Lib.hid hlo
  have HCH := Lib.hid hch
  have HRO := Lib.hid hro
  have HPR := Lib.hid hpr
  have HH := Lib.hid hH
  have K0 := Lib.hid k0
  clear hlo hch hP hQ k0 hv hro hpr
  go_enter Try.func20, Try.ntmps20
  go_wp2_with fail
  rw [← hW0, ← hH]
  clear hW0 hH
  refine (HLO.out _).mono ?_
  rintro e W1 ⟨rfl, hb1⟩
  have j0 := (hb1.block _ (Array.getElem?_eq_some_iff.1 K0.out).1).trans K0.out
  have hw1 : Below H w W1 := by rw [HH.out]; exact hb0.trans (hb1.mono hb0.size)
  clear c0 c1 c2 c3 c4 hb0 hb1
  go_wp2_with fail
  refine (newTriangle_any _).mono ?_
  rintro e W2 ⟨T, rfl, -, hT2, hb2⟩
  have hjl := (Array.getElem?_eq_some_iff.1 j0).1
  have hw2 : Below H w W2 := hw1.trans (hb2.mono (by omega))
  have j0 := (hb2.block _ (Array.getElem?_eq_some_iff.1 j0).1).trans j0
  obtain ⟨c0, c1, c2, c3, c4⟩ := five_cells j0
  clear hb2 hw1
  go_wp2_with fail
  refine (HCH.out _ _ hT2).mono ?_
  rintro e W3 ⟨rfl, hb3⟩
  have hjl2 := (Array.getElem?_eq_some_iff.1 j0).1
  have hw3 : Below H w W3 := hw2.trans (hb3.mono (by omega))
  have j0 := (hb3.block _ (Array.getElem?_eq_some_iff.1 j0).1).trans j0
  have hT3 := hT2.below hb3 hT2.lt
  have hjl3 := (Array.getElem?_eq_some_iff.1 j0).1
  have hTl3 := hT3.lt
  clear c0 c1 c2 c3 c4 hb3 hw2 hT2
  obtain ⟨B, hB⟩ : ∃ B, B = W3.heap.size := ⟨_, rfl⟩
  have HB := Lib.hid hB
  rw [← hB] at hjl3 hTl3
  have hBw : H ≤ B := by omega
  clear hB
  have hfd := field23 (P : Nat) (Q : Nat)
  go_wp2_with fail
  go_loopw [5, 16] (fun v i wr => ∃ k : Nat, k ≤ P + 1 ∧ i = .int .i64 k ∧ Below B W3 wr ∧ wr.ownsRow B 51 3 v k (flat3 (rowsL n g b m u k))) (fun _ i _ => P + 1 - (intOf i).toNat)
  case atStart => exact ⟨0, by omega, rfl, Below.refl _ _, World.ownsRow_nil _ _ _ _⟩
  case round =>
    obtain ⟨k, hk, rfl, hbel, hown⟩ := hrel
    have hBsz : B ≤ wr.heap.size := by rw [HB.out]; exact hbel.size
    by_cases hlt : k < P + 1
    · have hlt' : (k : Int) < (P : Int) + 1 := by omega
      have j0r := (hbel.block _ hjl3).trans j0
      have hTr := hT3.below hbel hTl3
      obtain ⟨c0, c1, c2, c3, c4⟩ := five_cells j0r
      have hrow := HRO.out T wr k hTr (by omega)
      have hsn := rowsL_succ n g b m u k
      obtain ⟨Mv, hMv⟩ : ∃ M, rowMak n k ⟨true, g, m⟩ = M := ⟨_, rfl⟩
      obtain ⟨Bv, hBv⟩ : ∃ M, rowBuy n k ⟨false, b, u⟩ = M := ⟨_, rfl⟩
      rw [hMv, hBv] at hrow hsn
      have HROW := Lib.hid hrow
      have HSN := Lib.hid hsn
      clear hrow hsn hMv hBv j0r hTr
      go_wp2_with fail
      refine HROW.out.mono ?_
      rintro e w1 ⟨rfl, hb1⟩
      have hown1 := row_below hown hb1
      have hdl := hown1.lt
      have hbel1 := hbel.trans (hb1.mono hBsz)
      have hB1 : B ≤ w1.heap.size := Nat.le_trans hBsz hb1.size
      have hfl := flat3_snoc (rowsL n g b m u k) ((k : Int), Mv, Bv)
      simp only [] at hfl
      have HFL := Lib.hid hfl
      have hlen1 : k + 1 ≤ maxLen := by unfold maxLen; omega
      have hnews := news_three (alloc_heap w1 (.cells #[.int .i64 (k : Nat), .int .i64 Mv, .int .i64 Bv] 51))
      have HNEWS := Lib.hid hnews
      clear c0 c1 c2 c3 c4 hfl hnews hown hbel hb1
      go_wp2_with (at_builtin; refine wpList_append_own _ rfl _ _ 47 rfl B 51 i0 (.agg #[.int .i64 0, .int .i64 0, .int .i64 0]) 3 24 Try.underlying47 hi hz0 hz1 hz2 rfl (by decide) _ _ _ rfl (hown1.alloc _) ⟨w1.heap.size, 0, none⟩ 1 1 [.int .i64 (k : Nat), .int .i64 Mv, .int .i64 Bv] rfl rfl HNEWS.out (three_oneCell _ _ _) hlen1 (by omega) (by simp; omega) ?_; intro v' X4 hown4 hg4 hnil4)
      go_roundw
      case rel => exact ⟨k + 1, by omega, by go_num, (hbel1.alloc hB1 _).grown hg4 (by simp; omega) (fun t ht => (hdl t ht).1), by rw [HSN.out, HFL.out]; exact hown4⟩
      case measure => simp [intOf]; omega
    · have hkp : k = P + 1 := by omega
      subst hkp
      have hge : ¬ ((P + 1 : Nat) : Int) < (P : Int) + 1 := by omega
      go_wp2
      go_ret2
      exact ⟨_, rfl, by rw [HPR.out, rowsL_len]; exact ownsRow_mono' hown (by rw [← HH.out]; exact hBw), by rw [← HH.out]; exact hw3.trans (hbel.mono hBw)⟩
end Go.Proofs.Ytclcconllkfjiaa
