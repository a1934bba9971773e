/- Contract: join. -/
import Derived.Test.YtmcndecmnfbggaaD25
import Derived.Deep.DeepCutAuto
import Derived.Outline
namespace Go.Proofs.Ytmcndecmnfbggaa
set_option linter.unusedSimpArgs false
set_option linter.unusedVariables false
open Go.RowKit

def joinP (L : List (Int × Int)) : List (Int × Int) := L.foldl joinS []
theorem joinP_take (L : List (Int × Int)) (k : Nat) (h : k < L.length) : joinP (L.take (k + 1)) = joinS (joinP (L.take k)) (L.getD k (0, 0)) := by
  unfold joinP
  rw [List.take_succ_eq_append_getElem h, List.foldl_append]; simp [List.getD, h]
theorem joinS_len (o : List (Int × Int)) (x : Int × Int) : (joinS o x).length ≤ o.length + 1 := by
  rcases List.eq_nil_or_concat o with rfl | ⟨o', l, rfl⟩
  · simp [joinS]
  · unfold joinS
    simp only [List.concat_eq_append, List.getLast?_append, List.getLast?_singleton, Option.some_or, List.dropLast_concat]
    split <;> simp
theorem joinP_len (L : List (Int × Int)) : ∀ k, k ≤ L.length → (joinP (L.take k)).length ≤ k
  | 0, _ => by simp [joinP]
  | k + 1, h => by rw [joinP_take L k (by omega)]; have := joinS_len (joinP (L.take k)) (L.getD k (0, 0)); have := joinP_len L k (by omega); omega
theorem set_take (cur : List Value) (Q : List Value) (a b x y : Value) (n : Nat) (h : cur.take n = Q ++ [x, y]) (hn : n = Q.length + 2) : ((cur.set Q.length a).set (Q.length + 1) b).take n = Q ++ [a, b] := by
  rw [List.take_set, List.take_set, h]
  simp [List.set_append]
theorem own_set {X : World} {base g cap : Nat} {Q : List (Int × Int)} {l : Int × Int} (h : X.ownsRow base 45 2 (.slice (some ⟨g, 0, none⟩) (Q.length + 1) cap) (Q.length + 1) (flatS (Q ++ [l]))) (a b : Int) :
    ((X.setCell ⟨g, 0 + 2 * Q.length, none⟩ (.int .i64 a)).setCell ⟨g, 0 + 2 * Q.length + 1, none⟩ (.int .i64 b)).ownsRow base 45 2 (.slice (some ⟨g, 0, none⟩) (Q.length + 1) cap) (Q.length + 1) (flatS (Q ++ [(a, b)])) := by
  rcases h with ⟨hl, ⟨e, _⟩ | ⟨g', cap', cur, e, h2, h3, h4, h5, h6, h7⟩⟩
  · cases e
  · simp only [Value.slice.injEq, Option.some.injEq, Addr.mk.injEq, and_true, true_and] at e
    obtain ⟨rfl, rfl⟩ := e
    refine ⟨by rw [flatS_len]; simp, .inr ⟨g, cap, (cur.setIfInBounds (0 + 2 * Q.length) (.int .i64 a)).setIfInBounds (0 + 2 * Q.length + 1) (.int .i64 b), rfl, h2, ?_, h4, h5, by simp [h6], ?_⟩⟩
    · obtain ⟨hlt, hk⟩ := Array.getElem?_eq_some_iff.1 h3
      have h1 : (X.setCell ⟨g, 0 + 2 * Q.length, none⟩ (.int .i64 a)).heap[g]? = some (.cells (cur.setIfInBounds (0 + 2 * Q.length) (.int .i64 a)) 45 (0, 0)) := by
        show (X.heap.modify g _)[g]? = _
        rw [Array.getElem?_eq_getElem (by rw [Array.size_modify]; exact hlt), Array.getElem_modify_self, hk]; rfl
      obtain ⟨hlt2, hk2⟩ := Array.getElem?_eq_some_iff.1 h1
      show ((X.setCell ⟨g, 0 + 2 * Q.length, none⟩ (.int .i64 a)).heap.modify g _)[g]? = _
      rw [Array.getElem?_eq_getElem (by rw [Array.size_modify]; exact hlt2), Array.getElem_modify_self, hk2]; rfl
    · rw [flatS_snoc] at h7 ⊢
      have hq := flatS_len Q
      have := set_take cur.toList (flatS Q) (.int .i64 a) (.int .i64 b) _ _ ((Q.length + 1) * 2) h7 (by omega)
      rw [hq, show Q.length * 2 = 0 + 2 * Q.length by omega] at this
      simpa using this
theorem own_move {X Y : World} {base e size n g cap : Nat} {xs : List Value} (h : X.ownsRow base e size (.slice (some ⟨g, 0, none⟩) n cap) n xs) (hY : Y.heap[g]? = X.heap[g]?) : Y.ownsRow base e size (.slice (some ⟨g, 0, none⟩) n cap) n xs := by
  rcases h with ⟨hl, ⟨e1, _⟩ | ⟨g', cap', cur, e1, h2, h3, h4⟩⟩
  · cases e1
  · have e2 := e1
    simp only [Value.slice.injEq, Option.some.injEq, Addr.mk.injEq, and_true, true_and] at e2
    obtain ⟨rfl, rfl⟩ := e2
    exact ⟨hl, .inr ⟨g, cap, cur, rfl, h2, hY.trans h3, h4⟩⟩
theorem cell_cur {X : World} {g i : Nat} {cur : Array Value} {t : TypeId} {v : Value} (h : X.heap[g]? = some (.cells cur t (0, 0))) (hc : cur[i]? = some v) : X.cell? ⟨g, i, none⟩ = some v := by
  simp [World.cell?, h, hc]
theorem ownsRow_shape {w : World} {base : Nat} {e : TypeId} {size n : Nat} {v : Value} {xs : List Value} (h : w.ownsRow base e size v n xs) : ∃ a cap, v = .slice a n cap := by
  rcases h.2 with ⟨rfl, hn⟩ | ⟨g, cap, cur, rfl, _⟩
  · exact ⟨none, 0, by rw [hn]⟩
  · exact ⟨_, _, rfl⟩
set_option maxRecDepth 100000 in
set_option maxHeartbeats 6400000 in
theorem join_any (L : List (Int × Int)) (v : Value) (w : World) (hL : SpansAt w v L) (hlen : L.length ≤ 1000000) (hbd : ∀ k, k ≤ L.length → ∀ x ∈ joinP (L.take k), -1000000000000 ≤ x.2 ∧ x.2 ≤ 1000000000000) :
    Calls Try.prog 54 #[v, .func (.func 55) #[] #[]] w fun e w' => ∃ v', e = .returned v' ∧ w'.ownsRow w.heap.size 45 2 v' (joinP L).length (flatS (joinP L)) ∧ Below w.heap.size w w' := by
  obtain ⟨a, c, rfl⟩ := hL.shape
  obtain ⟨i0, hi, hz0, hz1, hz2⟩ := info_parts Try.info45
  have HBD := Lib.hid hbd
  clear hbd
  go_enter Try.func54, Try.ntmps54
  go_wp2
  go_loopw [5, 7, 8, 9, 10, 13] (fun d _ _ _ _ i wr => ∃ k : Nat, k ≤ L.length ∧ i = .int .i64 k ∧ Below w.heap.size w wr ∧ wr.ownsRow w.heap.size 45 2 d (joinP (L.take k)).length (flatS (joinP (L.take k)))) (fun _ _ _ _ _ i _ => L.length - (intOf i).toNat)
  case atStart => exact ⟨0, by omega, rfl, Below.refl _ _, by simpa [joinP, flatS] using World.ownsRow_nil _ _ _ _⟩
  case round =>
    obtain ⟨k, hk, rfl, hbel, hown⟩ := hrel
    by_cases hlt : k < L.length
    · obtain ⟨b, off, e0, hbl, hc⟩ := (hL.below hbel).at (by omega)
      subst e0
      obtain ⟨c0, c1⟩ := hc k hlt
      have hs := joinP_take L k hlt
      have hPl := joinP_len L k hk
      have hbk := HBD.out k hk
      obtain ⟨⟨x1, x2⟩, hx⟩ : ∃ x, L.getD k (0, 0) = x := ⟨_, rfl⟩
      rw [hx] at c0 c1 hs
      simp only [] at c0 c1
      rw [Nat.mul_comm 2 k] at c0 c1
      obtain ⟨P, hP⟩ : ∃ P, joinP (L.take k) = P := ⟨_, rfl⟩
      rw [hP] at hown hs hPl hbk
      have HS := Lib.hid hs
      have i0' : (0 : Int) ≤ (k : Int) := by omega
      have i1 : (k : Int) < (L.length : Int) := by omega
      have hws := hbel.size
      clear hx hs hP hc
      rcases List.eq_nil_or_concat P with rfl | ⟨Q, l, rfl⟩
      · obtain ⟨da, dc, rfl⟩ := ownsRow_shape hown
        have hdl := hown.lt
        simp only [List.length_nil] at hown
        have H1 := Lib.hid (show joinP (L.take (k + 1)) = [(x1, x2)] from HS.out)
        go_wp2_with (at_builtin; refine wpList_append_own_at _ rfl (.tmp 37) (.tmp 39) 35 rfl w.heap.size 45 i0 (.agg #[.int .i64 0, .int .i64 0]) 2 16 Try.underlying35 hi hz0 hz1 hz2 rfl (by decide) _ _ _ rfl ((hown.alloc _).alloc _) ⟨wr.heap.size + 1, 0, none⟩ 1 1 [.int .i64 x1, .int .i64 x2] rfl rfl (news_two (by simpa using (MapKept.heap_alloc (wr.alloc _) _).1)) (two_oneCell x1 x2) (by unfold maxLen; omega) (by omega) (by simp; omega) ?_; intro v1 X4 hd1 hg1 hnil1 hloc1)
        go_roundw
        case rel =>
          refine ⟨k + 1, by omega, by go_num, ?_, ?_⟩
          · exact ((hbel.alloc hws _).alloc (by simp; omega) _).grown hg1 (by simp; omega) (fun t ht => (hdl t ht).1)
          · rw [H1.out]; exact hd1
        case measure => simp [intOf]; omega
      · rw [List.concat_eq_append] at hown HS hbk hPl
        obtain ⟨l1, l2⟩ := l
        rw [List.length_append] at hown hPl
        simp only [List.length_cons, List.length_nil, Nat.zero_add] at hown hPl
        obtain ⟨g, dc, rfl⟩ := ownsRow_succ hown
        have hdl := hown.lt
        have hl2 := hbk (l1, l2) (List.mem_append.2 (.inr (List.mem_singleton.2 rfl)))
        simp only [] at hl2
        obtain ⟨cur, hcur, hcap⟩ : ∃ cur, wr.heap[g]? = some (.cells cur 45 (0, 0)) ∧ w.heap.size ≤ g := by
          rcases hown.2 with ⟨e, _⟩ | ⟨g', cap', cur, e, h2, h3, _⟩
          · cases e
          · simp only [Value.slice.injEq, Option.some.injEq, Addr.mk.injEq, and_true, true_and] at e
            obtain ⟨rfl, rfl⟩ := e
            exact ⟨cur, h3, h2⟩
        have hget := flatS_get (Q ++ [(l1, l2)]) Q.length (by simp)
        have e1 := hown.cellAt (2 * Q.length) (by omega)
        have e2 := hown.cellAt (2 * Q.length + 1) (by omega)
        rw [hget.1] at e1
        rw [hget.2] at e2
        simp only [World.cell?, hcur, Option.isSome_none, Bool.false_eq_true, if_false] at e1 e2
        simp at e1 e2
        rw [Nat.mul_comm] at e1 e2
        have hc0 := Lib.hid e1
        have hc1 := Lib.hid e2
        obtain ⟨cc, hccv⟩ : ∃ cc, (l2 + 1 == x1) = cc := ⟨_, rfl⟩
        have hcc := Lib.hid hccv
        have hgl := (Array.getElem?_eq_some_iff.1 hcur).1
        have hown' := Lib.hid hown
        have iq0 : (0 : Int) ≤ (Q.length : Int) := by omega
        have iq1 : (Q.length : Int) < ((Q.length : Nat) : Int) + 1 := by omega
        have HDL := Lib.hid hdl

        clear hdl hget e1 e2 hbk hccv hown
        go_upto_region 7 with fail
        obtain ⟨W1, hW1⟩ : ∃ X, X = wr.alloc (.cells #[.int .i64 x1, .int .i64 x2] 45) := ⟨_, rfl⟩
        have hb1 : Below wr.heap.size wr W1 := by rw [hW1]; exact (Below.refl _ _).alloc (Nat.le_refl _) _
        have gx : W1.heap[wr.heap.size]? = some (.cells #[.int .i64 x1, .int .i64 x2] 45 (0, 0)) := by rw [hW1]; exact (MapKept.heap_alloc wr _).1
        have gg := (hb1.block g hgl).trans hcur
        have hbw1 := hbel.trans (hb1.mono hws)
        rw [← hW1]
        clear hW1
        obtain ⟨Xb, hXb⟩ : ∃ x, wr.heap.size = x := ⟨_, rfl⟩
        rw [hXb] at gx ⊢
        have HXb := Lib.hid hXb
        clear hXb
        go_cut [9, 10] (fun v9 v10 wx => ∃ Pn : Nat, v9 = .pointer (some ⟨Pn, 0, none⟩) ∧ v10 = .bool cc ∧ Pn ≠ g ∧ w.heap.size ≤ Pn ∧ wx.heap[Pn]? = some (.cells #[.int .i64 l1, .int .i64 x2] 45 (0, 0)) ∧ wx.heap[g]? = some (.cells cur 45 (0, 0)) ∧ wx.heap[Xb]? = some (.cells #[.int .i64 x1, .int .i64 x2] 45 (0, 0)) ∧ Below w.heap.size w wx)
        case first =>
          refine wp_region_held_drew (S := fun w' => w'.heap[g]? = some (.cells cur 45) ∧ w'.heap[Xb]? = some (.cells #[.int .i64 x1, .int .i64 x2] 45)) (by kernel_rfl) ⟨gg, gx⟩ (fun hHeld => ?_)
          obtain ⟨X0, hX0⟩ : ∃ X0, X0 = W1.drew := ⟨_, rfl⟩
          have hbX : Below w.heap.size w X0 := by rw [hX0]; exact below_drewN' hbw1 1
          have hS := Lib.hid hHeld
          rw [← hX0] at hS ⊢
          clear hX0 hHeld gg gx hbw1
          refine wpAnyH_take (i := 0) (oi := _) (v := ?_) rfl (by kernel_rfl) (by kernel_rfl) (by kernel_rfl) (fun _ _ _ h => h) (Or.inl ⟨by rfl, ?_⟩) hS.out ?_
          rotate_left
          · intro w1 hSw
            replace hSw : w1.heap[g]? = some (.cells cur 45) ∧ w1.heap[Xb]? = some (.cells #[.int .i64 x1, .int .i64 x2] 45) := hSw
            obtain ⟨s1, s2⟩ := hSw
            obtain ⟨p0, p1⟩ := two_cells s2
            have q0 : w1.cell? ⟨g, Q.length * 2, none⟩ = some (.int .i64 l1) := cell_cur s1 hc0.out
            have q1 : w1.cell? ⟨g, Q.length * 2 + 1, none⟩ = some (.int .i64 l2) := cell_cur s1 hc1.out
            clear s1 s2
            go_simp; with_reducible rfl
          simp only [List.getElem_toArray, List.getElem_cons_succ, List.getElem_cons_zero, Act.put, List.setIfInBounds_toArray, List.set_cons_zero, List.set_cons_succ]
          refine wpAnyH_take (i := 1) (oi := _) (v := ?_) rfl (by kernel_rfl) (by kernel_rfl) (by kernel_rfl) (fun _ _ _ h => h) (Or.inl ⟨by rfl, ?_⟩) hS.out ?_
          rotate_left
          · intro w1 hSw
            replace hSw : w1.heap[g]? = some (.cells cur 45) ∧ w1.heap[Xb]? = some (.cells #[.int .i64 x1, .int .i64 x2] 45) := hSw
            obtain ⟨s1, s2⟩ := hSw
            obtain ⟨p0, p1⟩ := two_cells s2
            have q0 : w1.cell? ⟨g, Q.length * 2, none⟩ = some (.int .i64 l1) := cell_cur s1 hc0.out
            have q1 : w1.cell? ⟨g, Q.length * 2 + 1, none⟩ = some (.int .i64 l2) := cell_cur s1 hc1.out
            clear s1 s2
            go_simp; with_reducible rfl
          simp only [List.getElem_toArray, List.getElem_cons_succ, List.getElem_cons_zero, Act.put, List.setIfInBounds_toArray, List.set_cons_zero, List.set_cons_succ]
          refine wpAnyH_take (i := 2) (oi := _) (v := ?_) rfl (by kernel_rfl) (by kernel_rfl) (by kernel_rfl) (fun _ _ _ h => h) (Or.inl ⟨by rfl, ?_⟩) hS.out ?_
          rotate_left
          · intro w1 hSw
            replace hSw : w1.heap[g]? = some (.cells cur 45) ∧ w1.heap[Xb]? = some (.cells #[.int .i64 x1, .int .i64 x2] 45) := hSw
            obtain ⟨s1, s2⟩ := hSw
            obtain ⟨p0, p1⟩ := two_cells s2
            have q0 : w1.cell? ⟨g, Q.length * 2, none⟩ = some (.int .i64 l1) := cell_cur s1 hc0.out
            have q1 : w1.cell? ⟨g, Q.length * 2 + 1, none⟩ = some (.int .i64 l2) := cell_cur s1 hc1.out
            clear s1 s2
            go_simp; with_reducible rfl
          simp only [List.getElem_toArray, List.getElem_cons_succ, List.getElem_cons_zero, Act.put, List.setIfInBounds_toArray, List.set_cons_zero, List.set_cons_succ]
          refine wpAnyH_take (i := 3) (oi := _) (v := ?_) rfl (by kernel_rfl) (by kernel_rfl) (by kernel_rfl) (fun _ _ _ h => h) (Or.inl ⟨by rfl, ?_⟩) hS.out ?_
          rotate_left
          · intro w1 hSw
            replace hSw : w1.heap[g]? = some (.cells cur 45) ∧ w1.heap[Xb]? = some (.cells #[.int .i64 x1, .int .i64 x2] 45) := hSw
            obtain ⟨s1, s2⟩ := hSw
            obtain ⟨p0, p1⟩ := two_cells s2
            have q0 : w1.cell? ⟨g, Q.length * 2, none⟩ = some (.int .i64 l1) := cell_cur s1 hc0.out
            have q1 : w1.cell? ⟨g, Q.length * 2 + 1, none⟩ = some (.int .i64 l2) := cell_cur s1 hc1.out
            clear s1 s2
            go_simp; with_reducible rfl
          simp only [List.getElem_toArray, List.getElem_cons_succ, List.getElem_cons_zero, Act.put, List.setIfInBounds_toArray, List.set_cons_zero, List.set_cons_succ]
          refine wpAnyH_take (i := 4) (oi := _) (v := ?_) rfl (by kernel_rfl) (by kernel_rfl) (by kernel_rfl) (fun _ _ _ h => h) (Or.inl ⟨by rfl, ?_⟩) hS.out ?_
          rotate_left
          · intro w1 hSw
            replace hSw : w1.heap[g]? = some (.cells cur 45) ∧ w1.heap[Xb]? = some (.cells #[.int .i64 x1, .int .i64 x2] 45) := hSw
            obtain ⟨s1, s2⟩ := hSw
            obtain ⟨p0, p1⟩ := two_cells s2
            have q0 : w1.cell? ⟨g, Q.length * 2, none⟩ = some (.int .i64 l1) := cell_cur s1 hc0.out
            have q1 : w1.cell? ⟨g, Q.length * 2 + 1, none⟩ = some (.int .i64 l2) := cell_cur s1 hc1.out
            clear s1 s2
            go_simp; with_reducible rfl
          simp only [List.getElem_toArray, List.getElem_cons_succ, List.getElem_cons_zero, Act.put, List.setIfInBounds_toArray, List.set_cons_zero, List.set_cons_succ]
          refine wpAnyH_take (i := 5) (oi := _) (v := ?_) rfl (by kernel_rfl) (by kernel_rfl) (by kernel_rfl) (fun _ _ _ h => h) (Or.inl ⟨by rfl, ?_⟩) hS.out ?_
          rotate_left
          · intro w1 hSw
            replace hSw : w1.heap[g]? = some (.cells cur 45) ∧ w1.heap[Xb]? = some (.cells #[.int .i64 x1, .int .i64 x2] 45) := hSw
            obtain ⟨s1, s2⟩ := hSw
            obtain ⟨p0, p1⟩ := two_cells s2
            have q0 : w1.cell? ⟨g, Q.length * 2, none⟩ = some (.int .i64 l1) := cell_cur s1 hc0.out
            have q1 : w1.cell? ⟨g, Q.length * 2 + 1, none⟩ = some (.int .i64 l2) := cell_cur s1 hc1.out
            clear s1 s2
            go_simp; with_reducible rfl
          simp only [List.getElem_toArray, List.getElem_cons_succ, List.getElem_cons_zero, Act.put, List.setIfInBounds_toArray, List.set_cons_zero, List.set_cons_succ]
          refine wpAnyH_all (rs := [6, 10]) (by kernel_rfl) (by simp) ?_
          intro i hi
          rcases (by simpa using hi : i = 6 ∨ i = 10) with rfl | rfl <;> clear hi
          ·
            refine wpOp_step rfl (fun K3 hK3 => ?_)
            have HK3 := Lib.hid hK3
            clear hK3
            rw [if_pos (by rfl)]
            go_simp
            refine (both_any l1 l2 x1 x2 _ (by omega)).mono ?_
            rintro e y1 ⟨rfl, hy1⟩
            replace hS : RowKit.Hid (y1.heap[g]? = some (.cells cur 45) ∧ y1.heap[Xb]? = some (.cells #[.int .i64 x1, .int .i64 x2] 45)) := Lib.hid ⟨(hy1.block g (Array.getElem?_eq_some_iff.1 hS.out.1).1).trans hS.out.1, (hy1.block Xb (Array.getElem?_eq_some_iff.1 hS.out.2).1).trans hS.out.2⟩
            replace hbX := hbX.trans (hy1.mono hbX.size)
            rw [hcc.out]
            clear hy1
            refine HK3.out _ _ ⟨hS.out, ?_⟩
            clear HK3 K3
            try simp only [List.getElem_toArray, List.getElem_cons_succ, List.getElem_cons_zero, Act.put, List.setIfInBounds_toArray, List.set_cons_zero, List.set_cons_succ]
            refine wpAnyH_take (i := 7) (oi := _) (v := ?_) rfl (by kernel_rfl) (by kernel_rfl) (by kernel_rfl) (fun _ _ _ h => h) (Or.inl ⟨by rfl, ?_⟩) hS.out ?_
            rotate_left
            · intro w1 hSw
              replace hSw : w1.heap[g]? = some (.cells cur 45) ∧ w1.heap[Xb]? = some (.cells #[.int .i64 x1, .int .i64 x2] 45) := hSw
              obtain ⟨s1, s2⟩ := hSw
              obtain ⟨p0, p1⟩ := two_cells s2
              have q0 : w1.cell? ⟨g, Q.length * 2, none⟩ = some (.int .i64 l1) := cell_cur s1 hc0.out
              have q1 : w1.cell? ⟨g, Q.length * 2 + 1, none⟩ = some (.int .i64 l2) := cell_cur s1 hc1.out
              clear s1 s2
              go_simp; with_reducible rfl
            simp only [List.getElem_toArray, List.getElem_cons_succ, List.getElem_cons_zero, Act.put, List.setIfInBounds_toArray, List.set_cons_zero, List.set_cons_succ]
            refine wpAnyH_take (i := 8) (oi := _) (v := ?_) rfl (by kernel_rfl) (by kernel_rfl) (by kernel_rfl) (fun _ _ _ h => h) (Or.inl ⟨by rfl, ?_⟩) hS.out ?_
            rotate_left
            · intro w1 hSw
              replace hSw : w1.heap[g]? = some (.cells cur 45) ∧ w1.heap[Xb]? = some (.cells #[.int .i64 x1, .int .i64 x2] 45) := hSw
              obtain ⟨s1, s2⟩ := hSw
              obtain ⟨p0, p1⟩ := two_cells s2
              have q0 : w1.cell? ⟨g, Q.length * 2, none⟩ = some (.int .i64 l1) := cell_cur s1 hc0.out
              have q1 : w1.cell? ⟨g, Q.length * 2 + 1, none⟩ = some (.int .i64 l2) := cell_cur s1 hc1.out
              clear s1 s2
              go_simp; with_reducible rfl
            simp only [List.getElem_toArray, List.getElem_cons_succ, List.getElem_cons_zero, Act.put, List.setIfInBounds_toArray, List.set_cons_zero, List.set_cons_succ]
            refine wpAnyH_take (i := 9) (oi := _) (v := ?_) rfl (by kernel_rfl) (by kernel_rfl) (by kernel_rfl) (fun _ _ _ h => h) (Or.inl ⟨by rfl, ?_⟩) hS.out ?_
            rotate_left
            · intro w1 hSw
              replace hSw : w1.heap[g]? = some (.cells cur 45) ∧ w1.heap[Xb]? = some (.cells #[.int .i64 x1, .int .i64 x2] 45) := hSw
              obtain ⟨s1, s2⟩ := hSw
              obtain ⟨p0, p1⟩ := two_cells s2
              have q0 : w1.cell? ⟨g, Q.length * 2, none⟩ = some (.int .i64 l1) := cell_cur s1 hc0.out
              have q1 : w1.cell? ⟨g, Q.length * 2 + 1, none⟩ = some (.int .i64 l2) := cell_cur s1 hc1.out
              clear s1 s2
              go_simp; with_reducible rfl
            simp only [List.getElem_toArray, List.getElem_cons_succ, List.getElem_cons_zero, Act.put, List.setIfInBounds_toArray, List.set_cons_zero, List.set_cons_succ]
            refine wpAnyH_all (rs := [10]) (by kernel_rfl) (by simp) ?_
            intro i hi; obtain rfl := List.mem_singleton.1 hi; clear hi
            refine wpOp_step rfl (fun K3 hK3 => ?_)
            have HK3 := Lib.hid hK3
            clear hK3
            rw [if_pos (by rfl)]
            go_simp
            obtain ⟨Pn, hPe⟩ : ∃ P, y1.heap.size = P := ⟨_, rfl⟩
            obtain ⟨y2, hx2⟩ : ∃ Z, Z = y1.alloc (.cells #[.int .i64 0, .int .i64 0] 45) := ⟨_, rfl⟩
            have hy2 : Below y1.heap.size y1 y2 := by rw [hx2]; exact (Below.refl _ _).alloc (Nat.le_refl _) _
            have hP := Lib.hid (show y2.heap[Pn]? = some (.cells #[.int .i64 0, .int .i64 0] 45 (0, 0)) by rw [hx2, ← hPe]; exact (MapKept.heap_alloc y1 _).1)
            have hPn : (Pn ≠ g ∧ Pn ≠ Xb) ∧ w.heap.size ≤ Pn := by
              have u1 := (Array.getElem?_eq_some_iff.1 hS.out.1).1
              have u2 := (Array.getElem?_eq_some_iff.1 hS.out.2).1
              have := hbX.size
              omega
            rw [← hx2, hPe]
            replace hS : RowKit.Hid (y2.heap[g]? = some (.cells cur 45) ∧ y2.heap[Xb]? = some (.cells #[.int .i64 x1, .int .i64 x2] 45)) := Lib.hid ⟨(hy2.block g (Array.getElem?_eq_some_iff.1 hS.out.1).1).trans hS.out.1, (hy2.block Xb (Array.getElem?_eq_some_iff.1 hS.out.2).1).trans hS.out.2⟩
            replace hbX := hbX.trans (hy2.mono hbX.size)
            clear hy2 hx2 hPe
            refine HK3.out _ _ ⟨hS.out, ?_⟩
            clear HK3 K3
            try simp only [List.getElem_toArray, List.getElem_cons_succ, List.getElem_cons_zero, Act.put, List.setIfInBounds_toArray, List.set_cons_zero, List.set_cons_succ]
            obtain ⟨u0, u1⟩ := two_cells hP.out
            have uf := frozen_of hP.out
            refine wpAnyH_all (rs := [11]) (by kernel_rfl) (by simp) ?_
            intro i hi; obtain rfl := List.mem_singleton.1 hi; clear hi
            refine wpOp_step rfl (fun K3 hK3 => ?_)
            have HK3 := Lib.hid hK3
            clear hK3
            rw [if_pos (by rfl)]
            go_simp
            obtain ⟨xe, hxe⟩ : ∃ Z, Z = (y2.setCell ⟨Pn, 0, none⟩ (.int .i64 l1)).setCell ⟨Pn, 1, none⟩ (.int .i64 x2) := ⟨_, rfl⟩
            have hP2 := Lib.hid (show xe.heap[Pn]? = some (.cells #[.int .i64 l1, .int .i64 x2] 45 (0, 0)) by rw [hxe]; exact set_two hP.out)
            have hoth : ∀ k, k ≠ Pn → xe.heap[k]? = y2.heap[k]? := fun k hk => by rw [hxe]; exact (Below.heap_setCell _ _ _ k (fun e => hk (by rw [e]))).trans (Below.heap_setCell _ _ _ k (fun e => hk (by rw [e])))
            have hbE : Below w.heap.size w xe := by rw [hxe]; exact (hbX.setCell (p := ⟨Pn, 0, none⟩) hPn.2 _).setCell (p := ⟨Pn, 1, none⟩) hPn.2 _
            have hS2 : RowKit.Hid (xe.heap[g]? = some (.cells cur 45) ∧ xe.heap[Xb]? = some (.cells #[.int .i64 x1, .int .i64 x2] 45)) := Lib.hid ⟨(hoth _ hPn.1.1.symm).trans hS.out.1, (hoth _ hPn.1.2.symm).trans hS.out.2⟩
            rw [← hxe]
            clear hxe hoth u0 u1 uf hP hbX
            refine HK3.out _ _ ⟨hS2.out, ?_⟩
            clear HK3 K3
            try simp only [List.getElem_toArray, List.getElem_cons_succ, List.getElem_cons_zero, Act.put, List.setIfInBounds_toArray, List.set_cons_zero, List.set_cons_succ]
            refine wpAnyH_take (i := 12) (oi := _) (v := ?_) rfl (by kernel_rfl) (by kernel_rfl) (by kernel_rfl) (fun _ _ _ h => h) (Or.inl ⟨by rfl, ?_⟩) hS2.out ?_
            rotate_left
            · intro w1 hSw
              replace hSw : w1.heap[g]? = some (.cells cur 45) ∧ w1.heap[Xb]? = some (.cells #[.int .i64 x1, .int .i64 x2] 45) := hSw
              obtain ⟨s1, s2⟩ := hSw
              obtain ⟨p0, p1⟩ := two_cells s2
              have q0 : w1.cell? ⟨g, Q.length * 2, none⟩ = some (.int .i64 l1) := cell_cur s1 hc0.out
              have q1 : w1.cell? ⟨g, Q.length * 2 + 1, none⟩ = some (.int .i64 l2) := cell_cur s1 hc1.out
              clear s1 s2
              go_simp; with_reducible rfl
            simp only [List.getElem_toArray, List.getElem_cons_succ, List.getElem_cons_zero, Act.put, List.setIfInBounds_toArray, List.set_cons_zero, List.set_cons_succ]
            refine wpAnyH_done (by kernel_rfl) ?_ _
            go_wp2_with fail
            go_meet
            exact ⟨Pn, rfl, rfl, hPn.1.1, hPn.2, hP2.out, hS2.out.1, hS2.out.2, hbE⟩
          ·
            refine wpOp_step rfl (fun K3 hK3 => ?_)
            have HK3 := Lib.hid hK3
            clear hK3
            rw [if_pos (by rfl)]
            go_simp
            obtain ⟨Pn, hPe⟩ : ∃ P, X0.heap.size = P := ⟨_, rfl⟩
            obtain ⟨y3, hx3⟩ : ∃ Z, Z = X0.alloc (.cells #[.int .i64 0, .int .i64 0] 45) := ⟨_, rfl⟩
            have hy3 : Below X0.heap.size X0 y3 := by rw [hx3]; exact (Below.refl _ _).alloc (Nat.le_refl _) _
            have hP := Lib.hid (show y3.heap[Pn]? = some (.cells #[.int .i64 0, .int .i64 0] 45 (0, 0)) by rw [hx3, ← hPe]; exact (MapKept.heap_alloc X0 _).1)
            have hPn : (Pn ≠ g ∧ Pn ≠ Xb) ∧ w.heap.size ≤ Pn := by
              have u1 := (Array.getElem?_eq_some_iff.1 hS.out.1).1
              have u2 := (Array.getElem?_eq_some_iff.1 hS.out.2).1
              have := hbX.size
              omega
            rw [← hx3, hPe]
            replace hS : RowKit.Hid (y3.heap[g]? = some (.cells cur 45) ∧ y3.heap[Xb]? = some (.cells #[.int .i64 x1, .int .i64 x2] 45)) := Lib.hid ⟨(hy3.block g (Array.getElem?_eq_some_iff.1 hS.out.1).1).trans hS.out.1, (hy3.block Xb (Array.getElem?_eq_some_iff.1 hS.out.2).1).trans hS.out.2⟩
            replace hbX := hbX.trans (hy3.mono hbX.size)
            clear hy3 hx3 hPe
            refine HK3.out _ _ ⟨hS.out, ?_⟩
            clear HK3 K3
            try simp only [List.getElem_toArray, List.getElem_cons_succ, List.getElem_cons_zero, Act.put, List.setIfInBounds_toArray, List.set_cons_zero, List.set_cons_succ]
            refine wpAnyH_all (rs := [6]) (by kernel_rfl) (by simp) ?_
            intro i hi; obtain rfl := List.mem_singleton.1 hi; clear hi
            refine wpOp_step rfl (fun K3 hK3 => ?_)
            have HK3 := Lib.hid hK3
            clear hK3
            rw [if_pos (by rfl)]
            go_simp
            refine (both_any l1 l2 x1 x2 _ (by omega)).mono ?_
            rintro e y4 ⟨rfl, hy4⟩
            replace hS : RowKit.Hid (y4.heap[g]? = some (.cells cur 45) ∧ y4.heap[Xb]? = some (.cells #[.int .i64 x1, .int .i64 x2] 45)) := Lib.hid ⟨(hy4.block g (Array.getElem?_eq_some_iff.1 hS.out.1).1).trans hS.out.1, (hy4.block Xb (Array.getElem?_eq_some_iff.1 hS.out.2).1).trans hS.out.2⟩
            replace hP := Lib.hid ((hy4.block Pn (Array.getElem?_eq_some_iff.1 hP.out).1).trans hP.out)
            replace hbX := hbX.trans (hy4.mono hbX.size)
            rw [hcc.out]
            clear hy4
            refine HK3.out _ _ ⟨hS.out, ?_⟩
            clear HK3 K3
            try simp only [List.getElem_toArray, List.getElem_cons_succ, List.getElem_cons_zero, Act.put, List.setIfInBounds_toArray, List.set_cons_zero, List.set_cons_succ]
            refine wpAnyH_take (i := 7) (oi := _) (v := ?_) rfl (by kernel_rfl) (by kernel_rfl) (by kernel_rfl) (fun _ _ _ h => h) (Or.inl ⟨by rfl, ?_⟩) hS.out ?_
            rotate_left
            · intro w1 hSw
              replace hSw : w1.heap[g]? = some (.cells cur 45) ∧ w1.heap[Xb]? = some (.cells #[.int .i64 x1, .int .i64 x2] 45) := hSw
              obtain ⟨s1, s2⟩ := hSw
              obtain ⟨p0, p1⟩ := two_cells s2
              have q0 : w1.cell? ⟨g, Q.length * 2, none⟩ = some (.int .i64 l1) := cell_cur s1 hc0.out
              have q1 : w1.cell? ⟨g, Q.length * 2 + 1, none⟩ = some (.int .i64 l2) := cell_cur s1 hc1.out
              clear s1 s2
              go_simp; with_reducible rfl
            simp only [List.getElem_toArray, List.getElem_cons_succ, List.getElem_cons_zero, Act.put, List.setIfInBounds_toArray, List.set_cons_zero, List.set_cons_succ]
            refine wpAnyH_take (i := 8) (oi := _) (v := ?_) rfl (by kernel_rfl) (by kernel_rfl) (by kernel_rfl) (fun _ _ _ h => h) (Or.inl ⟨by rfl, ?_⟩) hS.out ?_
            rotate_left
            · intro w1 hSw
              replace hSw : w1.heap[g]? = some (.cells cur 45) ∧ w1.heap[Xb]? = some (.cells #[.int .i64 x1, .int .i64 x2] 45) := hSw
              obtain ⟨s1, s2⟩ := hSw
              obtain ⟨p0, p1⟩ := two_cells s2
              have q0 : w1.cell? ⟨g, Q.length * 2, none⟩ = some (.int .i64 l1) := cell_cur s1 hc0.out
              have q1 : w1.cell? ⟨g, Q.length * 2 + 1, none⟩ = some (.int .i64 l2) := cell_cur s1 hc1.out
              clear s1 s2
              go_simp; with_reducible rfl
            simp only [List.getElem_toArray, List.getElem_cons_succ, List.getElem_cons_zero, Act.put, List.setIfInBounds_toArray, List.set_cons_zero, List.set_cons_succ]
            refine wpAnyH_take (i := 9) (oi := _) (v := ?_) rfl (by kernel_rfl) (by kernel_rfl) (by kernel_rfl) (fun _ _ _ h => h) (Or.inl ⟨by rfl, ?_⟩) hS.out ?_
            rotate_left
            · intro w1 hSw
              replace hSw : w1.heap[g]? = some (.cells cur 45) ∧ w1.heap[Xb]? = some (.cells #[.int .i64 x1, .int .i64 x2] 45) := hSw
              obtain ⟨s1, s2⟩ := hSw
              obtain ⟨p0, p1⟩ := two_cells s2
              have q0 : w1.cell? ⟨g, Q.length * 2, none⟩ = some (.int .i64 l1) := cell_cur s1 hc0.out
              have q1 : w1.cell? ⟨g, Q.length * 2 + 1, none⟩ = some (.int .i64 l2) := cell_cur s1 hc1.out
              clear s1 s2
              go_simp; with_reducible rfl
            simp only [List.getElem_toArray, List.getElem_cons_succ, List.getElem_cons_zero, Act.put, List.setIfInBounds_toArray, List.set_cons_zero, List.set_cons_succ]
            obtain ⟨u0, u1⟩ := two_cells hP.out
            have uf := frozen_of hP.out
            refine wpAnyH_all (rs := [11]) (by kernel_rfl) (by simp) ?_
            intro i hi; obtain rfl := List.mem_singleton.1 hi; clear hi
            refine wpOp_step rfl (fun K3 hK3 => ?_)
            have HK3 := Lib.hid hK3
            clear hK3
            rw [if_pos (by rfl)]
            go_simp
            obtain ⟨xe, hxe⟩ : ∃ Z, Z = (y4.setCell ⟨Pn, 0, none⟩ (.int .i64 l1)).setCell ⟨Pn, 1, none⟩ (.int .i64 x2) := ⟨_, rfl⟩
            have hP2 := Lib.hid (show xe.heap[Pn]? = some (.cells #[.int .i64 l1, .int .i64 x2] 45 (0, 0)) by rw [hxe]; exact set_two hP.out)
            have hoth : ∀ k, k ≠ Pn → xe.heap[k]? = y4.heap[k]? := fun k hk => by rw [hxe]; exact (Below.heap_setCell _ _ _ k (fun e => hk (by rw [e]))).trans (Below.heap_setCell _ _ _ k (fun e => hk (by rw [e])))
            have hbE : Below w.heap.size w xe := by rw [hxe]; exact (hbX.setCell (p := ⟨Pn, 0, none⟩) hPn.2 _).setCell (p := ⟨Pn, 1, none⟩) hPn.2 _
            have hS2 : RowKit.Hid (xe.heap[g]? = some (.cells cur 45) ∧ xe.heap[Xb]? = some (.cells #[.int .i64 x1, .int .i64 x2] 45)) := Lib.hid ⟨(hoth _ hPn.1.1.symm).trans hS.out.1, (hoth _ hPn.1.2.symm).trans hS.out.2⟩
            rw [← hxe]
            clear hxe hoth u0 u1 uf hP hbX
            refine HK3.out _ _ ⟨hS2.out, ?_⟩
            clear HK3 K3
            try simp only [List.getElem_toArray, List.getElem_cons_succ, List.getElem_cons_zero, Act.put, List.setIfInBounds_toArray, List.set_cons_zero, List.set_cons_succ]
            refine wpAnyH_take (i := 12) (oi := _) (v := ?_) rfl (by kernel_rfl) (by kernel_rfl) (by kernel_rfl) (fun _ _ _ h => h) (Or.inl ⟨by rfl, ?_⟩) hS2.out ?_
            rotate_left
            · intro w1 hSw
              replace hSw : w1.heap[g]? = some (.cells cur 45) ∧ w1.heap[Xb]? = some (.cells #[.int .i64 x1, .int .i64 x2] 45) := hSw
              obtain ⟨s1, s2⟩ := hSw
              obtain ⟨p0, p1⟩ := two_cells s2
              have q0 : w1.cell? ⟨g, Q.length * 2, none⟩ = some (.int .i64 l1) := cell_cur s1 hc0.out
              have q1 : w1.cell? ⟨g, Q.length * 2 + 1, none⟩ = some (.int .i64 l2) := cell_cur s1 hc1.out
              clear s1 s2
              go_simp; with_reducible rfl
            simp only [List.getElem_toArray, List.getElem_cons_succ, List.getElem_cons_zero, Act.put, List.setIfInBounds_toArray, List.set_cons_zero, List.set_cons_succ]
            refine wpAnyH_done (by kernel_rfl) ?_ _
            go_wp2_with fail
            go_meet
            exact ⟨Pn, rfl, rfl, hPn.1.1, hPn.2, hP2.out, hS2.out.1, hS2.out.2, hbE⟩
        case rest =>
          obtain ⟨Pn, rfl, rfl, hPg, hPw, hP, hG, hX, hbA⟩ := hcut
          have hownA := own_move hown'.out (hG.trans hcur.symm)
          have hzA := hbA.size
          have q0 : wc.cell? ⟨g, Q.length * 2, none⟩ = some (.int .i64 l1) := cell_cur hG hc0.out
          have q1 : wc.cell? ⟨g, Q.length * 2 + 1, none⟩ = some (.int .i64 l2) := cell_cur hG hc1.out
          have fG := frozen_of hG
          obtain ⟨p0, p1⟩ := two_cells hP
          obtain ⟨z0, z1⟩ := two_cells hX
          clear gx gg hbw1 hb1
          cases cc with
          | true =>
            have e : l2 + 1 = x1 := by simpa using hcc.out
            have HS2 := Lib.hid (show joinP (L.take (k + 1)) = Q ++ [(l1, x2)] by rw [HS.out]; unfold joinS; simp [e])
            have hset := own_set hownA l1 x2
            rw [show 0 + 2 * Q.length = Q.length * 2 by omega] at hset
            have HSET := Lib.hid hset
            clear e hset hownA
            go_wp2
            go_roundw
            case rel =>
              refine ⟨k + 1, by omega, by go_num, ?_, ?_⟩
              · exact (hbA.setCell (p := ⟨g, Q.length * 2, none⟩) hcap _).setCell (p := ⟨g, Q.length * 2 + 1, none⟩) hcap _
              · rw [HS2.out, show (Q ++ [(l1, x2)]).length = Q.length + 1 by simp]; exact HSET.out
            case measure => simp [intOf]; omega
          | false =>
            have e : ¬ l2 + 1 = x1 := by simpa using hcc.out
            have HS2 := Lib.hid (show joinP (L.take (k + 1)) = (Q ++ [(l1, l2)]) ++ [(x1, x2)] by rw [HS.out]; unfold joinS; simp [e])
            have hfl := Lib.hid (flatS_snoc (Q ++ [(l1, l2)]) (x1, x2))
            have hdlA := Lib.hid hownA.lt
            clear e
            go_wp2_with (at_builtin; refine wpList_append_own_at _ rfl (.tmp 37) (.tmp 39) 35 rfl w.heap.size 45 i0 (.agg #[.int .i64 0, .int .i64 0]) 2 16 Try.underlying35 hi hz0 hz1 hz2 rfl (by decide) _ _ _ rfl (hownA.alloc _) ⟨wc.heap.size, 0, none⟩ 1 1 [.int .i64 x1, .int .i64 x2] rfl rfl (news_two (MapKept.heap_alloc _ _).1) (two_oneCell x1 x2) (by unfold maxLen; omega) (by omega) (by simp; omega) ?_; intro v1 X4 hd1 hg1 hnil1 hloc1)
            go_roundw
            case rel =>
              refine ⟨k + 1, by omega, by go_num, ?_, ?_⟩
              · exact (hbA.alloc hzA _).grown hg1 (by simp; omega) (fun t ht => (hdlA.out t ht).1)
              · rw [HS2.out, hfl.out, show ((Q ++ [(l1, l2)]) ++ [(x1, x2)]).length = Q.length + 1 + 1 by simp]; exact hd1
            case measure => simp [intOf]; omega
    · obtain rfl : k = L.length := by omega
      rw [List.take_length] at hown
      have i1 : ¬ (L.length : Int) < (L.length : Int) := by omega
      go_wp2
      go_ret
      exact ⟨_, rfl, hown, hbel⟩
end Go.Proofs.Ytmcndecmnfbggaa
