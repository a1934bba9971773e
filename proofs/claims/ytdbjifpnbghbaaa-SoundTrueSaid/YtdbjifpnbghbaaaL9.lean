/- Sound: the walk of SoundTrue. -/
import Derived.Test.YtdbjifpnbghbaaaM4
namespace Go.Proofs.Ytdbjifpnbghbaaa
set_option linter.unusedSimpArgs false
set_option linter.unusedVariables false
open Go.RowKit Go.Maps Go.BigFrame Go.ChangeShapes Go.WideShapes Go.ChangeAt

theorem cell_three_spot {X : World} {b : Nat} {x y z u : Value} {t : TypeId} (h : X.heap[b]? = some (.cells #[x, y, z, u] t (0, 0))) : X.frozen? ⟨b, 2, none⟩ = false ∧ X.frozen? ⟨b, 3, none⟩ = false := ⟨frozen_of h, frozen_of h⟩
theorem set_four {X : World} {R : Nat} {a b c d C D : Value} {t : TypeId} (h : X.heap[R]? = some (.cells #[a, b, c, d] t (0, 0))) : ((X.setCell ⟨R, 2, none⟩ C).setCell ⟨R, 3, none⟩ D).heap[R]? = some (.cells #[a, b, C, D] t (0, 0)) := by
  have h3 := heap_setCell_same X R 2 _ t C h
  have h4 := heap_setCell_same _ R 3 _ t D h3
  simpa using h4
theorem set_four_other (X : World) {R b : Nat} (C D : Value) (h : b ≠ R) : ((X.setCell ⟨R, 2, none⟩ C).setCell ⟨R, 3, none⟩ D).heap[b]? = X.heap[b]? := (set_other _ R 3 b D h).trans (set_other _ R 2 b C h)
theorem row_set {base e size n P o : Nat} {w : World} {v u : Value} {xs : List Value} (h : w.ownsRow base e size v n xs) (hne : ∀ t, v.ownBlock = some t → t ≠ P) : (w.setCell ⟨P, o, none⟩ u).ownsRow base e size v n xs := by
  refine ⟨h.1, ?_⟩
  rcases h.2 with h | ⟨g, cap, cur, e1, h1, h2, h3⟩
  · exact .inl h
  · exact .inr ⟨g, cap, cur, e1, h1, (set_other w P o g u (fun e => hne g (by rw [e1]; rfl) e)).trans h2, h3⟩
set_option maxRecDepth 100000 in
set_option maxHeartbeats 12800000 in
theorem true_law (l : List Pi) (v : Value) (tk : List Nat) (v2 : Value) (leak : Nat) (hlk : leak ≤ 4294967295) (w : World) (hl : TabAt 3 piC w v l) (ht : U16At w v2 tk) : Calls Try.prog 6 #[v, v2, .int .u32 (leak : Nat)] w fun e w' => e = .returned (.bool true) ∧ Below w.heap.size w w' := by
  obtain ⟨a, c, rfl⟩ := hl.shape
  obtain ⟨ta, tc, rfl⟩ := ht.shape
  have mk : tk.length ≤ 9223372036854775807 := ht.1
  have KG := Lib.hid (great_any l (.slice a l.length c) 1073741824 w hl)
  have KA := Lib.hid alive_any
  have KL := Lib.hid (fun X hX => Line_any l (.slice a l.length c) X hX)
  obtain ⟨gr, hgr⟩ : ∃ g, greatB l 1073741824 = g := ⟨_, rfl⟩
  rw [hgr] at KG
  obtain ⟨ok, hok⟩ : ∃ g, lineOk l = g := ⟨_, rfl⟩
  have HOK := Lib.hid hok
  rw [hok] at KL
  have HL := Lib.hid hl
  have HT := Lib.hid ht
  clear hl ht hgr hok
  go_enter Try.func6, Try.ntmps6
  go_wp2_with (go_at_call 11; fail)
  refine KG.out.mono ?_
  rintro e w2 ⟨rfl, hb2⟩
  have HB2 := Lib.hid hb2
  have HL2 := Lib.hid (HL.out.below hb2)
  have HT2 := Lib.hid (HT.out.below hb2)
  clear hb2 KG HL HT
  cases gr with
  | true =>
    go_wp2_with (go_at_call 12; fail)
    refine (KA.out _).mono ?_
    rintro e9 w3 ⟨rfl, hbz⟩
    go_wp2
    go_ret
    exact ⟨rfl, HB2.out.trans (hbz.mono HB2.out.size)⟩
  | false =>
    by_cases hk0 : tk = []
    · have hk1 : (tk.length : Int) = 0 := by rw [hk0]; rfl
      have hk2 : ((tk.length : Int) == 0) = true := by rw [hk0]; rfl
      go_wp2_with (go_at_call 12; fail)
      refine (KA.out _).mono ?_
      rintro e9 w3 ⟨rfl, hbz⟩
      go_wp2
      go_ret
      exact ⟨rfl, HB2.out.trans (hbz.mono HB2.out.size)⟩
    · have hk1 : 0 < tk.length := List.length_pos_iff.2 hk0
      have hk2 : ¬ (tk.length : Int) = 0 := by omega
      have hk3 : ((tk.length : Int) == 0) = false := by simp; exact hk0
      go_wp2_with (go_at_call 24; fail)
      refine (KL.out _ HL2.out).mono ?_
      rintro e w3 ⟨rfl, hb3⟩
      have HB3 := Lib.hid (HB2.out.trans (hb3.mono HB2.out.size))
      have HL3 := Lib.hid (HL2.out.below hb3)
      have HT3 := Lib.hid (HT2.out.below hb3)
      clear hb3 HL2 HT2 HB2 KL
      cases ok with
      | false =>
        go_wp2_with (go_at_call 12; fail)
        refine (KA.out _).mono ?_
        rintro e9 w3 ⟨rfl, hbz⟩
        go_wp2
        go_ret
        exact ⟨rfl, HB3.out.trans (hbz.mono HB3.out.size)⟩
      | true =>
        have hok := HOK.out
        have hE := end_in hok
        have KE := Lib.hid (End_any l (.slice a l.length c) w3 HL3.out (fun i hi => by have := pos_small hok hi; omega))
        have KT := Lib.hid (truth_any l hok (.slice a l.length c) tk hk1 (.slice ta tk.length tc) w3 HL3.out HT3.out)
        have hts := slows_true hok tk
        have hsl : (slowsT l tk l.length).length = l.length := slowsT_len l tk l.length
        have hsb := true_bnd hok hts
        obtain ⟨sl, hsle⟩ : ∃ s, slowsT l tk l.length = s := ⟨_, rfl⟩
        rw [hsle] at KT hts hsl hsb
        obtain ⟨T, hTe⟩ : ∃ s, (leak : Int) % (endF l + 1) = s := ⟨_, rfl⟩
        have hT0 : 0 ≤ T := by rw [← hTe]; exact Int.emod_nonneg _ (by omega)
        have hT1 : T < endF l + 1 := by rw [← hTe]; exact Int.emod_lt_of_pos _ (by omega)
        have hearsOk := fun htk k => hearsT_ok (tk := tk) hok htk hts hsb (T := T) k
        have HERS := Lib.hid hearsOk
        have htm : Int.tmod (leak : Int) (endF l + 1) = T := by rw [Int.tmod_eq_emod_of_nonneg (by omega), hTe]
        obtain ⟨E, hEe⟩ : ∃ s, endF l = s := ⟨_, rfl⟩
        rw [hEe] at KE hE hT1 htm
        have e1 : IntKind.i64.wrap (leak : Int) = (leak : Int) := IntWalk.i64_in _ (by omega)
        have e2 : IntKind.i64.wrap (E + 1) = E + 1 := IntWalk.i64_in _ (by omega)
        have e3 : IntKind.i64.wrap T = T := IntWalk.i64_in _ (by omega)
        have e4 : ¬ E + 1 = 0 := by omega
        have HEE := Lib.hid hEe
        have HET := Lib.hid (And.intro hE (And.intro hT0 hT1))
        have HTS := Lib.hid hts
        have HSB := Lib.hid hsb
        have HSL := Lib.hid hsl
        clear hsle hTe hearsOk hEe hE hT0 hT1 hts hsb hsl hok
        go_wp2_with (first | (go_at_call 25; (with_reducible refine KE.out.mono ?_); rintro e w4 ⟨rfl, rfl⟩) | (go_at_call 26; fail))
        refine KT.out.mono ?_
        rintro e w5 ⟨vs, rfl, hown, hb5⟩
        have hts5 := tab_of_own (L := sl) hown HSL.out.symm (by rw [HSL.out]; have := line_few HOK.out; unfold maxLen; omega)
        obtain ⟨a1, c1, rfl⟩ : ∃ a1 c1, vs = .slice a1 l.length c1 := by
          have := hts5.shape
          rw [HSL.out] at this
          exact this
        have HB5 := Lib.hid (HB3.out.trans (hb5.mono HB3.out.size))
        have HL5 := Lib.hid (HL3.out.below hb5)
        have HT5 := Lib.hid (HT3.out.below hb5)
        have HS5 := Lib.hid hts5
        clear hown hb5 hts5 HL3 HT3 HB3 KT KE htm
        go_wp2_with fail
        go_loopw [10, 11, 12, 13, 14, 15, 16, 17, 18, 19, 20, 21, 22] (fun h i _ _ _ _ _ _ _ _ _ _ _ wr => ∃ j : Nat, j ≤ 8 ∧ i = .int .i64 ((3 * j : Nat) : Int) ∧ Below w5.heap.size w5 wr ∧ wr.ownsRow w5.heap.size 26 4 h j (flatK 4 heC (hearsT l tk sl T j))) (fun _ i _ _ _ _ _ _ _ _ _ _ _ _ => 24 - (intOf i).toNat)
        case atStart => exact ⟨0, by omega, rfl, Below.refl _ _, World.ownsRow_nil _ _ _ _⟩
        case round =>
          obtain ⟨j, hj, rfl, hbw, hd⟩ := hrel
          have g1 : IntKind.i64.wrap (((3 * j : Nat) : Int) + 2) = ((3 * j : Nat) : Int) + 2 := IntWalk.i64_in _ (by omega)
          have g2 : IntKind.i64.wrap (((3 * j : Nat) : Int) + 1) = ((3 * j : Nat) : Int) + 1 := IntWalk.i64_in _ (by omega)
          have g3 : IntKind.i64.wrap (((3 * j : Nat) : Int) + 3) = ((3 * (j + 1) : Nat) : Int) := by rw [IntWalk.i64_in _ (by omega)]; omega
          obtain ⟨i0, hi0⟩ : ∃ i, 3 * j = i := ⟨_, rfl⟩
          rw [hi0] at g1 g2 g3 ⊢
          have HI0 := Lib.hid hi0
          by_cases hin : i0 + 2 < tk.length ∧ i0 < 24
          · obtain ⟨h1, h2⟩ := hin
            have hT5 := HT5.out
            obtain ⟨tb, tq, ea, htb, htx⟩ := hT5.at (by omega)
            subst ea
            clear hT5
            have hall : ∀ i, tk.getD i 0 < 65536 := fun i => by
              by_cases h : i < tk.length
              · exact (htx i h).2
              · simp [List.getD, List.getElem?_eq_none (Nat.le_of_not_lt h)]
            have q0 := (hbw.cell (p := ⟨tb, tq + i0, none⟩) htb).trans (htx i0 (by omega)).1
            have q1 := (hbw.cell (p := ⟨tb, tq + (i0 + 1), none⟩) htb).trans (htx (i0 + 1) (by omega)).1
            have q2 := (htx (i0 + 2) (by omega)).1
            have hq0 := hall i0
            have hq1 := hall (i0 + 1)
            have hq2 := hall (i0 + 2)
            have hA : earT l tk i0 37 = ((tk.getD i0 0 : Nat) : Int) * 37 % (endF l + 1) := rfl
            have hB : earT l tk (i0 + 1) 41 = ((tk.getD (i0 + 1) 0 : Nat) : Int) * 41 % (endF l + 1) := rfl
            have hAi := ear_in HOK.out tk i0 37
            have hBi := ear_in HOK.out tk (i0 + 1) 41
            have hhj : hearT l tk sl T j = hearB l sl T (earT l tk i0 37) (earT l tk (i0 + 1) 41) (tk.getD (i0 + 2) 0) := by rw [← hi0]; rfl
            have hsn := hearsT_snoc l tk sl T j
            obtain ⟨vv, hvv⟩ : ∃ n, tk.getD i0 0 = n := ⟨_, rfl⟩
            obtain ⟨vw, hvw⟩ : ∃ n, tk.getD (i0 + 1) 0 = n := ⟨_, rfl⟩
            obtain ⟨vx, hvx⟩ : ∃ n, tk.getD (i0 + 2) 0 = n := ⟨_, rfl⟩
            obtain ⟨A, hAe⟩ : ∃ n, earT l tk i0 37 = n := ⟨_, rfl⟩
            obtain ⟨B, hBe⟩ : ∃ n, earT l tk (i0 + 1) 41 = n := ⟨_, rfl⟩
            rw [hvv] at q0 hq0 hA
            rw [hvw] at q1 hq1 hB
            rw [hvx] at q2 hq2 hhj
            rw [hAe] at hA hAi hhj
            rw [hBe] at hB hBi hhj
            rw [HEE.out] at hA hB hAi hBi
            have hE := HET.out
            have hfa := hearB_facts HOK.out HSB.out T (A := A) (B := B) (by rw [HEE.out]; exact hAi) (by rw [HEE.out]; exact hBi) vx hq2
            rw [← hhj] at hfa
            have hhd : hearT l tk sl T j = ⟨min A B, max A B, lagT l sl (min A B) (max A B) T l.length - (vx : Int) % 256, lagT l sl (min A B) (max A B) T l.length + (vx : Int) / 256⟩ := by rw [hhj]; rfl
            have hLb := lagT_in HOK.out HSB.out (min A B) (max A B) T l.length (Nat.le_refl _)
            have h8 := line_few HOK.out
            have hlag := lagR_true HOK.out HTS.out (h := hearT l tk sl T j) (T := T) (by rw [HEE.out]; omega) hfa.1
            have htun := tuneR_true HOK.out HTS.out (h := hearT l tk sl T j) (T := T) (by rw [HEE.out]; omega) hfa.1 (by rw [hhd] at hfa ⊢; exact hfa.2.1) (by rw [hhd] at hfa ⊢; exact hfa.2.2)
            rw [hhd] at hsn hlag htun
            simp only [] at hlag
            have hxy : min A B ≤ max A B := by omega
            have hx0 : 0 ≤ min A B := by omega
            have hyE : max A B ≤ E := by omega
            obtain ⟨x, hx⟩ : ∃ n, min A B = n := ⟨_, rfl⟩
            obtain ⟨y, hy⟩ : ∃ n, max A B = n := ⟨_, rfl⟩
            rw [hx, hy] at hsn hlag htun hLb hxy
            rw [hx] at hx0
            rw [hy] at hyE
            have KLG := Lib.hid (fun X hX hY => lag_any l HOK.out (.slice a l.length c) sl HSL.out HSB.out (.slice a1 l.length c1) x y T hx0 hxy (by omega) (by omega) (by omega) X hX hY)
            obtain ⟨n, hn⟩ : ∃ n, lagT l sl x y T l.length = n := ⟨_, rfl⟩
            rw [hn] at hsn hlag htun hLb KLG
            obtain ⟨wm, hwm⟩ : ∃ n, (vx : Int) % 256 = n := ⟨_, rfl⟩
            obtain ⟨wd, hwd⟩ : ∃ n, (vx : Int) / 256 = n := ⟨_, rfl⟩
            rw [hwm, hwd] at hsn htun
            obtain ⟨lo, hlo⟩ : ∃ m, n - wm = m := ⟨_, rfl⟩
            obtain ⟨hi, hhi⟩ : ∃ m, n + wd = m := ⟨_, rfl⟩
            rw [hlo, hhi] at hsn htun
            obtain ⟨S, hS, hSl, hSx⟩ := htun
            obtain ⟨g, q, hgq, hg1, hg2⟩ := hlag
            have KL1 := Lib.hid (fun X hX => Lag_any l (.slice a l.length c) x y T X hX)
            have KT1 := Lib.hid (fun X hX => Tune_any l (.slice a l.length c) T ⟨x, y, lo, hi⟩ X hX)
            rw [hgq] at KL1
            rw [hS] at KT1
            unfold LagR at KL1
            unfold TuneR heV at KT1
            simp only [] at KL1 KT1
            have KSP := Lib.hid (fun X => span_any lo hi X)
            have hmA : Int.tmod ((vv : Int) * 37) (E + 1) = A := by rw [Int.tmod_eq_emod_of_nonneg (by omega), hA]
            have hmB : Int.tmod ((vw : Int) * 41) (E + 1) = B := by rw [Int.tmod_eq_emod_of_nonneg (by omega), hB]
            have hmw : Int.tmod (vx : Int) 256 = wm := by rw [Int.tmod_eq_emod_of_nonneg (by omega), hwm]
            have hmd : Int.tdiv (vx : Int) 256 = wd := by rw [Int.tdiv_eq_ediv_of_nonneg (by omega), hwd]
            have u1 : IntKind.i64.wrap (vv : Int) = (vv : Int) := IntWalk.i64_in _ (by omega)
            have u2 : IntKind.i64.wrap (vw : Int) = (vw : Int) := IntWalk.i64_in _ (by omega)
            have u3 : IntKind.i64.wrap (vx : Int) = (vx : Int) := IntWalk.i64_in _ (by omega)
            have u4 : IntKind.i64.wrap ((vv : Int) * 37) = (vv : Int) * 37 := IntWalk.i64_in _ (by omega)
            have u5 : IntKind.i64.wrap ((vw : Int) * 41) = (vw : Int) * 41 := IntWalk.i64_in _ (by omega)
            have u6 : IntKind.i64.wrap A = A := IntWalk.i64_in _ (by omega)
            have u7 : IntKind.i64.wrap B = B := IntWalk.i64_in _ (by omega)
            have u8 : IntKind.i64.wrap wm = wm := IntWalk.i64_in _ (by omega)
            have u9 : IntKind.i64.wrap wd = wd := IntWalk.i64_in _ (by omega)
            have u10 : IntKind.i64.wrap (n - wm) = lo := by rw [hlo]; exact IntWalk.i64_in _ (by omega)
            have u11 : IntKind.i64.wrap (n + wd) = hi := by rw [hhi]; exact IntWalk.i64_in _ (by omega)
            obtain ⟨i1, hi1⟩ : ∃ m, i0 + 1 = m := ⟨_, rfl⟩
            obtain ⟨i2, hi2⟩ : ∃ m, i0 + 2 = m := ⟨_, rfl⟩
            rw [hi1] at q1
            rw [hi2] at q2
            have g1' : IntKind.i64.wrap ((i0 : Int) + 2) = (i2 : Int) := by rw [g1]; omega
            have g2' : IntKind.i64.wrap ((i0 : Int) + 1) = (i1 : Int) := by rw [g2]; omega
            have c0 : (i0 : Int) < (tk.length : Int) := by omega
            have c1 : (i1 : Int) < (tk.length : Int) := by omega
            have c2 : (i2 : Int) < (tk.length : Int) := by omega
            have c3 : (i0 : Int) < 24 := by omega
            have c4 : (0 : Int) ≤ (i0 : Int) := by omega
            have c5 : (0 : Int) ≤ (i1 : Int) := by omega
            have c6 : (0 : Int) ≤ (i2 : Int) := by omega
            have n1 : ¬ n < g := by omega
            have n2 : ¬ q < n := by omega
            have HSN := Lib.hid (show flatK 4 heC (hearsT l tk sl T j) ++ [.int .i64 x, .int .i64 y, .int .i64 lo, .int .i64 hi] = flatK 4 heC (hearsT l tk sl T (j + 1)) by rw [hsn, flat_snoc]; rfl)
            generalize flatK 4 heC (hearsT l tk sl T j) = L1 at *
            have HXYZ := Lib.hid (And.intro hx hy)
            have HSX := Lib.hid (And.intro hSl hSx)
            have HBW := Lib.hid hbw
            have HD := Lib.hid hd
            have HQ2 := Lib.hid q2
            have HTB := Lib.hid htb
            have HLT := Lib.hid (show i0 < 24 ∧ i1 = i0 + 1 ∧ i2 = i0 + 2 ∧ j < 8 by omega)
            clear g1 g2 hi0 htx hall hq0 hq1 hq2 hA hB hAi hBi hhj hvv hvw hvx hAe hBe hsn hE hfa hhd hLb h8 hx hy hxy hx0 hyE hn hwm hwd hlo hhi hS hSl hSx hgq hg1 hg2 hi1 hi2 h1 h2 htb
            go_upto_region 10 with fail
            obtain ⟨W2, hW2⟩ : ∃ X, X = wr.drew := ⟨_, rfl⟩
            have hbD : Below wr.heap.size wr W2 := by rw [hW2]; exact (Below.refl _ _).drew
            have hT : W2.cell? ⟨tb, tq + i0, none⟩ = some (.int .u16 (vv : Nat)) ∧ W2.cell? ⟨tb, tq + i1, none⟩ = some (.int .u16 (vw : Nat)) := ⟨cell_step q0 hbD, cell_step q1 hbD⟩
            have HT2 := Lib.hid hT
            have HD2 := Lib.hid (And.intro (row_below HD.out hbD) (fun t ht => (HD.out.lt t ht).2))
            have HBD := Lib.hid hbD
            have HB2 := Lib.hid (HBW.out.trans (hbD.mono HBW.out.size))
            clear hbD hT q0 q1 hd hbw
            refine wp_region_held_drew (S := fun w' => w'.cell? ⟨tb, tq + i0, none⟩ = some (.int .u16 (vv : Nat)) ∧ w'.cell? ⟨tb, tq + i1, none⟩ = some (.int .u16 (vw : Nat))) (by kernel_rfl) (by rw [← hW2]; exact HT2.out) (fun hHeld => ?_)
            rw [← hW2]
            clear hW2 hHeld
            refine wpAnyH_take (i := 0) (oi := _) (v := ?_) rfl (by kernel_rfl) (by kernel_rfl) (by kernel_rfl) (fun _ _ _ h => h) (Or.inl ⟨by rfl, ?_⟩) HT2.out ?_
            rotate_left
            · intro w1 hSw
              obtain ⟨z1, z2⟩ := hSw
              go_simp; with_reducible rfl
            simp only [List.getElem_toArray, List.getElem_cons_succ, List.getElem_cons_zero, Act.put, List.setIfInBounds_toArray, List.set_cons_zero, List.set_cons_succ]
            refine wpAnyH_take (i := 1) (oi := _) (v := ?_) rfl (by kernel_rfl) (by kernel_rfl) (by kernel_rfl) (fun _ _ _ h => h) (Or.inl ⟨by rfl, ?_⟩) HT2.out ?_
            rotate_left
            · intro w1 hSw
              obtain ⟨z1, z2⟩ := hSw
              go_simp; with_reducible rfl
            simp only [List.getElem_toArray, List.getElem_cons_succ, List.getElem_cons_zero, Act.put, List.setIfInBounds_toArray, List.set_cons_zero, List.set_cons_succ]
            refine wpAnyH_take (i := 2) (oi := _) (v := ?_) rfl (by kernel_rfl) (by kernel_rfl) (by kernel_rfl) (fun _ _ _ h => h) (Or.inl ⟨by rfl, ?_⟩) HT2.out ?_
            rotate_left
            · intro w1 hSw
              obtain ⟨z1, z2⟩ := hSw
              go_simp; with_reducible rfl
            simp only [List.getElem_toArray, List.getElem_cons_succ, List.getElem_cons_zero, Act.put, List.setIfInBounds_toArray, List.set_cons_zero, List.set_cons_succ]
            refine wpAnyH_take (i := 3) (oi := _) (v := ?_) rfl (by kernel_rfl) (by kernel_rfl) (by kernel_rfl) (fun _ _ _ h => h) (Or.inl ⟨by rfl, ?_⟩) HT2.out ?_
            rotate_left
            · intro w1 hSw
              obtain ⟨z1, z2⟩ := hSw
              go_simp; with_reducible rfl
            simp only [List.getElem_toArray, List.getElem_cons_succ, List.getElem_cons_zero, Act.put, List.setIfInBounds_toArray, List.set_cons_zero, List.set_cons_succ]
            refine wpAnyH_take (i := 4) (oi := _) (v := ?_) rfl (by kernel_rfl) (by kernel_rfl) (by kernel_rfl) (fun _ _ _ h => h) (Or.inl ⟨by rfl, ?_⟩) HT2.out ?_
            rotate_left
            · intro w1 hSw
              obtain ⟨z1, z2⟩ := hSw
              go_simp; with_reducible rfl
            simp only [List.getElem_toArray, List.getElem_cons_succ, List.getElem_cons_zero, Act.put, List.setIfInBounds_toArray, List.set_cons_zero, List.set_cons_succ]
            refine wpAnyH_take (i := 5) (oi := _) (v := ?_) rfl (by kernel_rfl) (by kernel_rfl) (by kernel_rfl) (fun _ _ _ h => h) (Or.inl ⟨by rfl, ?_⟩) HT2.out ?_
            rotate_left
            · intro w1 hSw
              obtain ⟨z1, z2⟩ := hSw
              go_simp; with_reducible rfl
            simp only [List.getElem_toArray, List.getElem_cons_succ, List.getElem_cons_zero, Act.put, List.setIfInBounds_toArray, List.set_cons_zero, List.set_cons_succ]
            refine wpAnyH_take (i := 6) (oi := _) (v := ?_) rfl (by kernel_rfl) (by kernel_rfl) (by kernel_rfl) (fun _ _ _ h => h) (Or.inl ⟨by rfl, ?_⟩) HT2.out ?_
            rotate_left
            · intro w1 hSw
              obtain ⟨z1, z2⟩ := hSw
              go_simp; with_reducible rfl
            simp only [List.getElem_toArray, List.getElem_cons_succ, List.getElem_cons_zero, Act.put, List.setIfInBounds_toArray, List.set_cons_zero, List.set_cons_succ]
            refine wpAnyH_take (i := 7) (oi := _) (v := ?_) rfl (by kernel_rfl) (by kernel_rfl) (by kernel_rfl) (fun _ _ _ h => h) (Or.inl ⟨by rfl, ?_⟩) HT2.out ?_
            rotate_left
            · intro w1 hSw
              obtain ⟨z1, z2⟩ := hSw
              go_simp; with_reducible rfl
            simp only [List.getElem_toArray, List.getElem_cons_succ, List.getElem_cons_zero, Act.put, List.setIfInBounds_toArray, List.set_cons_zero, List.set_cons_succ]
            refine wpAnyH_take (i := 8) (oi := _) (v := ?_) rfl (by kernel_rfl) (by kernel_rfl) (by kernel_rfl) (fun _ _ _ h => h) (Or.inl ⟨by rfl, ?_⟩) HT2.out ?_
            rotate_left
            · intro w1 hSw
              obtain ⟨z1, z2⟩ := hSw
              go_simp; with_reducible rfl
            simp only [List.getElem_toArray, List.getElem_cons_succ, List.getElem_cons_zero, Act.put, List.setIfInBounds_toArray, List.set_cons_zero, List.set_cons_succ]
            refine wpAnyH_take (i := 9) (oi := _) (v := ?_) rfl (by kernel_rfl) (by kernel_rfl) (by kernel_rfl) (fun _ _ _ h => h) (Or.inl ⟨by rfl, ?_⟩) HT2.out ?_
            rotate_left
            · intro w1 hSw
              obtain ⟨z1, z2⟩ := hSw
              go_simp; with_reducible rfl
            simp only [List.getElem_toArray, List.getElem_cons_succ, List.getElem_cons_zero, Act.put, List.setIfInBounds_toArray, List.set_cons_zero, List.set_cons_succ]
            refine wpAnyH_take (i := 10) (oi := _) (v := ?_) rfl (by kernel_rfl) (by kernel_rfl) (by kernel_rfl) (fun _ _ _ h => h) (Or.inl ⟨by rfl, ?_⟩) HT2.out ?_
            rotate_left
            · intro w1 hSw
              obtain ⟨z1, z2⟩ := hSw
              go_simp; with_reducible rfl
            simp only [List.getElem_toArray, List.getElem_cons_succ, List.getElem_cons_zero, Act.put, List.setIfInBounds_toArray, List.set_cons_zero, List.set_cons_succ]
            refine wpAnyH_take (i := 11) (oi := _) (v := ?_) rfl (by kernel_rfl) (by kernel_rfl) (by kernel_rfl) (fun _ _ _ h => h) (Or.inl ⟨by rfl, ?_⟩) HT2.out ?_
            rotate_left
            · intro w1 hSw
              obtain ⟨z1, z2⟩ := hSw
              go_simp; with_reducible rfl
            simp only [List.getElem_toArray, List.getElem_cons_succ, List.getElem_cons_zero, Act.put, List.setIfInBounds_toArray, List.set_cons_zero, List.set_cons_succ]
            refine wpAnyH_take (i := 12) (oi := _) (v := ?_) rfl (by kernel_rfl) (by kernel_rfl) (by kernel_rfl) (fun _ _ _ h => h) (Or.inl ⟨by rfl, ?_⟩) HT2.out ?_
            rotate_left
            · intro w1 hSw
              obtain ⟨z1, z2⟩ := hSw
              go_simp; with_reducible rfl
            simp only [List.getElem_toArray, List.getElem_cons_succ, List.getElem_cons_zero, Act.put, List.setIfInBounds_toArray, List.set_cons_zero, List.set_cons_succ]
            refine wpAnyH_take (i := 13) (oi := _) (v := ?_) rfl (by kernel_rfl) (by kernel_rfl) (by kernel_rfl) (fun _ _ _ h => h) (Or.inl ⟨by rfl, ?_⟩) HT2.out ?_
            rotate_left
            · intro w1 hSw
              obtain ⟨z1, z2⟩ := hSw
              go_simp; with_reducible rfl
            simp only [List.getElem_toArray, List.getElem_cons_succ, List.getElem_cons_zero, Act.put, List.setIfInBounds_toArray, List.set_cons_zero, List.set_cons_succ]
            refine wpAnyH_take (i := 14) (oi := _) (v := ?_) rfl (by kernel_rfl) (by kernel_rfl) (by kernel_rfl) (fun _ _ _ h => h) (Or.inl ⟨by rfl, ?_⟩) HT2.out ?_
            rotate_left
            · intro w1 hSw
              obtain ⟨z1, z2⟩ := hSw
              go_simp; with_reducible rfl
            simp only [List.getElem_toArray, List.getElem_cons_succ, List.getElem_cons_zero, Act.put, List.setIfInBounds_toArray, List.set_cons_zero, List.set_cons_succ]
            refine wpAnyH_take (i := 15) (oi := _) (v := ?_) rfl (by kernel_rfl) (by kernel_rfl) (by kernel_rfl) (fun _ _ _ h => h) (Or.inl ⟨by rfl, ?_⟩) HT2.out ?_
            rotate_left
            · intro w1 hSw
              obtain ⟨z1, z2⟩ := hSw
              go_simp; with_reducible rfl
            simp only [List.getElem_toArray, List.getElem_cons_succ, List.getElem_cons_zero, Act.put, List.setIfInBounds_toArray, List.set_cons_zero, List.set_cons_succ]
            refine wpAnyH_take (i := 16) (oi := _) (v := ?_) rfl (by kernel_rfl) (by kernel_rfl) (by kernel_rfl) (fun _ _ _ h => h) (Or.inl ⟨by rfl, ?_⟩) HT2.out ?_
            rotate_left
            · intro w1 hSw
              obtain ⟨z1, z2⟩ := hSw
              go_simp; with_reducible rfl
            simp only [List.getElem_toArray, List.getElem_cons_succ, List.getElem_cons_zero, Act.put, List.setIfInBounds_toArray, List.set_cons_zero, List.set_cons_succ]
            refine wpAnyH_take (i := 17) (oi := _) (v := ?_) rfl (by kernel_rfl) (by kernel_rfl) (by kernel_rfl) (fun _ _ _ h => h) (Or.inl ⟨by rfl, ?_⟩) HT2.out ?_
            rotate_left
            · intro w1 hSw
              obtain ⟨z1, z2⟩ := hSw
              go_simp; with_reducible rfl
            simp only [List.getElem_toArray, List.getElem_cons_succ, List.getElem_cons_zero, Act.put, List.setIfInBounds_toArray, List.set_cons_zero, List.set_cons_succ]
            refine wpAnyH_take (i := 18) (oi := _) (v := ?_) rfl (by kernel_rfl) (by kernel_rfl) (by kernel_rfl) (fun _ _ _ h => h) (Or.inl ⟨by rfl, ?_⟩) HT2.out ?_
            rotate_left
            · intro w1 hSw
              obtain ⟨z1, z2⟩ := hSw
              go_simp; with_reducible rfl
            simp only [List.getElem_toArray, List.getElem_cons_succ, List.getElem_cons_zero, Act.put, List.setIfInBounds_toArray, List.set_cons_zero, List.set_cons_succ]
            refine wpAnyH_take (i := 19) (oi := _) (v := ?_) rfl (by kernel_rfl) (by kernel_rfl) (by kernel_rfl) (fun _ _ _ h => h) (Or.inl ⟨by rfl, ?_⟩) HT2.out ?_
            rotate_left
            · intro w1 hSw
              obtain ⟨z1, z2⟩ := hSw
              go_simp; with_reducible rfl
            simp only [List.getElem_toArray, List.getElem_cons_succ, List.getElem_cons_zero, Act.put, List.setIfInBounds_toArray, List.set_cons_zero, List.set_cons_succ]
            refine wpAnyH_take (i := 20) (oi := _) (v := ?_) rfl (by kernel_rfl) (by kernel_rfl) (by kernel_rfl) (fun _ _ _ h => h) (Or.inl ⟨by rfl, ?_⟩) HT2.out ?_
            rotate_left
            · intro w1 hSw
              obtain ⟨z1, z2⟩ := hSw
              go_simp; with_reducible rfl
            simp only [List.getElem_toArray, List.getElem_cons_succ, List.getElem_cons_zero, Act.put, List.setIfInBounds_toArray, List.set_cons_zero, List.set_cons_succ]
            refine wpAnyH_done (by kernel_rfl) ?_ _
            obtain ⟨W3, hW3⟩ : ∃ X, X = W2.alloc (.cells #[.int .i64 x, .int .i64 y, .int .i64 0, .int .i64 0] 26) := ⟨_, rfl⟩
            have hb3 : Below W2.heap.size W2 W3 := by rw [hW3]; exact (Below.refl _ _).alloc (Nat.le_refl _) _
            have hr3 : W3.heap[W2.heap.size]? = some (.cells #[.int .i64 x, .int .i64 y, .int .i64 0, .int .i64 0] 26 (0, 0)) := by rw [hW3]; exact alloc_heap W2 _
            have HR3 := Lib.hid hr3
            have HD3 := Lib.hid (And.intro (row_below HD2.out.1 hb3) HD2.out.2)
            have HB3' := Lib.hid (HB2.out.trans (hb3.mono HB2.out.size))
            clear hb3 hr3 HD2 HT2
            go_upto_region 12 with fail
            rw [HXYZ.out.1, HXYZ.out.2]
            rw [← hW3]
            have hr3 := HR3.out
            obtain ⟨P, hP⟩ : ∃ z, W2.heap.size = z := ⟨_, rfl⟩
            rw [hP] at hr3
            try rw [hP]
            have HPP := Lib.hid (show wr.heap.size ≤ P ∧ w5.heap.size ≤ P from ⟨by rw [← hP]; exact HBD.out.size, by rw [← hP]; exact HB2.out.size⟩)
            have HX3 := Lib.hid hr3
            obtain ⟨p0, p1, p2, p3⟩ := four_cells hr3
            clear hW3 hP hr3 HR3 HB2
            go_wp2_with (go_at_call 27; fail)
            refine (KLG.out W3 (HL5.out.below HB3'.out) (HS5.out.below HB3'.out)).mono ?_
            rintro e w4 ⟨rfl, hb4⟩
            have HX4 := Lib.hid (box_step (w0 := w) HX3.out hb4)
            have HD4 := Lib.hid (And.intro (row_below HD3.out.1 hb4) HD3.out.2)
            have HB4 := Lib.hid (HB3'.out.trans (hb4.mono HB3'.out.size))
            have z2 := (HB4.out.cell (p := ⟨tb, tq + i2, none⟩) HTB.out).trans HQ2.out
            clear hb4 p0 p1 p2 p3 HX3 HD3 HB3' KLG
            go_wp2_with (go_at_call 21; fail)
            refine (KSP.out w4).mono ?_
            rintro e w6 ⟨rfl, hb6⟩
            have hx6 := box_step (w0 := w) HX4.out hb6
            have hd6 := And.intro (row_below HD4.out.1 hb6) HD4.out.2
            have hb60 := HB4.out.trans (hb6.mono HB4.out.size)
            obtain ⟨W7, hW7⟩ : ∃ X, X = (w6.setCell ⟨P, 2, none⟩ (.int .i64 lo)).setCell ⟨P, 3, none⟩ (.int .i64 hi) := ⟨_, rfl⟩
            have HX7 := Lib.hid (show W7.heap[P]? = some (.cells #[.int .i64 x, .int .i64 y, .int .i64 lo, .int .i64 hi] 26 (0, 0)) by rw [hW7]; exact set_four hx6)
            have hne : ∀ t, _ → t ≠ P := fun t ht => Nat.ne_of_lt (Nat.lt_of_lt_of_le (hd6.2 t ht) HPP.out.1)
            have hd7 := row_set (o := 3) (u := .int .i64 hi) (row_set (o := 2) (u := .int .i64 lo) hd6.1 hne) hne
            rw [← hW7] at hd7
            have HD7 := Lib.hid (And.intro hd7 hd6.2)
            have HB7 := Lib.hid (show Below w5.heap.size w5 W7 by rw [hW7]; exact (hb60.setCell (p := ⟨P, 2, none⟩) HPP.out.2 _).setCell (p := ⟨P, 3, none⟩) HPP.out.2 _)
            obtain ⟨p0, p1, p2, p3⟩ := four_cells hx6
            obtain ⟨f2, f3⟩ := cell_three_spot hx6
            clear hb6 z2 hx6 hd6 hb60 hne hd7 HX4 HD4 HB4 KSP
            go_upto_region 15 with fail
            rw [← hW7]
            clear hW7 p0 p1 p2 p3 f2 f3
            obtain ⟨Q8, hQ8⟩ : ∃ z, W7.heap.size = z := ⟨_, rfl⟩
            obtain ⟨W8, hW8⟩ : ∃ X, W7.alloc (.cells #[.int .i64 x, .int .i64 y, .int .i64 lo, .int .i64 hi] 26) = X := ⟨_, rfl⟩
            have hb8 : Below W7.heap.size W7 W8 := by rw [← hW8]; exact (Below.refl _ _).alloc (Nat.le_refl _) _
            have hr8 : W8.heap[Q8]? = some (.cells #[.int .i64 x, .int .i64 y, .int .i64 lo, .int .i64 hi] 26 (0, 0)) := by rw [← hW8, ← hQ8]; exact alloc_heap W7 _
            have hd8 := row_below HD7.out.1 hb8
            have hb80 := HB7.out.trans (hb8.mono HB7.out.size)
            have hx8 := box_step (w0 := w) HX7.out hb8
            obtain ⟨G, cp, W9, hrun, hown, hgb, hgrow⟩ := run_one 37 37 26 4 32 _ Try.underlying37 Try.info26 rfl (by decide) (by decide) w5.heap.size Q8 hd8 [.int .i64 x, .int .i64 y, .int .i64 lo, .int .i64 hi] rfl hr8 (by intro u hu; simp at hu; rcases hu with rfl | rfl | rfl | rfl <;> rfl) (by have := HLT.out; omega) hb80.size
            have hb9 := hb80.grown hgrow hb80.size (fun q hq => (hd8.lt q hq).1)
            have hx9 := (hgrow.block P (Array.getElem?_eq_some_iff.1 hx8).1 (fun e => by have := HD7.out.2 P e.symm; have := HPP.out.1; omega)).trans hx8
            have HX9 := Lib.hid hx9
            have HB9 := Lib.hid hb9
            have HO9 := Lib.hid (show W9.ownsRow w5.heap.size 26 4 (.slice (some ⟨G, 0, none⟩) (j + 1) cp) (j + 1) (flatK 4 heC (hearsT l tk sl T (j + 1))) by rw [← HSN.out]; exact hown)
            obtain ⟨p0, p1, p2, p3⟩ := four_cells HX7.out
            clear hb8 hr8 hd8 hb80 hx8 hown hgb hgrow hb9 hx9 HSN HD7 HX7 HB7
            obtain ⟨r0, r1, r2, r3⟩ := four_cells HX9.out
            go_wp2_with (first | (at_builtin; refine wpList_append_run rfl _ _ 37 rfl rfl rfl hrun ?_) | (go_at_call 13; fail))
            refine (KL1.out W9 (HL5.out.below HB9.out)).mono ?_
            rintro e w10 ⟨rfl, hb10⟩
            clear hrun hW8 hQ8 p0 p1 p2 p3 r0 r1 r2 r3
            obtain ⟨W11, hW11⟩ : ∃ X, X = w10.alloc (.cells #[.int .i64 g, .int .i64 q] 24) := ⟨_, rfl⟩
            have hb11 : Below w10.heap.size w10 W11 := by rw [hW11]; exact (Below.refl _ _).alloc (Nat.le_refl _) _
            have hr11 : W11.heap[w10.heap.size]? = some (.cells #[.int .i64 g, .int .i64 q] 24 (0, 0)) := by rw [hW11]; exact alloc_heap w10 _
            have hb911 := hb10.trans (hb11.mono hb10.size)
            have HX11 := Lib.hid (box_step (w0 := w) HX9.out hb911)
            have HO11 := Lib.hid (row_below HO9.out hb911)
            have HB11 := Lib.hid (HB9.out.trans (hb911.mono HB9.out.size))
            have HR11 := Lib.hid hr11
            clear hb10 hb11 hr11 hb911 HX9 HO9 HB9 KL1
            go_upto_region 17 with fail
            rw [← hW11]
            have hr11 := HR11.out
            obtain ⟨C, hC⟩ : ∃ z, w10.heap.size = z := ⟨_, rfl⟩
            rw [hC] at hr11
            try rw [hC]
            obtain ⟨s0, s1⟩ := two_cells hr11
            obtain ⟨p0, p1, p2, p3⟩ := four_cells HX11.out
            clear hW11 hC hr11 HR11
            go_wp2_with (go_at_call 15; fail)
            refine (KT1.out W11 (HL5.out.below HB11.out)).mono ?_
            rintro e w12 ⟨v12, rfl, ho12, hb12⟩
            have ht12 := outS_tab ho12 (by rw [HSX.out.1]; have := line_few HOK.out; omega)
            obtain ⟨a12, c12, e12⟩ := ht12.shape
            rw [HSX.out.1] at e12
            subst e12
            have HT12 := Lib.hid ht12
            have HO12 := Lib.hid (row_below HO11.out hb12)
            have HB12 := Lib.hid (HB11.out.trans (hb12.mono HB11.out.size))
            clear s0 s1 p0 p1 p2 p3 ho12 hb12 ht12 HX11 HO11 HB11 KT1
            go_wp2_with fail
            go_loopw [21, 22, 155] (fun _ _ i wr => ∃ k : Nat, k ≤ l.length ∧ i = .int .i64 k ∧ Below w12.heap.size w12 wr) (fun _ _ i _ => l.length - (intOf i).toNat)
            case atStart => exact ⟨0, by omega, rfl, Below.refl _ _⟩
            case round =>
              obtain ⟨k, hk, rfl, hbi⟩ := hrel
              by_cases hlt : k < l.length
              · obtain ⟨lb, lof, ec, hlb, hlx⟩ := ((HL5.out.below HB12.out).below hbi).at (by omega)
                subst ec
                obtain ⟨sb, sof, ed, hsb, hsx⟩ := ints_row ((HS5.out.below HB12.out).below hbi) (by rw [HSL.out]; omega)
                subst ed
                obtain ⟨ub, uof, ee, hub, hux⟩ := (HT12.out.below hbi).at (by rw [HSX.out.1]; omega)
                subst ee
                have x0 := hlx k hlt 0 (by omega)
                have x1 := hlx k hlt 1 (by omega)
                have x2 := hlx k hlt 2 (by omega)
                have y0 := hsx k (by rw [HSL.out]; omega)
                have z0 := hux k (by rw [HSX.out.1]; omega) 0 (by omega)
                have z1 := hux k (by rw [HSX.out.1]; omega) 1 (by omega)
                have hq := HSX.out.2 k hlt
                obtain ⟨⟨t0, t1, t2⟩, hrow⟩ : ∃ z : Pi, l.getD k default = z := ⟨_, rfl⟩
                obtain ⟨sv, hsv⟩ : ∃ z, sl.getD k default = z := ⟨_, rfl⟩
                obtain ⟨⟨d0, d1⟩, hdd⟩ : ∃ z, S.getD k default = z := ⟨_, rfl⟩
                rw [hrow] at x0 x1 x2 hq
                rw [hsv] at y0 hq
                rw [hdd] at z0 z1 hq
                simp only [Nat.add_zero, piC, spC] at x0 x1 x2 z0 z1 hq
                have b1 : decide (sv < d0) = false := decide_eq_false (by omega)
                have b2 : decide (d1 < sv) = false := decide_eq_false (by omega)
                have b3 : decide (d0 < t1) = false := decide_eq_false (by omega)
                have b4 : decide (t2 < d1) = false := decide_eq_false (by omega)
                have ij0 : (0 : Int) ≤ (k : Int) := by omega
                have ij1 : (k : Int) < (l.length : Int) := Int.ofNat_lt.2 hlt
                have v7 : IntKind.i64.wrap ((k : Int) + 1) = (k : Int) + 1 := IntWalk.i64_in _ (by have := line_few HOK.out; omega)
                obtain ⟨Y1, hY1⟩ : ∃ X, X = wr.alloc (.cells #[.int .i64 t0, .int .i64 t1, .int .i64 t2] 59) := ⟨_, rfl⟩
                have hbY : Below wr.heap.size wr Y1 := by rw [hY1]; exact (Below.refl _ _).alloc (Nat.le_refl _) _
                have hrY : Y1.heap[wr.heap.size]? = some (.cells #[.int .i64 t0, .int .i64 t1, .int .i64 t2] 59 (0, 0)) := by rw [hY1]; exact alloc_heap wr _
                have HRY := Lib.hid hrY
                have HYC := Lib.hid (And.intro (cell_step y0 hbY) (And.intro (cell_step z0 hbY) (cell_step z1 hbY)))
                have HBI := Lib.hid (hbi.trans (hbY.mono hbi.size))
                clear hlb hlx hsb hsx hub hux y0 z0 z1 hq hrow hsv hdd hbY hrY hbi
                go_upto_region 25 with fail
                rw [← hY1]
                have hrY := HRY.out
                obtain ⟨D, hD⟩ : ∃ z, wr.heap.size = z := ⟨_, rfl⟩
                rw [hD] at hrY
                try rw [hD]
                obtain ⟨_, m1, m2⟩ := three_cells hrY
                have k0 := cell_regrown HYC.out.1
                have k1 := cell_regrown HYC.out.2.1
                have k2 := cell_regrown HYC.out.2.2
                have k3 := cell_regrown m1
                have k4 := cell_regrown m2
                clear hY1 hD x0 x1 x2 m1 m2 hrY HRY HYC
                refine wp_region_quiet_below (by kernel_rfl) (by kernel_rfl) ?_
                repeat (go_big_quiet_step (fail))
                refine wpQuiet_nil ?_
                intro Y hw'
                have hbr : Below Y1.heap.size Y1 Y := by obtain ⟨⟨dq, osq⟩, hw''⟩ := hw'; rw [hw'']; exact below_regrown Y1 dq osq
                have HBY := Lib.hid (HBI.out.trans (hbr.mono HBI.out.size))
                clear hw' hbr k0 k1 k2 k3 k4
                go_wp2
                go_roundw
                case rel => exact ⟨k + 1, by omega, by go_num, HBY.out⟩
                case measure => simp [intOf]; omega
              · have q1 : ¬ (k : Int) < (l.length : Int) := by omega
                have HBI := Lib.hid (HB12.out.trans (hbi.mono HB12.out.size))
                have HOI := Lib.hid (row_below HO12.out hbi)
                clear hbi
                go_wp2
                go_roundw
                case rel => exact ⟨j + 1, by have := HLT.out; omega, rfl, HBI.out, HOI.out⟩
                case measure => simp [intOf]; have := HLT.out; have := HI0.out; omega
          · have hall : ∀ i, tk.getD i 0 < 65536 := fun i => by
              by_cases h : i < tk.length
              · obtain ⟨tb, tq, ea, htb, htx⟩ := HT5.out.at (by omega)
                exact (htx i h).2
              · simp [List.getD, List.getElem?_eq_none (Nat.le_of_not_lt h)]
            have hhs := HERS.out hall j
            have hlen := hearsT_len l tk sl T j
            obtain ⟨hs, hhse⟩ : ∃ L, hearsT l tk sl T j = L := ⟨_, rfl⟩
            rw [hhse] at hhs hlen hd
            have hE := HET.out
            obtain ⟨S, hS, hon, hst, hSl⟩ := where_true HOK.out (hs := hs) (by omega) (fun h hm => (hhs h hm).1) (t := T) (by omega) (by rw [HEE.out]; omega) (fun h hm => (hhs h hm).2)
            have htab := tab_of_own hd hlen.symm (by unfold maxLen; omega)
            obtain ⟨ah, ch, eh⟩ := htab.shape
            rw [hlen] at eh
            subst eh
            have KW := Where_any l (.slice a l.length c) hs (.slice ah j ch) wr (HL5.out.below hbw) htab
            have KON := Lib.hid (fun v w hX hY => on_any l HOK.out (.slice a l.length c) S (stOk_of hst) v T w hX hY)
            rw [hon] at KON
            rw [hS] at KW
            unfold WhereR at KW
            simp only [] at KW
            have KWW := Lib.hid KW
            have HSL1 := Lib.hid (show S.length ≤ 1000 by have := line_few HOK.out; omega)
            have HBR := Lib.hid hbw
            have r1 : ¬ (((i0 : Int) + 2) < (tk.length : Int) ∧ (i0 : Int) < 24) := by omega
            clear hall hhs hlen hhse hE hS hon hst hSl htab KW hbw hd HERS
            by_cases r2 : (i0 : Int) + 2 < (tk.length : Int)
            · have r3 : ¬ (i0 : Int) < 24 := fun h => r1 ⟨r2, h⟩
              have r4 : decide ((i0 : Int) < 24) = false := decide_eq_false r3
              have r5 : decide (i0 < 24) = false := decide_eq_false (by omega)
              clear r1
              go_wp2_with (go_at_call 18; fail)
              refine KWW.out.mono ?_
              rintro e wa ⟨va, rfl, hoa, hba⟩
              have hta := outT_tab hoa HSL1.out
              obtain ⟨aa, ca, rfl⟩ := hta.shape
              have HTA := Lib.hid hta
              have HBA := Lib.hid (HBR.out.trans (hba.mono HBR.out.size))
              clear hoa hba hta KWW HBR
              go_wp2_with (go_at_call 28; fail)
              refine (KON.out _ wa (HL5.out.below HBA.out) HTA.out).mono ?_
              rintro e wb ⟨rfl, hbb⟩
              have HBB := Lib.hid (HBA.out.trans (hbb.mono HBA.out.size))
              clear hbb
              go_wp2_with (go_at_call 12; fail)
              refine (KA.out _).mono ?_
              rintro e9 wc ⟨rfl, hbz⟩
              go_wp2
              go_ret
              exact ⟨rfl, HB5.out.trans ((HBB.out.trans (hbz.mono HBB.out.size)).mono HB5.out.size)⟩
            · have r4 : decide ((i0 : Int) + 2 < (tk.length : Int)) = false := decide_eq_false r2
              clear r1
              go_wp2_with (go_at_call 18; fail)
              refine KWW.out.mono ?_
              rintro e wa ⟨va, rfl, hoa, hba⟩
              have hta := outT_tab hoa HSL1.out
              obtain ⟨aa, ca, rfl⟩ := hta.shape
              have HTA := Lib.hid hta
              have HBA := Lib.hid (HBR.out.trans (hba.mono HBR.out.size))
              clear hoa hba hta KWW HBR
              go_wp2_with (go_at_call 28; fail)
              refine (KON.out _ wa (HL5.out.below HBA.out) HTA.out).mono ?_
              rintro e wb ⟨rfl, hbb⟩
              have HBB := Lib.hid (HBA.out.trans (hbb.mono HBA.out.size))
              clear hbb
              go_wp2_with (go_at_call 12; fail)
              refine (KA.out _).mono ?_
              rintro e9 wc ⟨rfl, hbz⟩
              go_wp2
              go_ret
              exact ⟨rfl, HB5.out.trans ((HBB.out.trans (hbz.mono HBB.out.size)).mono HB5.out.size)⟩
end Go.Proofs.Ytdbjifpnbghbaaa
