/- The document's own: able. -/
import Derived.Test.YtoiapnokgpeipaaR3
import Derived.Test.YtoiapnokgpeipaaC2
namespace Go.Proofs.Ytoiapnokgpeipaa
set_option linter.unusedSimpArgs false
open Go.RowKit Go.Maps

/-- is a wheel lacking? -/
def lackAt (S P : List (Int × Int)) (i x : Int) : Bool := decide (heldI S x < usedN P i x)
def shortB (S P : List (Int × Int)) (i : Int) : Bool := (List.range 95).any (fun j => lackAt S P i (6 + j))
theorem shortB_hit {S P : List (Int × Int)} {i : Int} {x : Nat} (h0 : 6 ≤ x) (h1 : x ≤ 100) (h : lackAt S P i x = true) : shortB S P i = true := by
  unfold shortB; rw [List.any_eq_true]
  exact ⟨x - 6, by simp; omega, by rw [show (6 : Int) + ((x - 6 : Nat) : Int) = (x : Int) by omega]; exact h⟩
theorem shortB_none {S P : List (Int × Int)} {i : Int} (h : ∀ x : Nat, 6 ≤ x → x ≤ 100 → lackAt S P i x = false) : shortB S P i = false := by
  unfold shortB; rw [List.any_eq_false]
  intro j hj
  have := h (6 + j) (by omega) (by have := List.mem_range.1 hj; omega)
  rw [show (6 : Int) + (j : Int) = ((6 + j : Nat) : Int) by omega, this]; simp
/-- why a train can't be built, but for its being exact -/
def ableC (S : List (Int × Int)) (p o : Int) (same : Bool) (P : List (Int × Int)) (i : Int) : Int :=
  if pairsErr P p o ≠ 0 then pairsErr P p o else if i ≠ 0 ∧ P.length = 0 then 6 else if i ≠ 0 ∧ teethB i = false then 2 else if shortB S P i = true then 10 else if turnsB P.length i ≠ same then 7 else 0
theorem pairsErr_none {P : List (Int × Int)} {p o : Int} (hp : ¬ p < P.length) (h : P.find? (fun x => pairErr o x != 0) = none) : pairsErr P p o = 0 := by
  unfold pairsErr; rw [if_neg hp, h]; rfl

set_option maxRecDepth 100000 in
set_option maxHeartbeats 6400000 in
theorem able_any (S P : List (Int × Int)) (sv pv : Value) (t r p o i : Int) (same : Bool) (w : World) (hS : WheelsAt w sv S) (hP : WheelsAt w pv P) (hl : P.length ≤ 1000000) (ho : -1000 ≤ o ∧ o ≤ 1000) :
    Calls Try.prog 43 #[sv, .agg #[.int .i64 t, .int .i64 r, .bool same, .int .i64 p, .int .i64 o], .agg #[pv, .int .i64 i]] w fun e w' => e = .returned (.int .i64 (ableC S p o same P i)) ∧ Below w.heap.size w w' := by
  obtain ⟨C, hC⟩ : ∃ C, C = ableC S p o same P i := ⟨_, rfl⟩
  rw [← hC]
  have HC := Lib.hid hC
  clear hC
  obtain ⟨pa, pc, rfl⟩ := hP.shape
  obtain ⟨sa, sc, rfl⟩ := hS.shape
  obtain ⟨W0, hW0⟩ : ∃ W0, W0 = (w.alloc (.cells #[.int .i64 t, .int .i64 r, .bool same, .int .i64 p, .int .i64 o] 24)).alloc (.cells #[.slice pa P.length pc, .int .i64 i] 27) := ⟨_, rfl⟩
  have hg0 : Below w.heap.size w W0 := by rw [hW0]; exact ((Below.refl _ _).alloc (Nat.le_refl _) _).alloc (by simp) _
  have hG0 : W0.heap[w.heap.size]? = some (.cells #[.int .i64 t, .int .i64 r, .bool same, .int .i64 p, .int .i64 o] 24) := by rw [hW0, Below.heap_alloc _ _ _ (by simp)]; exact (MapKept.heap_alloc w _).1
  have hR0 : W0.heap[w.heap.size + 1]? = some (.cells #[.slice pa P.length pc, .int .i64 i] 27) := by
    have := (MapKept.heap_alloc (w.alloc (.cells #[.int .i64 t, .int .i64 r, .bool same, .int .i64 p, .int .i64 o] 24)) (.cells #[.slice pa P.length pc, .int .i64 i] 27)).1
    rw [hW0]; simpa using this
  have hz0 : W0.heap.size = w.heap.size + 2 := by rw [hW0]; simp
  by_cases hlen : p < P.length
  · have hCf : RowKit.Hid (C = 9) := Lib.hid (by rw [HC.out]; unfold ableC pairsErr; rw [if_pos hlen]; rfl)
    have dl : decide (p < (P.length : Int)) = true := decide_eq_true hlen
    have HW := Lib.hid hW0
    clear hW0 hG0 hR0 HC
    go_enter Try.func43, Try.ntmps43
    go_wp2
    go_ret
    exact ⟨by rw [hCf.out]; rfl, by rw [← HW.out]; exact hg0⟩
  have dl : decide (p < (P.length : Int)) = false := decide_eq_false hlen
  obtain ⟨e0, e1, e2, e3, e4⟩ := gcells hG0
  obtain ⟨f0, f1⟩ := tcells hR0
  go_enter Try.func43, Try.ntmps43
  go_wp2
  rw [← hW0]
  clear hW0 e0 e1 e2 e3 e4 f0 f1
  have HG := Lib.hid hG0
  have HR := Lib.hid hR0
  clear hG0 hR0 dl
  go_loopw [7] (fun c wr => ∃ k : Nat, k ≤ P.length ∧ c = .int .i64 k ∧ Below W0.heap.size W0 wr ∧ (P.take k).find? (fun x => pairErr o x != 0) = none) (fun c _ => P.length - (intOf c).toNat)
  case atStart => exact ⟨0, by omega, rfl, Below.refl _ _, rfl⟩
  case round =>
    obtain ⟨k, hk, rfl, hbel, hno⟩ := hrel
    have hb2 : Below w.heap.size w wr := hg0.trans (hbel.mono (by omega))
    have hws := hbel.size
    obtain ⟨e0, e1, e2, e3, e4⟩ := gcells ((hbel.block w.heap.size (by omega)).trans HG.out)
    obtain ⟨f0, f1⟩ := tcells ((hbel.block (w.heap.size + 1) (by omega)).trans HR.out)
    by_cases hlt : k < P.length
    · obtain ⟨b, off, rfl, _, hc1, hc2, hbl, hc⟩ := hP.at rfl (by omega)
      obtain ⟨c0, c1⟩ := hc k hlt
      rw [← hb2.cell (p := ⟨b, _, none⟩) hbl] at c0 c1
      have hgd : P.getD k (0, 0) = P[k] := by simp [hlt]
      rw [hgd] at c0 c1
      have hpo : pairErr o P[k] = if inB P[k].1 6 100 && inB P[k].2 6 100 then (if o < P[k].1 + P[k].2 then 9 else 0) else 2 := rfl
      have hhit := fun (z : Int) (h : pairErr o P[k] = z) (h0 : z ≠ 0) => pairsErr_hit (p := p) (by omega) hlt hno h h0
      have hmiss := fun (h : pairErr o P[k] = 0) => find_miss (p := fun x => pairErr o x != 0) hlt hno (by simp [h])
      obtain ⟨x, hx⟩ : ∃ x, P[k].1 = x := ⟨_, rfl⟩
      obtain ⟨y, hy⟩ : ∃ y, P[k].2 = y := ⟨_, rfl⟩
      rw [hx, hy] at hpo
      rw [hx] at c0
      rw [hy] at c1
      have A := in_any x 6 100
      have B := in_any y 6 100
      obtain ⟨tx, htx⟩ : ∃ tx, inB x 6 100 = tx := ⟨_, rfl⟩
      obtain ⟨ty, hty⟩ : ∃ ty, inB y 6 100 = ty := ⟨_, rfl⟩
      rw [htx] at A hpo
      rw [hty] at B hpo
      have HA := Lib.hid A
      have HB := Lib.hid B
      cases tx with
      | false =>
        have hCf : RowKit.Hid (C = 2) := Lib.hid (by rw [HC.out]; unfold ableC; rw [hhit 2 hpo (by decide)]; rfl)
        clear HC hgd hc hx hy A B htx hty hpo hno hhit hmiss
        go_wp2_with fail
        refine (HA.out _).mono ?_
        rintro e w1 ⟨rfl, rfl⟩
        go_wp2
        go_ret
        exact ⟨by rw [hCf.out]; rfl, hb2.alloc (by omega) _⟩
      | true =>
      cases ty with
      | false =>
        have hCf : RowKit.Hid (C = 2) := Lib.hid (by rw [HC.out]; unfold ableC; rw [hhit 2 hpo (by decide)]; rfl)
        clear HC hgd hc hx hy A B htx hty hpo hno hhit hmiss
        go_wp2_with fail
        refine (HA.out _).mono ?_
        rintro e w1 ⟨rfl, rfl⟩
        go_wp2_with fail
        refine (HB.out _).mono ?_
        rintro e w1 ⟨rfl, rfl⟩
        go_wp2
        go_ret
        exact ⟨by rw [hCf.out]; rfl, hb2.alloc (by omega) _⟩
      | true =>
      have hbx : 6 ≤ x ∧ x ≤ 100 := by simpa [inB] using htx
      have hby : 6 ≤ y ∧ y ≤ 100 := by simpa [inB] using hty
      have e4' := cell_al e4 (.cells #[.int .i64 x, .int .i64 y] 49)
      by_cases hroom : o < x + y
      · have hCf : RowKit.Hid (C = 9) := Lib.hid (by rw [HC.out]; unfold ableC; rw [hhit 9 (by rw [hpo, if_pos (by rfl), if_pos hroom]) (by decide)]; rfl)
        clear HC hgd hc hx hy A B htx hty hpo hno hhit hmiss
        go_wp2_with fail
        refine (HA.out _).mono ?_
        rintro e w1 ⟨rfl, rfl⟩
        go_wp2_with fail
        refine (HB.out _).mono ?_
        rintro e w1 ⟨rfl, rfl⟩
        go_wp2
        go_ret
        exact ⟨by rw [hCf.out]; rfl, hb2.alloc (by omega) _⟩
      · have HM := Lib.hid (hmiss (by rw [hpo, if_pos (by rfl), if_neg hroom]))
        clear HC hgd hc hx hy A B htx hty hpo hno hhit hmiss
        go_wp2_with fail
        refine (HA.out _).mono ?_
        rintro e w1 ⟨rfl, rfl⟩
        go_wp2_with fail
        refine (HB.out _).mono ?_
        rintro e w1 ⟨rfl, rfl⟩
        go_wp2
        go_roundw
        case rel => exact ⟨k + 1, by omega, by go_num, hbel.alloc hws _, HM.out⟩
        case measure => simp [intOf]; omega
    · rw [List.take_of_length_le (by omega)] at hno
      have hpe := pairsErr_none (p := p) (by omega) hno
      have hC1 : C = if i ≠ 0 ∧ P.length = 0 then 6 else if i ≠ 0 ∧ teethB i = false then 2 else if shortB S P i = true then 10 else if turnsB P.length i ≠ same then 7 else 0 := by rw [HC.out]; unfold ableC; rw [hpe]; rfl
      have HC1 := Lib.hid hC1
      clear HC hC1 hno hpe
      have hG1 := (hbel.block w.heap.size (by omega)).trans HG.out
      have hR1 := (hbel.block (w.heap.size + 1) (by omega)).trans HR.out
      by_cases hi : i = 0
      · have hib : (i != 0) = false := by simp [hi]
        have hit : i = 0 ∨ teethB i = true := .inl hi
        have hC2 : C = if shortB S P i = true then 10 else if turnsB P.length i ≠ same then 7 else 0 := by rw [HC1.out, if_neg (by simp [hi]), if_neg (by simp [hi])]
        have HC2 := Lib.hid hC2
        have HI := Lib.hid hi
        clear HC1 hC2 hi hbel
        go_wp2_with fail
        have hPr := hP.below hb2
        have hSr := hS.below hb2
        have hzw : w.heap.size + 2 ≤ wr.heap.size := by omega
        clear e0 e1 e2 e3 e4 f0 f1
        obtain ⟨wo, rfl⟩ : ∃ wo : World, wo = wr := ⟨_, rfl⟩
        go_loopw [9] (fun c w2 => ∃ x : Nat, 6 ≤ x ∧ x ≤ 101 ∧ c = .int .i64 x ∧ Below wo.heap.size wo w2 ∧ ∀ y : Nat, 6 ≤ y → y < x → lackAt S P i y = false) (fun c _ => 101 - (intOf c).toNat)
        case atStart => exact ⟨6, by omega, by omega, rfl, Below.refl _ _, fun y h1 h2 => by omega⟩
        case round =>
          obtain ⟨x, hx0, hx1, rfl, hbz, hnz⟩ := hrel
          have hzz := hbz.size
          have hbwz : Below w.heap.size w wr := hb2.trans (hbz.mono (by omega))
          obtain ⟨e0, e1, e2, e3, e4⟩ := gcells ((hbz.block w.heap.size (by omega)).trans hG1)
          obtain ⟨f0, f1⟩ := tcells ((hbz.block (w.heap.size + 1) (by omega)).trans hR1)
          have HNZ := Lib.hid hnz
          clear hnz
          by_cases hxl : x ≤ 100
          · have hu := used_any P (.slice pa P.length pc) i x wr (hPr.below hbz) hl
            have hLA : lackAt S P i x = decide (heldI S x < usedN P i x) := rfl
            obtain ⟨un, hun⟩ : ∃ un, usedN P i x = un := ⟨_, rfl⟩
            obtain ⟨hn, hhn⟩ : ∃ hn, heldI S (x : Int) = hn := ⟨_, rfl⟩
            rw [hun] at hu hLA
            rw [hhn] at hLA
            have HLA := Lib.hid hLA
            have HHN := Lib.hid hhn
            have HU := Lib.hid hu
            clear hLA hun hhn hu
            go_wp2_with fail
            refine HU.out.mono ?_
            rintro e w3 ⟨rfl, hb3⟩
            have hb03 : Below wo.heap.size wo w3 := hbz.trans (hb3.mono hzz)
            have hh := held_any S (.slice sa S.length sc) x w3 (hSr.below hb03)
            rw [HHN.out] at hh
            clear HU e0 e1 e2 e3 e4 f0 f1 hb3
            go_wp2_with fail
            refine hh.mono ?_
            rintro e w4 ⟨rfl, rfl⟩
            clear hh
            by_cases hlk : hn < un
            · have hCf : RowKit.Hid (C = 10) := Lib.hid (by rw [HC2.out, if_pos (shortB_hit hx0 hxl (by rw [HLA.out]; exact decide_eq_true hlk))])
              go_wp2
              go_ret
              exact ⟨by rw [hCf.out]; rfl, hb2.trans (hb03.mono (by omega))⟩
            · have HLF := Lib.hid (show lackAt S P i x = false by rw [HLA.out]; exact decide_eq_false hlk)
              go_wp2
              go_roundw
              case rel => exact ⟨x + 1, by omega, by omega, by go_num, hb03, fun y h1 h2 => by by_cases e : y = x; (subst e; exact HLF.out); exact HNZ.out y h1 (by omega)⟩
              case measure => simp [intOf]; omega
          · have hx : x = 101 := by omega
            have hC3 : C = if turnsB P.length i ≠ same then 7 else 0 := by rw [HC2.out, if_neg (by rw [shortB_none (fun y h1 h2 => HNZ.out y h1 (by omega))]; simp)]
            obtain ⟨tb, htb⟩ : ∃ tb, turnsB P.length i = tb := ⟨_, rfl⟩
            have hE : ((P.length : Int) % 2 == 0) = tb := by rw [← htb]; unfold turnsB; rw [if_pos HI.out, Int.add_zero, Int.tmod_eq_emod_of_nonneg (by omega)]
            rw [htb] at hC3
            have HC3 := Lib.hid hC3
            clear HC2 hC3 htb hx
            cases hbs : (tb == same) with
            | false =>
              have hCf : RowKit.Hid (C = 7) := Lib.hid (by rw [HC3.out, if_pos (by simpa using hbs)])
              go_wp2
              go_ret
              exact ⟨by rw [hCf.out]; rfl, hbwz⟩
            | true =>
              have hCf : RowKit.Hid (C = 0) := Lib.hid (by rw [HC3.out, if_neg (by simpa using hbs)])
              go_wp2
              go_ret
              exact ⟨by rw [hCf.out]; rfl, hbwz⟩
      · have hib : (i != 0) = true := by simp [hi]
        by_cases hn : P.length = 0
        · have hCf : RowKit.Hid (C = 6) := Lib.hid (by rw [HC1.out, if_pos ⟨hi, hn⟩])
          have dn : ((P.length : Int) == 0) = true := by rw [beq_iff_eq]; omega
          clear HC1 hi hn hbel hG1 hR1
          go_wp2
          go_ret
          exact ⟨by rw [hCf.out]; rfl, hb2⟩
        have dn : ((P.length : Int) == 0) = false := by rw [beq_eq_false_iff_ne]; omega
        have A := in_any i 6 100
        cases ht : inB i 6 100 with
        | false =>
          have hCf : RowKit.Hid (C = 2) := Lib.hid (by rw [HC1.out, if_neg (by simp [hn]), if_pos ⟨hi, ht⟩])
          rw [ht] at A
          have HA := Lib.hid A
          clear HC1 hi hn hbel hG1 hR1 A ht
          go_wp2_with fail
          refine (HA.out _).mono ?_
          rintro e w1 ⟨rfl, rfl⟩
          go_wp2
          go_ret
          exact ⟨by rw [hCf.out]; rfl, hb2⟩
        | true =>
          have hit : i = 0 ∨ teethB i = true := .inr ht
          have hC2 : C = if shortB S P i = true then 10 else if turnsB P.length i ≠ same then 7 else 0 := by rw [HC1.out, if_neg (by simp [hn]), if_neg (by simp [show teethB i = true from ht])]
          have HC2 := Lib.hid hC2
          rw [ht] at A
          have HA := Lib.hid A
          have HI := Lib.hid hi
          clear HC1 hC2 hi hbel ht A
          go_wp2_with fail
          refine (HA.out _).mono ?_
          rintro e w1 ⟨rfl, rfl⟩
          go_wp2_with fail
          have hPr := hP.below hb2
          have hSr := hS.below hb2
          have hzw : w.heap.size + 2 ≤ wr.heap.size := by omega
          clear e0 e1 e2 e3 e4 f0 f1
          obtain ⟨wo, rfl⟩ : ∃ wo : World, wo = wr := ⟨_, rfl⟩
          go_loopw [9] (fun c w2 => ∃ x : Nat, 6 ≤ x ∧ x ≤ 101 ∧ c = .int .i64 x ∧ Below wo.heap.size wo w2 ∧ ∀ y : Nat, 6 ≤ y → y < x → lackAt S P i y = false) (fun c _ => 101 - (intOf c).toNat)
          case atStart => exact ⟨6, by omega, by omega, rfl, Below.refl _ _, fun y h1 h2 => by omega⟩
          case round =>
            obtain ⟨x, hx0, hx1, rfl, hbz, hnz⟩ := hrel
            have hzz := hbz.size
            have hbwz : Below w.heap.size w wr := hb2.trans (hbz.mono (by omega))
            obtain ⟨e0, e1, e2, e3, e4⟩ := gcells ((hbz.block w.heap.size (by omega)).trans hG1)
            obtain ⟨f0, f1⟩ := tcells ((hbz.block (w.heap.size + 1) (by omega)).trans hR1)
            have HNZ := Lib.hid hnz
            clear hnz
            by_cases hxl : x ≤ 100
            · have hu := used_any P (.slice pa P.length pc) i x wr (hPr.below hbz) hl
              have hLA : lackAt S P i x = decide (heldI S x < usedN P i x) := rfl
              obtain ⟨un, hun⟩ : ∃ un, usedN P i x = un := ⟨_, rfl⟩
              obtain ⟨hn, hhn⟩ : ∃ hn, heldI S (x : Int) = hn := ⟨_, rfl⟩
              rw [hun] at hu hLA
              rw [hhn] at hLA
              have HLA := Lib.hid hLA
              have HHN := Lib.hid hhn
              have HU := Lib.hid hu
              clear hLA hun hhn hu
              go_wp2_with fail
              refine HU.out.mono ?_
              rintro e w3 ⟨rfl, hb3⟩
              have hb03 : Below wo.heap.size wo w3 := hbz.trans (hb3.mono hzz)
              have hh := held_any S (.slice sa S.length sc) x w3 (hSr.below hb03)
              rw [HHN.out] at hh
              clear HU e0 e1 e2 e3 e4 f0 f1 hb3
              go_wp2_with fail
              refine hh.mono ?_
              rintro e w4 ⟨rfl, rfl⟩
              clear hh
              by_cases hlk : hn < un
              · have hCf : RowKit.Hid (C = 10) := Lib.hid (by rw [HC2.out, if_pos (shortB_hit hx0 hxl (by rw [HLA.out]; exact decide_eq_true hlk))])
                go_wp2
                go_ret
                exact ⟨by rw [hCf.out]; rfl, hb2.trans (hb03.mono (by omega))⟩
              · have HLF := Lib.hid (show lackAt S P i x = false by rw [HLA.out]; exact decide_eq_false hlk)
                go_wp2
                go_roundw
                case rel => exact ⟨x + 1, by omega, by omega, by go_num, hb03, fun y h1 h2 => by by_cases e : y = x; (subst e; exact HLF.out); exact HNZ.out y h1 (by omega)⟩
                case measure => simp [intOf]; omega
            · have hx : x = 101 := by omega
              have hC3 : C = if turnsB P.length i ≠ same then 7 else 0 := by rw [HC2.out, if_neg (by rw [shortB_none (fun y h1 h2 => HNZ.out y h1 (by omega))]; simp)]
              obtain ⟨tb, htb⟩ : ∃ tb, turnsB P.length i = tb := ⟨_, rfl⟩
              have hE : (((P.length : Int) + 1) % 2 == 0) = tb := by rw [← htb]; unfold turnsB; rw [if_neg HI.out, Int.tmod_eq_emod_of_nonneg (by omega)]
              rw [htb] at hC3
              have HC3 := Lib.hid hC3
              clear HC2 hC3 htb hx
              cases hbs : (tb == same) with
              | false =>
                have hCf : RowKit.Hid (C = 7) := Lib.hid (by rw [HC3.out, if_pos (by simpa using hbs)])
                go_wp2
                go_ret
                exact ⟨by rw [hCf.out]; rfl, hbwz⟩
              | true =>
                have hCf : RowKit.Hid (C = 0) := Lib.hid (by rw [HC3.out, if_neg (by simpa using hbs)])
                go_wp2
                go_ret
                exact ⟨by rw [hCf.out]; rfl, hbwz⟩
end Go.Proofs.Ytoiapnokgpeipaa
