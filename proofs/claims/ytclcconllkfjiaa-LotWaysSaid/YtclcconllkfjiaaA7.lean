/- Contracts: the two risks; bears. -/
import Derived.Test.YtclcconllkfjiaaA4
import Derived.Laws.EntriesVeiled
namespace Go.Proofs.Ytclcconllkfjiaa
set_option linter.unusedSimpArgs false
set_option linter.unusedVariables false
open Go.RowKit

/-- a risk: whether it is the maker's; the number of bad ones that bounds it; so many thousandths -/
structure Rk where
  maker : Bool
  x : Int
  most : Int
def Rk.agg (r : Rk) : Value := .agg #[.int .i64 r.x, .int .i64 r.most]
def Rk.val (r : Rk) : Value := .iface (if r.maker then 78 else 81) r.agg
/-- is it kept, with so many bad ones and on so many of all samples? -/
def Rk.kept (r : Rk) (bad : Int) (p a : Nat) : Bool :=
  if r.maker then decide (r.x < bad) || decide ((1000 - r.most) * (a : Int) ≤ 1000 * (p : Int)) else decide (bad < r.x) || decide (1000 * (p : Int) ≤ r.most * (a : Int))
theorem mul_range {d : Int} {A : Nat} (h0 : 0 ≤ d) (h1 : d ≤ 1000) (hA : A ≤ 1125899906842624) : 0 ≤ d * (A : Int) ∧ d * (A : Int) ≤ 1125899906842624000 := by
  have p0 : 0 ≤ d * (A : Int) := Int.mul_nonneg h0 (Int.natCast_nonneg _)
  have p1 : d * (A : Int) ≤ 1000 * (A : Int) := Int.mul_le_mul_of_nonneg_right h1 (Int.natCast_nonneg _)
  have p2 : (A : Int) ≤ 1125899906842624 := Int.ofNat_le.2 hA
  exact ⟨p0, by omega⟩
set_option maxHeartbeats 800000 in
theorem makerKept_any (x most bad : Int) (p a : Nat) (w : World) (hm : 0 ≤ most ∧ most ≤ 1000) (hp : p ≤ 1125899906842624) (ha : a ≤ 1125899906842624) :
    Calls Try.prog 72 #[.agg #[.int .i64 x, .int .i64 most], .int .i64 bad, .int .i64 (p : Nat), .int .i64 (a : Nat)] w fun e w' => e = .returned (.bool (decide (x < bad) || decide ((1000 - most) * (a : Int) ≤ 1000 * (p : Int)))) ∧ Below w.heap.size w w' := by
  obtain ⟨h1, h2⟩ := mul_range (show 0 ≤ 1000 - most by omega) (show 1000 - most ≤ 1000 by omega) ha
  obtain ⟨P, hP⟩ : ∃ P, (1000 - most) * (a : Int) = P := ⟨_, rfl⟩
  rw [hP] at h1 h2
  have w1 : wrap64 ((1000 - most) * (a : Int)) = P := by rw [hP]; exact IntWalk.wrap64_in _ (by omega)
  have w2 : IntKind.i64.wrap ((1000 - most) * (a : Int)) = P := by rw [hP]; exact IntWalk.i64_in _ (by omega)
  have HP := Lib.hid hP
  obtain ⟨m0, m1⟩ := hm
  have hp' : (p : Int) ≤ 1125899906842624 := Int.ofNat_le.2 hp
  clear hP hp ha
  by_cases g : x < bad
  · have g' : bad > x := g
    go_enter Try.func72, Try.ntmps72
    go_wp2
    go_ret
    exact ⟨by rw [decide_eq_true g]; rfl, (Below.refl _ _).alloc (Nat.le_refl _) _⟩
  · have G := Lib.hid g
    have g' : bad ≤ x := by omega
    clear g
    by_cases q : P ≤ 1000 * (p : Int)
    · go_enter Try.func72, Try.ntmps72
      go_wp2
      go_ret
      exact ⟨by rw [HP.out, decide_eq_true q, Bool.or_true]; rfl, (Below.refl _ _).alloc (Nat.le_refl _) _⟩
    · have Q := Lib.hid q
      have q' : 1000 * (p : Int) < P := by omega
      clear q
      go_enter Try.func72, Try.ntmps72
      go_wp2
      go_ret
      exact ⟨by rw [HP.out, decide_eq_false (Int.not_lt.2 g'), decide_eq_false (Int.not_le.2 q')]; rfl, (Below.refl _ _).alloc (Nat.le_refl _) _⟩
set_option maxHeartbeats 800000 in
theorem buyerKept_any (x most bad : Int) (p a : Nat) (w : World) (hm : 0 ≤ most ∧ most ≤ 1000) (hp : p ≤ 1125899906842624) (ha : a ≤ 1125899906842624) :
    Calls Try.prog 73 #[.agg #[.int .i64 x, .int .i64 most], .int .i64 bad, .int .i64 (p : Nat), .int .i64 (a : Nat)] w fun e w' => e = .returned (.bool (decide (bad < x) || decide (1000 * (p : Int) ≤ most * (a : Int)))) ∧ Below w.heap.size w w' := by
  obtain ⟨h1, h2⟩ := mul_range hm.1 hm.2 ha
  obtain ⟨P, hP⟩ : ∃ P, most * (a : Int) = P := ⟨_, rfl⟩
  rw [hP] at h1 h2
  have w1 : wrap64 (most * (a : Int)) = P := by rw [hP]; exact IntWalk.wrap64_in _ (by omega)
  have w2 : IntKind.i64.wrap (most * (a : Int)) = P := by rw [hP]; exact IntWalk.i64_in _ (by omega)
  have HP := Lib.hid hP
  obtain ⟨m0, m1⟩ := hm
  have hp' : (p : Int) ≤ 1125899906842624 := Int.ofNat_le.2 hp
  clear hP hp ha
  by_cases g : bad < x
  · go_enter Try.func73, Try.ntmps73
    go_wp2
    go_ret
    exact ⟨by rw [decide_eq_true g]; rfl, (Below.refl _ _).alloc (Nat.le_refl _) _⟩
  · have g' : x ≤ bad := by omega
    clear g
    by_cases q : 1000 * (p : Int) ≤ P
    · go_enter Try.func73, Try.ntmps73
      go_wp2
      go_ret
      exact ⟨by rw [HP.out, decide_eq_true q, Bool.or_true]; rfl, (Below.refl _ _).alloc (Nat.le_refl _) _⟩
    · have q' : P < 1000 * (p : Int) := by omega
      clear q
      go_enter Try.func73, Try.ntmps73
      go_wp2
      go_ret
      exact ⟨by rw [HP.out, decide_eq_false (Int.not_lt.2 g'), decide_eq_false (Int.not_le.2 q')]; rfl, (Below.refl _ _).alloc (Nat.le_refl _) _⟩
theorem meth78 (x m : Int) (w : World) : (method 219 78 (.agg #[.int .i64 x, .int .i64 m]) "meterworks/lot.kept").run Try.prog w = .ok (72, .agg #[.int .i64 x, .int .i64 m]) w := by kernel_rfl
theorem meth81 (x m : Int) (w : World) : (method 219 81 (.agg #[.int .i64 x, .int .i64 m]) "meterworks/lot.kept").run Try.prog w = .ok (73, .agg #[.int .i64 x, .int .i64 m]) w := by kernel_rfl
/-- risks in a row, in block R -/
def RisksAt (w : World) (R : Nat) (L : List Rk) : Prop := ∀ i r, L[i]? = some r → w.cell? ⟨R, i, none⟩ = some r.val
set_option maxRecDepth 100000 in
set_option maxHeartbeats 1600000 in
theorem bears_any (T b g c R : Nat) (a : Int) (L : List Rk) (w : World) (hT : TriAt w T) (hc : c ≤ b + g) (hs : b + g ≤ 50) (hL : RisksAt w R L) (hl1 : 1 ≤ L.length) (hl2 : L.length ≤ 2) (hm : ∀ r ∈ L, 0 ≤ r.most ∧ r.most ≤ 1000) :
    Calls Try.prog 50 #[.pointer (some ⟨T, 0, none⟩), mets (b : Nat) (g : Nat), planV (c : Nat) a, .slice (some ⟨R, 0, none⟩) L.length L.length] w fun e w' => e = .returned (.bool (L.all fun r => r.kept (b : Nat) (passN b g c a) (ch (b + g) c))) ∧ Below w.heap.size w w' := by
  obtain ⟨W0, hW0⟩ : ∃ X, X = (w.alloc (.cells #[.int .i64 (b : Nat), .int .i64 (g : Nat)] 61)).alloc (.cells #[.int .i64 (c : Nat), .int .i64 a] 23) := ⟨_, rfl⟩
  have hb0 : Below w.heap.size w W0 := by rw [hW0]; exact ((Below.refl _ _).alloc (Nat.le_refl _) _).alloc (by simp) _
  have hte := tested_any T b g c a W0 (hT.below hb0 hT.lt) hc hs
  unfold mets planV at hte ⊢
  go_enter Try.func50, Try.ntmps50
  go_wp2_with fail
  rw [← hW0]
  refine hte.mono ?_
  rintro e w1 ⟨rfl, hb1⟩
  go_wp2_with fail
  have hb01 : Below w.heap.size w w1 := hb0.trans (hb1.mono hb0.size)
  have k0 : W0.heap[w.heap.size]? = some (.cells #[.int .i64 (b : Nat), .int .i64 (g : Nat)] 61 (0, 0)) := by
    rw [hW0, Below.heap_alloc _ _ _ (by simp)]; exact alloc_heap w _
  have k1 := (hb1.block _ (Array.getElem?_eq_some_iff.1 k0).1).trans k0
  have hpl := passN_le b g c a
  have hcb := ch_bd (b + g) c hs
  obtain ⟨p, hp⟩ : ∃ p, passN b g c a = p := ⟨_, rfl⟩
  obtain ⟨q, hq⟩ : ∃ q, ch (b + g) c = q := ⟨_, rfl⟩
  have HPQ := Lib.hid (And.intro hp hq)
  rw [hp, hq] at hpl
  rw [hq] at hcb
  have hL1 : ∀ i r, L[i]? = some r → w1.cell? ⟨R, i, none⟩ = some r.val := fun i r h => by
    have := hL i r h
    exact (hb01.cell (p := ⟨R, i, none⟩) (World.block_lt_of_cell? _ _ this)).trans this
  have HL := Lib.hid hL1
  have HM := Lib.hid hm
  obtain ⟨m, hm'⟩ : ∃ m, L.length = m := ⟨_, rfl⟩
  have HLEN := Lib.hid hm'
  rw [hm'] at hl1 hl2 ⊢
  rw [hp, hq]
  clear hL hL1 hm hm' hp hq hW0 hte k0
  go_loopw [22] (fun i wr => ∃ k : Nat, k ≤ m ∧ i = .int .i64 k ∧ Below w1.heap.size w1 wr ∧ ((L.take k).all fun r => r.kept (b : Nat) p q) = true) (fun i _ => m - (intOf i).toNat)
  case atStart => exact ⟨0, by omega, rfl, Below.refl _ _, by simp⟩
  case round =>
    obtain ⟨k, hk, rfl, hbel, hall⟩ := hrel
    have HALL := Lib.hid hall
    clear hall
    by_cases hlt : k < m
    · have hkl : k < L.length := by have := HLEN.out; omega
      have hr := List.getElem?_eq_getElem hkl
      obtain ⟨r, hre⟩ : ∃ r, L[k] = r := ⟨_, rfl⟩
      rw [hre] at hr
      have hmr := HM.out r (by rw [← hre]; exact List.getElem_mem _)
      have cr := HL.out k r hr
      have crl := World.block_lt_of_cell? _ _ cr
      have cr1 := (hbel.cell (p := ⟨R, k, none⟩) crl).trans cr
      obtain ⟨c0, c1⟩ := two_cells ((hbel.block _ (Array.getElem?_eq_some_iff.1 k1).1).trans k1)
      obtain ⟨mk, x, most⟩ := r
      have HR := Lib.hid hr
      clear hr hre cr
      unfold Rk.val Rk.agg at cr1
      cases mk with
      | true =>
        simp only [if_true, Bool.false_eq_true, if_false] at cr1
        have hme := meth78 x most
        have hkept : Rk.kept ⟨true, x, most⟩ (b : Nat) p q = (decide (x < (b : Nat)) || decide ((1000 - most) * (q : Int) ≤ 1000 * (p : Int))) := rfl
        obtain ⟨z, hz⟩ : ∃ z, (decide (x < (b : Nat)) || decide ((1000 - most) * (q : Int) ≤ 1000 * (p : Int))) = z := ⟨_, rfl⟩
        have hcon := fun W => makerKept_any x most (b : Nat) p q W hmr (Nat.le_trans hpl hcb) hcb
        rw [hz] at hcon hkept
        have HK := Lib.hid hkept
        have HC := Lib.hid hcon
        clear hz hkept hcon
        cases z with
        | true =>
          go_wp2_with fail
          refine (HC.out _).mono ?_
          rintro e w2 ⟨rfl, hb2⟩
          go_wp2_with fail
          go_roundw
          case rel => exact ⟨k + 1, by omega, by go_num, hbel.trans (hb2.mono hbel.size), by rw [List.take_add_one, HR.out]; simp only [Option.toList, List.all_append, HALL.out, List.all_cons, List.all_nil, HK.out, Bool.and_true]⟩
          case measure => simp [intOf]; omega
        | false =>
          have HF := Lib.hid (show (L.all fun r => r.kept (b : Nat) p q) = false by
            rw [List.all_eq_false]
            exact ⟨_, List.mem_of_getElem? HR.out, by rw [HK.out]; simp⟩)
          go_wp2_with fail
          refine (HC.out _).mono ?_
          rintro e w2 ⟨rfl, hb2⟩
          go_wp2
          go_ret
          exact ⟨by rw [HPQ.out.1, HPQ.out.2, HF.out]; rfl, hb01.trans ((hbel.trans (hb2.mono hbel.size)).mono hb01.size)⟩
      | false =>
        simp only [if_true, Bool.false_eq_true, if_false] at cr1
        have hme := meth81 x most
        have hkept : Rk.kept ⟨false, x, most⟩ (b : Nat) p q = (decide (((b : Nat) : Int) < x) || decide (1000 * (p : Int) ≤ most * (q : Int))) := rfl
        obtain ⟨z, hz⟩ : ∃ z, (decide (((b : Nat) : Int) < x) || decide (1000 * (p : Int) ≤ most * (q : Int))) = z := ⟨_, rfl⟩
        have hcon := fun W => buyerKept_any x most (b : Nat) p q W hmr (Nat.le_trans hpl hcb) hcb
        rw [hz] at hcon hkept
        have HK := Lib.hid hkept
        have HC := Lib.hid hcon
        clear hz hkept hcon
        cases z with
        | true =>
          go_wp2_with fail
          refine (HC.out _).mono ?_
          rintro e w2 ⟨rfl, hb2⟩
          go_wp2_with fail
          go_roundw
          case rel => exact ⟨k + 1, by omega, by go_num, hbel.trans (hb2.mono hbel.size), by rw [List.take_add_one, HR.out]; simp only [Option.toList, List.all_append, HALL.out, List.all_cons, List.all_nil, HK.out, Bool.and_true]⟩
          case measure => simp [intOf]; omega
        | false =>
          have HF := Lib.hid (show (L.all fun r => r.kept (b : Nat) p q) = false by
            rw [List.all_eq_false]
            exact ⟨_, List.mem_of_getElem? HR.out, by rw [HK.out]; simp⟩)
          go_wp2_with fail
          refine (HC.out _).mono ?_
          rintro e w2 ⟨rfl, hb2⟩
          go_wp2
          go_ret
          exact ⟨by rw [HPQ.out.1, HPQ.out.2, HF.out]; rfl, hb01.trans ((hbel.trans (hb2.mono hbel.size)).mono hb01.size)⟩
    · have hkm : k = m := by omega
      subst hkm
      have HT := Lib.hid (show (L.all fun r => r.kept (b : Nat) p q) = true by have := HALL.out; rwa [List.take_of_length_le (by have := HLEN.out; omega)] at this)
      go_wp2
      go_ret
      exact ⟨by rw [HPQ.out.1, HPQ.out.2, HT.out]; rfl, hb01.trans (hbel.mono hb01.size)⟩
end Go.Proofs.Ytclcconllkfjiaa
