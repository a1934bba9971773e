/- Size: a load with one tap more; bits counted; powers. -/
import Derived.Test.YtlcmedfjghcigaaG0
import Derived.Laws.Bits64b
import Derived.Lib.RabinKarpLaws
namespace Go.Proofs.Ytlcmedfjghcigaa
set_option linter.unusedSimpArgs false
set_option linter.unusedVariables false
open Go.RowKit

theorem res1_101 {fn : Func} {p : Tmp} (h : fn.results = #[.cell p 101]) {tmps : Array Value} {w : World} {g : Nat} {t : TypeId} {f : Nat × Nat} {x y z : Int} (hp : tmps.getD p undef = .pointer (some ⟨g, 0, none⟩)) (hg : w.heap[g]? = some (.cells #[.int .i64 x, .int .i64 y, .int .i64 z] t f)) :
    (results fn tmps).run Try.prog w = .ok (.agg #[.int .i64 x, .int .i64 y, .int .i64 z]) w :=
  results_cell_row h tmps w g t _ f _ hp hg Try.underlying101 rfl (by kernel_rfl)
theorem res1_31 {fn : Func} {p : Tmp} (h : fn.results = #[.cell p 31]) {tmps : Array Value} {w : World} {g : Nat} {t : TypeId} {f : Nat × Nat} {x y : Int} (hp : tmps.getD p undef = .pointer (some ⟨g, 0, none⟩)) (hg : w.heap[g]? = some (.cells #[.int .i64 x, .int .i64 y] t f)) :
    (results fn tmps).run Try.prog w = .ok (.agg #[.int .i64 x, .int .i64 y]) w :=
  results_cell_row h tmps w g t _ f _ hp hg Try.underlying31 rfl (by kernel_rfl)
theorem res1_85 {fn : Func} {p : Tmp} (h : fn.results = #[.cell p 85]) {tmps : Array Value} {w : World} {g : Nat} {t : TypeId} {f : Nat × Nat} {x y : Bool} (hp : tmps.getD p undef = .pointer (some ⟨g, 0, none⟩)) (hg : w.heap[g]? = some (.cells #[.bool x, .bool y] t f)) :
    (results fn tmps).run Try.prog w = .ok (.agg #[.bool x, .bool y]) w :=
  results_cell_row h tmps w g t _ f _ hp hg Try.underlying85 rfl (by kernel_rfl)
def LdIn (l : Ld) (N : Int) : Prop := (0 ≤ l.f.1 ∧ l.f.1 ≤ N) ∧ (0 ≤ l.f.2 ∧ l.f.2 ≤ N)
theorem set3 {X : World} {R : Nat} {a b c A B C : Value} {t : TypeId} (h : X.heap[R]? = some (.cells #[a, b, c] t (0, 0))) : (((X.setCell ⟨R, 0, none⟩ A).setCell ⟨R, 1, none⟩ B).setCell ⟨R, 2, none⟩ C).heap[R]? = some (.cells #[A, B, C] t (0, 0)) := by
  have h1 := heap_setCell_same X R 0 _ t A h
  have h2 := heap_setCell_same _ R 1 _ t B h1
  have h3 := heap_setCell_same _ R 2 _ t C h2
  rw [h3]; rfl
theorem set2 {X : World} {R : Nat} {a b A B : Value} {t : TypeId} (h : X.heap[R]? = some (.cells #[a, b] t (0, 0))) : ((X.setCell ⟨R, 0, none⟩ A).setCell ⟨R, 1, none⟩ B).heap[R]? = some (.cells #[A, B] t (0, 0)) := by
  have h1 := heap_setCell_same X R 0 _ t A h
  have h2 := heap_setCell_same _ R 1 _ t B h1
  rw [h2]; rfl
set_option maxHeartbeats 1600000 in
theorem with_any (l : Ld) (t : Tp) (hl : LdIn l 10000000) (ht : tapOk t = true) (w : World) : Calls Try.prog 62 #[ldV l, tpV t] w fun e w' => e = .returned (ldV (withF l t)) ∧ Below w.heap.size w w' := by
  obtain ⟨h5, h6, h7, h8, h9⟩ := tapOk_iff.1 ht
  obtain ⟨⟨l0, l1⟩, ln⟩ := l
  obtain ⟨⟨t0, t1⟩, tn⟩ := t
  obtain ⟨⟨h1, h2⟩, ⟨h3, h4⟩⟩ := hl
  simp only [] at h1 h2 h3 h4 h5 h6 h7 h8 h9
  obtain ⟨A, hA⟩ : ∃ x, l0 + t0 = x := ⟨_, rfl⟩
  obtain ⟨B, hB⟩ : ∃ x, l1 + t1 = x := ⟨_, rfl⟩
  obtain ⟨C, hC⟩ : ∃ x, max ln tn = x := ⟨_, rfl⟩
  have hF : withF ⟨(l0, l1), ln⟩ ⟨(t0, t1), tn⟩ = ⟨(A, B), C⟩ := by rw [← hA, ← hB, ← hC]; rfl
  rw [hF]
  have w1 : IntKind.i64.wrap (l0 + t0) = A := by rw [hA]; exact IntWalk.i64_in _ (by omega)
  have w2 : IntKind.i64.wrap (l1 + t1) = B := by rw [hB]; exact IntWalk.i64_in _ (by omega)
  have w3 : max ln tn = C := hC
  clear h1 h2 h3 h4 h5 h6 h7 h8 h9 hF hA hB hC ht
  obtain ⟨W0, hW0⟩ : ∃ X, X = ((w.alloc (.cells #[.int .i64 l0, .int .i64 l1, .int .i64 ln] 101)).alloc (.cells #[.int .i64 t0, .int .i64 t1, .int .i64 tn] 52)).alloc (.cells #[.int .i64 0, .int .i64 0, .int .i64 0] 101) := ⟨_, rfl⟩
  have hal : W0 = al w [(.cells #[.int .i64 l0, .int .i64 l1, .int .i64 ln] 101), (.cells #[.int .i64 t0, .int .i64 t1, .int .i64 tn] 52), (.cells #[.int .i64 0, .int .i64 0, .int .i64 0] 101)] := hW0
  have hb0 : Below w.heap.size w W0 := by rw [hal]; exact al_below w _ (Nat.le_refl _)
  have hs0 : W0.heap.size = w.heap.size + 3 := by rw [hal]; exact al_size w _
  have hr0 : W0.heap[w.heap.size]? = some (.cells #[.int .i64 l0, .int .i64 l1, .int .i64 ln] 101 (0, 0)) := by rw [hal]; exact al_get w _ 0 _ rfl
  have hr1 : W0.heap[w.heap.size + 1]? = some (.cells #[.int .i64 t0, .int .i64 t1, .int .i64 tn] 52 (0, 0)) := by rw [hal]; exact al_get w _ 1 _ rfl
  have hr2 : W0.heap[w.heap.size + 1 + 1]? = some (.cells #[.int .i64 0, .int .i64 0, .int .i64 0] 101 (0, 0)) := by rw [hal]; exact al_get w _ 2 _ rfl
  obtain ⟨P, hP0⟩ : ∃ x, w.heap.size = x := ⟨_, rfl⟩
  rw [hP0] at hr0 hr1 hr2 hs0
  obtain ⟨Q, hP1⟩ : ∃ x, P + 1 = x := ⟨_, rfl⟩
  rw [hP1] at hr1 hr2
  obtain ⟨R, hP2⟩ : ∃ x, Q + 1 = x := ⟨_, rfl⟩
  rw [hP2] at hr2
  clear hal
  have hRP : w.heap.size ≤ R := by omega
  have HZ := Lib.hid (set3 (A := .int .i64 A) (B := .int .i64 B) (C := .int .i64 C) hr2)
  have HB := Lib.hid (show Below w.heap.size w (((W0.setCell ⟨R, 0, none⟩ (.int .i64 A)).setCell ⟨R, 1, none⟩ (.int .i64 B)).setCell ⟨R, 2, none⟩ (.int .i64 C)) from ((hb0.setCell hRP _).setCell hRP _).setCell hRP _)
  have fz0 : ∀ o, W0.frozen? ⟨R, o, none⟩ = false := fun o => frozen_of hr2
  have fz1 := fz0 0
  have fz2 := fz0 1
  have fz3 := fz0 2
  obtain ⟨c0, c1, c2⟩ := three_cells hr0
  obtain ⟨d0, d1, d2⟩ := three_cells hr1
  obtain ⟨y0, y1, y2⟩ := three_cells hr2
  clear hb0 hr0 hr1 hr2 hRP fz0 hs0
  unfold ldV tpV
  go_enter Try.func62, Try.ntmps62
  go_upto_region 1 with fail
  rw [← hW0]
  clear hW0 hP0 hP1 hP2
  go_wp2
  exact bodyPost_ret (res1_101 Try.results62 rfl HZ.out) rfl ⟨rfl, HB.out⟩
theorem span_any (a b : Int) (w : World) : Calls Try.prog 34 #[.int .i64 a, .int .i64 b] w fun e w' => e = .returned (.agg #[.int .i64 a, .int .i64 b]) ∧ Below w.heap.size w w' := by
  obtain ⟨W0, hW0⟩ : ∃ X, X = w.alloc (.cells #[.int .i64 0, .int .i64 0] 31) := ⟨_, rfl⟩
  have hal : W0 = al w [(.cells #[.int .i64 0, .int .i64 0] 31)] := hW0
  have hb0 : Below w.heap.size w W0 := by rw [hal]; exact al_below w _ (Nat.le_refl _)
  have hs0 : W0.heap.size = w.heap.size + 1 := by rw [hal]; exact al_size w _
  have hr0 : W0.heap[w.heap.size]? = some (.cells #[.int .i64 0, .int .i64 0] 31 (0, 0)) := by rw [hal]; exact al_get w _ 0 _ rfl
  obtain ⟨P, hP0⟩ : ∃ x, w.heap.size = x := ⟨_, rfl⟩
  rw [hP0] at hr0 hs0
  clear hal
  have hRP : w.heap.size ≤ P := by omega
  have HZ := Lib.hid (set2 (A := .int .i64 a) (B := .int .i64 b) hr0)
  have HB := Lib.hid (show Below w.heap.size w ((W0.setCell ⟨P, 0, none⟩ (.int .i64 a)).setCell ⟨P, 1, none⟩ (.int .i64 b)) from (hb0.setCell hRP _).setCell hRP _)
  have fz0 : ∀ o, W0.frozen? ⟨P, o, none⟩ = false := fun o => frozen_of hr0
  have fz1 := fz0 0
  have fz2 := fz0 1
  obtain ⟨c0, c1⟩ := two_cells hr0
  clear hb0 hr0 hRP fz0 hs0
  go_enter Try.func34, Try.ntmps34
  go_upto_region 1 with fail
  rw [← hW0]
  clear hW0 hP0
  go_wp2
  exact bodyPost_ret (res1_31 Try.results34 rfl HZ.out) rfl ⟨rfl, HB.out⟩
theorem power_any (k : Nat) (hk : k ≤ 60) (w : World) : Calls Try.prog 40 #[.int .i64 k] w fun e w' => e = .returned (.int .i64 (2 ^ k : Nat)) ∧ w = w' := by
  go_enter Try.func40, Try.ntmps40
  go_wp2
  go_loopw [3, 4] (fun a i wr => ∃ j : Nat, j ≤ k ∧ i = .int .i64 j ∧ a = .int .i64 (2 ^ j : Nat) ∧ wr = w) (fun a i _ => k - (intOf i).toNat)
  case atStart => exact ⟨0, by omega, rfl, rfl, rfl⟩
  case round =>
    obtain ⟨j, hj, rfl, rfl, rfl⟩ := hrel
    by_cases hlt : j < k
    · have i1 : (j : Int) < (k : Int) := by omega
      have p1 : 2 ^ j ≤ 2 ^ 60 := Nat.pow_le_pow_right (by omega) (by omega)
      have hz2 : 2 ^ (j + 1) = 2 * 2 ^ j := by rw [Nat.pow_succ]; omega
      obtain ⟨z, hz⟩ : ∃ z : Nat, 2 ^ j = z := ⟨_, rfl⟩
      rw [hz] at p1 hz2 ⊢
      have p2 : (z : Int) ≤ 1152921504606846976 := by omega
      have ew : IntKind.i64.wrap (2 * (z : Int)) = 2 * (z : Int) := IntWalk.i64_in _ (by omega)
      clear hz p1
      go_wp2
      go_roundw
      case rel => exact ⟨j + 1, by omega, by go_num, by rw [hz2]; simp, by simp⟩
      case measure => simp [intOf]; omega
    · have hjn : j = k := by omega
      subst hjn
      have i1 : ¬ (j : Int) < (j : Int) := by omega
      go_wp2
      go_ret
      exact ⟨rfl, rfl⟩
theorem rhas_any (s k : Nat) (hs : s < 9223372036854775808) (hk : k ≤ 60) (w : World) : Calls Try.prog 52 #[.int .i64 s, .int .i64 k] w fun e w' => e = .returned (.bool (hasF s k)) ∧ w = w' := by
  have K := Lib.hid (power_any k hk w)
  have hp : 0 < 2 ^ k := Nat.two_pow_pos k
  have he : ((s : Int)).tdiv ((2 ^ k : Nat) : Int) = ((s / 2 ^ k : Nat) : Int) := by
    rw [Int.tdiv_eq_ediv_of_nonneg (by omega)]; rfl
  obtain ⟨z, hz⟩ : ∃ z : Nat, 2 ^ k = z := ⟨_, rfl⟩
  have hh : hasF s k = decide (s / z % 2 = 1) := by unfold hasF; rw [hz]
  rw [hz] at K hp he
  rw [hh]
  have hle : s / z ≤ s := Nat.div_le_self _ _
  obtain ⟨q, hq⟩ : ∃ q : Nat, s / z = q := ⟨_, rfl⟩
  rw [hq] at he hle ⊢
  have hz0 : ¬ (z : Int) = 0 := by omega
  have hm : ((q : Int)).tmod 2 = ((q % 2 : Nat) : Int) := by
    rw [Int.tmod_eq_emod_of_nonneg (by omega)]; rfl
  have h2 := Lib.hid (show decide (((q % 2 : Nat) : Int) = 1) = decide (q % 2 = 1) by rw [decide_eq_decide]; omega)
  have hw : IntKind.i64.wrap (q : Int) = q := IntWalk.i64_in _ (by omega)
  obtain ⟨m, hm2⟩ : ∃ m : Nat, q % 2 = m := ⟨_, rfl⟩
  rw [hm2] at hm h2 ⊢
  have hml : m < 2 := by omega
  have hw2 : IntKind.i64.wrap (m : Int) = m := IntWalk.i64_in _ (by omega)
  clear hh hz hle hq hm2 hp
  go_enter Try.func52, Try.ntmps52
  go_wp2_with (go_at_call 40; (with_reducible refine K.out.mono ?_); rintro e w2 ⟨rfl, rfl⟩)
  go_ret
  exact ⟨by rw [← h2.out]; rfl, rfl⟩
def s1F (n : Int) : Int := IntKind.u64.wrap (bits BinOp.and IntKind.u64 (n / 2) 6148914691236517205 + bits BinOp.and IntKind.u64 n 6148914691236517205)
def s2F (n : Int) : Int := IntKind.u64.wrap (bits BinOp.and IntKind.u64 (n / 4) 3689348814741910323 + bits BinOp.and IntKind.u64 n 3689348814741910323)
def s3F (n : Int) : Int := bits BinOp.and IntKind.u64 (IntKind.u64.wrap (n / 16 + n)) 1085102592571150095
def s4F (n : Int) : Int := IntKind.u64.wrap (n + n / 256)
def s5F (n : Int) : Int := IntKind.u64.wrap (n + n / 65536)
def s6F (n : Int) : Int := IntKind.u64.wrap (n + n / 4294967296)
def popF (n : Int) : Int := bits BinOp.and IntKind.i64 (wrap64 (s6F (s5F (s4F (s3F (s2F (s1F n))))))) 127
theorem onesN_zero : ∀ k, onesN k 0 = 0
  | 0 => rfl
  | k + 1 => by rw [onesN, Nat.zero_div, onesN_zero k]
theorem onesN_add : ∀ k l n, onesN (k + l) n = onesN k (n % 2 ^ k) + onesN l (n / 2 ^ k)
  | 0, l, n => by simp [onesN]
  | k + 1, l, n => by
    have e : k + 1 + l = (k + l) + 1 := by omega
    rw [e, onesN, onesN_add k l (n / 2), onesN]
    have p : (2 : Nat) ^ (k + 1) = 2 * 2 ^ k := by rw [Nat.pow_succ]; omega
    rw [p, Nat.mod_mul_right_mod, Nat.mod_mul_right_div_self, Nat.div_div_eq_div_mul]
    omega
theorem land_split (a b m M : Nat) (ha : a < 256) (hm : m < 256) : (a + 256 * b) &&& (m + 256 * M) = (a &&& m) + 256 * (b &&& M) := by
  have h1 : ((a + 256 * b) &&& (m + 256 * M)) % 2 ^ 8 = a &&& m := by
    rw [Nat.and_mod_two_pow, show (a + 256 * b) % 2 ^ 8 = a by omega, show (m + 256 * M) % 2 ^ 8 = m by omega]
  have h2 : ((a + 256 * b) &&& (m + 256 * M)) / 2 ^ 8 = b &&& M := by
    rw [Nat.and_div_two_pow, show (a + 256 * b) / 2 ^ 8 = b by omega, show (m + 256 * M) / 2 ^ 8 = M by omega]
  omega
theorem land3 (a b c m M : Nat) (ha : a < 256) (hb : b < 256) (hm : m < 256) : (a + 256 * (b + 256 * c)) &&& (m + 256 * (m + 256 * M)) = (a &&& m) + 256 * ((b &&& m) + 256 * (c &&& M)) := by
  rw [land_split _ _ _ _ ha hm, land_split _ _ _ _ hb hm]
def g1 (a : Nat) : Nat := (a / 2 &&& 85) + (a &&& 85)
def g2 (a : Nat) : Nat := (a / 4 &&& 51) + (a &&& 51)
def g3 (a : Nat) : Nat := (a / 16 + a) &&& 15
theorem g1_low : ∀ a < 256, ∀ e < 2, ((a / 2 + 128 * e) &&& 85) + (a &&& 85) = g1 a ∧ (a / 2 + 128 * e) < 256 ∧ g1 a < 256 := by decide +kernel
theorem g1_top : ∀ a < 256, (a / 2 &&& 93824992236885) + (a &&& 93824992236885) = g1 a := by decide +kernel
theorem g2_low : ∀ a < 256, ∀ e < 4, ((a / 4 + 64 * e) &&& 51) + (a &&& 51) = g2 a ∧ (a / 4 + 64 * e) < 256 ∧ g2 a < 256 := by decide +kernel
theorem g2_top : ∀ a < 256, (a / 4 &&& 56294995342131) + (a &&& 56294995342131) = g2 a := by decide +kernel
theorem g3_low : ∀ a < 69, ∀ e < 16, (a / 16 + a + 16 * e) &&& 15 = g3 a := by decide +kernel
theorem g3_top : ∀ a < 69, (a / 16 + a) &&& 16557351571215 = g3 a := by decide +kernel
theorem g_all : ∀ a < 256, g3 (g2 (g1 a)) = onesN 8 a ∧ g2 (g1 a) ≤ 68 ∧ g2 (g1 a) % 16 ≤ 4 ∧ onesN 8 a ≤ 8 := by decide +kernel
theorem s1_nat (a b c : Nat) (ha : a < 256) (hb : b < 256) (hc : c < 16) : s1F ((a + 256 * (b + 256 * c) : Nat) : Int) = ((g1 a + 256 * (g1 b + 256 * g1 c) : Nat) : Int) := by
  unfold s1F
  have e1 : (((a + 256 * (b + 256 * c) : Nat) : Int) / 2) = (((a / 2 + 128 * (b % 2)) + 256 * ((b / 2 + 128 * (c % 2)) + 256 * (c / 2)) : Nat) : Int) := by omega
  have em : (6148914691236517205 : Int) = ((85 + 256 * (85 + 256 * 93824992236885) : Nat) : Int) := by decide
  obtain ⟨p1, q1, r1⟩ := g1_low a ha (b % 2) (by omega)
  obtain ⟨p2, q2, r2⟩ := g1_low b hb (c % 2) (by omega)
  obtain ⟨_, _, r3⟩ := g1_low c (by omega) 0 (by omega)
  have p3 := g1_top c (by omega)
  rw [e1, em, bits_and_u64_nat _ _ (by omega) (by omega), bits_and_u64_nat _ _ (by omega) (by omega), land3 _ _ _ _ _ q1 q2 (by omega), land3 _ _ _ _ _ ha hb (by omega), IntKind.wrap_u64]
  generalize (a / 2 + 128 * (b % 2)) &&& 85 = x1 at *
  generalize a &&& 85 = x2 at *
  generalize (b / 2 + 128 * (c % 2)) &&& 85 = x3 at *
  generalize b &&& 85 = x4 at *
  generalize c / 2 &&& 93824992236885 = x5 at *
  generalize c &&& 93824992236885 = x6 at *
  omega
theorem s2_nat (a b c : Nat) (ha : a < 256) (hb : b < 256) (hc : c < 256) : s2F ((a + 256 * (b + 256 * c) : Nat) : Int) = ((g2 a + 256 * (g2 b + 256 * g2 c) : Nat) : Int) := by
  unfold s2F
  have e1 : (((a + 256 * (b + 256 * c) : Nat) : Int) / 4) = (((a / 4 + 64 * (b % 4)) + 256 * ((b / 4 + 64 * (c % 4)) + 256 * (c / 4)) : Nat) : Int) := by omega
  have em : (3689348814741910323 : Int) = ((51 + 256 * (51 + 256 * 56294995342131) : Nat) : Int) := by decide
  obtain ⟨p1, q1, r1⟩ := g2_low a ha (b % 4) (by omega)
  obtain ⟨p2, q2, r2⟩ := g2_low b hb (c % 4) (by omega)
  obtain ⟨_, _, r3⟩ := g2_low c (by omega) 0 (by omega)
  have p3 := g2_top c (by omega)
  rw [e1, em, bits_and_u64_nat _ _ (by omega) (by omega), bits_and_u64_nat _ _ (by omega) (by omega), land3 _ _ _ _ _ q1 q2 (by omega), land3 _ _ _ _ _ ha hb (by omega), IntKind.wrap_u64]
  generalize (a / 4 + 64 * (b % 4)) &&& 51 = x1 at *
  generalize a &&& 51 = x2 at *
  generalize (b / 4 + 64 * (c % 4)) &&& 51 = x3 at *
  generalize b &&& 51 = x4 at *
  generalize c / 4 &&& 56294995342131 = x5 at *
  generalize c &&& 56294995342131 = x6 at *
  omega
theorem s3_nat (a b c : Nat) (ha : a < 69) (hb : b < 69) (hc : c < 69) (hb4 : b % 16 ≤ 4) (hc4 : c % 16 ≤ 4) : s3F ((a + 256 * (b + 256 * c) : Nat) : Int) = ((g3 a + 256 * (g3 b + 256 * g3 c) : Nat) : Int) := by
  unfold s3F
  have p1 := g3_low a ha (b % 16) (by omega)
  have p2 := g3_low b hb (c % 16) (by omega)
  have p3 := g3_top c hc
  obtain ⟨x1, h1⟩ : ∃ x, a / 16 + a + 16 * (b % 16) = x := ⟨_, rfl⟩
  obtain ⟨x2, h2⟩ : ∃ x, b / 16 + b + 16 * (c % 16) = x := ⟨_, rfl⟩
  obtain ⟨x3, h3⟩ : ∃ x, c / 16 + c = x := ⟨_, rfl⟩
  have q1 : x1 < 256 := by omega
  have q2 : x2 < 256 := by omega
  have q3 : x3 < 256 := by omega
  rw [h1] at p1
  rw [h2] at p2
  rw [h3] at p3
  have e1 : (((a + 256 * (b + 256 * c) : Nat) : Int) / 16 + ((a + 256 * (b + 256 * c) : Nat) : Int)) = ((x1 + 256 * (x2 + 256 * x3) : Nat) : Int) := by omega
  have em : (1085102592571150095 : Int) = ((15 + 256 * (15 + 256 * 16557351571215) : Nat) : Int) := by decide
  rw [e1]
  clear e1 h1 h2 h3
  rw [IntKind.wrap_u64, Int.emod_eq_of_lt (by omega) (by omega), em, bits_and_u64_nat _ _ (by omega) (by omega), land3 _ _ _ _ _ q1 q2 (by omega), p1, p2, p3]
theorem s456 (x y z : Nat) (hx : x ≤ 8) (hy : y ≤ 8) (hz : z ≤ 8) : bits BinOp.and IntKind.i64 (wrap64 (s6F (s5F (s4F ((x + 256 * (y + 256 * z) : Nat) : Int))))) 127 = ((x + y + z : Nat) : Int) := by
  have e4 : s4F ((x + 256 * (y + 256 * z) : Nat) : Int) = (((x + y) + 256 * (y + z) + 65536 * z : Nat) : Int) := by
    unfold s4F
    rw [show (((x + 256 * (y + 256 * z) : Nat) : Int) / 256) = ((y + 256 * z : Nat) : Int) by omega, IntKind.wrap_u64, Int.emod_eq_of_lt (by omega) (by omega)]
    omega
  rw [e4]
  clear e4
  have e5 : s5F (((x + y) + 256 * (y + z) + 65536 * z : Nat) : Int) = (((x + y + z) + 256 * (y + z) + 65536 * z : Nat) : Int) := by
    unfold s5F
    rw [show ((((x + y) + 256 * (y + z) + 65536 * z : Nat) : Int) / 65536) = (z : Int) by omega, IntKind.wrap_u64, Int.emod_eq_of_lt (by omega) (by omega)]
    omega
  rw [e5]
  clear e5
  have e6 : s6F (((x + y + z) + 256 * (y + z) + 65536 * z : Nat) : Int) = (((x + y + z) + 256 * (y + z) + 65536 * z : Nat) : Int) := by
    unfold s6F
    rw [show ((((x + y + z) + 256 * (y + z) + 65536 * z : Nat) : Int) / 4294967296) = 0 by omega, IntKind.wrap_u64, Int.emod_eq_of_lt (by omega) (by omega)]
    omega
  rw [e6]
  clear e6
  obtain ⟨u, hu⟩ : ∃ u : Nat, (x + y + z) + 256 * (y + z) + 65536 * z = u := ⟨_, rfl⟩
  rw [hu]
  have hul : u < 1000000 := by omega
  rw [show wrap64 (u : Int) = (u : Int) by unfold wrap64; omega]
  have hm := bits_mask .i64 63 (by decide) (fun n h0 h1 => by rw [two63] at h1; rw [IntKind.wrap_i64]; omega) 7 (by decide) (u : Int) (by omega) (by rw [two63]; omega)
  rw [show ((2 : Int) ^ 7 - 1) = 127 by decide, show ((2 : Int) ^ 7) = 128 by decide] at hm
  rw [hm]
  omega
theorem popF_ones (n : Nat) (h : n < 1048576) : popF n = (onesN 20 n : Nat) := by
  obtain ⟨a, ha⟩ : ∃ a, n % 256 = a := ⟨_, rfl⟩
  obtain ⟨b, hb⟩ : ∃ b, n / 256 % 256 = b := ⟨_, rfl⟩
  obtain ⟨c, hc⟩ : ∃ c, n / 65536 = c := ⟨_, rfl⟩
  have hn : n = a + 256 * (b + 256 * c) := by omega
  have ho : onesN 20 n = onesN 8 a + (onesN 8 b + onesN 4 c) := by
    rw [show (20 : Nat) = 8 + (8 + 4) by rfl, onesN_add, onesN_add, show n % 2 ^ 8 = a by omega, show n / 2 ^ 8 % 2 ^ 8 = b by omega, show n / 2 ^ 8 / 2 ^ 8 = c by omega]
  have h4 : onesN 8 c = onesN 4 c := by
    rw [show (8 : Nat) = 4 + 4 by rfl, onesN_add, show c / 2 ^ 4 = 0 by omega, show c % 2 ^ 4 = c by omega, onesN_zero]; rfl
  obtain ⟨a1, a2, a3, a4⟩ := g_all a (by omega)
  obtain ⟨b1, b2, b3, b4⟩ := g_all b (by omega)
  obtain ⟨c1, c2, c3, c4⟩ := g_all c (by omega)
  have r1 := (g1_low a (by omega) 0 (by omega)).2.2
  have r2 := (g1_low b (by omega) 0 (by omega)).2.2
  have r3 := (g1_low c (by omega) 0 (by omega)).2.2
  unfold popF
  rw [hn, s1_nat a b c (by omega) (by omega) (by omega), s2_nat _ _ _ r1 r2 r3, s3_nat _ _ _ (by omega) (by omega) (by omega) b3 c3, a1, b1, c1, ← hn, ho]
  rw [h4] at c4
  rw [h4]
  generalize onesN 8 a = x at *
  generalize onesN 8 b = y at *
  generalize onesN 4 c = z at *
  clear r1 r2 r3 a1 b1 c1 a2 b2 c2 a3 b3 c3 ha hb hc hn ho h4
  exact (s456 x y z a4 b4 c4).trans (by omega)
theorem ones_any (n : Nat) (h : n < 1048576) (w : World) : Calls Try.prog 66 #[.int .u64 n] w fun e w' => e = .returned (.int .i64 (popF n)) ∧ w = w' := by
  have h1 : (0 : Int) ≤ (n : Int) := by omega
  have h2 : (n : Int) < 1048576 := by omega
  obtain ⟨y1, e1⟩ : ∃ y, s1F n = y := ⟨_, rfl⟩
  obtain ⟨y2, e2⟩ : ∃ y, s2F y1 = y := ⟨_, rfl⟩
  obtain ⟨y3, e3⟩ : ∃ y, s3F y2 = y := ⟨_, rfl⟩
  obtain ⟨y4, e4⟩ : ∃ y, s4F y3 = y := ⟨_, rfl⟩
  obtain ⟨y5, e5⟩ : ∃ y, s5F y4 = y := ⟨_, rfl⟩
  obtain ⟨y6, e6⟩ : ∃ y, s6F y5 = y := ⟨_, rfl⟩
  have hp : popF n = bits BinOp.and IntKind.i64 (wrap64 y6) 127 := by unfold popF; rw [e1, e2, e3, e4, e5, e6]
  rw [hp]
  clear hp
  unfold s1F at e1
  unfold s2F at e2
  unfold s3F at e3
  unfold s4F at e4
  unfold s5F at e5
  unfold s6F at e6
  go_enter Try.func66, Try.ntmps66
  go_wp2
  go_ret
  exact ⟨rfl, rfl⟩
theorem onesCount_any (n : Nat) (h : n < 1048576) (w : World) : Calls Try.prog 64 #[.int .u64 n] w fun e w' => e = .returned (.int .i64 (popF n)) ∧ w = w' := by
  have k1 := fun X => ones_any n h X
  generalize popF n = r at *
  go_enter Try.func64, Try.ntmps64
  go_wp2_with (go_at_call 66; (with_reducible refine (k1 _).mono ?_); rintro e w' ⟨rfl, rfl⟩)
  go_ret
  exact ⟨rfl, rfl⟩
end Go.Proofs.Ytlcmedfjghcigaa
