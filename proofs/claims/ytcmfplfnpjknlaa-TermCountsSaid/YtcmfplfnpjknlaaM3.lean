/- Term in plain words: OnesCount's steps count the bits. -/
import Derived.Test.YtcmfplfnpjknlaaM1
import Derived.Laws.Bits64b
import Derived.Lib.RabinKarpLaws
namespace Go.Proofs.Ytcmfplfnpjknlaa
open Go.RowKit

def onesN : Nat → Nat → Nat
  | 0, _ => 0
  | k + 1, n => n % 2 + onesN k (n / 2)
theorem onesN_zero : ∀ k, onesN k 0 = 0
  | 0 => rfl
  | k + 1 => by rw [onesN, Nat.zero_div, onesN_zero k]
theorem onesN_add : ∀ k l n, onesN (k + l) n = onesN k (n % 2 ^ k) + onesN l (n / 2 ^ k)
  | 0, l, n => by simp [onesN]
  | k + 1, l, n => by
    have e : k + 1 + l = (k + l) + 1 := by omega
    rw [e, onesN, onesN_add k l (n / 2), onesN]
    have p : (2 : Nat) ^ (k + 1) = 2 * 2 ^ k := by rw [Nat.pow_succ]; omega
    rw [p, Nat.mod_mul_right_mod, Nat.mod_mul_right_div_self, Nat.div_div_eq_div_mul]
    omega
theorem land_split (a b m M : Nat) (ha : a < 256) (hm : m < 256) : (a + 256 * b) &&& (m + 256 * M) = (a &&& m) + 256 * (b &&& M) := by
  have h1 : ((a + 256 * b) &&& (m + 256 * M)) % 2 ^ 8 = a &&& m := by
    rw [Nat.and_mod_two_pow, show (a + 256 * b) % 2 ^ 8 = a by omega, show (m + 256 * M) % 2 ^ 8 = m by omega]
  have h2 : ((a + 256 * b) &&& (m + 256 * M)) / 2 ^ 8 = b &&& M := by
    rw [Nat.and_div_two_pow, show (a + 256 * b) / 2 ^ 8 = b by omega, show (m + 256 * M) / 2 ^ 8 = M by omega]
  omega
theorem land3 (a b c m M : Nat) (ha : a < 256) (hb : b < 256) (hm : m < 256) : (a + 256 * (b + 256 * c)) &&& (m + 256 * (m + 256 * M)) = (a &&& m) + 256 * ((b &&& m) + 256 * (c &&& M)) := by
  rw [land_split _ _ _ _ ha hm, land_split _ _ _ _ hb hm]
def g1 (a : Nat) : Nat := (a / 2 &&& 85) + (a &&& 85)
def g2 (a : Nat) : Nat := (a / 4 &&& 51) + (a &&& 51)
def g3 (a : Nat) : Nat := (a / 16 + a) &&& 15
theorem g1_low : ∀ a < 256, ∀ e < 2, ((a / 2 + 128 * e) &&& 85) + (a &&& 85) = g1 a ∧ (a / 2 + 128 * e) < 256 ∧ g1 a < 256 := by decide +kernel
theorem g1_top : ∀ a < 256, (a / 2 &&& 93824992236885) + (a &&& 93824992236885) = g1 a := by decide +kernel
theorem g2_low : ∀ a < 256, ∀ e < 4, ((a / 4 + 64 * e) &&& 51) + (a &&& 51) = g2 a ∧ (a / 4 + 64 * e) < 256 ∧ g2 a < 256 := by decide +kernel
theorem g2_top : ∀ a < 256, (a / 4 &&& 56294995342131) + (a &&& 56294995342131) = g2 a := by decide +kernel
theorem g3_low : ∀ a < 69, ∀ e < 16, (a / 16 + a + 16 * e) &&& 15 = g3 a := by decide +kernel
theorem g3_top : ∀ a < 69, (a / 16 + a) &&& 16557351571215 = g3 a := by decide +kernel
theorem g_all : ∀ a < 256, g3 (g2 (g1 a)) = onesN 8 a ∧ g2 (g1 a) ≤ 68 ∧ g2 (g1 a) % 16 ≤ 4 ∧ onesN 8 a ≤ 8 := by decide +kernel
theorem s1_nat (a b c : Nat) (ha : a < 256) (hb : b < 256) (hc : c < 16) : s1F ((a + 256 * (b + 256 * c) : Nat) : Int) = ((g1 a + 256 * (g1 b + 256 * g1 c) : Nat) : Int) := by
  unfold s1F
  have e1 : (((a + 256 * (b + 256 * c) : Nat) : Int) / 2) = (((a / 2 + 128 * (b % 2)) + 256 * ((b / 2 + 128 * (c % 2)) + 256 * (c / 2)) : Nat) : Int) := by omega
  have em : (6148914691236517205 : Int) = ((85 + 256 * (85 + 256 * 93824992236885) : Nat) : Int) := by decide
  obtain ⟨p1, q1, r1⟩ := g1_low a ha (b % 2) (by omega)
  obtain ⟨p2, q2, r2⟩ := g1_low b hb (c % 2) (by omega)
  obtain ⟨_, _, r3⟩ := g1_low c (by omega) 0 (by omega)
  have p3 := g1_top c (by omega)
  rw [e1, em, bits_and_u64_nat _ _ (by omega) (by omega), bits_and_u64_nat _ _ (by omega) (by omega), land3 _ _ _ _ _ q1 q2 (by omega), land3 _ _ _ _ _ ha hb (by omega), IntKind.wrap_u64]
  generalize (a / 2 + 128 * (b % 2)) &&& 85 = x1 at *
  generalize a &&& 85 = x2 at *
  generalize (b / 2 + 128 * (c % 2)) &&& 85 = x3 at *
  generalize b &&& 85 = x4 at *
  generalize c / 2 &&& 93824992236885 = x5 at *
  generalize c &&& 93824992236885 = x6 at *
  omega
theorem s2_nat (a b c : Nat) (ha : a < 256) (hb : b < 256) (hc : c < 256) : s2F ((a + 256 * (b + 256 * c) : Nat) : Int) = ((g2 a + 256 * (g2 b + 256 * g2 c) : Nat) : Int) := by
  unfold s2F
  have e1 : (((a + 256 * (b + 256 * c) : Nat) : Int) / 4) = (((a / 4 + 64 * (b % 4)) + 256 * ((b / 4 + 64 * (c % 4)) + 256 * (c / 4)) : Nat) : Int) := by omega
  have em : (3689348814741910323 : Int) = ((51 + 256 * (51 + 256 * 56294995342131) : Nat) : Int) := by decide
  obtain ⟨p1, q1, r1⟩ := g2_low a ha (b % 4) (by omega)
  obtain ⟨p2, q2, r2⟩ := g2_low b hb (c % 4) (by omega)
  obtain ⟨_, _, r3⟩ := g2_low c (by omega) 0 (by omega)
  have p3 := g2_top c (by omega)
  rw [e1, em, bits_and_u64_nat _ _ (by omega) (by omega), bits_and_u64_nat _ _ (by omega) (by omega), land3 _ _ _ _ _ q1 q2 (by omega), land3 _ _ _ _ _ ha hb (by omega), IntKind.wrap_u64]
  generalize (a / 4 + 64 * (b % 4)) &&& 51 = x1 at *
  generalize a &&& 51 = x2 at *
  generalize (b / 4 + 64 * (c % 4)) &&& 51 = x3 at *
  generalize b &&& 51 = x4 at *
  generalize c / 4 &&& 56294995342131 = x5 at *
  generalize c &&& 56294995342131 = x6 at *
  omega
theorem s3_nat (a b c : Nat) (ha : a < 69) (hb : b < 69) (hc : c < 69) (hb4 : b % 16 ≤ 4) (hc4 : c % 16 ≤ 4) : s3F ((a + 256 * (b + 256 * c) : Nat) : Int) = ((g3 a + 256 * (g3 b + 256 * g3 c) : Nat) : Int) := by
  unfold s3F
  have p1 := g3_low a ha (b % 16) (by omega)
  have p2 := g3_low b hb (c % 16) (by omega)
  have p3 := g3_top c hc
  obtain ⟨x1, h1⟩ : ∃ x, a / 16 + a + 16 * (b % 16) = x := ⟨_, rfl⟩
  obtain ⟨x2, h2⟩ : ∃ x, b / 16 + b + 16 * (c % 16) = x := ⟨_, rfl⟩
  obtain ⟨x3, h3⟩ : ∃ x, c / 16 + c = x := ⟨_, rfl⟩
  have q1 : x1 < 256 := by omega
  have q2 : x2 < 256 := by omega
  have q3 : x3 < 256 := by omega
  rw [h1] at p1
  rw [h2] at p2
  rw [h3] at p3
  have e1 : (((a + 256 * (b + 256 * c) : Nat) : Int) / 16 + ((a + 256 * (b + 256 * c) : Nat) : Int)) = ((x1 + 256 * (x2 + 256 * x3) : Nat) : Int) := by omega
  have em : (1085102592571150095 : Int) = ((15 + 256 * (15 + 256 * 16557351571215) : Nat) : Int) := by decide
  rw [e1]
  clear e1 h1 h2 h3
  rw [IntKind.wrap_u64, Int.emod_eq_of_lt (by omega) (by omega), em, bits_and_u64_nat _ _ (by omega) (by omega), land3 _ _ _ _ _ q1 q2 (by omega), p1, p2, p3]
theorem s456 (x y z : Nat) (hx : x ≤ 8) (hy : y ≤ 8) (hz : z ≤ 8) : bits BinOp.and IntKind.i64 (wrap64 (s6F (s5F (s4F ((x + 256 * (y + 256 * z) : Nat) : Int))))) 127 = ((x + y + z : Nat) : Int) := by
  have e4 : s4F ((x + 256 * (y + 256 * z) : Nat) : Int) = (((x + y) + 256 * (y + z) + 65536 * z : Nat) : Int) := by
    unfold s4F
    rw [show (((x + 256 * (y + 256 * z) : Nat) : Int) / 256) = ((y + 256 * z : Nat) : Int) by omega, IntKind.wrap_u64, Int.emod_eq_of_lt (by omega) (by omega)]
    omega
  rw [e4]
  clear e4
  have e5 : s5F (((x + y) + 256 * (y + z) + 65536 * z : Nat) : Int) = (((x + y + z) + 256 * (y + z) + 65536 * z : Nat) : Int) := by
    unfold s5F
    rw [show ((((x + y) + 256 * (y + z) + 65536 * z : Nat) : Int) / 65536) = (z : Int) by omega, IntKind.wrap_u64, Int.emod_eq_of_lt (by omega) (by omega)]
    omega
  rw [e5]
  clear e5
  have e6 : s6F (((x + y + z) + 256 * (y + z) + 65536 * z : Nat) : Int) = (((x + y + z) + 256 * (y + z) + 65536 * z : Nat) : Int) := by
    unfold s6F
    rw [show ((((x + y + z) + 256 * (y + z) + 65536 * z : Nat) : Int) / 4294967296) = 0 by omega, IntKind.wrap_u64, Int.emod_eq_of_lt (by omega) (by omega)]
    omega
  rw [e6]
  clear e6
  obtain ⟨u, hu⟩ : ∃ u : Nat, (x + y + z) + 256 * (y + z) + 65536 * z = u := ⟨_, rfl⟩
  rw [hu]
  have hul : u < 1000000 := by omega
  rw [show wrap64 (u : Int) = (u : Int) by unfold wrap64; omega]
  have hm := bits_mask .i64 63 (by decide) (fun n h0 h1 => by rw [two63] at h1; rw [IntKind.wrap_i64]; omega) 7 (by decide) (u : Int) (by omega) (by rw [two63]; omega)
  rw [show ((2 : Int) ^ 7 - 1) = 127 by decide, show ((2 : Int) ^ 7) = 128 by decide] at hm
  rw [hm]
  omega
theorem popF_ones (n : Nat) (h : n < 1048576) : popF n = (onesN 20 n : Nat) := by
  obtain ⟨a, ha⟩ : ∃ a, n % 256 = a := ⟨_, rfl⟩
  obtain ⟨b, hb⟩ : ∃ b, n / 256 % 256 = b := ⟨_, rfl⟩
  obtain ⟨c, hc⟩ : ∃ c, n / 65536 = c := ⟨_, rfl⟩
  have hn : n = a + 256 * (b + 256 * c) := by omega
  have ho : onesN 20 n = onesN 8 a + (onesN 8 b + onesN 4 c) := by
    rw [show (20 : Nat) = 8 + (8 + 4) by rfl, onesN_add, onesN_add, show n % 2 ^ 8 = a by omega, show n / 2 ^ 8 % 2 ^ 8 = b by omega, show n / 2 ^ 8 / 2 ^ 8 = c by omega]
  have h4 : onesN 8 c = onesN 4 c := by
    rw [show (8 : Nat) = 4 + 4 by rfl, onesN_add, show c / 2 ^ 4 = 0 by omega, show c % 2 ^ 4 = c by omega, onesN_zero]; rfl
  obtain ⟨a1, a2, a3, a4⟩ := g_all a (by omega)
  obtain ⟨b1, b2, b3, b4⟩ := g_all b (by omega)
  obtain ⟨c1, c2, c3, c4⟩ := g_all c (by omega)
  have r1 := (g1_low a (by omega) 0 (by omega)).2.2
  have r2 := (g1_low b (by omega) 0 (by omega)).2.2
  have r3 := (g1_low c (by omega) 0 (by omega)).2.2
  unfold popF
  rw [hn, s1_nat a b c (by omega) (by omega) (by omega), s2_nat _ _ _ r1 r2 r3, s3_nat _ _ _ (by omega) (by omega) (by omega) b3 c3, a1, b1, c1, ← hn, ho]
  rw [h4] at c4
  rw [h4]
  generalize onesN 8 a = x at *
  generalize onesN 8 b = y at *
  generalize onesN 4 c = z at *
  clear r1 r2 r3 a1 b1 c1 a2 b2 c2 a3 b3 c3 ha hb hc hn ho h4
  exact (s456 x y z a4 b4 c4).trans (by omega)
end Go.Proofs.Ytcmfplfnpjknlaa
