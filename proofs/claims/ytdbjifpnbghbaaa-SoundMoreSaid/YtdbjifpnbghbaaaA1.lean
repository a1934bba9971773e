/- Sound: what lies in memory; contracts of the small functions. -/
import Derived.Test.YtdbjifpnbghbaaaM1
import Derived.Lib.RabinKarpLaws
namespace Go.Proofs.Ytdbjifpnbghbaaa
set_option linter.unusedSimpArgs false
set_option linter.unusedVariables false
open Go.RowKit

theorem alloc_heap (w : World) (o : Obj) : (w.alloc o).heap[w.heap.size]? = some o := (MapKept.heap_alloc w o).1
theorem box_step {w0 w1 w2 : World} {B : Nat} {o : Obj} (h : w1.heap[B]? = some o) (hb : Below w1.heap.size w1 w2) : w2.heap[B]? = some o := (hb.block B (Array.getElem?_eq_some_iff.1 h).1).trans h
theorem two_cells {X : World} {b : Nat} {x y : Value} {t : TypeId} (h : X.heap[b]? = some (.cells #[x, y] t)) : X.cell? ⟨b, 0, none⟩ = some x ∧ X.cell? ⟨b, 1, none⟩ = some y := by
  simp [World.cell?, h]
theorem three_cells {X : World} {b : Nat} {x y z : Value} {t : TypeId} (h : X.heap[b]? = some (.cells #[x, y, z] t)) : X.cell? ⟨b, 0, none⟩ = some x ∧ X.cell? ⟨b, 1, none⟩ = some y ∧ X.cell? ⟨b, 2, none⟩ = some z := by
  simp [World.cell?, h]
theorem four_cells {X : World} {b : Nat} {x y z u : Value} {t : TypeId} (h : X.heap[b]? = some (.cells #[x, y, z, u] t)) : X.cell? ⟨b, 0, none⟩ = some x ∧ X.cell? ⟨b, 1, none⟩ = some y ∧ X.cell? ⟨b, 2, none⟩ = some z ∧ X.cell? ⟨b, 3, none⟩ = some u := by
  simp [World.cell?, h]
theorem five_cells {X : World} {b : Nat} {x y z u v : Value} {t : TypeId} (h : X.heap[b]? = some (.cells #[x, y, z, u, v] t)) : X.cell? ⟨b, 0, none⟩ = some x ∧ X.cell? ⟨b, 1, none⟩ = some y ∧ X.cell? ⟨b, 2, none⟩ = some z ∧ X.cell? ⟨b, 3, none⟩ = some u ∧ X.cell? ⟨b, 4, none⟩ = some v := by
  simp [World.cell?, h]
theorem one_cell {X : World} {b : Nat} {v : Value} {t : TypeId} (h : X.heap[b]? = some (.cells #[v] t (0, 0))) : X.cell? ⟨b, 0, none⟩ = some v := by simp [World.cell?, h]
/-- a slice of structs of k integers -/
def TabAt {α : Type} [Inhabited α] (k : Nat) (f : α → Nat → Int) (w : World) (v : Value) (L : List α) : Prop := L.length ≤ maxLen ∧ ((L = [] ∧ ∃ a c, v = .slice a 0 c) ∨ ∃ b off cap, v = .slice (some ⟨b, off, none⟩) L.length cap ∧ L.length ≤ cap ∧ cap ≤ maxLen ∧ b < w.heap.size ∧
  ∀ i, i < L.length → ∀ j, j < k → w.cell? ⟨b, off + i * k + j, none⟩ = some (.int .i64 (f (L.getD i default) j)))
section
variable {α : Type} [Inhabited α] {k : Nat} {f : α → Nat → Int} {w w' : World} {v : Value} {L : List α}
theorem TabAt.shape (h : TabAt k f w v L) : ∃ a c, v = .slice a L.length c := by
  obtain ⟨_, ⟨rfl, a, c, rfl⟩ | ⟨b, off, cap, rfl, _⟩⟩ := h
  · exact ⟨a, c, rfl⟩
  · exact ⟨_, _, rfl⟩
theorem TabAt.below (h : TabAt k f w v L) (hb : Below w.heap.size w w') : TabAt k f w' v L := by
  obtain ⟨hl, ⟨rfl, h⟩ | ⟨b, off, cap, rfl, h1, h2, h3, h4⟩⟩ := h
  · exact ⟨hl, .inl ⟨rfl, h⟩⟩
  · exact ⟨hl, .inr ⟨b, off, cap, rfl, h1, h2, Nat.lt_of_lt_of_le h3 hb.size, fun i hi j hj => (hb.cell (p := ⟨b, _, none⟩) h3).trans (h4 i hi j hj)⟩⟩
theorem TabAt.at {a : Option Addr} {n c : Nat} (h : TabAt k f w (.slice a n c) L) (hl : 0 < L.length) : ∃ b off, a = some ⟨b, off, none⟩ ∧ b < w.heap.size ∧ ∀ i, i < L.length → ∀ j, j < k → w.cell? ⟨b, off + i * k + j, none⟩ = some (.int .i64 (f (L.getD i default) j)) := by
  obtain ⟨_, ⟨rfl, _⟩ | ⟨b, off, cap, e, h1, h2, h3, h4⟩⟩ := h
  · simp at hl
  · simp only [Value.slice.injEq] at e
    exact ⟨b, off, e.1, h3, h4⟩
end
theorem getD_bang {α : Type} [Inhabited α] (l : List α) {k : Nat} (hk : k < l.length) : l.getD k default = l[k]! := by
  rw [getElem!_pos l k hk, List.getD, List.getElem?_eq_getElem hk]; rfl
def piC (p : Pi) : Nat → Int | 0 => p.len | 1 => p.lo | _ => p.hi
def heC (h : He) : Nat → Int | 0 => h.a | 1 => h.b | 2 => h.lo | _ => h.hi
def stC (s : St) : Nat → Int | 0 => s.p | 1 => s.a | _ => s.b
def spC (s : Int × Int) : Nat → Int | 0 => s.1 | _ => s.2
def piV (p : Pi) : Value := .agg #[.int .i64 p.len, .int .i64 p.lo, .int .i64 p.hi]
def heV (h : He) : Value := .agg #[.int .i64 h.a, .int .i64 h.b, .int .i64 h.lo, .int .i64 h.hi]
def spV (s : Int × Int) : Value := .agg #[.int .i64 s.1, .int .i64 s.2]
theorem isFrom_any (n lo hi : Int) (w : World) : Calls Try.prog 53 #[.int .i64 n, .int .i64 lo, .int .i64 hi] w fun e w' => e = .returned (.bool (inF n lo hi)) ∧ w = w' := by
  by_cases h : lo ≤ n
  · have H := Lib.hid (show inF n lo hi = decide (n ≤ hi) by simp [inF, h])
    go_enter Try.func53, Try.ntmps53
    go_wp2
    go_ret
    exact ⟨by rw [H.out]; rfl, rfl⟩
  · have H := Lib.hid (show inF n lo hi = false by simp [inF, h])
    go_enter Try.func53, Try.ntmps53
    go_wp2
    go_ret
    exact ⟨by rw [H.out]; rfl, rfl⟩
theorem in_any (n lo hi : Int) (w : World) : Calls Try.prog 37 #[.int .i64 n, .int .i64 lo, .int .i64 hi] w fun e w' => e = .returned (.bool (inF n lo hi)) ∧ w = w' := by
  by_cases h : lo ≤ n
  · have H := Lib.hid (show inF n lo hi = decide (n ≤ hi) by simp [inF, h])
    go_enter Try.func37, Try.ntmps37
    go_wp2
    go_ret
    exact ⟨by rw [H.out]; rfl, rfl⟩
  · have H := Lib.hid (show inF n lo hi = false by simp [inF, h])
    go_enter Try.func37, Try.ntmps37
    go_wp2
    go_ret
    exact ⟨by rw [H.out]; rfl, rfl⟩
theorem isWithin_any (s0 s1 lo hi : Int) (w : World) : Calls Try.prog 54 #[.agg #[.int .i64 s0, .int .i64 s1], .int .i64 lo, .int .i64 hi] w fun e w' => e = .returned (.bool (withinF (s0, s1) lo hi)) ∧ Below w.heap.size w w' := by
  have hb := (Below.refl w.heap.size w).alloc (Nat.le_refl _) (.cells #[.int .i64 s0, .int .i64 s1] 24)
  have HB := Lib.hid hb
  have hR : withinF (s0, s1) lo hi = (decide (lo ≤ s0) && (decide (s0 ≤ s1) && decide (s1 ≤ hi))) := rfl
  clear hb
  by_cases h1 : lo ≤ s0
  · by_cases h2 : s0 ≤ s1
    · rw [show withinF (s0, s1) lo hi = decide (s1 ≤ hi) by rw [hR]; simp [h1, h2]]
      clear hR
      go_enter Try.func54, Try.ntmps54
      go_wp2
      go_ret
      exact ⟨rfl, HB.out⟩
    · rw [show withinF (s0, s1) lo hi = false by rw [hR]; simp [h2]]
      clear hR
      go_enter Try.func54, Try.ntmps54
      go_wp2
      go_ret
      exact ⟨rfl, HB.out⟩
  · rw [show withinF (s0, s1) lo hi = false by rw [hR]; simp [h1]]
    clear hR
    go_enter Try.func54, Try.ntmps54
    go_wp2
    go_ret
    exact ⟨rfl, HB.out⟩
theorem isEmpty_any (s0 s1 : Int) (w : World) : Calls Try.prog 40 #[.agg #[.int .i64 s0, .int .i64 s1]] w fun e w' => e = .returned (.bool (emptyF (s0, s1))) ∧ Below w.heap.size w w' := by
  have HB := Lib.hid ((Below.refl w.heap.size w).alloc (Nat.le_refl _) (.cells #[.int .i64 s0, .int .i64 s1] 24))
  have hR : emptyF (s0, s1) = decide (s1 < s0) := rfl
  rw [hR]
  go_enter Try.func40, Try.ntmps40
  go_wp2
  go_ret
  exact ⟨rfl, HB.out⟩
theorem nearest_any (s0 s1 n : Int) (w : World) : Calls Try.prog 62 #[.agg #[.int .i64 s0, .int .i64 s1], .int .i64 n] w fun e w' => e = .returned (.int .i64 (nearF (s0, s1) n)) ∧ Below w.heap.size w w' := by
  have HB := Lib.hid ((Below.refl w.heap.size w).alloc (Nat.le_refl _) (.cells #[.int .i64 s0, .int .i64 s1] 24))
  have hR : nearF (s0, s1) n = min (max n s0) s1 := rfl
  have HR := Lib.hid hR
  clear hR
  go_enter Try.func62, Try.ntmps62
  go_wp2
  go_ret
  exact ⟨by rw [HR.out]; rfl, HB.out⟩
theorem least_any (n lo hi : Int) (hn : -200000 ≤ n ∧ n ≤ 200000) (h1 : 1 ≤ lo) (h2 : lo ≤ hi) (h3 : hi ≤ 10000) (w : World) : Calls Try.prog 57 #[.agg #[], .int .i64 n, .agg #[.int .i64 lo, .int .i64 hi]] w fun e w' => e = .returned (.int .i64 (ofF false n lo hi)) ∧ Below w.heap.size w w' := by
  have m1 := mul_in (A := 200000) (B := 10000) hn (b := lo) (by omega) (by omega)
  have m2 := mul_in (A := 200000) (B := 10000) hn (b := hi) (by omega) (by omega)
  have HR := Lib.hid (show ofF false n lo hi = min (n * lo) (n * hi) from rfl)
  have HB := Lib.hid (((Below.refl w.heap.size w).alloc (Nat.le_refl _) (.cells #[] 91)).alloc (by simp) (.cells #[.int .i64 lo, .int .i64 hi] 24))
  obtain ⟨p, hp⟩ : ∃ x, n * lo = x := ⟨_, rfl⟩
  obtain ⟨q, hq⟩ : ∃ x, n * hi = x := ⟨_, rfl⟩
  rw [hp] at m1
  rw [hq] at m2
  have w1 : IntKind.i64.wrap (n * lo) = p := by rw [hp]; exact IntWalk.i64_in _ (by omega)
  have w2 : IntKind.i64.wrap (n * hi) = q := by rw [hq]; exact IntWalk.i64_in _ (by omega)
  have HPQ := Lib.hid (And.intro hp hq)
  clear hp hq m1 m2
  go_enter Try.func57, Try.ntmps57
  go_wp2
  go_ret
  exact ⟨by rw [HR.out, HPQ.out.1, HPQ.out.2]; rfl, HB.out⟩
theorem greatest_any (n lo hi : Int) (hn : -200000 ≤ n ∧ n ≤ 200000) (h1 : 1 ≤ lo) (h2 : lo ≤ hi) (h3 : hi ≤ 10000) (w : World) : Calls Try.prog 58 #[.agg #[], .int .i64 n, .agg #[.int .i64 lo, .int .i64 hi]] w fun e w' => e = .returned (.int .i64 (ofF true n lo hi)) ∧ Below w.heap.size w w' := by
  have m1 := mul_in (A := 200000) (B := 10000) hn (b := lo) (by omega) (by omega)
  have m2 := mul_in (A := 200000) (B := 10000) hn (b := hi) (by omega) (by omega)
  have HR := Lib.hid (show ofF true n lo hi = max (n * lo) (n * hi) from rfl)
  have HB := Lib.hid (((Below.refl w.heap.size w).alloc (Nat.le_refl _) (.cells #[] 92)).alloc (by simp) (.cells #[.int .i64 lo, .int .i64 hi] 24))
  obtain ⟨p, hp⟩ : ∃ x, n * lo = x := ⟨_, rfl⟩
  obtain ⟨q, hq⟩ : ∃ x, n * hi = x := ⟨_, rfl⟩
  rw [hp] at m1
  rw [hq] at m2
  have w1 : IntKind.i64.wrap (n * lo) = p := by rw [hp]; exact IntWalk.i64_in _ (by omega)
  have w2 : IntKind.i64.wrap (n * hi) = q := by rw [hq]; exact IntWalk.i64_in _ (by omega)
  have HPQ := Lib.hid (And.intro hp hq)
  clear hp hq m1 m2
  go_enter Try.func58, Try.ntmps58
  go_wp2
  go_ret
  exact ⟨by rw [HR.out, HPQ.out.1, HPQ.out.2]; rfl, HB.out⟩
theorem down_zero {n d : Int} (h : n.tmod d = 0) : downF n d = n.tdiv d := by
  unfold downF
  rw [Int.fdiv_eq_tdiv, if_pos (Int.dvd_of_tmod_eq_zero h)]
  omega
theorem down_same {n d : Int} (h : n.tmod d ≠ 0) (h0 : d ≠ 0) (hs : (n < 0 ∧ d < 0) ∨ (¬ n < 0 ∧ ¬ d < 0)) : downF n d = n.tdiv d := by
  unfold downF
  rw [Int.fdiv_eq_tdiv, if_neg (fun k => h (Int.tmod_eq_zero_of_dvd k))]
  rcases hs with ⟨h1, h2⟩ | ⟨h1, h2⟩
  · rw [if_neg (by omega), if_neg (by omega), Int.sign_eq_neg_one_of_neg h2]; omega
  · rw [if_pos (by omega), if_pos (by omega)]; omega
theorem down_less {n d : Int} (h : n.tmod d ≠ 0) (h0 : d ≠ 0) (hs : (n < 0 ∧ ¬ d < 0) ∨ (¬ n < 0 ∧ d < 0)) : downF n d = n.tdiv d - 1 := by
  unfold downF
  rw [Int.fdiv_eq_tdiv, if_neg (fun k => h (Int.tmod_eq_zero_of_dvd k))]
  rcases hs with ⟨h1, h2⟩ | ⟨h1, h2⟩
  · rw [if_neg (by omega), if_pos (by omega), Int.sign_eq_one_of_pos (by omega)]
  · rw [if_pos (by omega), if_neg (by omega)]
theorem quo_in {n d : Int} (hn : -1000000000000000 ≤ n ∧ n ≤ 1000000000000000) : -1000000000000000 ≤ n.tdiv d ∧ n.tdiv d ≤ 1000000000000000 := by
  have h1 := Int.natAbs_tdiv_le_natAbs n d
  omega
theorem down_any (n d : Int) (hn : -1000000000000000 ≤ n ∧ n ≤ 1000000000000000) (h0 : d ≠ 0) (w : World) : Calls Try.prog 64 #[.int .i64 n, .int .i64 d] w fun e w' => e = .returned (.int .i64 (downF n d)) ∧ w = w' := by
  have hqi := quo_in (d := d) hn
  have k0 := down_zero (n := n) (d := d)
  have k1 := down_same (n := n) (d := d)
  have k2 := down_less (n := n) (d := d)
  obtain ⟨R, hR⟩ : ∃ R, downF n d = R := ⟨_, rfl⟩
  rw [hR] at k0 k1 k2 ⊢
  obtain ⟨q, hq⟩ : ∃ q, n.tdiv d = q := ⟨_, rfl⟩
  obtain ⟨r, hr⟩ : ∃ r, n.tmod d = r := ⟨_, rfl⟩
  rw [hq] at k0 k1 k2 hqi
  rw [hr] at k0 k1 k2
  have w1 : IntKind.i64.wrap (n.tdiv d) = q := by rw [hq]; exact IntWalk.i64_in _ (by omega)
  have w2 : IntKind.i64.wrap (q - 1) = q - 1 := IntWalk.i64_in _ (by omega)
  clear hq hR hqi hn
  by_cases hz : r = 0
  · have hk := Lib.hid (k0 hz)
    clear k0 k1 k2
    rw [hz] at hr
    go_enter Try.func64, Try.ntmps64
    go_wp2
    go_ret
    exact ⟨by rw [hk.out]; rfl, rfl⟩
  · have hz2 : (r == 0) = false := by simp [hz]
    by_cases hn : n < 0
    · by_cases hd : d < 0
      · have hk := Lib.hid (k1 hz h0 (.inl ⟨hn, hd⟩))
        clear k0 k1 k2
        go_enter Try.func64, Try.ntmps64
        go_wp2
        go_ret
        exact ⟨by rw [hk.out]; rfl, rfl⟩
      · have hk := Lib.hid (k2 hz h0 (.inl ⟨hn, hd⟩))
        have hd' : decide (d < 0) = false := decide_eq_false hd
        clear k0 k1 k2
        go_enter Try.func64, Try.ntmps64
        go_wp2
        go_ret
        exact ⟨by rw [hk.out]; rfl, rfl⟩
    · have hn' : decide (n < 0) = false := decide_eq_false hn
      by_cases hd : d < 0
      · have hk := Lib.hid (k2 hz h0 (.inr ⟨hn, hd⟩))
        clear k0 k1 k2
        go_enter Try.func64, Try.ntmps64
        go_wp2
        go_ret
        exact ⟨by rw [hk.out]; rfl, rfl⟩
      · have hk := Lib.hid (k1 hz h0 (.inr ⟨hn, hd⟩))
        have hd' : decide (d < 0) = false := decide_eq_false hd
        clear k0 k1 k2
        go_enter Try.func64, Try.ntmps64
        go_wp2
        go_ret
        exact ⟨by rw [hk.out]; rfl, rfl⟩
theorem down_in {n d : Int} (hn : -1000000000000000 ≤ n ∧ n ≤ 1000000000000000) : -1000000000000005 ≤ downF n d ∧ downF n d ≤ 1000000000000005 := by
  have hqi := quo_in (d := d) hn
  unfold downF
  rw [Int.fdiv_eq_tdiv]
  have := Int.sign_trichotomy d
  split
  · omega
  · split <;> split <;> omega
theorem up_any (n d : Int) (hn : -1000000000000000 ≤ n ∧ n ≤ 1000000000000000) (h0 : d ≠ 0) (w : World) : Calls Try.prog 65 #[.int .i64 n, .int .i64 d] w fun e w' => e = .returned (.int .i64 (upF n d)) ∧ w = w' := by
  have KD := Lib.hid (fun X => down_any (-n) d (by omega) h0 X)
  have hdi := down_in (n := -n) (d := d) (by omega)
  have w1 : IntKind.i64.wrap (-n) = -n := IntWalk.i64_in _ (by omega)
  unfold upF
  obtain ⟨x, hx⟩ : ∃ x, downF (-n) d = x := ⟨_, rfl⟩
  rw [hx] at KD hdi ⊢
  have w2 : IntKind.i64.wrap (-x) = -x := IntWalk.i64_in _ (by omega)
  clear hx hdi
  go_enter Try.func65, Try.ntmps65
  go_wp2_with (go_at_call 64; (with_reducible refine (KD.out _).mono ?_); rintro e w2 ⟨rfl, rfl⟩)
  go_ret
  exact ⟨rfl, rfl⟩
end Go.Proofs.Ytdbjifpnbghbaaa
