/- Contracts of the small functions of package gear. -/
import Derived.Test.YtoiapnokgpeipaaRows
import Derived.WalkKit
import Derived.Maps.Own
import Derived.Maps.OwnOps
import Derived.BigQuiet
import Derived.Deep.RegionWith
import Derived.Lib.Hide
import Derived.WalkSpells
import Derived.WalkLawsBesides
namespace Go.Proofs.Ytoiapnokgpeipaa
open Go.RowKit

theorem ret_int {k : IntKind} {a b : Int} (h : a = b) : Ending.returned (.int k a) = .returned (.int k b) := by rw [h]
theorem bcell {W w1 : World} (hb : Below W.heap.size W w1) : (∀ b o, b < W.heap.size → w1.cell? ⟨b, o, none⟩ = W.cell? ⟨b, o, none⟩) ∧ (∀ b o, b < W.heap.size → w1.frozen? ⟨b, o, none⟩ = W.frozen? ⟨b, o, none⟩) :=
  ⟨fun b o h => hb.cell (p := ⟨b, o, none⟩) h, fun b o h => hb.frozen (p := ⟨b, o, none⟩) h⟩

/-- the product of a list of numbers, as Go reckons it -/
def prodW (l : List Int) : Int := l.foldl (fun p f => wrap64 (p * f)) 1
theorem prodW_take (l : List Int) (k : Nat) (h : k < l.length) : prodW (l.take (k + 1)) = wrap64 (prodW (l.take k) * l[k]) := by
  unfold prodW; rw [List.take_succ_eq_append_getElem h, List.foldl_append]; rfl

set_option maxHeartbeats 400000 in
theorem product_any (l : List Int) (b off cap : Nat) (w : World) (hl : l.length ≤ maxLen) (hc : ∀ i, i < l.length → w.cell? ⟨b, off + i, none⟩ = some (.int .i64 (l.getD i 0))) :
    Calls Try.prog 45 #[.slice (some ⟨b, off, none⟩) l.length cap] w fun e w' => e = .returned (.int .i64 (prodW l)) ∧ w = w' := by
  unfold maxLen at hl
  go_enter Try.func45, Try.ntmps45
  go_wp2
  go_loop [3, 5, 8] (fun p _ i => ∃ k : Nat, k ≤ l.length ∧ i = .int .i64 k ∧ p = .int .i64 (prodW (l.take k))) (fun _ _ i => l.length - (intOf i).toNat)
  case atStart => exact ⟨0, Nat.zero_le _, rfl, rfl⟩
  case round =>
    obtain ⟨k, hk, rfl, rfl⟩ := hrel
    have hcell : k < l.length → w.cell? ⟨b, off + k, none⟩ = some (.int .i64 (l.getD k 0)) := fun h => hc k h
    by_cases hlt : k < l.length
    · have hp := prodW_take l k hlt
      have HP : Hid (prodW (l.take (k + 1)) = wrap64 (prodW (l.take k) * l[k])) := hp
      clear hp
      go_wp2
      go_round
      case rel => exact ⟨k + 1, by omega, by go_num, by rw [HP.out]⟩
      case measure => simp [intOf]; omega
    · go_wp2
      go_ret
      exact ⟨ret_int (by rw [List.take_of_length_le (by omega)]), rfl⟩

theorem product_nil (w : World) (cap : Nat) : Calls Try.prog 45 #[.slice none 0 cap] w fun e w' => e = .returned (.int .i64 1) ∧ w = w' := by
  go_enter Try.func45, Try.ntmps45
  go_wp2
  go_loop [3, 5, 8] (fun p _ i => i = .int .i64 0 ∧ p = .int .i64 1) (fun _ _ _ => 0)
  case atStart => exact ⟨rfl, rfl⟩
  case round =>
    obtain ⟨rfl, rfl⟩ := hrel
    go_wp2
    go_ret
    exact ⟨rfl, rfl⟩

/-- of two factors whose product fits -/
theorem product_two (x y : Int) (b : Nat) (w : World) (h0 : -9223372036854775808 ≤ x * y) (h1 : x * y ≤ 9223372036854775807)
    (g0 : -9223372036854775808 ≤ x) (g1 : x ≤ 9223372036854775807)
    (c0 : w.cell? ⟨b, 0, none⟩ = some (.int .i64 x)) (c1 : w.cell? ⟨b, 1, none⟩ = some (.int .i64 y)) :
    Calls Try.prog 45 #[.slice (some ⟨b, 0, none⟩) 2 2] w fun e w' => e = .returned (.int .i64 (x * y)) ∧ w = w' := by
  refine (product_any [x, y] b 0 2 w (by simp [maxLen]) ?_).mono ?_
  · intro i hi
    match i, hi with
    | 0, _ => simpa using c0
    | 1, _ => simpa using c1
  · rintro e w' ⟨rfl, rfl⟩
    refine ⟨ret_int ?_, rfl⟩
    simp only [prodW, List.foldl_cons, List.foldl_nil, Int.one_mul]
    rw [IntWalk.wrap64_in x ⟨g0, g1⟩, IntWalk.wrap64_in _ ⟨h0, h1⟩]

def distB (n : Int) : Int := if n < 0 then -n else n
theorem distB_neg {n : Int} (h : n < 0) : distB n = -n := by unfold distB; rw [if_pos h]
theorem distB_pos {n : Int} (h : 0 ≤ n) : distB n = n := by unfold distB; rw [if_neg (by omega)]
theorem distance_any (n : Int) (w : World) (h0 : -9223372036854775808 < n) (h1 : n ≤ 9223372036854775807) :
    Calls Try.prog 68 #[.int .i64 n] w fun e w' => e = .returned (.int .i64 (distB n)) ∧ w = w' := by
  by_cases h : n < 0
  · go_enter Try.func68, Try.ntmps68
    go_wp2
    go_ret
    exact ⟨ret_int (distB_neg h).symm, rfl⟩
  · go_enter Try.func68, Try.ntmps68
    go_wp2
    go_ret
    exact ⟨ret_int (distB_pos (by omega)).symm, rfl⟩

theorem tdiv_down1 (n d : Int) (hd : 0 < d) (h : n.tmod d < 0) : n.tdiv d - 1 = n / d := by
  have h1 := Int.tmod_add_mul_tdiv n d
  have h2 : -d < n.tmod d := by have := Int.lt_tmod_of_pos n hd; omega
  rw [eq_comm, Int.ediv_eq_iff_of_pos hd]
  generalize n.tdiv d = q at *; generalize n.tmod d = r at *
  have : d * (q - 1) = d * q - d := by rw [Int.mul_sub]; omega
  have e : (q - 1) * d = d * q - d := by rw [Int.mul_comm]; exact this
  constructor <;> omega
theorem tdiv_down0 (n d : Int) (hd : 0 < d) (h : 0 ≤ n.tmod d) : n.tdiv d = n / d := by
  have h1 := Int.tmod_add_mul_tdiv n d
  have h2 := Int.tmod_lt_of_pos n hd
  rw [eq_comm, Int.ediv_eq_iff_of_pos hd]
  generalize n.tdiv d = q at *; generalize n.tmod d = r at *
  have e : q * d = d * q := Int.mul_comm _ _
  constructor <;> omega
theorem tdiv_bd (n d : Int) (h0 : -9223372036854775808 < n) (h1 : n ≤ 9223372036854775807) : -9223372036854775807 ≤ n.tdiv d ∧ n.tdiv d ≤ 9223372036854775807 := by
  have h := Int.natAbs_tdiv_le_natAbs n d
  omega
theorem divideDown_any (n d : Int) (w : World) (h0 : -9223372036854775808 < n) (h1 : n ≤ 9223372036854775807) (hd : 0 < d) (hd1 : d ≤ 9223372036854775807) :
    Calls Try.prog 71 #[.int .i64 n, .int .i64 d] w fun e w' => e = .returned (.int .i64 (n / d)) ∧ w = w' := by
  have hb := tdiv_bd n d h0 h1
  go_enter Try.func71, Try.ntmps71
  go_wp2
  · have h : n.tmod d < 0 := by assumption
    go_ret
    exact ⟨ret_int (tdiv_down1 n d hd h), rfl⟩
  · have h : 0 ≤ n.tmod d := by assumption
    go_ret
    exact ⟨ret_int (tdiv_down0 n d hd h), rfl⟩

def teethB (n : Int) : Bool := decide (6 ≤ n ∧ n ≤ 100)
theorem isTeeth_any (n : Int) (w : World) :
    Calls Try.prog 36 #[.int .i64 n] w fun e w' => e = .returned (.bool (teethB n)) ∧ w = w' := by
  by_cases h : 6 ≤ n
  · go_enter Try.func36, Try.ntmps36
    go_wp2
    go_ret
    exact ⟨by simp [teethB, h], rfl⟩
  · have : teethB n = false := by simp [teethB, h]
    go_enter Try.func36, Try.ntmps36
    go_wp2
    go_ret
    exact ⟨rfl, rfl⟩

theorem mul_bd {x y X Y : Int} (hx0 : 0 ≤ x) (hx : x ≤ X) (hy0 : 0 ≤ y) (hy : y ≤ Y) : 0 ≤ x * y ∧ x * y ≤ X * Y :=
  ⟨Int.mul_nonneg hx0 hy0, Int.mul_le_mul hx hy hy0 (by omega)⟩

theorem excess_any (t r a b : Int) (w : World) (ht : 1 ≤ t ∧ t ≤ 1000) (hr : 1 ≤ r ∧ r ≤ 1000) (ha : 1 ≤ a ∧ a ≤ 1000000) (hb : 1 ≤ b ∧ b ≤ 1000000) :
    Calls Try.prog 58 #[.agg #[.int .i64 t, .int .i64 r], .agg #[.int .i64 a, .int .i64 b]] w fun e w' =>
      e = .returned (.tuple #[.int .i64 (a * t - b * r), .int .i64 (b * r)]) ∧ Below w.heap.size w w' := by
  have p1 := mul_bd (x := a) (y := t) (by omega) ha.2 (by omega) ht.2
  have p2 := mul_bd (x := b) (y := r) (by omega) hb.2 (by omega) hr.2
  go_enter Try.func58, Try.ntmps58
  go_wp2_with fail
  refine Calls.mono (product_two b r _ _ (by omega) (by omega) (by omega) (by omega) (by go_simp) (by go_simp)) ?_
  rintro e w' ⟨rfl, rfl⟩
  go_wp2_with fail
  refine Calls.mono (product_two a t _ _ (by omega) (by omega) (by omega) (by omega) (by go_simp) (by go_simp)) ?_
  rintro e w' ⟨rfl, rfl⟩
  go_wp2
  go_ret2
  exact ⟨rfl, by repeat (first | exact Below.refl _ _ | refine Below.alloc ?_ (by simp; try omega) _)⟩

/-- the kinds of wheels that a slice shows -/
def WheelsAt (w : World) (v : Value) (S : List (Int × Int)) : Prop :=
  S.length ≤ maxLen ∧ ((S = [] ∧ ∃ a cap, v = .slice a 0 cap) ∨ ∃ b off cap, v = .slice (some ⟨b, off, none⟩) S.length cap ∧ S.length ≤ cap ∧ cap ≤ maxLen ∧ b < w.heap.size ∧
    ∀ i, i < S.length → w.cell? ⟨b, off + i * 2, none⟩ = some (.int .i64 (S.getD i (0, 0)).1) ∧ w.cell? ⟨b, off + i * 2 + 1, none⟩ = some (.int .i64 (S.getD i (0, 0)).2))

def heldI (S : List (Int × Int)) (t : Int) : Int := ((S.find? (fun x => x.1 == t)).map (·.2)).getD 0

theorem find_miss {α : Type} {p : α → Bool} {S : List α} {k : Nat} (hk : k < S.length) (hno : (S.take k).find? p = none) (he : p S[k] = false) : (S.take (k + 1)).find? p = none := by
  rw [List.take_succ_eq_append_getElem hk, List.find?_append, hno]; simp [he]
theorem find_hit {α : Type} {p : α → Bool} {S : List α} {k : Nat} (hk : k < S.length) (hno : (S.take k).find? p = none) (he : p S[k] = true) : S.find? p = some S[k] := by
  have e : S.find? p = (S.take k ++ S.drop k).find? p := by rw [List.take_append_drop]
  rw [e, List.find?_append, hno, List.drop_eq_getElem_cons hk, List.find?_cons, he]; rfl
theorem heldI_hit {S : List (Int × Int)} {t : Int} {k : Nat} (hk : k < S.length) (hno : (S.take k).find? (fun x => x.1 == t) = none) (he : (S[k].1 == t) = true) : heldI S t = S[k].2 := by
  unfold heldI; rw [find_hit hk hno he]; rfl

theorem count_any (S : List (Int × Int)) (v m : Value) (t : Int) (w : World) (hv : WheelsAt w v S) :
    Calls Try.prog 56 #[.agg #[v, m], .int .i64 t] w fun e w' => e = .returned (.int .i64 (heldI S t)) ∧ Below w.heap.size w w' := by
  obtain ⟨hl, ⟨rfl, a, cap, rfl⟩ | ⟨b, off, cap, rfl, hlc, hcm, hb, hc⟩⟩ := hv
  · unfold maxLen at hl
    go_enter Try.func56, Try.ntmps56
    go_wp2
    go_loop [6, 10] (fun _ i => i = .int .i64 0) (fun _ _ => 0)
    case atStart => rfl
    case round =>
      subst hrel
      go_wp2
      go_ret
      exact ⟨rfl, by repeat (first | exact Below.refl _ _ | refine Below.alloc ?_ (by simp; try omega) _)⟩
  · unfold maxLen at hl
    go_enter Try.func56, Try.ntmps56
    go_wp2
    go_loopw [6, 10] (fun _ i wr => ∃ k : Nat, k ≤ S.length ∧ i = .int .i64 k ∧ Below w.heap.size w wr ∧ (S.take k).find? (fun x => x.1 == t) = none) (fun _ i _ => S.length - (intOf i).toNat)
    case atStart => exact ⟨0, by omega, rfl, by repeat (first | exact Below.refl _ _ | refine Below.alloc ?_ (by simp; try omega) _), rfl⟩
    case round =>
      obtain ⟨k, hk, rfl, hbel, hno⟩ := hrel
      by_cases hlt : k < S.length
      · obtain ⟨c0, c1⟩ := hc k hlt
        rw [← hbel.cell (p := ⟨b, _, none⟩) hb] at c0 c1
        by_cases he : (S[k].1 == t) = true
        · have H := Lib.hid (heldI_hit hlt hno he)
          go_wp2
          go_ret
          exact ⟨ret_int H.out.symm, by repeat (first | exact hbel | refine Below.alloc ?_ (by have := hbel.size; simp; try omega) _)⟩
        · have H := Lib.hid (find_miss hlt hno (by simpa using he))
          have he' : (S[k].1 == t) = false := by simpa using he
          go_wp2
          go_roundw
          case rel => exact ⟨k + 1, by omega, by go_num, hbel.alloc hbel.size _, H.out⟩
          case measure => simp [intOf]; omega
      · go_wp2
        go_ret
        refine ⟨ret_int ?_, hbel⟩
        rw [List.take_of_length_le (by omega)] at hno
        simp [heldI, hno]

end Go.Proofs.Ytoiapnokgpeipaa
