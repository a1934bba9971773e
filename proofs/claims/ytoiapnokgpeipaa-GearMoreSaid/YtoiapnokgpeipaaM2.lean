/- With more in stock, more room or more pairs; twice the turns and twice the rounds. Plain lists and numbers. -/
import Derived.Test.YtoiapnokgpeipaaS5
import Derived.Test.YtoiapnokgpeipaaF2
namespace Go.Proofs.Ytoiapnokgpeipaa
set_option linter.unusedSimpArgs false
open Go.RowKit

theorem heldI_cons (y : Int × Int) (l : List (Int × Int)) (x : Int) : heldI (y :: l) x = if (y.1 == x) = true then y.2 else heldI l x := by
  unfold heldI
  rw [List.find?_cons]
  cases h : (y.1 == x) <;> simp
theorem held_set (x c : Int) : ∀ (S : List (Int × Int)) (k : Nat), k < S.length → (S.getD k (0, 0)).2 ≤ c → heldI S x ≤ heldI (S.set k ((S.getD k (0, 0)).1, c)) x
  | [], k, h, _ => by simp at h
  | y :: l, 0, _, h => by
    simp only [List.getD_cons_zero] at h ⊢
    rw [List.set_cons_zero, heldI_cons, heldI_cons]
    by_cases e : (y.1 == x) = true
    · rw [if_pos e, if_pos e]; exact h
    · rw [if_neg e, if_neg e]; exact Int.le_refl _
  | y :: l, k + 1, hk, h => by
    simp only [List.getD_cons_succ] at h ⊢
    rw [List.set_cons_succ, heldI_cons, heldI_cons]
    by_cases e : (y.1 == x) = true
    · rw [if_pos e, if_pos e]; exact Int.le_refl _
    · rw [if_neg e, if_neg e]; exact held_set x c l k (by simpa using hk) h
theorem set_getD (S : List (Int × Int)) (k : Nat) (v : Int × Int) (hk : k < S.length) (m : Nat) : (S.set k v).getD m (0, 0) = if m = k then v else S.getD m (0, 0) := by
  by_cases h : m = k
  · subst h
    rw [if_pos rfl]
    simp [List.getD, List.getElem?_set, hk]
  · rw [if_neg h]
    simp [List.getD, List.getElem?_set, show ¬ k = m by omega]
/-- a stock with one wheel more of a kind -/
def richL (S : List (Int × Int)) (k : Nat) : List (Int × Int) := S.set k ((S.getD k (0, 0)).1, if (S.getD k (0, 0)).2 + 1 < 4 then (S.getD k (0, 0)).2 + 1 else 4)
theorem stockB_row {S : List (Int × Int)} (h : stockB S = true) {i : Nat} (hi : i < S.length) : 6 ≤ (S.getD i (0, 0)).1 ∧ (S.getD i (0, 0)).1 ≤ 100 ∧ 0 ≤ (S.getD i (0, 0)).2 ∧ (S.getD i (0, 0)).2 ≤ 4 ∧ (i = 0 ∨ (S.getD (i - 1) (0, 0)).1 < (S.getD i (0, 0)).1) := by
  unfold stockB at h
  have := (of_decide_eq_true h).2 i hi
  unfold rowB at this
  exact of_decide_eq_true this
theorem rich_held {S : List (Int × Int)} (h : stockB S = true) {k : Nat} (hk : k < S.length) (x : Int) : heldI S x ≤ heldI (richL S k) x := by
  have := stockB_row h hk
  refine held_set x _ S k hk ?_
  split <;> omega
theorem rich_stock {S : List (Int × Int)} (h : stockB S = true) {k : Nat} (hk : k < S.length) : stockB (richL S k) = true := by
  have hl : (richL S k).length = S.length := by unfold richL; simp
  have h8 : S.length ≤ 8 := by unfold stockB at h; exact (of_decide_eq_true h).1
  have hk2 := stockB_row h hk
  have ht : ∀ m, ((richL S k).getD m (0, 0)).1 = (S.getD m (0, 0)).1 := fun m => by
    unfold richL
    rw [set_getD S k _ hk m]
    by_cases e : m = k
    · rw [if_pos e, e]
    · rw [if_neg e]
  unfold stockB
  refine decide_eq_true ⟨by omega, fun i hi => ?_⟩
  have hr := stockB_row h (i := i) (by omega)
  unfold rowB
  rw [ht i, ht (i - 1)]
  refine decide_eq_true ⟨hr.1, hr.2.1, ?_⟩
  unfold richL
  rw [set_getD S k _ hk i]
  by_cases e : i = k
  · rw [if_pos e]
    simp only []
    refine ⟨?_, ?_, hr.2.2.2.2⟩ <;> split <;> omega
  · rw [if_neg e]
    exact ⟨hr.2.2.1, hr.2.2.2.1, hr.2.2.2.2⟩

/-- what Near and Choose answer, in short -/
def Facts (S : List (Int × Int)) (t r p o : Int) (same : Bool) (P : List (Int × Int)) (i x ne : Int) (P' : List (Int × Int)) (i' nw ne' : Int) : Prop :=
  ((P = [] ∧ i = 0 ∧ x = 0 ∧ ne = 4) ∧ (P' = [] ∧ i' = 0 ∧ nw = 0 ∧ ne' = 4) ∧ ∀ Q j, ableC S p o same Q j ≠ 0) ∨
    (ne = 0 ∧ NearFacts S t r p o same P i x ∧ ((exA t r P = 0 ∧ P' = P ∧ i' = i ∧ nw = wheelsN P i ∧ ne' = 0) ∨ (exA t r P ≠ 0 ∧ P' = [] ∧ i' = 0 ∧ nw = 0 ∧ ne' = 4)))
theorem more_facts {S S' : List (Int × Int)} {t r p p' o o' : Int} {same : Bool} (hs : stockB S = true) (hs' : stockB S' = true) (hr : 1 ≤ r) (hp3 : p' ≤ 3) (hp : p ≤ p') (ho : o ≤ o') (hh : ∀ x, heldI S x ≤ heldI S' x)
    {P : List (Int × Int)} {i x f : Int} {P1 : List (Int × Int)} {i1 n e : Int} {Q : List (Int × Int)} {j y g : Int} {Q1 : List (Int × Int)} {j1 m h : Int}
    (F : Facts S t r p o same P i x f P1 i1 n e) (F' : Facts S' t r p' o' same Q j y g Q1 j1 m h) (hR : RowOf (chooseC S' t r p' o' same) Q1 j1 m h) :
    (e = 0 → h = 0 ∧ m ≤ n) ∧ (f = 0 → g = 0 ∧ ableC S p o same P i = 0 ∧ ableC S' p' o' same Q j = 0 ∧ ¬ distB (exA t r P) * exB r Q < distB (exA t r Q) * exB r P) := by
  rcases F with ⟨⟨_, _, _, rfl⟩, ⟨_, _, _, rfl⟩, _⟩ | ⟨rfl, ⟨hab, _, _⟩, hc⟩
  · exact ⟨fun h => by omega, fun h => by omega⟩
  · have hab' := able_mono hs hs' hab (List.Perm.refl P) hp ho hh
    rcases F' with ⟨_, _, hno⟩ | ⟨rfl, ⟨hq, _, hbest⟩, hc'⟩
    · exact absurd hab' (hno _ _)
    · refine ⟨fun he => ?_, fun _ => ⟨rfl, hab, hq, hbest P i hab'⟩⟩
      rcases hc with ⟨hx, rfl, rfl, rfl, _⟩ | ⟨_, _, _, _, rfl⟩
      · rcases hc' with ⟨_, rfl, rfl, rfl, rfl⟩ | ⟨hne, _⟩
        · exact ⟨rfl, choose_fewest hR hab' hx⟩
        · refine absurd ?_ (hbest P1 i1 hab')
          rw [hx]
          have e3 : distB 0 = 0 := by decide
          rw [e3, Int.zero_mul]
          have hb := able_bd hp3 hab'
          have h1 : 0 < exB r P1 := by unfold exB; exact Int.mul_pos (by omega) (by omega)
          refine Int.mul_pos ?_ h1
          unfold distB; split <;> omega
      · omega

theorem distB_two (x : Int) : distB (2 * x) = 2 * distB x := by unfold distB; split <;> split <;> omega
theorem nearB_two (t r : Int) : nearB (2 * t) (2 * r) = nearB t r := by
  funext a b c d
  unfold nearB
  have e1 : a * (2 * t) - b * (2 * r) = 2 * (a * t - b * r) := by rw [Int.mul_sub, Int.mul_left_comm a 2 t, Int.mul_left_comm b 2 r]
  have e2 : c * (2 * t) - d * (2 * r) = 2 * (c * t - d * r) := by rw [Int.mul_sub, Int.mul_left_comm c 2 t, Int.mul_left_comm d 2 r]
  rw [e1, e2, distB_two, distB_two]
  have e3 : ∀ u v w : Int, 2 * u * (v * (2 * w)) = 4 * (u * (v * w)) := fun u v w => by
    rw [Int.mul_left_comm v 2 w, Int.mul_assoc 2 u, Int.mul_left_comm u 2, ← Int.mul_assoc 2 2]; rfl
  rw [e3, e3]
  refine decide_eq_decide.2 ?_
  omega
theorem exactP_two (t r : Int) : Tri.exactP (2 * t) (2 * r) = Tri.exactP t r := by
  funext u
  unfold Tri.exactP
  have e1 : u.d * (2 * t) - u.n * (2 * r) = 2 * (u.d * t - u.n * r) := by rw [Int.mul_sub, Int.mul_left_comm u.d 2 t, Int.mul_left_comm u.n 2 r]
  rw [e1]
  generalize u.d * t - u.n * r = z
  rw [Bool.eq_iff_iff, beq_iff_eq, beq_iff_eq]
  omega
theorem offerP_two (t r : Int) : offerP (2 * t) (2 * r) = offerP t r := by
  funext b u
  unfold offerP
  rw [nearB_two]
theorem tryP_two (S : List (Int × Int)) (tl : List T6) (t r o : Int) (same : Bool) : ∀ k, tryP S tl (2 * t) (2 * r) o same k = tryP S tl t r o same k
  | 0 => by funext u f b; unfold tryP; rw [offerP_two]
  | k + 1 => by funext u f b; unfold tryP; rw [exactP_two, tryP_two S tl t r o same k]
theorem bestP_two (S : List (Int × Int)) (t r p o : Int) (same : Bool) : bestP S (2 * t) (2 * r) p o same = bestP S t r p o same := by
  unfold bestP searchP
  simp only [tryP_two]
theorem chooseC_two {S : List (Int × Int)} {t r p o : Int} {same : Bool} (hg : gearB t r p o = true) (hg2 : gearB (2 * t) (2 * r) p o = true) : chooseC S (2 * t) (2 * r) p o same = chooseC S t r p o same := by
  unfold chooseC
  rw [hg, hg2, bestP_two, exactP_two]
theorem milli_two (t r : Int) (u : Tri) : Tri.milli (2 * t) (2 * r) u = Tri.milli t r u := by
  unfold Tri.milli
  have e1 : u.d * (2 * t) - u.n * (2 * r) = 2 * (u.d * t - u.n * r) := by rw [Int.mul_sub, Int.mul_left_comm u.d 2 t, Int.mul_left_comm u.n 2 r]
  rw [e1, Int.mul_left_comm u.n 2 r, Int.mul_assoc]
  exact Int.mul_ediv_mul_of_pos _ _ (by omega)
theorem nearC_two {S : List (Int × Int)} {t r p o : Int} {same : Bool} (hg : gearB t r p o = true) (hg2 : gearB (2 * t) (2 * r) p o = true) : nearC S (2 * t) (2 * r) p o same = nearC S t r p o same := by
  unfold nearC
  rw [hg, hg2, bestP_two]
theorem nearOf_two {S : List (Int × Int)} {t r p o : Int} {same : Bool} (hg : gearB t r p o = true) (hg2 : gearB (2 * t) (2 * r) p o = true) {P : List (Int × Int)} {i x ne : Int} (h : NearOf t r (nearC S t r p o same) P i x ne) :
    NearOf (2 * t) (2 * r) (nearC S (2 * t) (2 * r) p o same) P i x ne := by
  rw [nearC_two hg hg2]
  revert h
  generalize nearC S t r p o same = C
  obtain ⟨c, _ | u⟩ := C
  · exact fun h => h
  · rintro ⟨h1, h2, h3, h4⟩
    exact ⟨h1, h2, (milli_two t r u).trans h3, h4⟩
end Go.Proofs.Ytoiapnokgpeipaa

/- A copy of a slice of pairs by append, as a run; a store into one. For GearMore. -/
namespace Go.Proofs.Ytoiapnokgpeipaa
set_option linter.unusedSimpArgs false
open Go.RowKit Go.Maps

theorem copy_run {t e ty : TypeId} (ht : Try.prog.underlying t = some (.slice e)) (hinfo : (Try.prog.info? e).map (fun i => (i.zero, i.size, i.bytes)) = some (some (.agg #[.int .i64 0, .int .i64 0]), 2, 16)) {w : World}
    (base g : Nat) (hown : w.ownsRow base e 2 (.slice (some ⟨g, 0, none⟩) 0 0) 0 []) {v : Value} {S : List (Int × Int)} (hv : WheelsAt w v S) (hn : NilOk v) (hl : S.length ≤ 1000) (hbase : base ≤ w.heap.size) :
    ∃ v' w', (Builtin.append_ #[t, t] ty #[.slice (some ⟨g, 0, none⟩) 0 0, v]).run Try.prog w = .ok v' w' ∧ w'.ownsRow base e 2 v' S.length ((usedP S).map (Value.int .i64)) ∧ w.grownBy w' (some g) := by
  obtain ⟨i0, hi, hz0, hz1, hz2⟩ := info_parts hinfo
  obtain ⟨_, ⟨rfl, a', cap, rfl⟩ | ⟨b, off, cap, rfl, hlc, hcm, hb, hc⟩⟩ := hv
  · cases a' with
    | none =>
      obtain ⟨_, rfl⟩ := hn 0 cap rfl
      exact ⟨_, _, run_append_owned_none (P := Try.prog) (w := w) base t ty e i0 2 ht hi _ 0 [] hown, hown, World.grownBy.refl _ _⟩
    | some ad =>
      obtain ⟨v', w', hr, h2, h3, _, h5⟩ := run_append_own_at (P := Try.prog) w base t ty e i0 (.agg #[.int .i64 0, .int .i64 0]) 2 16 ht hi hz0 hz1 hz2 rfl (by decide) _ 0 [] hown ad 0 cap [] rfl (by simp) (by simp) (by unfold maxLen; omega) (by omega) hbase
      exact ⟨v', w', hr, h2, h3⟩
  · obtain ⟨v', w', hr, h2, h3, _, h5⟩ := run_append_own_at (P := Try.prog) w base t ty e i0 (.agg #[.int .i64 0, .int .i64 0]) 2 16 ht hi hz0 hz1 hz2 rfl (by decide) _ 0 [] hown ⟨b, off, none⟩ S.length cap ((usedP S).map (Value.int .i64)) (by rw [List.length_map, usedP_len]) (usedP_at hc) (ints_oneCell .i64 _) (by unfold maxLen; omega) (by omega) hbase
    exact ⟨v', w', hr, by simpa using h2, h3⟩

theorem set_world58 {X : World} {b off k n cap : Nat} {Q : List (Int × Int)} {m : Int} {cs : Array Value} (hcs : X.heap[b]? = some (.cells cs 58 (0, 0))) (hw : WheelsAt X (.slice (some ⟨b, off, none⟩) n cap) Q) (hk : k < Q.length) :
    ∃ Y, Y = X.setCell ⟨b, off + k * 2 + 1, none⟩ (.int .i64 m) ∧ (∀ j, j ≠ b → Y.heap[j]? = X.heap[j]?) ∧ Y.heap.size = X.heap.size ∧ WheelsAt Y (.slice (some ⟨b, off, none⟩) n cap) (Q.set k ((Q.getD k (0, 0)).1, m)) ∧ (∀ w : World, w.heap.size ≤ b → Below w.heap.size w X → Below w.heap.size w Y) := by
  refine ⟨_, rfl, fun j hj => Below.heap_setCell _ _ _ _ hj, by simp, ?_, fun w hw hbw => hbw.setCell hw _⟩
  have hb := heap_set hcs (off + k * 2 + 1) (.int .i64 m)
  obtain ⟨b', off', e, hn, hc1, hc2, hlt, hc⟩ := hw.at rfl (by omega)
  simp only [Option.some.injEq, Addr.mk.injEq, and_true] at e
  obtain ⟨rfl, rfl⟩ := e
  refine ⟨by simpa using hw.1, .inr ⟨b, off, cap, by simp [hn], by simp; omega, hc2, by simpa using hlt, fun i hi => ?_⟩⟩
  have hi : i < Q.length := by simpa using hi
  have q1 := (cell_cs hcs).symm.trans (hc k hk).2
  have z1 := (Array.getElem?_eq_some_iff.1 q1).1
  have c0 := (cell_cs hcs).symm.trans (hc i hi).1
  have c1 := (cell_cs hcs).symm.trans (hc i hi).2
  rw [cell_cs hb, cell_cs hb, Array.getElem?_setIfInBounds, Array.getElem?_setIfInBounds, set_getD Q k _ hk i]
  rw [if_neg (by omega)]
  by_cases e : i = k
  · subst e
    rw [if_pos rfl, if_pos z1, if_pos rfl]
    exact ⟨c0, rfl⟩
  · rw [if_neg e, if_neg (by omega)]
    exact ⟨c0, c1⟩
theorem nil_ok {a : Option Addr} {n c : Nat} (h : NilOk (.slice a n c)) (ha : a = none) : n = 0 ∧ c = 0 := by subst ha; exact h n c rfl
/-- a row of a stock, in memory: where it lies -/
theorem own_at {w : World} {base : Nat} {v : Value} {S : List (Int × Int)} (h : w.ownsRow base 58 2 v S.length ((usedP S).map (Value.int .i64))) (hl : 0 < S.length) :
    ∃ b c cs, v = .slice (some ⟨b, 0, none⟩) S.length c ∧ base ≤ b ∧ b < w.heap.size ∧ w.heap[b]? = some (.cells cs 58 (0, 0)) := by
  have hlt := fun k hk => h.lt k hk
  rcases h.2 with ⟨rfl, hn⟩ | ⟨g, cap, cur, rfl, h2, h3, h4, h5, _⟩
  · omega
  · exact ⟨g, cap, cur, rfl, (hlt g rfl).1, (hlt g rfl).2, h3⟩
end Go.Proofs.Ytoiapnokgpeipaa
