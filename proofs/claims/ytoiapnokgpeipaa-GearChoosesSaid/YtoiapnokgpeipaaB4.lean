/- A try with pairs more: by induction. -/
import Derived.Test.YtoiapnokgpeipaaB3
import Derived.Test.YtoiapnokgpeipaaG2
import Derived.RangeFuncNested
import Derived.RangeFuncBound
import Derived.RangeFuncCalls
import Derived.RangeFuncLeaves
import Derived.Shelf.Abstract
import Derived.Shelf.RegionOpen
import Derived.OwnWalkIn
import Derived.TacticsInMore
import Derived.LoopNIn
import Derived.LoopIn
namespace Go.Proofs.Ytoiapnokgpeipaa
open Go.RowKit Go.Maps Go.Sort Go.Shelf
attribute [local go_sem] Oper.semAt_some
set_option linter.unusedSimpArgs false

theorem WheelsAt.shape {w : World} {v : Value} {S : List (Int × Int)} (h : WheelsAt w v S) : ∃ a cap, v = .slice a S.length cap := by
  obtain ⟨_, ⟨rfl, a, cap, rfl⟩ | ⟨b, off, cap, rfl, _⟩⟩ := h
  · exact ⟨_, _, rfl⟩
  · exact ⟨_, _, rfl⟩

theorem falls_any (u : Tri) (c : Nat) (hu : TriOk u c) (hc : c ≤ 2) (x y : Int) (w : World) :
    Calls Try.prog 66 #[u.val, .agg #[.int .i64 x, .int .i64 y]] w fun e w' => e = .returned (.bool (u.fallP x y)) ∧ Below w.heap.size w w' := by
  have h0 := hu.1
  obtain ⟨a0, a1, a2, a3, a4, a5, cc, i, d, n⟩ := u
  simp only at h0
  subst h0
  match c, hc with
  | 0, _ => exact falls_0 a0 a1 a2 a3 a4 a5 i d n x y w
  | 1, _ => exact falls_1 a0 a1 a2 a3 a4 a5 i d n x y w
  | 2, _ => exact falls_2 a0 a1 a2 a3 a4 a5 i d n x y w
theorem with_any (u : Tri) (c : Nat) (hu : TriOk u c) (hc : c ≤ 2) (x y : Int) (hx : 6 ≤ x ∧ x ≤ 100) (hy : 6 ≤ y ∧ y ≤ 100) (w : World) :
    Calls Try.prog 67 #[u.val, .agg #[.int .i64 x, .int .i64 y]] w fun e w' => e = .returned (u.withP x y).val ∧ Below w.heap.size w w' := by
  obtain ⟨h0, h1, h2, h3, h4, h5⟩ := hu
  obtain ⟨a0, a1, a2, a3, a4, a5, cc, i, d, n⟩ := u
  simp only at h0 h2 h3 h4 h5
  subst h0
  match c, hc with
  | 0, _ => exact with_0 a0 a1 a2 a3 a4 a5 i d n x y w ⟨by omega, by simp at h3; omega⟩ ⟨by omega, by simp at h5; omega⟩ hx hy
  | 1, _ => exact with_1 a0 a1 a2 a3 a4 a5 i d n x y w ⟨by omega, by simp at h3; omega⟩ ⟨by omega, by simp at h5; omega⟩ hx hy
  | 2, _ => exact with_2 a0 a1 a2 a3 a4 a5 i d n x y w ⟨by omega, by simp at h3; omega⟩ ⟨by omega, by simp at h5; omega⟩ hx hy

/-- one pair of a try -/
def stepP (S : List (Int × Int)) (tl : List T6) (t r room : Int) (same : Bool) (k : Nat) (u : Tri) (f : Int → Int) (best : Option Tri) (p : T6 × T6) : Option Tri :=
  if best.any (Tri.exactP t r) then best
  else if u.fallP p.1.1 p.2.1 || decide (p.1.1 + p.2.1 > room) then best
  else if fitsB S f [p.1.1, p.2.1] then tryP S tl t r room same k (u.withP p.1.1 p.2.1) (addF f [p.1.1, p.2.1]) best
  else best
theorem tryP_succ (S : List (Int × Int)) (tl : List T6) (t r room : Int) (same : Bool) (k : Nat) (u : Tri) (f : Int → Int) (best : Option Tri) :
    tryP S tl t r room same (k + 1) u f best = (pairsL tl).foldl (stepP S tl t r room same k u f) best := by
  conv => lhs; unfold tryP
  rfl
theorem foldl_exact {S : List (Int × Int)} {tl : List T6} {t r room : Int} {same : Bool} {k : Nat} {u : Tri} {f : Int → Int} : ∀ (l : List (T6 × T6)) (best : Option Tri), best.any (Tri.exactP t r) = true → l.foldl (stepP S tl t r room same k u f) best = best
  | [], _, _ => rfl
  | p :: l, best, h => by rw [List.foldl_cons, show stepP S tl t r room same k u f best p = best by unfold stepP; rw [if_pos h]]; exact foldl_exact l best h

theorem Only2.keepsFrom {B m n : Nat} {X Y : World} (h : Only2 B m X Y) (h1 : B < n) (h2 : m < n) : KeepsFrom n X Y :=
  ⟨h.size, fun k o hk ho _ => (h.block k (Array.getElem?_eq_some_iff.1 ho).1 (by omega) (by omega)).trans ho⟩
/-- how a round's body may be left -/
def bodyP (t r : Int) (B m nb : Nat) (f : Int → Int) (bb : Option Tri) (W : World) : Exit → Act → World → Prop
  | .normal, _, W' => TakenIs W' m f ∧ BestIs W' B nb bb ∧ Only2 B m W W'
  | .exit id, _, W' => id = 0 ∧ TakenIs W' m f ∧ BestIs W' B nb bb ∧ Only2 B m W W' ∧ bb.any (Tri.exactP t r) = true
  | _, _, _ => False

theorem stepsOk {S : List (Int × Int)} {tl : List T6} {t r room : Int} {same : Bool} {k : Nat} {u : Tri} {c : Nat} {f : Int → Int} (hu : TriOk u c) (hck : c + (k + 1) ≤ 3) : ∀ {best : Option Tri}, BestOk best → ∀ (l : List (T6 × T6)), BestOk (l.foldl (stepP S tl t r room same k u f) best)
  | _, hb, [] => hb
  | _, hb, p :: l => by
    rw [List.foldl_cons]
    refine stepsOk hu hck ?_ l
    unfold stepP
    split
    · exact hb
    · split
      · exact hb
      · split
        · exact tryP_ok k _ (c + 1) _ _ (hu.withP (by omega) p.1.2 p.2.2) (by omega) hb
        · exact hb

theorem addF_two {f : Int → Int} {c : Nat} (hf : ∀ x, 0 ≤ f x ∧ f x ≤ 2 * c) {x y : Int} (z : Int) : 0 ≤ addF f [x, y] z ∧ addF f [x, y] z ≤ 2 * ((c + 1 : Nat) : Int) := by
  have := hf z
  have h2 := List.count_le_length (a := z) (l := [x, y])
  simp only [List.length_cons, List.length_nil] at h2
  unfold addF; omega

theorem ints_two (w : World) (x y : Int) (t : TypeId) : IntsAt (w.alloc (.cells #[.int .i64 x, .int .i64 y] t)) (.slice (some ⟨w.heap.size, 0, none⟩) 2 2) [x, y] :=
  ⟨by simp [maxLen], .inr ⟨w.heap.size, 0, 2, rfl, by simp, by simp [maxLen], by simp, fun i hi => by
    match i, hi with
    | 0, _ => go_simp
    | 1, _ => go_simp⟩⟩

theorem Only2.far {B m : Nat} {X Y Z : World} {row : Option Nat} (h : Only2 B m X Y) (hg : Y.grownBy Z row) (hr : ∀ q, row = some q → X.heap.size ≤ q) : Only2 B m X Z :=
  ⟨hg.os.trans h.os, hg.tape.trans h.tape, hg.output.trans h.output, Nat.le_trans h.size hg.size, fun k hk h1 h2 => (hg.block k (Nat.lt_of_lt_of_le hk h.size) (fun e => by have := hr k e.symm; omega)).trans (h.block k hk h1 h2)⟩

def tryAct (u : Tri) (kk : Int) (bs hg B hs hx bt h Bx : Nat) (sv : Value) (x : T6 × T6) : Act :=
  { tmps := #[u.val, .int .i64 kk, .pointer (some ⟨bs, 0, none⟩), .pointer (some ⟨hg, 0, none⟩), .pointer (some ⟨B, 0, none⟩), .pointer (some ⟨hs, 0, none⟩), .pointer (some ⟨hx, 0, none⟩), .pointer (some ⟨bt, 0, none⟩), .pointer (some ⟨h, 0, none⟩), .pointer (some ⟨h + 1, 0, none⟩), undef, undef,
      .pointer (some ⟨Bx, 0, none⟩), .int .i64 kk, .bool false, undef, undef, undef, undef, undef, undef, undef, undef, undef, undef, undef, undef, undef, undef, sv, .func (.func 73) #[] #[.pointer (some ⟨h + 1 + 1, 0, none⟩)], .agg #[.int .i64 x.1.1, .int .i64 x.2.1],
      undef, undef, undef, undef, undef, undef, undef, undef, undef, undef, undef, undef, undef, undef, undef, undef, undef, undef, undef, undef, undef, undef, undef, undef, undef, undef, undef, undef, undef, undef, undef, undef, undef, undef, undef, undef, undef, undef, undef, undef, undef, undef, undef, undef, undef], defers := [] }

set_option maxRecDepth 100000 in
set_option maxHeartbeats 12800000 in
theorem try_succ (bs hg B hs hx bt m nb : Nat) (sv : Value) (S : List (Int × Int)) (tl : List T6) (t r p o : Int) (same : Bool) (k : Nat)
    (u : Tri) (c : Nat) (f : Int → Int) (best : Option Tri) (w : World)
    (E : Env w bs hg B hs hx bt m nb sv S t r p o same) (hm : TakenIs w m f) (hB : BestIs w B nb best) (hbo : BestOk best) (hu : TriOk u c) (hck : c + (k + 1) ≤ 3)
    (hf : ∀ x, 0 ≤ f x ∧ f x ≤ 2 * c) (ht : 1 ≤ t ∧ t ≤ 1000) (hr : 1 ≤ r ∧ r ≤ 1000) (hlen : tl.length = S.length) (hteeth : ∀ i, i < S.length → (S.getD i (0, 0)).1 = (tl.getD i default).1)
    (ih : ∀ (u : Tri) (c : Nat) (f : Int → Int) (best : Option Tri) (w : World), Env w bs hg B hs hx bt m nb sv S t r p o same → TakenIs w m f → BestIs w B nb best → BestOk best → TriOk u c → c + k ≤ 3 → (∀ x, 0 ≤ f x ∧ f x ≤ 2 * c) →
      Calls Try.prog 62 #[u.val, .int .i64 (k : Nat), .pointer (some ⟨bs, 0, none⟩), .pointer (some ⟨hg, 0, none⟩), .pointer (some ⟨B, 0, none⟩), .pointer (some ⟨hs, 0, none⟩), .pointer (some ⟨hx, 0, none⟩), .pointer (some ⟨bt, 0, none⟩)] w
        fun e w' => e = .returned (.tuple #[]) ∧ TakenIs w' m f ∧ BestIs w' B nb (tryP S tl t r o same k u f best) ∧ Only2 B m w w') :
    Calls Try.prog 62 #[u.val, .int .i64 (k + 1 : Nat), .pointer (some ⟨bs, 0, none⟩), .pointer (some ⟨hg, 0, none⟩), .pointer (some ⟨B, 0, none⟩), .pointer (some ⟨hs, 0, none⟩), .pointer (some ⟨hx, 0, none⟩), .pointer (some ⟨bt, 0, none⟩)] w
      fun e w' => e = .returned (.tuple #[]) ∧ TakenIs w' m f ∧ BestIs w' B nb (tryP S tl t r o same (k + 1) u f best) ∧ Only2 B m w w' := by
  have IH := Lib.hid ih
  clear ih
  have hBl := hB.lt
  have hml := hm.lt
  have hk0 : ((k + 1 : Nat) == (0 : Nat)) = false := by simp
  obtain ⟨kk, hkk⟩ : ∃ kk : Int, kk = ((k + 1 : Nat) : Int) := ⟨_, rfl⟩
  have hkd : (kk == 0) = false := by rw [hkk]; simp; omega
  have hkb : 1 ≤ kk ∧ kk ≤ 3 := by omega
  rw [← hkk]
  have Hkk := Lib.hid hkk
  clear hkk hk0
  obtain ⟨sa, scap, rfl⟩ := E.wh.shape
  have est := E.st
  have hlst := World.block_lt_of_cell? _ _ est
  unfold Tri.val
  refine (callsIn_wide (n := 9)).1 ?_
  refine callsIn_of_wp_marks Try.func62 rfl trivial ?_ rfl
  simp only [Try.ntmps62, List.size_toArray, List.length_cons, List.length_nil, Nat.reduceAdd, Nat.reduceSub, Array.replicate_succ, Array.replicate_zero, List.push_toArray, List.append_toArray, List.nil_append, List.cons_append]
  gi_wp2
  refine wpIn_wide.2 ?_
  go_step3
  go_wp2_with fail
  go_step3
  go_wp2_with (go_at_call 65; refine (pairsOf_any _ _ _ _).mono ?_; rintro e w' ⟨rfl, rfl⟩)
  obtain ⟨W0, hW0⟩ : ∃ W0, W0 = ((w.alloc (.cells #[.int .i64 u.a0, .int .i64 u.a1, .int .i64 u.a2, .int .i64 u.a3, .int .i64 u.a4, .int .i64 u.a5, .int .i64 u.c, .int .i64 u.i, .int .i64 u.d, .int .i64 u.n] 87)).alloc (.cells #[.int .i64 kk] 3)).alloc (.cells #[.slice sa S.length scap] 22) := ⟨_, rfl⟩
  have hO0 : Only2 B m w W0 := by rw [hW0]; exact (((Only2.refl B m w).alloc _).alloc _).alloc _
  have E0 := E.keep (hO0.keepC hm)
  have hm0 : TakenIs W0 m f := by rw [hW0]; exact ((hm.alloc _).alloc _).alloc _
  have hB0 : BestIs W0 B nb best := hB.only (by rw [hW0, Below.heap_alloc _ _ _ (by simp; omega), Below.heap_alloc _ _ _ (by simp; omega), Below.heap_alloc _ _ _ hBl])
  have hs0 : W0.heap.size = w.heap.size + 3 := by rw [hW0]; simp
  have hbx : W0.heap[w.heap.size]? = some (.cells #[.int .i64 u.a0, .int .i64 u.a1, .int .i64 u.a2, .int .i64 u.a3, .int .i64 u.a4, .int .i64 u.a5, .int .i64 u.c, .int .i64 u.i, .int .i64 u.d, .int .i64 u.n] 87 (0, 0)) := by
    rw [hW0, Below.heap_alloc _ _ _ (by simp; omega), Below.heap_alloc _ _ _ (by simp)]; exact (MapKept.heap_alloc w _).1
  have hmo : W0.cell? ⟨w.heap.size + 1, 0, none⟩ = some (.int .i64 kk) := by rw [hW0]; go_simp
  have hst2 : W0.cell? ⟨w.heap.size + 1 + 1, 0, none⟩ = some (.slice sa S.length scap) := by rw [hW0]; go_simp
  rw [← hW0]
  clear hW0
  refine (wpIn_wide (n := 9)).1 ?_
  refine wpIn_rangeFunc_ownH rfl (by omega) (gf := 73) (lb := #[.pointer (some ⟨w.heap.size + 1 + 1, 0, none⟩)]) rfl trivial (enters_of Try.func73 (by kernel_rfl) rfl)
    (pairs_stops 8 (by omega) (w.heap.size + 1 + 1) B (.slice sa S.length scap) S tl W0 E0.wh (fun b off n cap e => (E.n8 b off n cap e).1) hlen hteeth hst2 (by omega) (by omega))
    KeepC.trans (fun W l o o' _ hl hc _ => KeepC.of_grown (grownBy_putObj' W l o') (fun q e => by cases e; exact .inr (fun o2 h2 => by rw [hl] at h2; cases h2; exact hc))) (Below.refl _ _) (fun _ => rfl)
    (fun pre W => TakenIs W m f ∧ BestIs W B nb (pre.foldl (stepP S tl t r o same k u f) best) ∧ Only2 B m W0 W)
    (fun cc pre W => cc = .exit 0 ∧ TakenIs W m f ∧ BestIs W B nb (pre.foldl (stepP S tl t r o same k u f) best) ∧ Only2 B m W0 W ∧ (pre.foldl (stepP S tl t r o same k u f) best).any (Tri.exactP t r) = true)
    (fun pre X Y row hs hg hr => ⟨hs.1.kept hg (fun e => by have := (hr m e.symm).1; omega), hs.2.1.only (hg.block B hs.2.1.lt (fun e => by have := (hr B e.symm).1; omega)), hs.2.2.far hg (fun q e => (hr q e).1)⟩)
    (fun cc pre X Y row hs hg hr => ⟨hs.1, hs.2.1.kept hg (fun e => by have := (hr m e.symm).1; omega), hs.2.2.1.only (hg.block B hs.2.2.1.lt (fun e => by have := (hr B e.symm).1; omega)), hs.2.2.2.1.far hg (fun q e => (hr q e).1), hs.2.2.2.2⟩)
    ⟨hm0, hB0, Only2.refl _ _ _⟩
    (fun x a' W => ∃ Bx, W0.heap.size ≤ Bx ∧ W.heap[Bx]? = some (.cells #[.int .i64 x.1.1, .int .i64 x.2.1] 49 (0, 0)) ∧ a' = tryAct u kk bs hg B hs hx bt w.heap.size Bx (.slice sa S.length scap) x)
    (fun x a' _ X Y row hs hg hr => by
      obtain ⟨Bx, h1, h2, h3⟩ := hs
      exact ⟨Bx, h1, (hg.block Bx (Array.getElem?_eq_some_iff.1 h2).1 (fun e => by obtain ⟨o2, ho2, hc2⟩ := (hr Bx e.symm).2; rw [h2] at ho2; cases ho2; cases hc2)).trans h2, h3⟩)
    ?assign ?body ?done ?stop
  case assign =>
    rintro l pre x W K ⟨i1, i2, i3⟩ hK
    unfold encP
    gi_wp2
    have hs3 := i3.size
    exact hK _ _ ((KeepsOthers.alloc _ _).from _) ((KeepC.refl _ _).alloc _) ⟨i1.alloc _, i2.only (Below.heap_alloc _ _ _ i2.lt), i3.alloc _⟩ ⟨W.heap.size, hs3, (MapKept.heap_alloc W _).1, rfl⟩
  case body =>
    rintro l pre x a' W hl ⟨rr, hrr⟩ ⟨i1, i2, i3⟩ ⟨Bx, hBx, hX, rfl⟩ _hlt
    have EW := E0.keep (i3.keepC hm0)
    have hbo' : BestOk (pre.foldl (stepP S tl t r o same k u f) best) := stepsOk hu hck hbo pre
    have hsnoc : (pre ++ [x]).foldl (stepP S tl t r o same k u f) best = stepP S tl t r o same k u f (pre.foldl (stepP S tl t r o same k u f) best) x := by rw [List.foldl_append]; rfl
    obtain ⟨bb, hbb⟩ : ∃ bb, bb = pre.foldl (stepP S tl t r o same k u f) best := ⟨_, rfl⟩
    rw [← hbb] at i2 hbo' hsnoc
    clear hbb
    refine wpIn_mono (Q := bodyP t r B m nb f (stepP S tl t r o same k u f bb x) W) ?_ ?_
    rotate_left
    · intro e a3 W3 hp
      cases e with
      | normal => exact ⟨hp.2.2.keepsFrom (by omega) (by omega), hp.2.2.keepC i1, hp.1, by rw [hsnoc]; exact hp.2.1, i3.trans hp.2.2⟩
      | exit id => obtain ⟨rfl, hp⟩ := hp; exact ⟨hp.2.2.1.keepsFrom (by omega) (by omega), rfl, hp.1, by rw [hsnoc]; exact hp.2.1, i3.trans hp.2.2.1, by rw [hsnoc]; exact hp.2.2.2⟩
      | _ => exact hp.elim
    clear hsnoc
    have hBW := i2.lt
    have hmW := i1.lt
    have hsW := i3.size
    have hbW : W.heap[w.heap.size]? = some (.cells #[.int .i64 u.a0, .int .i64 u.a1, .int .i64 u.a2, .int .i64 u.a3, .int .i64 u.a4, .int .i64 u.a5, .int .i64 u.c, .int .i64 u.i, .int .i64 u.d, .int .i64 u.n] 87 (0, 0)) := (i3.block _ (by omega) (by omega) (by omega)).trans hbx
    have y0 : W.cell? ⟨w.heap.size, 0, none⟩ = some (.int .i64 u.a0) := by simp [World.cell?, hbW]
    have y1 : W.cell? ⟨w.heap.size, 1, none⟩ = some (.int .i64 u.a1) := by simp [World.cell?, hbW]
    have y2 : W.cell? ⟨w.heap.size, 2, none⟩ = some (.int .i64 u.a2) := by simp [World.cell?, hbW]
    have y3 : W.cell? ⟨w.heap.size, 3, none⟩ = some (.int .i64 u.a3) := by simp [World.cell?, hbW]
    have y4 : W.cell? ⟨w.heap.size, 4, none⟩ = some (.int .i64 u.a4) := by simp [World.cell?, hbW]
    have y5 : W.cell? ⟨w.heap.size, 5, none⟩ = some (.int .i64 u.a5) := by simp [World.cell?, hbW]
    have y6 : W.cell? ⟨w.heap.size, 6, none⟩ = some (.int .i64 u.c) := by simp [World.cell?, hbW]
    have y7 : W.cell? ⟨w.heap.size, 7, none⟩ = some (.int .i64 u.i) := by simp [World.cell?, hbW]
    have y8 : W.cell? ⟨w.heap.size, 8, none⟩ = some (.int .i64 u.d) := by simp [World.cell?, hbW]
    have y9 : W.cell? ⟨w.heap.size, 9, none⟩ = some (.int .i64 u.n) := by simp [World.cell?, hbW]
    have hBxlt := (Array.getElem?_eq_some_iff.1 hX).1
    have x0 : W.cell? ⟨Bx, 0, none⟩ = some (.int .i64 x.1.1) := by simp [World.cell?, hX]
    have x1 : W.cell? ⟨Bx, 1, none⟩ = some (.int .i64 x.2.1) := by simp [World.cell?, hX]
    have hx1 := x.1.2
    have hx2 := x.2.2
    obtain ⟨xa, hxa⟩ : ∃ xa, xa = x.1.1 := ⟨_, rfl⟩
    obtain ⟨xb, hxb⟩ : ∃ xb, xb = x.2.1 := ⟨_, rfl⟩
    have g4 := EW.g4
    have ex := EW.ex
    have s0 := EW.s0
    have s1 := EW.s1
    have tr := EW.tr
    have hsum : -9223372036854775808 ≤ xa + xb ∧ xa + xb ≤ 9223372036854775807 := by rw [hxa, hxb]; omega
    have hstep : ∀ b2, stepP S tl t r o same k u f b2 x = if b2.any (Tri.exactP t r) then b2 else if u.fallP xa xb || decide (xa + xb > o) then b2 else if fitsB S f [xa, xb] then tryP S tl t r o same k (u.withP xa xb) (addF f [xa, xb]) b2 else b2 := by intro b2; rw [hxa, hxb]; rfl
    obtain ⟨rb, hrb0⟩ : ∃ rb, rb = stepP S tl t r o same k u f bb x := ⟨_, rfl⟩
    rw [← hrb0]
    rw [hstep] at hrb0
    clear hstep
    rw [← hxa] at x0 hx1
    rw [← hxb] at x1 hx2
    unfold tryAct
    rw [← hxa, ← hxb]
    have Hxa := Lib.hid hxa
    have Hxb := Lib.hid hxb
    clear hxa hxb
    have hF := fun W2 => falls_any u c hu (by omega) xa xb W2
    obtain ⟨z, hz⟩ : ∃ z, z = u.fallP xa xb := ⟨_, rfl⟩
    rw [← hz] at hF hrb0
    have Hz := Lib.hid hz
    clear hz
    unfold Tri.val at hF ⊢
    have hmoW : W.cell? ⟨w.heap.size + 1, 0, none⟩ = some (.int .i64 kk) := (i3.keepC hm0).cell hmo (by omega)
    have hkeep : ∀ w', Only2 B m W w' → w'.cell? ⟨bt, 0, none⟩ = some (tryF bs hg B hs hx bt) ∧ w'.cell? ⟨w.heap.size, 0, none⟩ = some (.int .i64 u.a0) ∧ w'.cell? ⟨w.heap.size, 1, none⟩ = some (.int .i64 u.a1) ∧ w'.cell? ⟨w.heap.size, 2, none⟩ = some (.int .i64 u.a2) ∧ w'.cell? ⟨w.heap.size, 3, none⟩ = some (.int .i64 u.a3) ∧ w'.cell? ⟨w.heap.size, 4, none⟩ = some (.int .i64 u.a4) ∧ w'.cell? ⟨w.heap.size, 5, none⟩ = some (.int .i64 u.a5) ∧ w'.cell? ⟨w.heap.size, 6, none⟩ = some (.int .i64 u.c) ∧ w'.cell? ⟨w.heap.size, 7, none⟩ = some (.int .i64 u.i) ∧ w'.cell? ⟨w.heap.size, 8, none⟩ = some (.int .i64 u.d) ∧ w'.cell? ⟨w.heap.size, 9, none⟩ = some (.int .i64 u.n) ∧ w'.cell? ⟨Bx, 0, none⟩ = some (.int .i64 xa) ∧ w'.cell? ⟨Bx, 1, none⟩ = some (.int .i64 xb) ∧ w'.cell? ⟨w.heap.size + 1, 0, none⟩ = some (.int .i64 kk) := fun w' h9 => by
      have hk := h9.keepC i1
      exact ⟨hk.cell tr E.n5, hk.cell y0 (by omega), hk.cell y1 (by omega), hk.cell y2 (by omega), hk.cell y3 (by omega), hk.cell y4 (by omega), hk.cell y5 (by omega), hk.cell y6 (by omega), hk.cell y7 (by omega), hk.cell y8 (by omega), hk.cell y9 (by omega), hk.cell x0 (by omega), hk.cell x1 (by omega), hk.cell hmoW (by omega)⟩
    have keep9 : ∀ w9, Only2 B m W w9 → w9.cell? ⟨Bx, 0, none⟩ = some (.int .i64 xa) ∧ w9.cell? ⟨Bx, 1, none⟩ = some (.int .i64 xb) ∧ w9.cell? ⟨hg, 4, none⟩ = some (.int .i64 o) ∧ w9.cell? ⟨bs, 0, none⟩ = some (.slice sa S.length scap) ∧ w9.cell? ⟨bs, 1, none⟩ = some (.map (some m)) := fun w9 h9 => by
      have hk := h9.keepC i1
      exact ⟨hk.cell x0 (by omega), hk.cell x1 (by omega), hk.cell g4 E.n2, hk.cell s0 E.n1, hk.cell s1 E.n1⟩
    have hT : ∀ w9, Only2 B m W w9 → TakenIs w9 m f → Calls Try.prog 38 #[.agg #[.slice sa S.length scap, .map (some m)], .slice (some ⟨w9.heap.size, 0, none⟩) 2 2] (w9.alloc (.cells #[.int .i64 xa, .int .i64 xb] 3)) fun e w' =>
        e = .returned (.bool (fitsB S f [xa, xb])) ∧ TakenIs w' m (takeF S f [xa, xb]) ∧ (w9.alloc (.cells #[.int .i64 xa, .int .i64 xb] 3)).grownBy w' (some m) := fun w9 h9 m9 => by
      have hE9 := (EW.keep (h9.keepC i1)).keep ((KeepC.refl B w9).alloc (.cells #[.int .i64 xa, .int .i64 xb] 3))
      refine take_any S [xa, xb] _ _ m f _ hE9.wh (ints_two w9 xa xb 3) (m9.alloc _) (fun y => by have := hf y; omega) (by simp) (by intro y hy; simp at hy; rcases hy with rfl | rfl; exact hx1; exact hx2) ?_ (fun b off n cap e => (E.n8 b off n cap e).2)
      intro b off cap e
      have := m9.lt
      simp only [Value.slice.injEq, Option.some.injEq, Addr.mk.injEq] at e
      omega
    clear ex s0 s1 tr hbx hmo hst2 est hmoW
    have hW := fun W2 => with_any u c hu (by omega) xa xb hx1 hx2 W2
    generalize hwp : u.withP xa xb = uw at hW
    have Hwp := Lib.hid hwp
    clear hwp
    unfold Tri.val at hW
    have HKP := Lib.hid hkeep
    clear hkeep
    cases bb with
    | none =>
      have fd : W.cell? ⟨B, 10, none⟩ = some (.bool false) := by
        obtain ⟨bt0, hB2⟩ := i2
        simp [World.cell?, hB2, bestObj]
      rw [if_neg (by simp)] at hrb0
      have Hrb := Lib.hid hrb0
      clear hrb0
      have j1 := i1
      have j2 := i2
      have j3 := Only2.refl B m W
      gi_wp2
      refine ⟨fun _ h => (by cases h), ?_⟩
      cases z
      · by_cases hroom : o < xa + xb
        · have hrb := Lib.hid (show rb = none by rw [Hrb.out]; simp [hroom])
          gi_wp2_with (refine ⟨trivial, ?_⟩; gi_at_call 66; refine (CallsIn.inRound l (callsIn_wide.2 (hF _))).mono ?_; rintro e w9 ⟨rfl, hb9⟩; obtain ⟨q1, q2, q3, q4, q5⟩ := keep9 _ (j3.trans (.of_below hb9)))
          rw [hrb.out]; exact ⟨j1.below hb9 j1.lt, j2.only (hb9.block _ j2.lt), j3.trans (.of_below hb9)⟩
        · cases hq : fitsB S f [xa, xb]
          · have hrb := Lib.hid (show rb = none by rw [Hrb.out]; simp [hroom, hq])
            rw [hq] at hT
            have HT := Lib.hid hT
            have Hq := Lib.hid hq
            clear hT hq
            gi_wp2_with (first | (refine ⟨trivial, ?_⟩; gi_at_call 66; refine (CallsIn.inRound l (callsIn_wide.2 (hF _))).mono ?_; rintro e w9 ⟨rfl, hb9⟩; obtain ⟨q1, q2, q3, q4, q5⟩ := keep9 _ (j3.trans (.of_below hb9)); have hT9 := HT.out w9 (j3.trans (.of_below hb9)) (j1.below hb9 j1.lt)) | (refine ⟨trivial, ?_⟩; gi_at_call 38; refine (CallsIn.inRound l (callsIn_wide.2 (hT9))).mono ?_; rintro e w10 ⟨rfl, hm10, hg10⟩))
            have hg11 : _ := (World.grownBy_alloc w9 (.cells #[.int .i64 xa, .int .i64 xb] 3) (some m)).trans hg10
            rw [show takeF S f [xa, xb] = f by unfold takeF; rw [if_neg (by rw [Hq.out]; decide)]] at hm10
            rw [hrb.out]; exact ⟨hm10, j2.only (((hg11.block _ (Nat.lt_of_lt_of_le j2.lt hb9.size)) (fun e => E.n7 (by cases e; rfl))).trans (hb9.block _ j2.lt)), (j3.trans (.of_below hb9)).trans (.of_grown hg11 (fun q e => by cases e; exact .inr rfl))⟩
          · have hrb := Lib.hid (show rb = tryP S tl t r o same k (u.withP xa xb) (addF f [xa, xb]) none by rw [Hrb.out]; simp [hroom, hq])
            rw [hq] at hT
            have HT := Lib.hid hT
            have Hq := Lib.hid hq
            clear hT hq
            gi_wp2_with (first | (refine ⟨trivial, ?_⟩; gi_at_call 66; refine (CallsIn.inRound l (callsIn_wide.2 (hF _))).mono ?_; rintro e w9 ⟨rfl, hb9⟩; obtain ⟨q1, q2, q3, q4, q5⟩ := keep9 _ (j3.trans (.of_below hb9)); have hT9 := HT.out w9 (j3.trans (.of_below hb9)) (j1.below hb9 j1.lt)) | (refine ⟨trivial, ?_⟩; gi_at_call 38; refine (CallsIn.inRound l (callsIn_wide.2 (hT9))).mono ?_; rintro e w10 ⟨rfl, hm10, hg10⟩))
            have hg11 : _ := (World.grownBy_alloc w9 (.cells #[.int .i64 xa, .int .i64 xb] 3) (some m)).trans hg10
            rw [show takeF S f [xa, xb] = addF f [xa, xb] by unfold takeF; rw [if_pos Hq.out]] at hm10
            have o10 : Only2 B m W w10 := (j3.trans (.of_below hb9)).trans (.of_grown hg11 (fun q e => by cases e; exact .inr rfl))
            have b10 : BestIs w10 B nb none := j2.only (((hg11.block _ (Nat.lt_of_lt_of_le j2.lt hb9.size)) (fun e => E.n7 (by cases e; rfl))).trans (hb9.block _ j2.lt))
            clear hg11 hT9 hg10 HT
            have o10d : Only2 B m W w10.drew := ⟨o10.os, o10.tape, o10.output, o10.size, o10.block⟩
            refine wpIn_region_held_round (fun w' => w'.cell? ⟨bt, 0, none⟩ = some (tryF bs hg B hs hx bt) ∧ w'.cell? ⟨w.heap.size, 0, none⟩ = some (.int .i64 u.a0) ∧ w'.cell? ⟨w.heap.size, 1, none⟩ = some (.int .i64 u.a1) ∧ w'.cell? ⟨w.heap.size, 2, none⟩ = some (.int .i64 u.a2) ∧ w'.cell? ⟨w.heap.size, 3, none⟩ = some (.int .i64 u.a3) ∧ w'.cell? ⟨w.heap.size, 4, none⟩ = some (.int .i64 u.a4) ∧ w'.cell? ⟨w.heap.size, 5, none⟩ = some (.int .i64 u.a5) ∧ w'.cell? ⟨w.heap.size, 6, none⟩ = some (.int .i64 u.c) ∧ w'.cell? ⟨w.heap.size, 7, none⟩ = some (.int .i64 u.i) ∧ w'.cell? ⟨w.heap.size, 8, none⟩ = some (.int .i64 u.d) ∧ w'.cell? ⟨w.heap.size, 9, none⟩ = some (.int .i64 u.n) ∧ w'.cell? ⟨Bx, 0, none⟩ = some (.int .i64 xa) ∧ w'.cell? ⟨Bx, 1, none⟩ = some (.int .i64 xb) ∧ w'.cell? ⟨w.heap.size + 1, 0, none⟩ = some (.int .i64 kk)) (by kernel_rfl) (by kernel_rfl) (by rintro ⟨_, _, h⟩; exact h) ?_ (fun hHeld => ?_)
            · exact HKP.out _ o10d
            refine wpAnyH_take (i := 0) (oi := _) (v := ?_) rfl (by kernel_rfl) (by kernel_rfl) (by kernel_rfl) (fun _ _ _ h => h) (Or.inl ⟨by rfl, ?_⟩) hHeld ?_
            rotate_left
            · intro w1 hSw; obtain ⟨e0, e1, e2, e3, e4, e5, e6, e7, e8, e9, e10, e11, e12, e13⟩ := hSw; go_simp; with_reducible rfl
            simp only [Act.put, List.setIfInBounds_toArray, List.set_cons_zero, List.set_cons_succ]
            refine wpAnyH_take (i := 1) (oi := _) (v := ?_) rfl (by kernel_rfl) (by kernel_rfl) (by kernel_rfl) (fun _ _ _ h => h) (Or.inl ⟨by rfl, ?_⟩) hHeld ?_
            rotate_left
            · intro w1 hSw; obtain ⟨e0, e1, e2, e3, e4, e5, e6, e7, e8, e9, e10, e11, e12, e13⟩ := hSw; go_simp; with_reducible rfl
            simp only [Act.put, List.setIfInBounds_toArray, List.set_cons_zero, List.set_cons_succ]
            refine wpAnyH_take (i := 2) (oi := _) (v := ?_) rfl (by kernel_rfl) (by kernel_rfl) (by kernel_rfl) (fun _ _ _ h => h) (Or.inl ⟨by rfl, ?_⟩) hHeld ?_
            rotate_left
            · intro w1 hSw; obtain ⟨e0, e1, e2, e3, e4, e5, e6, e7, e8, e9, e10, e11, e12, e13⟩ := hSw; go_simp; with_reducible rfl
            simp only [Act.put, List.setIfInBounds_toArray, List.set_cons_zero, List.set_cons_succ]
            refine wpAnyH_take (i := 4) (oi := _) (v := ?_) rfl (by kernel_rfl) (by kernel_rfl) (by kernel_rfl) (fun _ _ _ h => h) (Or.inl ⟨by rfl, ?_⟩) hHeld ?_
            rotate_left
            · intro w1 hSw; obtain ⟨e0, e1, e2, e3, e4, e5, e6, e7, e8, e9, e10, e11, e12, e13⟩ := hSw; go_simp; with_reducible rfl
            simp only [Act.put, List.setIfInBounds_toArray, List.set_cons_zero, List.set_cons_succ]
            refine wpAnyH_take (i := 5) (oi := _) (v := ?_) rfl (by kernel_rfl) (by kernel_rfl) (by kernel_rfl) (fun _ _ _ h => h) (Or.inl ⟨by rfl, ?_⟩) hHeld ?_
            rotate_left
            · intro w1 hSw; obtain ⟨e0, e1, e2, e3, e4, e5, e6, e7, e8, e9, e10, e11, e12, e13⟩ := hSw; go_simp; with_reducible rfl
            simp only [Act.put, List.setIfInBounds_toArray, List.set_cons_zero, List.set_cons_succ]
            refine wpAnyH_all (rs := [3]) (by kernel_rfl) (by simp) ?_
            intro i hi; obtain rfl := List.mem_singleton.1 hi; clear hi hHeld
            refine wpOp_step rfl (fun K3 hK3 => ?_)
            have HK3 := Lib.hid hK3
            clear hK3
            rw [if_pos (by rfl)]
            go_simp
            refine (hW _).mono ?_
            rintro e w11 ⟨rfl, hb11⟩
            have o11 : Only2 B m W w11 := o10d.trans (.of_below hb11)
            have m11 : TakenIs w11 m (addF f [xa, xb]) := hm10.drew.below hb11 hm10.lt
            have b11 : BestIs w11 B nb none := b10.only (hb11.block _ b10.lt)
            refine HK3.out _ _ ⟨HKP.out _ o11, ?_⟩
            clear HK3 K3
            try simp only [Act.put, List.setIfInBounds_toArray, List.set_cons_zero, List.set_cons_succ]
            have hHeld := HKP.out _ o11
            refine wpAnyH_all (rs := [6]) (by kernel_rfl) (by simp) ?_
            intro i hi; obtain rfl := List.mem_singleton.1 hi; clear hi hHeld
            refine wpOp_step rfl (fun K3 hK3 => ?_)
            have HK3 := Lib.hid hK3
            clear hK3
            rw [if_pos (by rfl)]
            unfold tryF
            go_simp
            rw [show IntKind.i64.wrap (kk - 1) = ((k : Nat) : Int) from by rw [IntWalk.i64_in _ (by omega)]; have := Hkk.out; omega]
            have hI := IH.out uw (c + 1) (addF f [xa, xb]) none w11 (EW.keep (o11.keepC i1)) m11 b11 hbo' (by rw [← Hwp.out]; exact hu.withP (by omega) hx1 hx2) (by omega) (addF_two hf)
            unfold Tri.val at hI
            refine hI.mono ?_
            rintro e w12 ⟨rfl, hm12, hb12, ho12⟩
            have o12 := o11.trans ho12
            clear hI b11 b10 m11 hm10 o10 o10d hb11
            refine HK3.out _ _ ⟨HKP.out _ o12, wpAnyH_done (by kernel_rfl) ?_ _⟩
            clear HK3 K3
            try simp only [Act.put, List.setIfInBounds_toArray, List.set_cons_zero, List.set_cons_succ]
            have hE12 := EW.keep (o12.keepC i1)
            obtain ⟨q1, q2, q3, q4, q5⟩ := keep9 _ o12
            have hP := putBack_any [xa, xb] (.slice (some ⟨w12.heap.size, 0, none⟩) 2 2) (.slice sa S.length scap) m _ (w12.alloc (.cells #[.int .i64 xa, .int .i64 xb] 3)) (ints_two w12 xa xb 3) (hm12.alloc _) (fun y => by have := addF_two hf (x := xa) (y := xb) y; omega) (by simp) (by intro y hy; simp at hy; rcases hy with rfl | rfl; exact hx1; exact hx2) (by intro b off cap e; have := hm12.lt; simp only [Value.slice.injEq, Option.some.injEq, Addr.mk.injEq] at e; omega)
            rw [sub_addF] at hP
            gi_wp2_with (refine ⟨trivial, ?_⟩; gi_at_call 57; refine (CallsIn.inRound l (callsIn_wide.2 (hP))).mono ?_; rintro e w13 ⟨rfl, hm13, hg13⟩)
            have hg14 : _ := (World.grownBy_alloc w12 (.cells #[.int .i64 xa, .int .i64 xb] 3) (some m)).trans hg13
            rw [hrb.out, Hwp.out]; exact ⟨hm13, hb12.only (hg14.block _ hb12.lt (fun e => E.n7 (by cases e; rfl))), o12.trans (.of_grown hg14 (fun q e => by cases e; exact .inr rfl))⟩
      · have hrb := Lib.hid (show rb = none by rw [Hrb.out]; rfl)
        gi_wp2_with (refine ⟨trivial, ?_⟩; gi_at_call 66; refine (CallsIn.inRound l (callsIn_wide.2 (hF _))).mono ?_; rintro e w9 ⟨rfl, hb9⟩)
        rw [hrb.out]; exact ⟨j1.below hb9 j1.lt, j2.only (hb9.block _ j2.lt), j3.trans (.of_below hb9)⟩
    | some b0 =>
      have hB2 : W.heap[B]? = some (bestObj b0 true nb) := i2
      have fd : W.cell? ⟨B, 10, none⟩ = some (.bool true) := by simp [World.cell?, hB2, bestObj]
      have f8 : W.cell? ⟨B, 8, none⟩ = some (.int .i64 b0.d) := by simp [World.cell?, hB2, bestObj]
      have f9 : W.cell? ⟨B, 9, none⟩ = some (.int .i64 b0.n) := by simp [World.cell?, hB2, bestObj]
      have hex0 : W.cell? ⟨hx, 0, none⟩ = some (exactF t r) := EW.ex
      unfold exactF at hex0
      have hb0 := hbo' b0 rfl
      have hX := fun W2 => exact_any t r b0.d b0.n W2 ht hr ⟨hb0.1, hb0.2.1⟩ hb0.2.2
      obtain ⟨ze, hze⟩ : ∃ ze, ze = (b0.d * t - b0.n * r == 0) := ⟨_, rfl⟩
      rw [← hze] at hX
      have hany : (some b0).any (Tri.exactP t r) = ze := by rw [hze]; rfl
      rw [hany] at hrb0
      have Hany := Lib.hid hany
      clear hze hany hb0 hB2
      cases ze
      · rw [if_neg (by simp)] at hrb0
        have Hrb := Lib.hid hrb0
        clear hrb0
        gi_wp2_with (refine ⟨trivial, ?_⟩; gi_at_call 41; refine (CallsIn.inRound l (callsIn_wide.2 (hX _))).mono ?_; rintro e w8 ⟨rfl, hb8⟩; have j3 : Only2 B m W w8 := .of_below hb8; obtain ⟨_, y0, y1, y2, y3, y4, y5, y6, y7, y8, y9, x0, x1, _⟩ := HKP.out w8 j3; have j1 := i1.below hb8 i1.lt; have j2 := i2.only (hb8.block _ i2.lt); clear hX)
        cases z
        · by_cases hroom : o < xa + xb
          · have hrb := Lib.hid (show rb = (some b0) by rw [Hrb.out]; simp [hroom])
            gi_wp2_with (refine ⟨trivial, ?_⟩; gi_at_call 66; refine (CallsIn.inRound l (callsIn_wide.2 (hF _))).mono ?_; rintro e w9 ⟨rfl, hb9⟩; obtain ⟨q1, q2, q3, q4, q5⟩ := keep9 _ (j3.trans (.of_below hb9)))
            rw [hrb.out]; exact ⟨j1.below hb9 j1.lt, j2.only (hb9.block _ j2.lt), j3.trans (.of_below hb9)⟩
          · cases hq : fitsB S f [xa, xb]
            · have hrb := Lib.hid (show rb = (some b0) by rw [Hrb.out]; simp [hroom, hq])
              rw [hq] at hT
              have HT := Lib.hid hT
              have Hq := Lib.hid hq
              clear hT hq
              gi_wp2_with (first | (refine ⟨trivial, ?_⟩; gi_at_call 66; refine (CallsIn.inRound l (callsIn_wide.2 (hF _))).mono ?_; rintro e w9 ⟨rfl, hb9⟩; obtain ⟨q1, q2, q3, q4, q5⟩ := keep9 _ (j3.trans (.of_below hb9)); have hT9 := HT.out w9 (j3.trans (.of_below hb9)) (j1.below hb9 j1.lt)) | (refine ⟨trivial, ?_⟩; gi_at_call 38; refine (CallsIn.inRound l (callsIn_wide.2 (hT9))).mono ?_; rintro e w10 ⟨rfl, hm10, hg10⟩))
              have hg11 : _ := (World.grownBy_alloc w9 (.cells #[.int .i64 xa, .int .i64 xb] 3) (some m)).trans hg10
              rw [show takeF S f [xa, xb] = f by unfold takeF; rw [if_neg (by rw [Hq.out]; decide)]] at hm10
              rw [hrb.out]; exact ⟨hm10, j2.only (((hg11.block _ (Nat.lt_of_lt_of_le j2.lt hb9.size)) (fun e => E.n7 (by cases e; rfl))).trans (hb9.block _ j2.lt)), (j3.trans (.of_below hb9)).trans (.of_grown hg11 (fun q e => by cases e; exact .inr rfl))⟩
            · have hrb := Lib.hid (show rb = tryP S tl t r o same k (u.withP xa xb) (addF f [xa, xb]) (some b0) by rw [Hrb.out]; simp [hroom, hq])
              rw [hq] at hT
              have HT := Lib.hid hT
              have Hq := Lib.hid hq
              clear hT hq
              gi_wp2_with (first | (refine ⟨trivial, ?_⟩; gi_at_call 66; refine (CallsIn.inRound l (callsIn_wide.2 (hF _))).mono ?_; rintro e w9 ⟨rfl, hb9⟩; obtain ⟨q1, q2, q3, q4, q5⟩ := keep9 _ (j3.trans (.of_below hb9)); have hT9 := HT.out w9 (j3.trans (.of_below hb9)) (j1.below hb9 j1.lt)) | (refine ⟨trivial, ?_⟩; gi_at_call 38; refine (CallsIn.inRound l (callsIn_wide.2 (hT9))).mono ?_; rintro e w10 ⟨rfl, hm10, hg10⟩))
              have hg11 : _ := (World.grownBy_alloc w9 (.cells #[.int .i64 xa, .int .i64 xb] 3) (some m)).trans hg10
              rw [show takeF S f [xa, xb] = addF f [xa, xb] by unfold takeF; rw [if_pos Hq.out]] at hm10
              have o10 : Only2 B m W w10 := (j3.trans (.of_below hb9)).trans (.of_grown hg11 (fun q e => by cases e; exact .inr rfl))
              have b10 : BestIs w10 B nb (some b0) := j2.only (((hg11.block _ (Nat.lt_of_lt_of_le j2.lt hb9.size)) (fun e => E.n7 (by cases e; rfl))).trans (hb9.block _ j2.lt))
              clear hg11 hT9 hg10 HT
              have o10d : Only2 B m W w10.drew := ⟨o10.os, o10.tape, o10.output, o10.size, o10.block⟩
              refine wpIn_region_held_round (fun w' => w'.cell? ⟨bt, 0, none⟩ = some (tryF bs hg B hs hx bt) ∧ w'.cell? ⟨w.heap.size, 0, none⟩ = some (.int .i64 u.a0) ∧ w'.cell? ⟨w.heap.size, 1, none⟩ = some (.int .i64 u.a1) ∧ w'.cell? ⟨w.heap.size, 2, none⟩ = some (.int .i64 u.a2) ∧ w'.cell? ⟨w.heap.size, 3, none⟩ = some (.int .i64 u.a3) ∧ w'.cell? ⟨w.heap.size, 4, none⟩ = some (.int .i64 u.a4) ∧ w'.cell? ⟨w.heap.size, 5, none⟩ = some (.int .i64 u.a5) ∧ w'.cell? ⟨w.heap.size, 6, none⟩ = some (.int .i64 u.c) ∧ w'.cell? ⟨w.heap.size, 7, none⟩ = some (.int .i64 u.i) ∧ w'.cell? ⟨w.heap.size, 8, none⟩ = some (.int .i64 u.d) ∧ w'.cell? ⟨w.heap.size, 9, none⟩ = some (.int .i64 u.n) ∧ w'.cell? ⟨Bx, 0, none⟩ = some (.int .i64 xa) ∧ w'.cell? ⟨Bx, 1, none⟩ = some (.int .i64 xb) ∧ w'.cell? ⟨w.heap.size + 1, 0, none⟩ = some (.int .i64 kk)) (by kernel_rfl) (by kernel_rfl) (by rintro ⟨_, _, h⟩; exact h) ?_ (fun hHeld => ?_)
              · exact HKP.out _ o10d
              refine wpAnyH_take (i := 0) (oi := _) (v := ?_) rfl (by kernel_rfl) (by kernel_rfl) (by kernel_rfl) (fun _ _ _ h => h) (Or.inl ⟨by rfl, ?_⟩) hHeld ?_
              rotate_left
              · intro w1 hSw; obtain ⟨e0, e1, e2, e3, e4, e5, e6, e7, e8, e9, e10, e11, e12, e13⟩ := hSw; go_simp; with_reducible rfl
              simp only [Act.put, List.setIfInBounds_toArray, List.set_cons_zero, List.set_cons_succ]
              refine wpAnyH_take (i := 1) (oi := _) (v := ?_) rfl (by kernel_rfl) (by kernel_rfl) (by kernel_rfl) (fun _ _ _ h => h) (Or.inl ⟨by rfl, ?_⟩) hHeld ?_
              rotate_left
              · intro w1 hSw; obtain ⟨e0, e1, e2, e3, e4, e5, e6, e7, e8, e9, e10, e11, e12, e13⟩ := hSw; go_simp; with_reducible rfl
              simp only [Act.put, List.setIfInBounds_toArray, List.set_cons_zero, List.set_cons_succ]
              refine wpAnyH_take (i := 2) (oi := _) (v := ?_) rfl (by kernel_rfl) (by kernel_rfl) (by kernel_rfl) (fun _ _ _ h => h) (Or.inl ⟨by rfl, ?_⟩) hHeld ?_
              rotate_left
              · intro w1 hSw; obtain ⟨e0, e1, e2, e3, e4, e5, e6, e7, e8, e9, e10, e11, e12, e13⟩ := hSw; go_simp; with_reducible rfl
              simp only [Act.put, List.setIfInBounds_toArray, List.set_cons_zero, List.set_cons_succ]
              refine wpAnyH_take (i := 4) (oi := _) (v := ?_) rfl (by kernel_rfl) (by kernel_rfl) (by kernel_rfl) (fun _ _ _ h => h) (Or.inl ⟨by rfl, ?_⟩) hHeld ?_
              rotate_left
              · intro w1 hSw; obtain ⟨e0, e1, e2, e3, e4, e5, e6, e7, e8, e9, e10, e11, e12, e13⟩ := hSw; go_simp; with_reducible rfl
              simp only [Act.put, List.setIfInBounds_toArray, List.set_cons_zero, List.set_cons_succ]
              refine wpAnyH_take (i := 5) (oi := _) (v := ?_) rfl (by kernel_rfl) (by kernel_rfl) (by kernel_rfl) (fun _ _ _ h => h) (Or.inl ⟨by rfl, ?_⟩) hHeld ?_
              rotate_left
              · intro w1 hSw; obtain ⟨e0, e1, e2, e3, e4, e5, e6, e7, e8, e9, e10, e11, e12, e13⟩ := hSw; go_simp; with_reducible rfl
              simp only [Act.put, List.setIfInBounds_toArray, List.set_cons_zero, List.set_cons_succ]
              refine wpAnyH_all (rs := [3]) (by kernel_rfl) (by simp) ?_
              intro i hi; obtain rfl := List.mem_singleton.1 hi; clear hi hHeld
              refine wpOp_step rfl (fun K3 hK3 => ?_)
              have HK3 := Lib.hid hK3
              clear hK3
              rw [if_pos (by rfl)]
              go_simp
              refine (hW _).mono ?_
              rintro e w11 ⟨rfl, hb11⟩
              have o11 : Only2 B m W w11 := o10d.trans (.of_below hb11)
              have m11 : TakenIs w11 m (addF f [xa, xb]) := hm10.drew.below hb11 hm10.lt
              have b11 : BestIs w11 B nb (some b0) := b10.only (hb11.block _ b10.lt)
              refine HK3.out _ _ ⟨HKP.out _ o11, ?_⟩
              clear HK3 K3
              try simp only [Act.put, List.setIfInBounds_toArray, List.set_cons_zero, List.set_cons_succ]
              have hHeld := HKP.out _ o11
              refine wpAnyH_all (rs := [6]) (by kernel_rfl) (by simp) ?_
              intro i hi; obtain rfl := List.mem_singleton.1 hi; clear hi hHeld
              refine wpOp_step rfl (fun K3 hK3 => ?_)
              have HK3 := Lib.hid hK3
              clear hK3
              rw [if_pos (by rfl)]
              unfold tryF
              go_simp
              rw [show IntKind.i64.wrap (kk - 1) = ((k : Nat) : Int) from by rw [IntWalk.i64_in _ (by omega)]; have := Hkk.out; omega]
              have hI := IH.out uw (c + 1) (addF f [xa, xb]) (some b0) w11 (EW.keep (o11.keepC i1)) m11 b11 hbo' (by rw [← Hwp.out]; exact hu.withP (by omega) hx1 hx2) (by omega) (addF_two hf)
              unfold Tri.val at hI
              refine hI.mono ?_
              rintro e w12 ⟨rfl, hm12, hb12, ho12⟩
              have o12 := o11.trans ho12
              clear hI b11 b10 m11 hm10 o10 o10d hb11
              refine HK3.out _ _ ⟨HKP.out _ o12, wpAnyH_done (by kernel_rfl) ?_ _⟩
              clear HK3 K3
              try simp only [Act.put, List.setIfInBounds_toArray, List.set_cons_zero, List.set_cons_succ]
              have hE12 := EW.keep (o12.keepC i1)
              obtain ⟨q1, q2, q3, q4, q5⟩ := keep9 _ o12
              have hP := putBack_any [xa, xb] (.slice (some ⟨w12.heap.size, 0, none⟩) 2 2) (.slice sa S.length scap) m _ (w12.alloc (.cells #[.int .i64 xa, .int .i64 xb] 3)) (ints_two w12 xa xb 3) (hm12.alloc _) (fun y => by have := addF_two hf (x := xa) (y := xb) y; omega) (by simp) (by intro y hy; simp at hy; rcases hy with rfl | rfl; exact hx1; exact hx2) (by intro b off cap e; have := hm12.lt; simp only [Value.slice.injEq, Option.some.injEq, Addr.mk.injEq] at e; omega)
              rw [sub_addF] at hP
              gi_wp2_with (refine ⟨trivial, ?_⟩; gi_at_call 57; refine (CallsIn.inRound l (callsIn_wide.2 (hP))).mono ?_; rintro e w13 ⟨rfl, hm13, hg13⟩)
              have hg14 : _ := (World.grownBy_alloc w12 (.cells #[.int .i64 xa, .int .i64 xb] 3) (some m)).trans hg13
              rw [hrb.out, Hwp.out]; exact ⟨hm13, hb12.only (hg14.block _ hb12.lt (fun e => E.n7 (by cases e; rfl))), o12.trans (.of_grown hg14 (fun q e => by cases e; exact .inr rfl))⟩
        · have hrb := Lib.hid (show rb = (some b0) by rw [Hrb.out]; rfl)
          gi_wp2_with (refine ⟨trivial, ?_⟩; gi_at_call 66; refine (CallsIn.inRound l (callsIn_wide.2 (hF _))).mono ?_; rintro e w9 ⟨rfl, hb9⟩)
          rw [hrb.out]; exact ⟨j1.below hb9 j1.lt, j2.only (hb9.block _ j2.lt), j3.trans (.of_below hb9)⟩
      · have hrb := Lib.hid (show rb = some b0 by rw [hrb0]; rfl)
        clear hrb0
        gi_wp2_with (refine ⟨trivial, ?_⟩; gi_at_call 41; refine (CallsIn.inRound l (callsIn_wide.2 (hX _))).mono ?_; rintro e w8 ⟨rfl, hb8⟩)
        rw [hrb.out]
        exact ⟨rfl, i1.below hb8 i1.lt, i2.only (hb8.block _ i2.lt), .of_below hb8, Hany.out⟩
  case done =>
    rintro D xs W hD rfl ⟨i1, i2, i3⟩ hK
    gi_wp2
    refine ⟨by simp, .inl ⟨_, _, rfl, run_takeDeferred hK, ?_⟩⟩
    have hg := grownBy_putObj' W D (.deferred none)
    refine ⟨_, results_none rfl _ _ _, rfl, i1.kept hg (fun e => by cases e; omega), ?_, ?_⟩
    · rw [tryP_succ]; exact i2.only (hg.block B i2.lt (fun e => by cases e; omega))
    · exact hO0.trans (i3.far hg (fun q e => by cases e; omega))
  case stop =>
    rintro D cc pre W hD hpre ⟨rfl, i1, i2, i3, i4⟩ hK
    obtain ⟨rest, hrest⟩ := hpre
    have hfin : (pairsL tl).foldl (stepP S tl t r o same k u f) best = pre.foldl (stepP S tl t r o same k u f) best := by
      rw [← hrest, List.foldl_append, foldl_exact _ _ i4]
    gi_wp2
    refine ⟨by simp, .inl ⟨_, _, rfl, run_takeDeferred hK, ?_⟩⟩
    have hg := grownBy_putObj' W D (.deferred none)
    refine ⟨_, results_none rfl _ _ _, rfl, i1.kept hg (fun e => by cases e; omega), ?_, ?_⟩
    · rw [tryP_succ, hfin]; exact i2.only (hg.block B i2.lt (fun e => by cases e; omega))
    · exact hO0.trans (i3.far hg (fun q e => by cases e; omega))

end Go.Proofs.Ytoiapnokgpeipaa
