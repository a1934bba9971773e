/- The search, as plain functions; what a try needs around it; a try with no pair more. -/
import Derived.Test.YtoiapnokgpeipaaB1
import Derived.Test.YtoiapnokgpeipaaW0
import Derived.Test.YtoiapnokgpeipaaW1
import Derived.Test.YtoiapnokgpeipaaW2
namespace Go.Proofs.Ytoiapnokgpeipaa
open Go.RowKit Go.Maps Go.Sort

def Tri.withP (u : Tri) (x y : Int) : Tri :=
  if u.c = 0 then ⟨x, y, u.a2, u.a3, u.a4, u.a5, 1, u.i, u.d * x, u.n * y⟩
  else if u.c = 1 then ⟨u.a0, u.a1, x, y, u.a4, u.a5, 2, u.i, u.d * x, u.n * y⟩
  else ⟨u.a0, u.a1, u.a2, u.a3, x, y, 3, u.i, u.d * x, u.n * y⟩
def Tri.fallP (u : Tri) (x y : Int) : Bool := if u.c = 0 then false else if u.c = 1 then fallB 1 u.a0 u.a1 x y else fallB 2 u.a2 u.a3 x y
def Tri.exactP (t r : Int) (u : Tri) : Bool := u.d * t - u.n * r == 0
def offerP (t r : Int) (best : Option Tri) (u : Tri) : Option Tri :=
  match best with
  | none => some u
  | some b => some (if nearB t r u.d u.n b.d b.n then u else b)

/-- a train that is tried with so many pairs more -/
def tryP (S : List (Int × Int)) (tl : List T6) (t r room : Int) (same : Bool) : Nat → Tri → (Int → Int) → Option Tri → Option Tri
  | 0, u, f, best => if (idlerI S f u.c same).2 then offerP t r best { u with i := (idlerI S f u.c same).1 } else best
  | k + 1, u, f, best => (pairsL tl).foldl (fun best p =>
      if best.any (Tri.exactP t r) then best
      else if u.fallP p.1.1 p.2.1 || decide (p.1.1 + p.2.1 > room) then best
      else if fitsB S f [p.1.1, p.2.1] then tryP S tl t r room same k (u.withP p.1.1 p.2.1) (addF f [p.1.1, p.2.1]) best
      else best) best

/-- a train with so many pairs, as far as its products go -/
def TriOk (u : Tri) (c : Nat) : Prop := u.c = c ∧ c ≤ 3 ∧ 1 ≤ u.d ∧ u.d ≤ 100 ^ c ∧ 1 ≤ u.n ∧ u.n ≤ 100 ^ c
def BestOk (b : Option Tri) : Prop := ∀ u, b = some u → 1 ≤ u.d ∧ u.d ≤ 1000000 ∧ 1 ≤ u.n ∧ u.n ≤ 1000000
theorem pow_le3 {c : Nat} (h : c ≤ 3) : (100 : Int) ^ c ≤ 1000000 := by
  match c, h with
  | 0, _ => decide
  | 1, _ => decide
  | 2, _ => decide
  | 3, _ => decide
theorem TriOk.bd {u : Tri} {c : Nat} (h : TriOk u c) : 1 ≤ u.d ∧ u.d ≤ 1000000 ∧ 1 ≤ u.n ∧ u.n ≤ 1000000 := by
  obtain ⟨_, h3, h1, h2, h4, h5⟩ := h
  have := pow_le3 h3
  omega
theorem TriOk.withP {u : Tri} {c : Nat} (h : TriOk u c) (hc : c ≤ 2) {x y : Int} (hx : 6 ≤ x ∧ x ≤ 100) (hy : 6 ≤ y ∧ y ≤ 100) : TriOk (u.withP x y) (c + 1) := by
  obtain ⟨h0, h3, h1, h2, h4, h5⟩ := h
  have p1 := mul_bd (x := u.d) (y := x) (by omega) h2 (by omega) hx.2
  have p2 := mul_bd (x := u.n) (y := y) (by omega) h5 (by omega) hy.2
  have q1 : 0 < u.d * x := Int.mul_pos (by omega) (by omega)
  have q2 : 0 < u.n * y := Int.mul_pos (by omega) (by omega)
  unfold Tri.withP
  match c, hc with
  | 0, _ => rw [if_pos (by simpa using h0)]; exact ⟨rfl, by omega, by simp; omega, by simpa [Int.pow_succ] using p1.2, by simp; omega, by simpa [Int.pow_succ] using p2.2⟩
  | 1, _ => rw [if_neg (by simp [h0]), if_pos (by simpa using h0)]; exact ⟨rfl, by omega, by simp; omega, by simpa [Int.pow_succ] using p1.2, by simp; omega, by simpa [Int.pow_succ] using p2.2⟩
  | 2, _ => rw [if_neg (by simp [h0]), if_neg (by simp [h0])]; exact ⟨rfl, by omega, by simp; omega, by simpa [Int.pow_succ] using p1.2, by simp; omega, by simpa [Int.pow_succ] using p2.2⟩
theorem BestOk.offer {t r : Int} {best : Option Tri} {u : Tri} {c : Nat} (hb : BestOk best) (hu : TriOk u c) (i : Int) : BestOk (offerP t r best { u with i := i }) := by
  have := hu.bd
  intro v hv
  cases best with
  | none => simp only [offerP, Option.some.injEq] at hv; subst hv; exact this
  | some b =>
    simp only [offerP, Option.some.injEq] at hv
    split at hv <;> subst hv
    · exact this
    · exact hb _ rfl

theorem tryP_ok {S : List (Int × Int)} {tl : List T6} {t r room : Int} {same : Bool} : ∀ (k : Nat) (u : Tri) (c : Nat) (f : Int → Int) (best : Option Tri), TriOk u c → c + k ≤ 3 → BestOk best → BestOk (tryP S tl t r room same k u f best)
  | 0, u, c, f, best, hu, _, hb => by
    unfold tryP
    split
    · exact hb.offer hu _
    · exact hb
  | k + 1, u, c, f, best, hu, hck, hb => by
    unfold tryP
    generalize pairsL tl = l
    induction l generalizing best with
    | nil => exact hb
    | cons p l ih =>
      rw [List.foldl_cons]
      refine ih _ ?_
      split
      · exact hb
      · split
        · exact hb
        · split
          · exact tryP_ok k _ (c + 1) _ _ (hu.withP (by omega) p.1.2 p.2.2) (by omega) hb
          · exact hb

/-- nothing but block B (the first of several) and block m (what was taken) has turned -/
structure Only2 (B m : Nat) (W W' : World) : Prop where
  os : W'.os = W.os
  tape : W'.tape = W.tape
  output : W'.output = W.output
  size : W.heap.size ≤ W'.heap.size
  block : ∀ k, k < W.heap.size → k ≠ B → k ≠ m → W'.heap[k]? = W.heap[k]?
theorem Only2.refl (B m : Nat) (W : World) : Only2 B m W W := ⟨rfl, rfl, rfl, Nat.le_refl _, fun _ _ _ _ => rfl⟩
theorem Only2.trans {B m : Nat} {X Y Z : World} (h : Only2 B m X Y) (k : Only2 B m Y Z) : Only2 B m X Z :=
  ⟨k.os.trans h.os, k.tape.trans h.tape, k.output.trans h.output, Nat.le_trans h.size k.size, fun i a b c => (k.block i (Nat.lt_of_lt_of_le a h.size) b c).trans (h.block i a b c)⟩
theorem Only2.of_grown {B m : Nat} {X Y : World} {row : Option Nat} (hg : X.grownBy Y row) (hr : ∀ q, row = some q → q = B ∨ q = m) : Only2 B m X Y :=
  ⟨hg.os, hg.tape, hg.output, hg.size, fun k hk h1 h2 => hg.block k hk (fun e => by rcases hr k e.symm with h | h; exact h1 h; exact h2 h)⟩
theorem Only2.of_below {B m : Nat} {X Y : World} (hb : Below X.heap.size X Y) : Only2 B m X Y := .of_grown (row := none) (Lib.grownBy_below (World.grownBy.refl _ _) hb) (fun _ e => by cases e)
theorem Only2.alloc {B m : Nat} {X Y : World} (h : Only2 B m X Y) (o : Obj) : Only2 B m X (Y.alloc o) := h.trans (.of_grown (World.grownBy_alloc Y o none) (fun _ e => by cases e))
theorem Only2.setCell {B m : Nat} {X Y : World} (h : Only2 B m X Y) {b : Nat} (hb : X.heap.size ≤ b) (o : Nat) (v : Value) : Only2 B m X (Y.setCell ⟨b, o, none⟩ v) :=
  ⟨h.os, h.tape, h.output, by simpa [World.setCell] using h.size, fun k hk h1 h2 => (Below.heap_setCell Y ⟨b, o, none⟩ v k (by simp; omega)).trans (h.block k hk h1 h2)⟩
theorem TakenIs.isMap {W : World} {m : Nat} {f : Int → Int} (h : TakenIs W m f) {o : Obj} (ho : W.heap[m]? = some o) : o.isCells = false := by
  obtain ⟨D, ⟨es, c, h1, _⟩, _⟩ := h
  rw [h1] at ho; cases ho; rfl
theorem Only2.keepC {B m : Nat} {X Y : World} {f : Int → Int} (h : Only2 B m X Y) (hm : TakenIs X m f) : KeepC B X Y :=
  ⟨h.size, fun k o hk ho hc => (h.block k (Array.getElem?_eq_some_iff.1 ho).1 hk (fun e => by subst e; rw [hm.isMap ho] at hc; cases hc)).trans ho⟩

def ptrV (b : Nat) : Value := .pointer (some ⟨b, 0, none⟩)
def tryF (bs hg B hs hx bt : Nat) : Value := .func (.func 62) #[] #[.pointer (some ⟨bs, 0, none⟩), .pointer (some ⟨hg, 0, none⟩), .pointer (some ⟨B, 0, none⟩), .pointer (some ⟨hs, 0, none⟩), .pointer (some ⟨hx, 0, none⟩), .pointer (some ⟨bt, 0, none⟩)]

/-- what lies around a try -/
structure Env (W : World) (bs hg B hs hx bt m nb : Nat) (sv : Value) (S : List (Int × Int)) (t r p o : Int) (same : Bool) : Prop where
  s0 : W.cell? ⟨bs, 0, none⟩ = some sv
  s1 : W.cell? ⟨bs, 1, none⟩ = some (.map (some m))
  g0 : W.cell? ⟨hg, 0, none⟩ = some (.int .i64 t)
  g1 : W.cell? ⟨hg, 1, none⟩ = some (.int .i64 r)
  g2 : W.cell? ⟨hg, 2, none⟩ = some (.bool same)
  g3 : W.cell? ⟨hg, 3, none⟩ = some (.int .i64 p)
  g4 : W.cell? ⟨hg, 4, none⟩ = some (.int .i64 o)
  st : W.cell? ⟨hs, 0, none⟩ = some sv
  ex : W.cell? ⟨hx, 0, none⟩ = some (exactF t r)
  tr : W.cell? ⟨bt, 0, none⟩ = some (tryF bs hg B hs hx bt)
  nr : W.cell? ⟨nb, 0, none⟩ = some (nearF t r)
  wh : WheelsAt W sv S
  n1 : bs ≠ B
  n2 : hg ≠ B
  n3 : hs ≠ B
  n4 : hx ≠ B
  n5 : bt ≠ B
  n6 : nb ≠ B
  n7 : m ≠ B
  n8 : ∀ b off n cap, sv = .slice (some ⟨b, off, none⟩) n cap → b ≠ B ∧ b ≠ m

theorem WheelsAt.keepC {W W' : World} {v : Value} {S : List (Int × Int)} {B : Nat} (h : WheelsAt W v S) (hk : KeepC B W W') (hne : ∀ b off n cap, v = .slice (some ⟨b, off, none⟩) n cap → b ≠ B) : WheelsAt W' v S := by
  obtain ⟨hl, ⟨rfl, h⟩ | ⟨b, off, cap, rfl, hlc, hcm, hlt, hc⟩⟩ := h
  · exact ⟨hl, .inl ⟨rfl, h⟩⟩
  · have hb := hne b off _ cap rfl
    exact ⟨hl, .inr ⟨b, off, cap, rfl, hlc, hcm, by have := hk.size; omega, fun i hi => ⟨hk.cell (hc i hi).1 hb, hk.cell (hc i hi).2 hb⟩⟩⟩

theorem Env.keep {W W' : World} {bs hg B hs hx bt m nb : Nat} {sv : Value} {S : List (Int × Int)} {t r p o : Int} {same : Bool} (h : Env W bs hg B hs hx bt m nb sv S t r p o same) (hk : KeepC B W W') :
    Env W' bs hg B hs hx bt m nb sv S t r p o same :=
  ⟨hk.cell h.s0 h.n1, hk.cell h.s1 h.n1, hk.cell h.g0 h.n2, hk.cell h.g1 h.n2, hk.cell h.g2 h.n2, hk.cell h.g3 h.n2, hk.cell h.g4 h.n2, hk.cell h.st h.n3, hk.cell h.ex h.n4, hk.cell h.tr h.n5, hk.cell h.nr h.n6,
    h.wh.keepC hk (fun b off n cap e => (h.n8 b off n cap e).1), h.n1, h.n2, h.n3, h.n4, h.n5, h.n6, h.n7, h.n8⟩

end Go.Proofs.Ytoiapnokgpeipaa
