/- Copies of rows of ints by append, in any order of the operations; a contact's numbers up to some one. -/
import Derived.Test.YtmcndecmnfbggaaD13
import Derived.Test.YtmcndecmnfbggaaM1
import Derived.Laws.AppendOwnNone
import Derived.Maps.AppendAt
import Derived.Laws.OwnMore
import Derived.Outline
namespace Go.Proofs.Ytmcndecmnfbggaa
set_option linter.unusedSimpArgs false
open Go.RowKit Go.Maps

/-- a slice that is nil has no cells -/
def NilOk (v : Value) : Prop := ∀ n c, v = .slice none n c → n = 0 ∧ c = 0
theorem ints_news {w : World} {b off : Nat} {l : List Int} (hc : ∀ i, i < l.length → w.cell? ⟨b, off + i, none⟩ = some (.int .i64 (l.getD i 0))) :
    ∀ j u, (l.map (Value.int .i64))[j]? = some u → w.cell? ((⟨b, off, none⟩ : Addr).add j) = some u := by
  intro j u h
  have hj : j < l.length := by have := (List.getElem?_eq_some_iff.1 h).1; rwa [List.length_map] at this
  rw [Addr.add_lit, hc j hj]
  rw [List.getElem?_map, List.getElem?_eq_getElem hj] at h
  simp at h
  rw [← h]; simp [List.getD, hj]
theorem ints_cell1 (l : List Int) : ∀ u ∈ l.map (Value.int .i64), u.oneCell' = true := by
  intro u hu; obtain ⟨x, _, rfl⟩ := List.mem_map.1 hu; rfl
/-- two rows of this call's own, in blocks of their own; a nil one is not made yet -/
structure Two (X0 Y : World) (u1 u2 : Value) (n1 n2 : Nat) (xs1 xs2 : List Value) : Prop where
  below : Below X0.heap.size X0 Y
  a : Y.ownsRow X0.heap.size 3 1 u1 n1 xs1
  b : Y.ownsRow X0.heap.size 3 1 u2 n2 xs2
  ne : ∀ k, u1.ownBlock = some k → u2.ownBlock ≠ some k
theorem row_below {base e size n : Nat} {w w' : World} {v : Value} {xs : List Value} (h : w.ownsRow base e size v n xs) (hb : Below w.heap.size w w') : w'.ownsRow base e size v n xs := by
  refine ⟨h.1, ?_⟩
  rcases h.2 with h | ⟨g, cap, cur, rfl, g1, g2, g3⟩
  · exact .inl h
  · exact .inr ⟨g, cap, cur, rfl, g1, (hb.block g (Array.getElem?_eq_some_iff.1 g2).1).trans g2, g3⟩
theorem Two.start (X0 : World) : Two X0 X0.drew (.slice none 0 0) (.slice none 0 0) 0 0 [] [] :=
  ⟨(Below.refl _ _).drew, World.ownsRow_nil _ _ _ _, World.ownsRow_nil _ _ _ _, fun k h => by simp [Value.ownBlock] at h⟩
section
variable {X0 Y Y' : World} {u1 u2 : Value} {n1 n2 : Nat} {xs1 xs2 : List Value}
theorem Two.swap (h : Two X0 Y u1 u2 n1 n2 xs1 xs2) : Two X0 Y u2 u1 n2 n1 xs2 xs1 := ⟨h.below, h.b, h.a, fun k h2 h1 => h.ne k h1 h2⟩
theorem Two.call (h : Two X0 Y u1 u2 n1 n2 xs1 xs2) (hb : Below Y.heap.size Y Y') : Two X0 Y' u1 u2 n1 n2 xs1 xs2 :=
  ⟨h.below.trans (hb.mono h.below.size), row_below h.a hb, row_below h.b hb, h.ne⟩
theorem Two.litA (h : Two X0 Y u1 u2 n1 n2 xs1 xs2) (cs : Array Value) (n : Nat) (hn : n ≤ 1000) (hs : cs.size = n) :
    Two X0 (Y.alloc (.cells cs 3)) (.slice (some ⟨Y.heap.size, 0, none⟩) n n) u2 n n2 cs.toList xs2 := by
  have h1 := h.call ((Below.refl _ _).alloc (Nat.le_refl _) (.cells cs 3))
  refine ⟨h1.below, World.ownsRow_lit Y cs n h.below.size (by unfold maxLen; omega) (by omega), h1.b, fun k hk h2 => ?_⟩
  have := (h.b.lt k h2).2
  have hk : Y.heap.size = k := by injection hk
  omega
theorem Two.litB (h : Two X0 Y u1 u2 n1 n2 xs1 xs2) (cs : Array Value) (n : Nat) (hn : n ≤ 1000) (hs : cs.size = n) :
    Two X0 (Y.alloc (.cells cs 3)) u1 (.slice (some ⟨Y.heap.size, 0, none⟩) n n) n1 n xs1 cs.toList := (h.swap.litA cs n hn hs).swap
theorem Two.app (h : Two X0 Y u1 u2 n1 n2 xs1 xs2) {v' : Value} {n : Nat} {xs : List Value} (ho : Y'.ownsRow X0.heap.size 3 1 v' n xs) (hg : Y.grownBy Y' u1.ownBlock)
    (hv : v'.ownBlock = u1.ownBlock ∨ v'.ownBlock = some Y.heap.size) : Two X0 Y' v' u2 n n2 xs xs2 := by
  refine ⟨h.below.grown hg h.below.size (fun q hq => (h.a.lt q hq).1), ho, h.b.kept hg ?_, fun k hk h2 => ?_⟩
  · cases e : u2.ownBlock with
    | none => exact .inl rfl
    | some q => exact .inr (fun h1 => h.ne q h1.symm e)
  · rcases hv with hv | hv
    · exact h.ne k (hv ▸ hk) h2
    · have := (h.b.lt k h2).2
      rw [hv] at hk
      simp at hk
      omega
end
/-- append of a whole row to one of the call's own -/
theorem wp_icopy {o : Oper} {a : Act} {X0 Y : World} {K : Act → World → Prop} {Q : Exit → Act → World → Prop} (s x : Operand) (ho : o.op = .call { callee := .builtin .append, args := #[s, x], argTypes := #[24, 24] })
    {u1 u2 : Value} {n1 n2 : Nat} {xs1 xs2 : List Value} (hs : a.eval s = u1) (h : Two X0 Y u1 u2 n1 n2 xs1 xs2) {v : Value} {l : List Int} (hx : a.eval x = v) (hv : IntsAt Y v l) (hn : NilOk v) (hl : l.length ≤ 1000) (hl1 : n1 ≤ 1000)
    (hk : ∀ v' w', Two X0 w' v' u2 (n1 + l.length) n2 (xs1 ++ l.map (Value.int .i64)) xs2 → K (a.put o.dst v') w') : o.wp Try.prog a Y K Q := by
  obtain ⟨i0, hi, hz0, hz1, hz2⟩ := info_parts Try.info3
  have main : ∃ v' w', (Builtin.append_ #[24, 24] o.type #[u1, v]).run Try.prog Y = .ok v' w' ∧ Two X0 w' v' u2 (n1 + l.length) n2 (xs1 ++ l.map (Value.int .i64)) xs2 := by
    obtain ⟨_, ⟨rfl, a', cap, rfl⟩ | ⟨b, off, cap, rfl, hlc, hcm, hb, hc⟩⟩ := hv
    · cases a' with
      | none =>
        obtain ⟨_, rfl⟩ := hn 0 cap rfl
        exact ⟨_, _, run_append_owned_none (P := Try.prog) (w := Y) X0.heap.size 24 o.type 3 i0 1 Try.underlying24 hi _ n1 xs1 h.a, by simpa using h⟩
      | some ad =>
        obtain ⟨v', w', hr, h2, h3, _, h5⟩ := run_append_own_at (P := Try.prog) Y X0.heap.size 24 o.type 3 i0 (.int .i64 0) 1 8 Try.underlying24 hi hz0 hz1 hz2 rfl (by decide) _ n1 xs1 h.a ad 0 cap [] rfl (by simp) (by simp) (by unfold maxLen; omega) (by omega) h.below.size
        exact ⟨v', w', hr, h.app (by simpa using h2) h3 h5⟩
    · obtain ⟨v', w', hr, h2, h3, _, h5⟩ := run_append_own_at (P := Try.prog) Y X0.heap.size 24 o.type 3 i0 (.int .i64 0) 1 8 Try.underlying24 hi hz0 hz1 hz2 rfl (by decide) _ n1 xs1 h.a ⟨b, off, none⟩ l.length cap (l.map (Value.int .i64)) (by simp) (ints_news hc) (ints_cell1 l) (by unfold maxLen; omega) (by omega) h.below.size
      exact ⟨v', w', hr, h.app h2 h3 h5⟩
  obtain ⟨v', w', hr, h2⟩ := main
  unfold Oper.wp execOp
  simp only [ho, resolve, invoke, builtin, Sem.run_bind, Sem.run_pure, Result.andThen_ok, List.map_toArray, List.map_cons, List.map_nil, hs, hx, hr]
  exact hk v' w' h2
theorem nilOk_own {w : World} {base : Nat} {e : TypeId} {size n : Nat} {v : Value} {xs : List Value} (h : w.ownsRow base e size v n xs) : NilOk v := by
  intro m c e2
  rcases h.2 with ⟨h1, _⟩ | ⟨g, cap, cur, h1, _⟩
  · rw [h1] at e2; simp only [Value.slice.injEq] at e2; omega
  · rw [h1] at e2; simp at e2
/-- the first k of a row -/
theorem IntsAt.take {w : World} {a : Option Addr} {n c : Nat} {l : List Int} (h : IntsAt w (.slice a n c) l) (k : Nat) (hk : k ≤ l.length) : IntsAt w (.slice a k c) (l.take k) := by
  obtain ⟨hl, ⟨rfl, a', cap, e⟩ | ⟨b, off, cap, e, hlc, hcm, hlt, hc⟩⟩ := h
  · simp only [Value.slice.injEq] at e
    obtain ⟨rfl, rfl, rfl⟩ := e
    have : k = 0 := by simpa using hk
    subst this
    exact ⟨by simp [maxLen], .inl ⟨rfl, _, _, rfl⟩⟩
  · simp only [Value.slice.injEq] at e
    obtain ⟨rfl, rfl, rfl⟩ := e
    have hkl : (l.take k).length = k := by rw [List.length_take]; omega
    refine ⟨by rw [hkl]; unfold maxLen at *; omega, .inr ⟨b, off, c, by rw [hkl], by rw [hkl]; omega, hcm, hlt, fun i hi => ?_⟩⟩
    rw [hkl] at hi
    rw [hc i (by omega)]
    simp [List.getD, hi]
def untilF (c x : Int) : Int := (x - c + 10000) / 10000
theorem until_any (x c : Int) (Bc : Nat) (w : World) (hx : 0 ≤ x ∧ x ≤ 1000000000000000) (hc : 0 ≤ c ∧ c ≤ 9999) (hB : w.cell? ⟨Bc, 0, none⟩ = some (.int .i64 c)) :
    Calls Try.prog 25 #[.int .i64 x, .pointer (some ⟨Bc, 0, none⟩)] w fun e w' => e = .returned (.int .i64 (untilF c x)) ∧ w' = w := by
  obtain ⟨hx0, hx1⟩ := hx
  obtain ⟨hc0, hc1⟩ := hc
  have h0 : 0 ≤ x - c + 10000 := by omega
  go_enter Try.func25, Try.ntmps25
  go_wp2
  go_ret
  exact ⟨rfl, rfl⟩
end Go.Proofs.Ytmcndecmnfbggaa
