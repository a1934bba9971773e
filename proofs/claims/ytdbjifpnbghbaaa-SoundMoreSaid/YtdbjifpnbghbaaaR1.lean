/- Sound: the reference's common, term. -/
import Derived.Test.YtdbjifpnbghbaaaL3
namespace Go.Proofs.Ytdbjifpnbghbaaa
set_option linter.unusedSimpArgs false
set_option linter.unusedVariables false
open Go.RowKit Go.Maps Go.BigFrame

theorem TabAt.take {α : Type} [Inhabited α] {k : Nat} {f : α → Nat → Int} {w : World} {b off c : Nat} {L : List α} {i : Nat} (h : TabAt k f w (.slice (some ⟨b, off, none⟩) L.length c) L) (h0 : 0 < L.length) (hi : i ≤ L.length) : TabAt k f w (.slice (some ⟨b, off, none⟩) i c) (L.take i) := by
  obtain ⟨hl, ⟨rfl, _⟩ | ⟨b', off', cap, e, h1, h2, h3, h4⟩⟩ := h
  · simp at h0
  · simp only [Value.slice.injEq, Option.some.injEq, Addr.mk.injEq, and_true, true_and] at e
    obtain ⟨⟨rfl, rfl⟩, rfl⟩ := e
    have hln : (L.take i).length = i := by simp; omega
    refine ⟨by rw [hln]; omega, .inr ⟨b, off, c, by rw [hln], by rw [hln]; omega, h2, h3, fun j hj m hm => ?_⟩⟩
    rw [hln] at hj
    have := h4 j (by omega) m hm
    rw [this]
    have e : (L.take i).getD j default = L.getD j default := by
      rw [List.getD, List.getD, List.getElem?_take, if_pos hj]
    rw [e]
theorem pos_take (l : List Pi) (i : Nat) : ∀ j : Nat, j ≤ i → posF (l.take i) j = posF l j
  | 0, _ => rfl
  | j + 1, h => by
    have ih := pos_take l i j (by omega)
    simp only [posF]
    rw [ih, List.getD, List.getD, List.getElem?_take, if_pos (by omega)]
def commonF (l : List Pi) (i : Nat) (a b : Int) : Int := max 0 (min b (posF l (i + 1)) - max a (posF l i))
set_option maxRecDepth 100000 in
set_option maxHeartbeats 3200000 in
theorem common_any (l : List Pi) (hok : lineOk l = true) (v : Value) (i : Nat) (hi : i < l.length) (x y : Int) (hx : -1000000000000 ≤ x ∧ x ≤ 1000000000000) (hy : -1000000000000 ≤ y ∧ y ≤ 1000000000000) (w : World) (hl : TabAt 3 piC w v l) : Calls Try.prog 52 #[v, .int .i64 (i : Nat), .int .i64 x, .int .i64 y] w fun e w' => e = .returned (.int .i64 (commonF l i x y)) ∧ w = w' := by
  obtain ⟨a, c, rfl⟩ := hl.shape
  have ml : l.length ≤ 9223372036854775807 := hl.1
  obtain ⟨lb, lo, rfl, hlb, hlx⟩ := hl.at (by omega)
  have x0 := hlx i hi 0 (by omega)
  have htk := hl.take (i := i) (by omega) (by omega)
  have hcap : l.length ≤ c := by
    obtain ⟨_, ⟨rfl, _⟩ | ⟨b', off', cap, e, h1, _⟩⟩ := hl
    · simp at hi
    · simp only [Value.slice.injEq] at e; omega
  have hln : (l.take i).length = i := by simp; omega
  have hp0 := pos_small hok (i := i) (by omega)
  have hp1 := pos_small hok (i := i + 1) (by omega)
  have hps : posF l (i + 1) = posF l i + (l.getD i default).len := rfl
  have KE := End_any (l.take i) (.slice (some ⟨lb, lo, none⟩) i c) w htk (fun j hj => by
    rw [hln] at hj
    rw [pos_take l i j hj]
    have := pos_small hok (i := j) (by omega)
    omega)
  have he : endF (l.take i) = posF l i := by unfold endF; rw [hln, pos_take l i i (Nat.le_refl _)]
  rw [he] at KE
  have hdef : commonF l i x y = max 0 (min y (posF l (i + 1)) - max x (posF l i)) := rfl
  obtain ⟨⟨t0, t1, t2⟩, hrow⟩ : ∃ p : Pi, l.getD i default = p := ⟨_, rfl⟩
  rw [hrow] at x0 hps
  simp only [Nat.add_zero, piC] at x0 hps
  obtain ⟨p, hp⟩ : ∃ p, posF l i = p := ⟨_, rfl⟩
  obtain ⟨p1, hp1'⟩ : ∃ p, posF l (i + 1) = p := ⟨_, rfl⟩
  rw [hp, hp1'] at hps hdef
  rw [hp] at hp0 KE
  rw [hp1'] at hp1
  have w1 : IntKind.i64.wrap (p + t0) = p1 := by rw [← hps]; exact IntWalk.i64_in _ (by omega)
  have w2 : IntKind.i64.wrap (min y p1 - max x p) = min y p1 - max x p := IntWalk.i64_in _ (by omega)
  have KEE := Lib.hid KE
  have ij1 : (i : Int) < (l.length : Int) := Int.ofNat_lt.2 hi
  have ij0 : (0 : Int) ≤ (i : Int) := by omega
  have ij2 : (i : Int) ≤ (c : Int) := by omega
  have hic : i ≤ c := by omega
  rw [hdef]
  clear hlx hrow hp hp1' hps hdef KE he hln htk hl hp0 hp1
  go_enter Try.func52, Try.ntmps52
  go_wp2_with (go_at_call 25; (with_reducible refine KEE.out.mono ?_); rintro e w3 ⟨rfl, rfl⟩)
  go_ret
  exact ⟨rfl, rfl⟩
theorem term_any (n lo hi : Int) (hn : -200000 ≤ n ∧ n ≤ 200000) (h1 : 1 ≤ lo) (h2 : lo ≤ hi) (h3 : hi ≤ 10000) (w : World) : Calls Try.prog 44 #[.int .i64 n, .agg #[.int .i64 lo, .int .i64 hi]] w fun e w' => e = .returned (.agg #[.int .i64 (ofF false n lo hi), .int .i64 (ofF true n lo hi)]) ∧ Below w.heap.size w w' := by
  have m1 := mul_in (A := 200000) (B := 10000) hn (b := lo) (by omega) (by omega)
  have m2 := mul_in (A := 200000) (B := 10000) hn (b := hi) (by omega) (by omega)
  have HR := Lib.hid (show ofF false n lo hi = min (n * lo) (n * hi) ∧ ofF true n lo hi = max (n * lo) (n * hi) from ⟨rfl, rfl⟩)
  obtain ⟨W0, hW0⟩ : ∃ X, X = (w.alloc (.cells #[.int .i64 lo, .int .i64 hi] 24)).alloc (.cells #[.int .i64 0, .int .i64 0] 24) := ⟨_, rfl⟩
  have hal : W0 = al w [(.cells #[.int .i64 lo, .int .i64 hi] 24), (.cells #[.int .i64 0, .int .i64 0] 24)] := hW0
  have hb0 : Below w.heap.size w W0 := by rw [hal]; exact al_below w _ (Nat.le_refl _)
  have hr0 : W0.heap[w.heap.size]? = some (.cells #[.int .i64 lo, .int .i64 hi] 24 (0, 0)) := by rw [hal]; exact al_get w _ 0 _ rfl
  have hr1 : W0.heap[w.heap.size + 1]? = some (.cells #[.int .i64 0, .int .i64 0] 24 (0, 0)) := by rw [hal]; exact al_get w _ 1 _ rfl
  obtain ⟨p, hp⟩ : ∃ x, n * lo = x := ⟨_, rfl⟩
  obtain ⟨q, hq⟩ : ∃ x, n * hi = x := ⟨_, rfl⟩
  rw [hp] at m1
  rw [hq] at m2
  have w1 : IntKind.i64.wrap (n * lo) = p := by rw [hp]; exact IntWalk.i64_in _ (by omega)
  have w2 : IntKind.i64.wrap (n * hi) = q := by rw [hq]; exact IntWalk.i64_in _ (by omega)
  obtain ⟨P, hP⟩ : ∃ x, w.heap.size = x := ⟨_, rfl⟩
  rw [hP] at hr0 hr1
  have f0 : W0.frozen? ⟨P + 1, 0, none⟩ = false := frozen_of hr1
  have f1 : W0.frozen? ⟨P + 1, 1, none⟩ = false := frozen_of hr1
  obtain ⟨y0, y1⟩ := two_cells hr0
  obtain ⟨z0, z1⟩ := two_cells hr1
  have HZ := Lib.hid (set2 (A := .int .i64 (min p q)) (B := .int .i64 (max p q)) hr1)
  have HBZ := Lib.hid (below2 hb0 (R := P + 1) (by omega) (.int .i64 (min p q)) (.int .i64 (max p q)))
  have HPQ := Lib.hid (And.intro hp hq)
  clear hp hq m1 m2 hal hr0 hr1 hb0
  go_enter Try.func44, Try.ntmps44
  go_upto_region 1 with fail
  rw [← hW0]
  try rw [hP]
  clear hW0 hP
  go_wp2
  exact bodyPost_ret (res1_24 Try.results44 rfl HZ.out) rfl ⟨by rw [HR.out.1, HR.out.2, HPQ.out.1, HPQ.out.2], HBZ.out⟩
end Go.Proofs.Ytdbjifpnbghbaaa
