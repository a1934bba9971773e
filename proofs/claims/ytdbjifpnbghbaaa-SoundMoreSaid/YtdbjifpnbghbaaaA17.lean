/- Sound: the pipes with their places, for a loop body that appends to a row of its own. -/
import Derived.Test.YtdbjifpnbghbaaaA16
namespace Go.Proofs.Ytdbjifpnbghbaaa
set_option linter.unusedSimpArgs false
set_option linter.unusedVariables false
open Go.RowKit Go.Shelf
attribute [local go_sem] Oper.semAt_some

/-- what a round keeps: all cells but those of some blocks, and of rows of one type that are no older than B -/
structure KeepX (B : Nat) (t : TypeId) (E : Nat → Prop) (W W' : World) : Prop where
  size : W.heap.size ≤ W'.heap.size
  same : ∀ k o, ¬ E k → (k < B ∨ ∀ cs f, o ≠ .cells cs t f) → W.heap[k]? = some o → o.isCells = true → W'.heap[k]? = some o
section
variable {B : Nat} {t : TypeId} {E : Nat → Prop}
theorem KeepX.refl (W : World) : KeepX B t E W W := ⟨Nat.le_refl _, fun _ _ _ _ h _ => h⟩
theorem KeepX.trans {X Y Z : World} (h : KeepX B t E X Y) (k : KeepX B t E Y Z) : KeepX B t E X Z := ⟨Nat.le_trans h.size k.size, fun i o hi hx ho hc => k.same i o hi hx (h.same i o hi hx ho hc) hc⟩
theorem KeepX.of_grown {X Y : World} {row : Option Nat} (hg : X.grownBy Y row) (hr : ∀ r, row = some r → E r ∨ (∀ o, X.heap[r]? = some o → o.isCells = false) ∨ (B ≤ r ∧ ∃ cs f, X.heap[r]? = some (.cells cs t f))) : KeepX B t E X Y :=
  ⟨hg.size, fun k o hk hx ho hc => (hg.block k (Array.getElem?_eq_some_iff.1 ho).1 (fun e => by
    rcases hr k e.symm with h | h | ⟨h1, cs, f, h2⟩
    · exact hk h
    · rw [h o ho] at hc; cases hc
    · rw [ho] at h2
      rcases hx with hx | hx
      · omega
      · exact hx cs f (Option.some.inj h2))).trans ho⟩
theorem KeepX.of_below {X Y : World} (h : Below X.heap.size X Y) : KeepX B t E X Y := ⟨h.size, fun k o _ _ ho _ => (h.block k (Array.getElem?_eq_some_iff.1 ho).1).trans ho⟩
theorem KeepX.block {X Y : World} (h : KeepX B t E X Y) {b : Nat} {cs : Array Value} {u : TypeId} {f : Nat × Nat} (hb : X.heap[b]? = some (.cells cs u f)) (h1 : ¬ E b) (hu : u ≠ t) : Y.heap[b]? = some (.cells cs u f) :=
  h.same b _ h1 (.inr (fun cs' f' e => by cases e; exact hu rfl)) hb rfl
theorem KeepX.cell {X Y : World} (h : KeepX B t E X Y) {b o : Nat} {v : Value} (hv : X.cell? ⟨b, o, none⟩ = some v) (h1 : ¬ E b) (hB : b < B) : Y.cell? ⟨b, o, none⟩ = some v := by
  unfold World.cell? at hv ⊢
  cases hX : X.heap[b]? with
  | none => simp [hX] at hv
  | some ob =>
    cases ob <;> simp [hX] at hv
    rw [h.same b _ h1 (.inl hB) hX rfl]; simpa using hv
theorem TabAt.keepX {α : Type} [Inhabited α] {k : Nat} {f : α → Nat → Int} {w w' : World} {a : Option Addr} {n c : Nat} {L : List α} (h : TabAt k f w (.slice a n c) L) (hk : KeepX B t E w w') (he : ∀ b off, a = some ⟨b, off, none⟩ → ¬ E b ∧ b < B) : TabAt k f w' (.slice a n c) L := by
  obtain ⟨hl, ⟨rfl, h⟩ | ⟨b, off, cap, e, h1, h2, h3, h4⟩⟩ := h
  · exact ⟨hl, .inl ⟨rfl, h⟩⟩
  · simp only [Value.slice.injEq] at e
    obtain ⟨e1, e2, e3⟩ := e
    refine ⟨hl, .inr ⟨b, off, cap, by rw [e1, e2, e3], h1, h2, Nat.lt_of_lt_of_le h3 hk.size, fun i hi j hj => hk.cell (h4 i hi j hj) (he b off e1).1 (he b off e1).2⟩⟩
end
set_option maxRecDepth 100000 in
set_option maxHeartbeats 6400000 in
theorem pipesX_in (B0 : Nat) (n : Nat) (hn : 1 ≤ n) (q Bd : Nat) (l : List Pi) (hok : lineOk l = true) (a : Option Addr) (c : Nat) (E : Nat → Prop) (J Jx : List Nat → World → Prop)
    (e1 : ¬ E Bd) (e2 : ∀ b off, a = some ⟨b, off, none⟩ → ¬ E b ∧ b < B0) (W : World) (e3 : ∀ k, E k → k < W.heap.size) (hM : LMem Bd l a c W) (hJ : AbidesFrom W.heap.size J)
    (hY : ∀ pre x W1, J pre W1 → pre.length < l.length → YieldAt Fence.wide (n - 1) Try.prog q (encL l x) W1 fun e W' =>
      (e = .returned (.bool true) ∧ J (pre ++ [x]) W' ∧ KeepX B0 49 E W1 W') ∨ (e = .returned (.bool false) ∧ Jx (pre ++ [x]) W'))
    (h0 : J [] W) :
    CallsIn Fence.wide n Try.prog 66 #[.func (.yield q) #[] #[], .pointer (some ⟨Bd, 0, none⟩)] W fun e W' => (∃ v, e = .returned v) ∧
      ((∃ ys, ys = List.range l.length ∧ J ys W') ∨ (∃ pre, pre <+: List.range l.length ∧ Jx pre W')) := by
  have y0 := one_cell hM.bd
  have ml : l.length ≤ 9223372036854775807 := hM.tb.1
  obtain ⟨hl1, hl8⟩ := line_few hok
  have HM := Lib.hid hM
  have HY := Lib.hid hY
  have E1 := Lib.hid e1
  have E2 := Lib.hid e2
  have E3 := Lib.hid e3
  have HOK := Lib.hid hok
  clear hY hM e1 e2 e3 hok
  refine callsIn_of_wp Try.func66 rfl trivial ?_ rfl
  simp only [Try.ntmps66, List.size_toArray, List.length_cons, List.length_nil, Nat.reduceAdd, Nat.reduceSub, Array.replicate_succ, Array.replicate_zero, List.push_toArray, List.append_toArray, List.nil_append, List.cons_append]
  gi_wp2
  gi_loopw [3, 9] (fun b i wr => ∃ k : Nat, k ≤ l.length ∧ i = .int .i64 k ∧ b = .int .i64 (posF l k) ∧ KeepX B0 49 E W wr ∧ J (List.range k) wr) (fun _ i _ => l.length - (intOf i).toNat)
  case atStart => exact ⟨0, by omega, rfl, rfl, KeepX.refl _, h0⟩
  case round =>
    obtain ⟨k, hk, rfl, rfl, hK, hJk⟩ := hrel
    by_cases hlt : k < l.length
    · have hlt' : (k : Int) < (l.length : Int) := by omega
      have htb := HM.out.tb.keepX hK E2.out
      obtain ⟨lb, lo, e1, hlb, hlx⟩ := htb.at (by omega)
      subst e1
      have x0 := hlx k hlt 0 (by omega)
      have x1 := hlx k hlt 1 (by omega)
      have x2 := hlx k hlt 2 (by omega)
      have hps : posF l (k + 1) = posF l k + (l.getD k default).len := rfl
      have hpi := pos_small HOK.out (i := k) (by omega)
      have hpi1 := pos_small HOK.out (i := k + 1) (by omega)
      obtain ⟨⟨t0, t1, t2⟩, hrow⟩ : ∃ x : Pi, l.getD k default = x := ⟨_, rfl⟩
      rw [hrow] at x0 x1 x2 hps
      simp only [Nat.add_zero, piC] at x0 x1 x2 hps
      obtain ⟨p, hp⟩ : ∃ p, posF l k = p := ⟨_, rfl⟩
      obtain ⟨p1, hp1⟩ : ∃ p, posF l (k + 1) = p := ⟨_, rfl⟩
      rw [hp, hp1] at hps
      rw [hp] at hpi ⊢
      rw [hp1] at hpi1
      have w1 : IntKind.i64.wrap (p + t0) = p1 := by rw [← hps]; exact IntWalk.i64_in _ (by omega)
      have w2 : IntKind.i64.wrap ((k : Int) + 1) = (k : Int) + 1 := IntWalk.i64_in _ (by omega)
      obtain ⟨W1, hW1⟩ : ∃ X, X = (wr.alloc (.cells #[.int .i64 t0, .int .i64 t1, .int .i64 t2] 59)).alloc (.cells #[.int .i64 p, .int .i64 p1] 24) := ⟨_, rfl⟩
      have hal : W1 = al wr [(.cells #[.int .i64 t0, .int .i64 t1, .int .i64 t2] 59), (.cells #[.int .i64 p, .int .i64 p1] 24)] := hW1
      have hb1 : Below wr.heap.size wr W1 := by rw [hal]; exact al_below wr _ (Nat.le_refl _)
      have hr1 : W1.heap[wr.heap.size + 1]? = some (.cells #[.int .i64 p, .int .i64 p1] 24 (0, 0)) := by rw [hal]; exact al_get wr _ 1 _ rfl
      have hr0 : W1.heap[wr.heap.size]? = some (.cells #[.int .i64 t0, .int .i64 t1, .int .i64 t2] 59 (0, 0)) := by rw [hal]; exact al_get wr _ 0 _ rfl
      have hJ1 := abides_below hJ hJk hb1
      have hnE : ¬ E (wr.heap.size + 1) := fun h => by have := E3.out _ h; have := hK.size; omega
      have HK1 := Lib.hid (hK.trans (.of_below hb1))
      have HR1 := Lib.hid hr1
      have HNE := Lib.hid hnE
      obtain ⟨fn, tmps, assign, body, hy', hR⟩ := HY.out _ k _ hJ1 (by simpa using hlt)
      unfold encL at hy'
      rw [clN_same hlt, hp, hp1] at hy'
      rw [← List.range_succ] at hR
      have Hr := Lib.hid hR
      have HP1 := Lib.hid hp1
      obtain ⟨d0, d1, d2⟩ := three_cells hr0
      obtain ⟨g0, g1⟩ := two_cells hr1
      clear hR hJ1 hnE hb1 hr0 hr1 hal hlx hrow hps hp hpi hpi1 htb hlb hK hJk hp1
      rw [hW1] at hy'
      gi_wp2
      rw [← hW1]
      clear hy'
      obtain ⟨B, hB⟩ : ∃ B, wr.heap.size + 1 = B := ⟨_, rfl⟩
      rw [hB] at g0 g1 HR1 HNE ⊢
      clear hW1 hB d0 d1 d2 x0 x1 x2
      refine Hr.out.mono ?_
      rintro e W3 (⟨rfl, hJ3, hk3⟩ | ⟨rfl, hJx3⟩)
      · have hr3 := hk3.block HR1.out HNE.out (by decide)
        obtain ⟨g0', g1'⟩ := two_cells hr3
        have HK3 := Lib.hid (HK1.out.trans hk3)
        clear hk3 hr3 g0 g1
        gi_wp2
        go_roundw
        case rel => exact ⟨k + 1, by omega, by go_num, by rw [HP1.out], HK3.out, hJ3⟩
        case measure => simp [intOf]; omega
      · clear g0 g1
        gi_wp2
        refine bodyPost_ret (results_none rfl _ _ _) rfl ?_
        exact ⟨⟨_, rfl⟩, .inr ⟨_, range_pre (by omega), hJx3⟩⟩
    · have hkl : k = l.length := by omega
      have hge : ¬ (k : Int) < (l.length : Int) := by omega
      have HJ2 := Lib.hid (show J (List.range l.length) wr by rw [← hkl]; exact hJk)
      clear hkl hJk
      gi_wp2
      go_end0
      exact ⟨⟨_, rfl⟩, .inl HJ2.out⟩
theorem pipesX_stops (B0 : Nat) (n : Nat) (hn : 1 ≤ n) (Bd : Nat) (l : List Pi) (hok : lineOk l = true) (a : Option Addr) (c : Nat) (E : Nat → Prop) (e1 : ¬ E Bd) (e2 : ∀ b off, a = some ⟨b, off, none⟩ → ¬ E b ∧ b < B0) (w : World) (e3 : ∀ k, E k → k < w.heap.size) (hM : LMem Bd l a c w) :
    SeqStopsK Fence.wide n Try.prog 66 #[.pointer (some ⟨Bd, 0, none⟩)] (encL l) (KeepX B0 49 E) (fun xs => xs = List.range l.length) (fun pre => pre <+: List.range l.length) l.length w := by
  intro q J Jx W hb hJ _ hY h0
  exact pipesX_in B0 n hn q Bd l hok a c E J Jx e1 e2 W (fun k hk => Nat.lt_of_lt_of_le (e3 k hk) hb.size) (hM.below hb) hJ hY h0
end Go.Proofs.Ytdbjifpnbghbaaa
