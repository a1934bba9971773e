/- The reference's lists of trains: plain lists, and how they lie in memory. -/
import Derived.Test.YtoiapnokgpeipaaF2
namespace Go.Proofs.Ytoiapnokgpeipaa
set_option linter.unusedSimpArgs false
open Go.RowKit Go.Maps

theorem Try.info25 : (Try.prog.info? 25).map (fun i => (i.zero, i.size, i.bytes)) = some (some (.slice none 0 0), 1, 24) := by kernel_rfl

def okStep (B : List (Int × Int)) (p : Int × Int) : Bool := B.isEmpty || !pl p (B.getD (B.length - 1) (0, 0))
def listsP (T : List Int) : Nat → List (Int × Int) → List (List (Int × Int))
  | 0, B => [B]
  | n + 1, B => B :: T.flatMap (fun x => T.flatMap (fun y => if okStep B (x, y) then listsP T n (B ++ [(x, y)]) else []))
/-- what one row of the inner loop adds -/
def rowP (T : List Int) (n : Nat) (B : List (Int × Int)) (x : Int) (k : Nat) : List (List (Int × Int)) := (T.take k).flatMap (fun y => if okStep B (x, y) then listsP T n (B ++ [(x, y)]) else [])
def rowsP (T : List Int) (n : Nat) (B : List (Int × Int)) (i : Nat) : List (List (Int × Int)) := (T.take i).flatMap (fun x => rowP T n B x T.length)
theorem listsP_succ (T : List Int) (n : Nat) (B : List (Int × Int)) : listsP T (n + 1) B = B :: rowsP T n B T.length := by
  unfold rowsP rowP
  rw [List.take_length]
  rfl
theorem rowP_zero (T : List Int) (n : Nat) (B : List (Int × Int)) (x : Int) : rowP T n B x 0 = [] := rfl
theorem rowsP_zero (T : List Int) (n : Nat) (B : List (Int × Int)) : rowsP T n B 0 = [] := rfl
theorem rowP_succ (T : List Int) (n : Nat) (B : List (Int × Int)) (x : Int) (k : Nat) (h : k < T.length) :
    rowP T n B x (k + 1) = rowP T n B x k ++ (if okStep B (x, T.getD k 0) then listsP T n (B ++ [(x, T.getD k 0)]) else []) := by
  unfold rowP
  rw [List.take_succ_eq_append_getElem h, List.flatMap_append]
  simp [List.getD, h]
theorem rowsP_succ (T : List Int) (n : Nat) (B : List (Int × Int)) (i : Nat) (h : i < T.length) : rowsP T n B (i + 1) = rowsP T n B i ++ rowP T n B (T.getD i 0) T.length := by
  unfold rowsP
  rw [List.take_succ_eq_append_getElem h, List.flatMap_append]
  simp [List.getD, h]
/-- how many lists there are at most, with at most four kinds -/
def cN : Nat → Nat
  | 0 => 1
  | n + 1 => 1 + 16 * cN n
theorem cN_pos : ∀ n, 1 ≤ cN n
  | 0 => by simp [cN]
  | n + 1 => by simp [cN]
theorem rowP_len {T : List Int} {n : Nat} {B : List (Int × Int)} {x : Int} (hT : ∀ B, (listsP T n B).length ≤ cN n) : ∀ k, k ≤ T.length → (rowP T n B x k).length ≤ k * cN n
  | 0, _ => by simp [rowP]
  | k + 1, h => by
    have := rowP_len (B := B) (x := x) hT k (by omega)
    rw [rowP_succ T n B x k (by omega), List.length_append, Nat.succ_mul]
    split
    · have := hT (B ++ [(x, T.getD k 0)]); omega
    · simp; omega
theorem rowsP_len {T : List Int} {n : Nat} {B : List (Int × Int)} (hT : ∀ B, (listsP T n B).length ≤ cN n) (h4 : T.length ≤ 4) : ∀ i, i ≤ T.length → (rowsP T n B i).length ≤ i * (4 * cN n)
  | 0, _ => by simp [rowsP]
  | i + 1, h => by
    have h1 := rowsP_len (B := B) hT h4 i (by omega)
    have h2 := rowP_len (B := B) (x := T.getD i 0) hT T.length (Nat.le_refl _)
    have h3 : T.length * cN n ≤ 4 * cN n := Nat.mul_le_mul_right _ h4
    rw [rowsP_succ T n B i (by omega), List.length_append, Nat.succ_mul]
    omega
theorem listsP_len {T : List Int} (h4 : T.length ≤ 4) : ∀ n B, (listsP T n B).length ≤ cN n
  | 0, B => by simp [listsP, cN]
  | n + 1, B => by
    have h1 := rowsP_len (B := B) (listsP_len h4 n) h4 T.length (Nat.le_refl _)
    have h3 : T.length * (4 * cN n) ≤ 4 * (4 * cN n) := Nat.mul_le_mul_right _ h4
    rw [listsP_succ, List.length_cons]
    unfold cN
    omega
theorem part_len {T : List Int} (h4 : T.length ≤ 4) {n : Nat} {B : List (Int × Int)} {x : Int} {i k : Nat} (hi : i < T.length) (hk : k < T.length) : (rowsP T n B i).length + (rowP T n B x k).length + cN n ≤ 16 * cN n := by
  have h1 := rowsP_len (B := B) (listsP_len h4 n) h4 i (by omega)
  have h2 := rowP_len (B := B) (x := x) (listsP_len h4 n) k (by omega)
  have h3 : i * (4 * cN n) ≤ 3 * (4 * cN n) := Nat.mul_le_mul_right _ (by omega)
  have h5 : k * cN n ≤ 3 * cN n := Nat.mul_le_mul_right _ (by omega)
  omega

/-- what was there below a bound, and all rows of pairs, is as it was -/
def Keep (base : Nat) (w w' : World) : Prop := Below base w w' ∧ ∀ (b : Nat) cs, w.heap[b]? = some (.cells cs 49 (0, 0)) → w'.heap[b]? = some (.cells cs 49 (0, 0))
theorem Keep.refl (base : Nat) (w : World) : Keep base w w := ⟨Below.refl _ _, fun _ _ h => h⟩
theorem Keep.trans {base : Nat} {a b c : World} (h : Keep base a b) (k : Keep base b c) : Keep base a c := ⟨h.1.trans k.1, fun j cs e => k.2 j cs (h.2 j cs e)⟩
theorem Keep.below {base : Nat} {w w' : World} (h : Below w.heap.size w w') (hb : base ≤ w.heap.size) : Keep base w w' :=
  ⟨h.mono hb, fun b _ e => (h.block b (Array.getElem?_eq_some_iff.1 e).1).trans e⟩
theorem Keep.grown {base : Nat} {w w' : World} {row : Option Nat} (h : w.grownBy w' row) (hb : base ≤ w.heap.size) (hr : ∀ q, row = some q → base ≤ q ∧ ∃ cs t f, w.heap[q]? = some (.cells cs t f) ∧ t ≠ 49) : Keep base w w' := by
  refine ⟨(Below.refl _ _).grown h hb (fun q e => (hr q e).1), fun b cs e => (h.block b (Array.getElem?_eq_some_iff.1 e).1 fun e2 => ?_).trans e⟩
  obtain ⟨_, cs', t, f, e3, h49⟩ := hr b e2.symm
  rw [e] at e3
  simp only [Option.some.injEq, Obj.cells.injEq] at e3
  exact h49 e3.2.1.symm
/-- a row of pairs in a block of its own kind -/
def PairRow (w : World) (x : Value) (B : List (Int × Int)) : Prop := WheelsAt w x B ∧ ∀ b off n c, x = .slice (some ⟨b, off, none⟩) n c → B ≠ [] → ∃ cs, w.heap[b]? = some (.cells cs 49 (0, 0))
theorem PairRow.keep {base : Nat} {w w' : World} {x : Value} {B : List (Int × Int)} (h : PairRow w x B) (k : Keep base w w') : PairRow w' x B := by
  obtain ⟨⟨hl, ⟨rfl, a, c, rfl⟩ | ⟨b, off, cap, rfl, h1, h2, h3, h4⟩⟩, ht⟩ := h
  · exact ⟨⟨hl, .inl ⟨rfl, a, c, rfl⟩⟩, fun _ _ _ _ _ hB => absurd rfl hB⟩
  · by_cases hB : B = []
    · subst hB
      exact ⟨⟨hl, .inl ⟨rfl, _, _, rfl⟩⟩, fun _ _ _ _ _ hB => absurd rfl hB⟩
    · obtain ⟨cs, hcs⟩ := ht b off _ _ rfl hB
      have hcs' := k.2 b cs hcs
      have e : w'.heap[b]? = w.heap[b]? := hcs'.trans hcs.symm
      refine ⟨⟨hl, .inr ⟨b, off, cap, rfl, h1, h2, (Array.getElem?_eq_some_iff.1 hcs').1, fun i hi => ⟨(World.cell?_of_block (a := ⟨b, _, none⟩) e).trans (h4 i hi).1, (World.cell?_of_block (a := ⟨b, _, none⟩) e).trans (h4 i hi).2⟩⟩⟩, fun b' off' n' c' e' _ => ?_⟩
      simp only [Value.slice.injEq, Option.some.injEq, Addr.mk.injEq] at e'
      obtain ⟨⟨rfl, _⟩, _⟩ := e'
      exact ⟨cs, hcs'⟩
def RowsAt (w : World) (xs : List Value) (L : List (List (Int × Int))) : Prop := xs.length = L.length ∧ ∀ i, i < L.length → PairRow w (xs.getD i (.slice none 0 0)) (L.getD i [])
theorem RowsAt.keep {base : Nat} {w w' : World} {xs : List Value} {L : List (List (Int × Int))} (h : RowsAt w xs L) (k : Keep base w w') : RowsAt w' xs L := ⟨h.1, fun i hi => (h.2 i hi).keep k⟩
theorem RowsAt.snoc {w : World} {xs : List Value} {L : List (List (Int × Int))} {x : Value} {B : List (Int × Int)} (h : RowsAt w xs L) (hx : PairRow w x B) : RowsAt w (xs ++ [x]) (L ++ [B]) := by
  refine ⟨by simp [h.1], fun i hi => ?_⟩
  rw [List.length_append, List.length_singleton] at hi
  by_cases e : i < L.length
  · have e2 : i < xs.length := by rw [h.1]; exact e
    have := h.2 i e
    simpa [List.getD, List.getElem?_append, e, e2] using this
  · obtain rfl : i = L.length := by omega
    have : (xs ++ [x]).getD L.length (.slice none 0 0) = x := by rw [← h.1]; simp [List.getD]
    rw [this]
    simpa [List.getD] using hx
/-- the list of lists, as the reference builds it -/
def OutAt (base : Nat) (w0 w : World) (v : Value) (M : List (List (Int × Int))) : Prop := ∃ xs, w.ownsRow base 25 1 v M.length xs ∧ RowsAt w xs M ∧ Keep base w0 w
theorem own25 {w : World} {base n : Nat} {v : Value} {xs : List Value} (h : w.ownsRow base 25 1 v n xs) : ∀ q, v.ownBlock = some q → base ≤ q ∧ ∃ cs t f, w.heap[q]? = some (.cells cs t f) ∧ t ≠ 49 := by
  intro q hq
  rcases h.2 with ⟨rfl, _⟩ | ⟨g, cap, cur, rfl, h1, h2, _⟩
  · simp [Value.ownBlock] at hq
  · simp only [Value.ownBlock, Option.some.injEq] at hq
    subst hq
    exact ⟨h1, cur, 25, (0, 0), h2, by decide⟩
theorem OutAt.shape {base : Nat} {w0 w : World} {v : Value} {M : List (List (Int × Int))} (h : OutAt base w0 w v M) : ∃ a c, v = .slice a M.length c := by
  obtain ⟨xs, h1, _, _⟩ := h
  rcases h1.2 with ⟨rfl, hn⟩ | ⟨g, cap, cur, rfl, _⟩
  · rw [hn]; exact ⟨_, _, rfl⟩
  · exact ⟨_, _, rfl⟩
/-- blocks that are new, or kept, keep it -/
theorem OutAt.below {base : Nat} {w0 w w' : World} {v : Value} {M : List (List (Int × Int))} (h : OutAt base w0 w v M) (hb : Below w.heap.size w w') (hbase : base ≤ w.heap.size) : OutAt base w0 w' v M := by
  obtain ⟨xs, h1, h2, h3⟩ := h
  have k := Keep.below hb hbase
  refine ⟨xs, ⟨h1.1, ?_⟩, h2.keep k, h3.trans k⟩
  rcases h1.2 with h | ⟨g, cap, cur, rfl, g1, g2, g3⟩
  · exact .inl h
  · exact .inr ⟨g, cap, cur, rfl, g1, (hb.block g (Array.getElem?_eq_some_iff.1 g2).1).trans g2, g3⟩
end Go.Proofs.Ytoiapnokgpeipaa

/- lists: all lists of pairs, as the reference builds them. -/
namespace Go.Proofs.Ytoiapnokgpeipaa
set_option linter.unusedSimpArgs false
open Go.RowKit Go.Maps

def ListsRes (S : List (Int × Int)) (n : Nat) (B : List (Int × Int)) (L : List (List (Int × Int))) (base : Nat) (w0 w : World) (e : Ending) (w' : World) : Prop := ∃ ov', e = .returned ov' ∧ OutAt base w0 w' ov' (L ++ listsP (S.map (·.1)) n B) ∧ Keep base w w'
/-- the first thing that lists does: begin is put behind what there is -/
theorem put_begin {wb w0 w : World} {ov bv : Value} {L : List (List (Int × Int))} {B : List (Int × Int)} (hout : OutAt wb.heap.size w0 w ov L) (hB : PairRow w bv B) (hbase : wb.heap.size ≤ w.heap.size) (hlen : L.length + 1 ≤ 1000000) {ty : TypeId} :
    ∃ v' w', (Builtin.append_ #[115, 115] ty #[ov, .slice (some ⟨w.heap.size, 0, none⟩) 1 1]).run Try.prog (w.alloc (.cells #[bv] 25)) = .ok v' w' ∧ OutAt wb.heap.size w0 w' v' (L ++ [B]) ∧ Keep wb.heap.size w w' := by
  obtain ⟨j0, hji, hz0, hz1, hz2⟩ := info_parts Try.info25
  obtain ⟨xs, h1, h2, h3⟩ := hout
  have hb : Below w.heap.size w (w.alloc (.cells #[bv] 25)) := (Below.refl _ _).alloc (Nat.le_refl _) _
  have k := Keep.below hb hbase
  obtain ⟨xs', h1', h2', h3'⟩ := OutAt.below (M := L) ⟨xs, h1, h2, h3⟩ hb hbase
  have hc : (w.alloc (.cells #[bv] 25)).cell? ⟨w.heap.size, 0, none⟩ = some bv := by
    have := (MapKept.heap_alloc w (.cells #[bv] 25)).1
    unfold World.cell?; rw [this]; rfl
  obtain ⟨a, c, rfl⟩ := hB.1.shape
  obtain ⟨v', w', hr, q1, q2, _, _⟩ := run_append_own_at (P := Try.prog) (w.alloc (.cells #[.slice a B.length c] 25)) wb.heap.size 115 ty 25 j0 (.slice none 0 0) 1 24 Try.underlying115 hji hz0 hz1 hz2 rfl (by decide) ov L.length xs' h1' ⟨w.heap.size, 0, none⟩ 1 1 [.slice a B.length c] (by simp)
    (by intro j u hj; match j, hj with | 0, hj => simp at hj; rw [← hj]; exact hc | j + 1, hj => simp at hj) (by intro u hu; simp at hu; rw [hu]; rfl) (by unfold maxLen; omega) (by omega) (by simp; omega)
  have k2 := Keep.grown q2 (by simp; omega) (own25 h1')
  refine ⟨v', w', hr, ⟨_, by simpa using q1, (h2'.keep k2).snoc ((hB.keep k).keep k2), h3'.trans k2⟩, k.trans k2⟩
theorem wpList_append_run {ops : Array Oper} {rest : List Oper} {o : Oper} {a : Act} {w : World} {Q : Exit → Act → World → Prop} (hgd : o.guard = none) (s x : Operand) (t : TypeId) (ho : o.op = .call { callee := .builtin .append, args := #[s, x], argTypes := #[t, t] }) {v u v' : Value} {w' : World}
    (hs : a.eval s = v) (hx : a.eval x = u) (hr : (Builtin.append_ #[t, t] o.type #[v, u]).run Try.prog w = .ok v' w') (h : wpList Try.prog ops Q rest (a.put o.dst v') w') : wpList Try.prog ops Q (o :: rest) a w :=
  wpList_plain hgd fun K hK => by
    unfold Oper.wp execOp
    simp only [ho, resolve, invoke, builtin, Sem.run_bind, Sem.run_pure, Result.andThen_ok, List.map_toArray, List.map_cons, List.map_nil, hs, hx, hr]
    exact hK _ _ h
theorem news_two {X : World} {q : Nat} {x y : Int} (h : X.heap[q]? = some (.cells #[.int .i64 x, .int .i64 y] 49)) : ∀ (j : Nat) u, ([.int .i64 x, .int .i64 y] : List Value)[j]? = some u → X.cell? ((⟨q, 0, none⟩ : Addr).add j) = some u := by
  obtain ⟨c0, c1⟩ := plcells h
  intro j u hj
  rw [Addr.add_lit]
  match j, hj with
  | 0, hj => simp at hj; rw [← hj]; exact c0
  | 1, hj => simp at hj; rw [← hj]; exact c1
  | j + 2, hj => simp at hj
theorem own_below {base e size n : Nat} {w w' : World} {v : Value} {xs : List Value} (h : w.ownsRow base e size v n xs) (hb : Below w.heap.size w w') : w'.ownsRow base e size v n xs := by
  refine ⟨h.1, ?_⟩
  rcases h.2 with h | ⟨g, cap, cur, rfl, g1, g2, g3⟩
  · exact .inl h
  · exact .inr ⟨g, cap, cur, rfl, g1, (hb.block g (Array.getElem?_eq_some_iff.1 g2).1).trans g2, g3⟩
theorem pair_own {base : Nat} {w : World} {v : Value} {B : List (Int × Int)} (h : w.ownsRow base 49 2 v B.length ((usedP B).map (Value.int .i64))) (hl : B.length ≤ 1000) : PairRow w v B ∧ NilOk v := by
  refine ⟨⟨wheels_own h hl, fun b off n c e hB => ?_⟩, fun n c e => ?_⟩
  · rcases h.2 with ⟨rfl, hn⟩ | ⟨g, cap, cur, rfl, h1, h2, _⟩
    · simp at e
    · simp only [Value.slice.injEq, Option.some.injEq, Addr.mk.injEq] at e
      obtain ⟨⟨rfl, _⟩, _⟩ := e
      exact ⟨cur, h2⟩
  · rcases h.2 with ⟨rfl, hn⟩ | ⟨g, cap, cur, rfl, h1, h2, _⟩
    · simp at e; exact ⟨e.1.symm, e.2.symm⟩
    · simp at e
theorem used_snoc (B : List (Int × Int)) (x y : Int) : ((usedP B).map (Value.int .i64)) ++ [.int .i64 x, .int .i64 y] = (usedP (B ++ [(x, y)])).map (Value.int .i64) := by
  unfold usedP; simp
def ListsAny (S : List (Int × Int)) (sv : Value) (wb : World) (n : Nat) : Prop := ∀ (z : Int) (B : List (Int × Int)) (bv : Value) (L : List (List (Int × Int))) (ov : Value) (w0 w : World), z = n → Below wb.heap.size wb w → PairRow w bv B → NilOk bv → B.length + n ≤ 3 → OutAt wb.heap.size w0 w ov L → L.length + cN n ≤ 1000000 →
  Calls Try.prog 70 #[sv, .int .i64 z, bv, ov] w (ListsRes S n B L wb.heap.size w0 w)

set_option maxRecDepth 100000 in
set_option maxHeartbeats 1600000 in
theorem lists_zero (S : List (Int × Int)) (sv : Value) (wb : World) (hS : WheelsAt wb sv S) : ListsAny S sv wb 0 := by
  intro z B bv L ov w0 w hz hbw hB hnil hlen hout hcn
  have d0 : (z == 0) = true := by simp [hz]
  obtain ⟨v', w', hr, hout', hk⟩ := put_begin (ty := 115) hout hB hbw.size (by have := cN_pos 0; omega)
  obtain ⟨ba, bc, rfl⟩ := hB.1.shape
  obtain ⟨oa, oc, rfl⟩ := hout.shape
  obtain ⟨sa, sc, rfl⟩ := hS.shape
  clear hz hB hout hS
  have HR := Lib.hid hr
  clear hr
  go_enter Try.func70, Try.ntmps70
  go_wp2_with (at_builtin; refine wpList_append_run rfl (.tmp 12) (.tmp 14) 115 rfl rfl rfl HR.out ?_)
  go_ret
  exact ⟨v', rfl, hout', hk⟩

set_option maxRecDepth 100000 in
set_option maxHeartbeats 6400000 in
theorem lists_succ (S : List (Int × Int)) (sv : Value) (wb : World) (hS : WheelsAt wb sv S) (h4 : S.length ≤ 4) (n : Nat) (ih : ListsAny S sv wb n) : ListsAny S sv wb (n + 1) := by
  intro z B bv L ov w0 w hz hbw hB hnil hlen hout hcn
  have d0 : (z == 0) = false := by rw [beq_eq_false_iff_ne]; omega
  have hz1 : 1 ≤ z := by omega
  have hz3 : z ≤ 3 := by omega
  have hz' : z - 1 = (n : Int) := by omega
  obtain ⟨v', w', hr, hout', hk⟩ := put_begin (ty := 115) hout hB hbw.size (by have := cN_pos (n + 1); omega)
  obtain ⟨ba, bc, rfl⟩ := hB.1.shape
  obtain ⟨oa, oc, rfl⟩ := hout.shape
  obtain ⟨sa, sc, rfl⟩ := hS.shape
  obtain ⟨j0, hj, hj0, hj1, hj2⟩ := info_parts Try.info49
  have hB' := hB.keep hk
  have hbw' := hbw.trans hk.1
  have HZ := Lib.hid hz'
  have hTl : (S.map (·.1)).length = S.length := by simp
  obtain ⟨TT, hTT⟩ : ∃ TT, TT = S.map (·.1) := ⟨_, rfl⟩
  rw [← hTT] at hTl
  have HTT := Lib.hid hTT
  have HTL := Lib.hid hTl
  have HR := Lib.hid hr
  have HS := Lib.hid hS
  have HI := Lib.hid ih
  have HCN := Lib.hid hcn
  have HLEN := Lib.hid hlen
  clear hz hB hout hS hr hz' hTT hTl ih hcn hbw hlen
  go_enter Try.func70, Try.ntmps70
  go_wp2_with (at_builtin; refine wpList_append_run rfl (.tmp 12) (.tmp 14) 115 rfl rfl rfl HR.out ?_)
  have HB := Lib.hid hB'
  clear HR hB'
  go_loopw [3, 9] (fun ov' c wr => ∃ i : Nat, i ≤ S.length ∧ c = .int .i64 i ∧ OutAt wb.heap.size w0 wr ov' (L ++ [B] ++ rowsP TT n B i) ∧ Keep wb.heap.size w' wr) (fun _ c _ => S.length - (intOf c).toNat)
  case atStart => exact ⟨0, by omega, rfl, by rw [rowsP_zero, List.append_nil]; exact hout', Keep.refl _ _⟩
  case round =>
    obtain ⟨i, hi, rfl, hout1, hk1⟩ := hrel
    by_cases hil : i < S.length
    · have i1 : (0 : Int) ≤ (i : Int) := by omega
      have i2 : (i : Int) < (S.length : Int) := by omega
      go_wp2_with fail
      obtain ⟨wo, hwo⟩ : ∃ wo : World, wo = wr := ⟨_, rfl⟩
      subst hwo
      obtain ⟨x, hx⟩ : ∃ x, x = TT.getD i 0 := ⟨_, rfl⟩
      have HX := Lib.hid hx
      have HO := Lib.hid hout1
      have HK1 := Lib.hid hk1
      clear hx hout1 hk1
      go_loopw [3, 10] (fun ov' c wr => ∃ k : Nat, k ≤ S.length ∧ c = .int .i64 k ∧ OutAt wb.heap.size w0 wr ov' (L ++ [B] ++ rowsP TT n B i ++ rowP TT n B x k) ∧ Keep wb.heap.size w' wr) (fun _ c _ => S.length - (intOf c).toNat)
      case atStart => exact ⟨0, by omega, rfl, by rw [rowP_zero, List.append_nil]; exact HO.out, HK1.out⟩
      case round =>
        obtain ⟨k, hk, rfl, hout2, hk2⟩ := hrel
        by_cases hkl : k < S.length
        · have k1 : (0 : Int) ≤ (k : Int) := by omega
          have k2 : (k : Int) < (S.length : Int) := by omega
          have hbr := hbw'.trans hk2.1
          obtain ⟨sb, so, e0, _, _, _, _, hsc⟩ := (HS.out.below hbr).at rfl (by omega)
          subst e0
          have ci := (hsc i hil).1
          have ck := (hsc k hkl).1
          obtain ⟨y, hy⟩ : ∃ y, y = TT.getD k 0 := ⟨_, rfl⟩
          have ei : (S.getD i (0, 0)).1 = x := by rw [HX.out, HTT.out]; simp [List.getD, hil]
          have ek : (S.getD k (0, 0)).1 = y := by rw [hy, HTT.out]; simp [List.getD, hkl]
          rw [ei] at ci
          rw [ek] at ck
          have hsb : sb < wr.heap.size := World.block_lt_of_cell? wr ⟨sb, so + i * 2, none⟩ ci
          have ui : ∀ A : Obj, (wr.alloc A).cell? ⟨sb, so + i * 2, none⟩ = some (.int .i64 x) := fun A => (Below.cell ((Below.refl _ _).alloc (Nat.le_refl _) _) (p := ⟨sb, so + i * 2, none⟩) hsb).trans ci
          have uk : ∀ A : Obj, (wr.alloc A).cell? ⟨sb, so + k * 2, none⟩ = some (.int .i64 y) := fun A => (Below.cell ((Below.refl _ _).alloc (Nat.le_refl _) _) (p := ⟨sb, so + k * 2, none⟩) hsb).trans ck
          have HY := Lib.hid hy
          have HO2 := Lib.hid hout2
          clear hsc ei ek hy hout2
          go_wp2_with fail
          go_region
          go_upto_region 11 with fail
          obtain ⟨E, hE⟩ : ∃ E, E = wr.heap.size := ⟨_, rfl⟩
          obtain ⟨X1, hX1⟩ : ∃ X, X = (wr.alloc (.cells #[.int .i64 x, .int .i64 y] 49)).drew := ⟨_, rfl⟩
          have hbX1 : Below wr.heap.size wr X1 := by rw [hX1]; exact ((Below.refl _ _).alloc (Nat.le_refl _) _).drew
          have hE1 : X1.heap[E]? = some (.cells #[.int .i64 x, .int .i64 y] 49) := by rw [hX1, hE]; exact (MapKept.heap_alloc wr _).1
          have hzE : E < X1.heap.size := by rw [hX1, hE]; simp
          rw [← hX1, ← hE]
          have hwr : wb.heap.size ≤ wr.heap.size := hbr.size
          have hbX1w : Below wb.heap.size wr X1 := hbX1.mono hwr
          have hw1 : wb.heap.size ≤ X1.heap.size := Nat.le_trans hwr hbX1.size
          replace hk2 := hk2.trans (Keep.below hbX1 hwr)
          have HO3 := Lib.hid (HO2.out.below hbX1 hwr)
          have HKX := Lib.hid hk2
          clear hX1 hE ci ck ui uk hbX1 HO2 hk2 hsb
          have hBX := HB.out.keep HKX.out
          go_cut [55] (fun v wx => v = .bool (okStep B (x, y)) ∧ Below X1.heap.size X1 wx ∧ wx.heap[E]? = some (.cells #[.int .i64 x, .int .i64 y] 49))
          case first =>
            by_cases hB0 : B.length = 0
            · have b0 : ((B.length : Int) == 0) = true := by rw [beq_iff_eq]; omega
              have hok : okStep B (x, y) = true := by obtain rfl : B = [] := List.length_eq_zero_iff.1 hB0; rfl
              have HOK := Lib.hid hok
              clear hok hB0
              go_quiet (fail)
              go_wp2_with fail
              go_meet
              exact ⟨by rw [HOK.out], below_drewN' (Below.refl _ _) _, hE1⟩
            · have b0 : ((B.length : Int) == 0) = false := by rw [beq_eq_false_iff_ne]; omega
              obtain ⟨bb, bo, e0, _, _, _, hblt, hbc⟩ := hBX.1.at rfl (by omega)
              subst e0
              obtain ⟨l1, hl1⟩ : ∃ l, l = (B.getD (B.length - 1) (0, 0)).1 := ⟨_, rfl⟩
              obtain ⟨l2, hl2⟩ : ∃ l, l = (B.getD (B.length - 1) (0, 0)).2 := ⟨_, rfl⟩
              have c1 := (hbc (B.length - 1) (by omega)).1
              have c2 := (hbc (B.length - 1) (by omega)).2
              rw [← hl1] at c1
              rw [← hl2] at c2
              have hok : okStep B (x, y) = !pl (x, y) (l1, l2) := by
                have e : B.isEmpty = false := by cases B <;> simp at hB0 ⊢
                unfold okStep; rw [e, hl1, hl2]; rfl
              have e1 : IntKind.i64.wrap ((B.length : Int) - 1) = (B.length : Int) - 1 := IntWalk.i64_in _ (by have := HLEN.out; omega)
              have e2 : ((B.length : Int) - 1).toNat = B.length - 1 := by omega
              have e3 : (0 : Int) ≤ (B.length : Int) - 1 := by omega
              have e5 : (1 : Int) ≤ (B.length : Int) := by omega
              have e4 : (B.length : Int) - 1 < (B.length : Int) := by omega
              have hd : ∀ X, Calls Try.prog 55 #[.agg #[.int .i64 x, .int .i64 y], .agg #[.int .i64 l1, .int .i64 l2]] X fun e w' => e = .returned (.bool (pl (x, y) (l1, l2))) ∧ Below X.heap.size X w' := fun X => less_any x y l1 l2 X
              obtain ⟨PL, hPL⟩ : ∃ b, pl (x, y) (l1, l2) = b := ⟨_, rfl⟩
              rw [hPL] at hok
              simp only [hPL] at hd
              have HD := Lib.hid hd
              have HOK := Lib.hid hok
              clear hok hd hPL hl1 hl2 hbc
              refine wp_region_held_drew (S := fun w' => w'.heap[E]? = some (.cells #[.int .i64 x, .int .i64 y] 49) ∧ w'.cell? ⟨bb, bo + (B.length - 1) * 2, none⟩ = some (.int .i64 l1) ∧ w'.cell? ⟨bb, bo + (B.length - 1) * 2 + 1, none⟩ = some (.int .i64 l2)) (by kernel_rfl) ⟨hE1, c1, c2⟩ (fun hHeld => ?_)
              obtain ⟨X2, hX2⟩ : ∃ X, X = X1.drew := ⟨_, rfl⟩
              have hbX : Below X1.heap.size X1 X2 := by rw [hX2]; exact (Below.refl _ _).drew
              rw [← hX2] at hHeld ⊢
              have hH := Lib.hid hHeld
              clear hX2 hHeld hE1 c1 c2
              refine wpAnyH_take (i := 0) (oi := _) (v := ?_) rfl (by kernel_rfl) (by kernel_rfl) (by kernel_rfl) (fun _ _ _ h => h) (Or.inl ⟨by rfl, ?_⟩) hH.out ?_
              rotate_left
              · intro w1 hSw
                obtain ⟨hSa, s2, s3⟩ := hSw
                obtain ⟨s0, s1⟩ := plcells hSa
                clear hSa
                go_simp; with_reducible rfl
              simp only [List.getElem_toArray, List.getElem_cons_succ, List.getElem_cons_zero, Act.put, List.setIfInBounds_toArray, List.set_cons_zero, List.set_cons_succ]
              refine wpAnyH_take (i := 1) (oi := _) (v := ?_) rfl (by kernel_rfl) (by kernel_rfl) (by kernel_rfl) (fun _ _ _ h => h) (Or.inl ⟨by rfl, ?_⟩) hH.out ?_
              rotate_left
              · intro w1 hSw
                obtain ⟨hSa, s2, s3⟩ := hSw
                obtain ⟨s0, s1⟩ := plcells hSa
                clear hSa
                go_simp; with_reducible rfl
              simp only [List.getElem_toArray, List.getElem_cons_succ, List.getElem_cons_zero, Act.put, List.setIfInBounds_toArray, List.set_cons_zero, List.set_cons_succ]
              refine wpAnyH_take (i := 2) (oi := _) (v := ?_) rfl (by kernel_rfl) (by kernel_rfl) (by kernel_rfl) (fun _ _ _ h => h) (Or.inl ⟨by rfl, ?_⟩) hH.out ?_
              rotate_left
              · intro w1 hSw
                obtain ⟨hSa, s2, s3⟩ := hSw
                obtain ⟨s0, s1⟩ := plcells hSa
                clear hSa
                go_simp; with_reducible rfl
              simp only [List.getElem_toArray, List.getElem_cons_succ, List.getElem_cons_zero, Act.put, List.setIfInBounds_toArray, List.set_cons_zero, List.set_cons_succ]
              refine wpAnyH_take (i := 3) (oi := _) (v := ?_) rfl (by kernel_rfl) (by kernel_rfl) (by kernel_rfl) (fun _ _ _ h => h) (Or.inl ⟨by rfl, ?_⟩) hH.out ?_
              rotate_left
              · intro w1 hSw
                obtain ⟨hSa, s2, s3⟩ := hSw
                obtain ⟨s0, s1⟩ := plcells hSa
                clear hSa
                go_simp; with_reducible rfl
              simp only [List.getElem_toArray, List.getElem_cons_succ, List.getElem_cons_zero, Act.put, List.setIfInBounds_toArray, List.set_cons_zero, List.set_cons_succ]
              refine wpAnyH_take (i := 4) (oi := _) (v := ?_) rfl (by kernel_rfl) (by kernel_rfl) (by kernel_rfl) (fun _ _ _ h => h) (Or.inl ⟨by rfl, ?_⟩) hH.out ?_
              rotate_left
              · intro w1 hSw
                obtain ⟨hSa, s2, s3⟩ := hSw
                obtain ⟨s0, s1⟩ := plcells hSa
                clear hSa
                go_simp; with_reducible rfl
              simp only [List.getElem_toArray, List.getElem_cons_succ, List.getElem_cons_zero, Act.put, List.setIfInBounds_toArray, List.set_cons_zero, List.set_cons_succ]
              refine wpAnyH_take (i := 5) (oi := _) (v := ?_) rfl (by kernel_rfl) (by kernel_rfl) (by kernel_rfl) (fun _ _ _ h => h) (Or.inl ⟨by rfl, ?_⟩) hH.out ?_
              rotate_left
              · intro w1 hSw
                obtain ⟨hSa, s2, s3⟩ := hSw
                obtain ⟨s0, s1⟩ := plcells hSa
                clear hSa
                go_simp; with_reducible rfl
              simp only [List.getElem_toArray, List.getElem_cons_succ, List.getElem_cons_zero, Act.put, List.setIfInBounds_toArray, List.set_cons_zero, List.set_cons_succ]
              refine wpAnyH_take (i := 6) (oi := _) (v := ?_) rfl (by kernel_rfl) (by kernel_rfl) (by kernel_rfl) (fun _ _ _ h => h) (Or.inl ⟨by rfl, ?_⟩) hH.out ?_
              rotate_left
              · intro w1 hSw
                obtain ⟨hSa, s2, s3⟩ := hSw
                obtain ⟨s0, s1⟩ := plcells hSa
                clear hSa
                go_simp; with_reducible rfl
              simp only [List.getElem_toArray, List.getElem_cons_succ, List.getElem_cons_zero, Act.put, List.setIfInBounds_toArray, List.set_cons_zero, List.set_cons_succ]
              refine wpAnyH_take (i := 7) (oi := _) (v := ?_) rfl (by kernel_rfl) (by kernel_rfl) (by kernel_rfl) (fun _ _ _ h => h) (Or.inl ⟨by rfl, ?_⟩) hH.out ?_
              rotate_left
              · intro w1 hSw
                obtain ⟨hSa, s2, s3⟩ := hSw
                obtain ⟨s0, s1⟩ := plcells hSa
                clear hSa
                go_simp; with_reducible rfl
              simp only [List.getElem_toArray, List.getElem_cons_succ, List.getElem_cons_zero, Act.put, List.setIfInBounds_toArray, List.set_cons_zero, List.set_cons_succ]
              refine wpAnyH_take (i := 8) (oi := _) (v := ?_) rfl (by kernel_rfl) (by kernel_rfl) (by kernel_rfl) (fun _ _ _ h => h) (Or.inl ⟨by rfl, ?_⟩) hH.out ?_
              rotate_left
              · intro w1 hSw
                obtain ⟨hSa, s2, s3⟩ := hSw
                obtain ⟨s0, s1⟩ := plcells hSa
                clear hSa
                go_simp; with_reducible rfl
              simp only [List.getElem_toArray, List.getElem_cons_succ, List.getElem_cons_zero, Act.put, List.setIfInBounds_toArray, List.set_cons_zero, List.set_cons_succ]
              refine wpAnyH_take (i := 9) (oi := _) (v := ?_) rfl (by kernel_rfl) (by kernel_rfl) (by kernel_rfl) (fun _ _ _ h => h) (Or.inl ⟨by rfl, ?_⟩) hH.out ?_
              rotate_left
              · intro w1 hSw
                obtain ⟨hSa, s2, s3⟩ := hSw
                obtain ⟨s0, s1⟩ := plcells hSa
                clear hSa
                go_simp; with_reducible rfl
              simp only [List.getElem_toArray, List.getElem_cons_succ, List.getElem_cons_zero, Act.put, List.setIfInBounds_toArray, List.set_cons_zero, List.set_cons_succ]
              refine wpAnyH_take (i := 10) (oi := _) (v := ?_) rfl (by kernel_rfl) (by kernel_rfl) (by kernel_rfl) (fun _ _ _ h => h) (Or.inl ⟨by rfl, ?_⟩) hH.out ?_
              rotate_left
              · intro w1 hSw
                obtain ⟨hSa, s2, s3⟩ := hSw
                obtain ⟨s0, s1⟩ := plcells hSa
                clear hSa
                go_simp; with_reducible rfl
              simp only [List.getElem_toArray, List.getElem_cons_succ, List.getElem_cons_zero, Act.put, List.setIfInBounds_toArray, List.set_cons_zero, List.set_cons_succ]
              refine wpAnyH_all (rs := [11]) (by kernel_rfl) (by simp) ?_
              intro i hi; obtain rfl := List.mem_singleton.1 hi; clear hi
              refine wpOp_step rfl (fun K3 hK3 => ?_)
              have HK3 := Lib.hid hK3
              clear hK3
              rw [if_pos (by rfl)]
              go_simp
              refine (HD.out _).mono ?_
              rintro e X3 ⟨rfl, hb3⟩
              have hz2 := hbX.size
              replace hH := Lib.hid (And.intro ((hb3.block E (by omega)).trans hH.out.1) (And.intro ((hb3.cell (p := ⟨bb, _, none⟩) (by simp; omega)).trans hH.out.2.1) ((hb3.cell (p := ⟨bb, _, none⟩) (by simp; omega)).trans hH.out.2.2)))
              replace hbX := hbX.trans (hb3.mono hz2)
              clear hb3
              refine HK3.out _ _ ⟨hH.out, ?_⟩
              clear HK3 K3
              try simp only [List.getElem_toArray, List.getElem_cons_succ, List.getElem_cons_zero, Act.put, List.setIfInBounds_toArray, List.set_cons_zero, List.set_cons_succ]
              refine wpAnyH_take (i := 12) (oi := _) (v := ?_) rfl (by kernel_rfl) (by kernel_rfl) (by kernel_rfl) (fun _ _ _ h => h) (Or.inl ⟨by rfl, ?_⟩) hH.out ?_
              rotate_left
              · intro w1 hSw
                obtain ⟨hSa, s2, s3⟩ := hSw
                obtain ⟨s0, s1⟩ := plcells hSa
                clear hSa
                go_simp; with_reducible rfl
              simp only [List.getElem_toArray, List.getElem_cons_succ, List.getElem_cons_zero, Act.put, List.setIfInBounds_toArray, List.set_cons_zero, List.set_cons_succ]
              refine wpAnyH_take (i := 13) (oi := _) (v := ?_) rfl (by kernel_rfl) (by kernel_rfl) (by kernel_rfl) (fun _ _ _ h => h) (Or.inl ⟨by rfl, ?_⟩) hH.out ?_
              rotate_left
              · intro w1 hSw
                obtain ⟨hSa, s2, s3⟩ := hSw
                obtain ⟨s0, s1⟩ := plcells hSa
                clear hSa
                go_simp; with_reducible rfl
              simp only [List.getElem_toArray, List.getElem_cons_succ, List.getElem_cons_zero, Act.put, List.setIfInBounds_toArray, List.set_cons_zero, List.set_cons_succ]
              refine wpAnyH_done (by kernel_rfl) ?_ _
              go_wp2_with fail
              go_meet
              exact ⟨by rw [HOK.out], hbX, hH.out.1⟩
          case rest =>
            obtain ⟨rfl, hbX, hE2⟩ := hcut
            obtain ⟨ok, hok⟩ : ∃ b, okStep B (x, y) = b := ⟨_, rfl⟩
            rw [hok]
            have HOK := Lib.hid hok
            clear hok hE1
            cases ok with
            | false =>
              go_wp2_with fail
              go_roundw
              case rel => exact ⟨k + 1, by omega, by go_num, by rw [rowP_succ TT n B x k (by have := HTL.out; omega), ← HY.out, HOK.out, if_neg (by simp), List.append_nil]; exact HO3.out.below hbX hw1, HKX.out.trans (Keep.below hbX hw1)⟩
              case measure => simp [intOf]; omega
            | true =>
              go_upto_region 12 with fail
              have ez : IntKind.i64.wrap (z - 1) = z - 1 := IntWalk.i64_in _ (by omega)
              refine wp_region_held_drew (S := fun w' => w'.heap[E]? = some (.cells #[.int .i64 x, .int .i64 y] 49)) (by kernel_rfl) hE2 (fun hHeld => ?_)
              obtain ⟨Y0, hY0⟩ : ∃ X, X = wc.drew := ⟨_, rfl⟩
              have hbY : Below X1.heap.size X1 Y0 := by rw [hY0]; exact hbX.drew
              rw [← hY0] at hHeld ⊢
              have hH := Lib.hid hHeld
              have hzY : X1.heap.size ≤ Y0.heap.size := hbY.size
              clear hY0 hHeld hE2 hbX
              refine wpAnyH_take (i := 0) (oi := _) (v := ?_) rfl (by kernel_rfl) (by kernel_rfl) (by kernel_rfl) (fun _ _ _ h => h) (Or.inl ⟨by rfl, ?_⟩) hH.out ?_
              rotate_left
              · intro w1 hSw
                replace hSw : w1.heap[E]? = some (.cells #[.int .i64 x, .int .i64 y] 49) := hSw
                obtain ⟨s0, s1⟩ := plcells hSw
                clear hSw
                go_simp; with_reducible rfl
              simp only [List.getElem_toArray, List.getElem_cons_succ, List.getElem_cons_zero, Act.put, List.setIfInBounds_toArray, List.set_cons_zero, List.set_cons_succ]
              refine wpAnyH_take (i := 1) (oi := _) (v := ?_) rfl (by kernel_rfl) (by kernel_rfl) (by kernel_rfl) (fun _ _ _ h => h) (Or.inl ⟨by rfl, ?_⟩) hH.out ?_
              rotate_left
              · intro w1 hSw
                replace hSw : w1.heap[E]? = some (.cells #[.int .i64 x, .int .i64 y] 49) := hSw
                obtain ⟨s0, s1⟩ := plcells hSw
                clear hSw
                go_simp; with_reducible rfl
              simp only [List.getElem_toArray, List.getElem_cons_succ, List.getElem_cons_zero, Act.put, List.setIfInBounds_toArray, List.set_cons_zero, List.set_cons_succ]
              refine wpAnyH_take (i := 2) (oi := _) (v := ?_) rfl (by kernel_rfl) (by kernel_rfl) (by kernel_rfl) (fun _ _ _ h => h) (Or.inl ⟨by rfl, ?_⟩) hH.out ?_
              rotate_left
              · intro w1 hSw
                replace hSw : w1.heap[E]? = some (.cells #[.int .i64 x, .int .i64 y] 49) := hSw
                obtain ⟨s0, s1⟩ := plcells hSw
                clear hSw
                go_simp; with_reducible rfl
              simp only [List.getElem_toArray, List.getElem_cons_succ, List.getElem_cons_zero, Act.put, List.setIfInBounds_toArray, List.set_cons_zero, List.set_cons_succ]
              refine wpAnyH_take (i := 4) (oi := _) (v := ?_) rfl (by kernel_rfl) (by kernel_rfl) (by kernel_rfl) (fun _ _ _ h => h) (Or.inl ⟨by rfl, ?_⟩) hH.out ?_
              rotate_left
              · intro w1 hSw
                replace hSw : w1.heap[E]? = some (.cells #[.int .i64 x, .int .i64 y] 49) := hSw
                obtain ⟨s0, s1⟩ := plcells hSw
                clear hSw
                go_simp; with_reducible rfl
              simp only [List.getElem_toArray, List.getElem_cons_succ, List.getElem_cons_zero, Act.put, List.setIfInBounds_toArray, List.set_cons_zero, List.set_cons_succ]
              refine wpAnyH_take (i := 6) (oi := _) (v := ?_) rfl (by kernel_rfl) (by kernel_rfl) (by kernel_rfl) (fun _ _ _ h => h) (Or.inl ⟨by rfl, ?_⟩) hH.out ?_
              rotate_left
              · intro w1 hSw
                replace hSw : w1.heap[E]? = some (.cells #[.int .i64 x, .int .i64 y] 49) := hSw
                obtain ⟨s0, s1⟩ := plcells hSw
                clear hSw
                go_simp; with_reducible rfl
              simp only [List.getElem_toArray, List.getElem_cons_succ, List.getElem_cons_zero, Act.put, List.setIfInBounds_toArray, List.set_cons_zero, List.set_cons_succ]
              refine wpAnyH_take (i := 9) (oi := _) (v := ?_) rfl (by kernel_rfl) (by kernel_rfl) (by kernel_rfl) (fun _ _ _ h => h) (Or.inl ⟨by rfl, ?_⟩) hH.out ?_
              rotate_left
              · intro w1 hSw
                replace hSw : w1.heap[E]? = some (.cells #[.int .i64 x, .int .i64 y] 49) := hSw
                obtain ⟨s0, s1⟩ := plcells hSw
                clear hSw
                go_simp; with_reducible rfl
              simp only [List.getElem_toArray, List.getElem_cons_succ, List.getElem_cons_zero, Act.put, List.setIfInBounds_toArray, List.set_cons_zero, List.set_cons_succ]
              refine wpAnyH_all (rs := [3, 7]) (by kernel_rfl) (by simp) ?_
              intro i hi
              rcases (by simpa using hi : i = 3 ∨ i = 7) with rfl | rfl <;> clear hi
              · refine wpOp_step rfl (fun K3 hK3 => ?_)
                have HK3 := Lib.hid hK3
                clear hK3
                rw [if_pos (by rfl)]
                go_simp
                obtain ⟨g1, eg1⟩ : ∃ g, g = Y0.heap.size := ⟨_, rfl⟩
                obtain ⟨Y03, eY⟩ : ∃ Y, Y = Y0.alloc (.cells #[] 49) := ⟨_, rfl⟩
                have hXY : Below Y0.heap.size Y0 Y03 := by rw [eY]; exact (Below.refl _ _).alloc (Nat.le_refl _) _
                have h1 : Y03.ownsRow X1.heap.size 49 2 (.slice (some ⟨g1, 0, none⟩) 0 0) 0 [] := by rw [eY, eg1]; exact World.ownsRow_lit Y0 #[] 0 (by omega) (by decide) rfl
                have hgz : g1 < Y03.heap.size := by rw [eY, eg1]; simp
                have hgl : X1.heap.size ≤ g1 := by omega
                rw [← eY, ← eg1]
                clear eY eg1
                replace hH := Lib.hid ((hXY.block E (by omega)).trans hH.out)
                replace hbY := hbY.trans (hXY.mono hzY)
                replace hzY := hbY.size
                clear hXY
                refine HK3.out _ _ ⟨hH.out, ?_⟩
                clear HK3 K3
                try simp only [List.getElem_toArray, List.getElem_cons_succ, List.getElem_cons_zero, Act.put, List.setIfInBounds_toArray, List.set_cons_zero, List.set_cons_succ]
                refine wpAnyH_all (rs := [5, 7]) (by kernel_rfl) (by simp) ?_
                intro i hi
                rcases (by simpa using hi : i = 5 ∨ i = 7) with rfl | rfl <;> clear hi
                · refine wpOp_step rfl (fun K3 hK3 => ?_)
                  have HK3 := Lib.hid hK3
                  clear hK3
                  rw [if_pos (by rfl)]
                  simp only [List.getElem_toArray, List.getElem_cons_succ, List.getElem_cons_zero]
                  refine wp_copy (.tmp 59) (.tmp 60) 25 49 (by rfl) Try.underlying25 Try.info49 X1.heap.size g1 (by rfl) h1 (by rfl) (hBX.1.below hbY) hnil (by have := HLEN.out; omega) hzY ?_
                  intro v1 Y035 hown1 hXY _
                  replace h1 := hown1
                  clear hown1
                  replace hH := Lib.hid ((hXY.block E (by omega) (by simp; omega)).trans hH.out)
                  replace hbY := hbY.grown hXY hzY (fun r hr => by simp at hr; omega)
                  replace hzY := hbY.size
                  clear hXY
                  refine HK3.out _ _ ⟨hH.out, ?_⟩
                  clear HK3 K3
                  try simp only [List.getElem_toArray, List.getElem_cons_succ, List.getElem_cons_zero, Act.put, List.setIfInBounds_toArray, List.set_cons_zero, List.set_cons_succ]
                  refine wpAnyH_all (rs := [7]) (by kernel_rfl) (by simp) ?_
                  intro i hi; obtain rfl := List.mem_singleton.1 hi; clear hi
                  refine wpOp_step rfl (fun K3 hK3 => ?_)
                  have HK3 := Lib.hid hK3
                  clear hK3
                  rw [if_pos (by rfl)]
                  go_simp
                  obtain ⟨q, eq⟩ : ∃ g, g = Y035.heap.size := ⟨_, rfl⟩
                  obtain ⟨Y0357, eY⟩ : ∃ Y, Y = Y035.alloc (.cells #[.int .i64 x, .int .i64 y] 49) := ⟨_, rfl⟩
                  have hXY : Below Y035.heap.size Y035 Y0357 := by rw [eY]; exact (Below.refl _ _).alloc (Nat.le_refl _) _
                  have hq : Y0357.heap[q]? = some (.cells #[.int .i64 x, .int .i64 y] 49) := by rw [eY, eq]; exact (MapKept.heap_alloc Y035 _).1
                  have hqz : q < Y0357.heap.size := by rw [eY, eq]; simp
                  replace h1 := own_below h1 hXY
                  rw [← eY, ← eq]
                  clear eY eq
                  replace hH := Lib.hid ((hXY.block E (by omega)).trans hH.out)
                  replace hbY := hbY.trans (hXY.mono hzY)
                  replace hzY := hbY.size
                  clear hXY
                  refine HK3.out _ _ ⟨hH.out, ?_⟩
                  clear HK3 K3
                  try simp only [List.getElem_toArray, List.getElem_cons_succ, List.getElem_cons_zero, Act.put, List.setIfInBounds_toArray, List.set_cons_zero, List.set_cons_succ]
                  refine wpAnyH_all (rs := [8]) (by kernel_rfl) (by simp) ?_
                  intro i hi; obtain rfl := List.mem_singleton.1 hi; clear hi
                  refine wpOp_step rfl (fun K3 hK3 => ?_)
                  have HK3 := Lib.hid hK3
                  clear hK3
                  rw [if_pos (by rfl)]
                  simp only [List.getElem_toArray, List.getElem_cons_succ, List.getElem_cons_zero]
                  refine wp_append_own (P := Try.prog) Y0357 (.tmp 61) (.tmp 63) 25 (by rfl) X1.heap.size 49 j0 (.agg #[.int .i64 0, .int .i64 0]) 2 16 Try.underlying25 hj hj0 hj1 hj2 rfl (by decide) v1 B.length _ (by rfl) h1 ⟨q, 0, none⟩ 1 1 [.int .i64 x, .int .i64 y] (by rfl) rfl (news_two hq) (by intro u hu; simp at hu; rcases hu with rfl | rfl <;> rfl) (by have := HLEN.out; unfold maxLen; omega) (by have := HLEN.out; omega) hzY ?_
                  intro v2 Y03578 hown2 hXY _
                  rw [used_snoc] at hown2
                  have hl2 : (B ++ [(x, y)]).length = B.length + 1 := by simp
                  rw [← hl2] at hown2
                  obtain ⟨hP2, hN2⟩ := pair_own hown2 (by have := HLEN.out; omega)
                  have hg1' : ∀ q, v1.ownBlock = some q → X1.heap.size ≤ q := fun q hq => (h1.lt q hq).1
                  replace hH := Lib.hid ((hXY.block E (by omega) (fun e => by have := hg1' E e.symm; omega)).trans hH.out)
                  replace hbY := hbY.grown hXY hzY (fun r hr => hg1' r hr)
                  replace hzY := hbY.size
                  clear hXY
                  refine HK3.out _ _ ⟨hH.out, ?_⟩
                  clear HK3 K3
                  try simp only [List.getElem_toArray, List.getElem_cons_succ, List.getElem_cons_zero, Act.put, List.setIfInBounds_toArray, List.set_cons_zero, List.set_cons_succ]
                  refine wpAnyH_all (rs := [10]) (by kernel_rfl) (by simp) ?_
                  intro i hi; obtain rfl := List.mem_singleton.1 hi; clear hi
                  refine wpOp_step rfl (fun K3 hK3 => ?_)
                  have HK3 := Lib.hid hK3
                  clear hK3
                  rw [if_pos (by rfl)]
                  go_simp
                  refine (HI.out (z - 1) (B ++ [(x, y)]) v2 _ _ w0 Y03578 HZ.out (hbr.trans (hbX1w.trans (hbY.mono hw1))) hP2 hN2 (by have := HLEN.out; omega) (HO3.out.below hbY hw1) (by have := HTL.out; have hc := HCN.out; rw [show cN (n + 1) = 1 + 16 * cN n from rfl] at hc; have := part_len (T := TT) (n := n) (B := B) (x := x) (by omega) (i := i) (k := k) (by omega) (by omega); simp only [List.length_append, List.length_singleton]; omega)).mono ?_
                  rintro e Y9 ⟨ov9, rfl, hout9, hk9⟩
                  replace hH := Lib.hid (hk9.2 E _ hH.out)
                  refine HK3.out _ _ ⟨hH.out, ?_⟩
                  clear HK3 K3
                  try simp only [List.getElem_toArray, List.getElem_cons_succ, List.getElem_cons_zero, Act.put, List.setIfInBounds_toArray, List.set_cons_zero, List.set_cons_succ]
                  refine wpAnyH_take (i := 11) (oi := _) (v := ?_) rfl (by kernel_rfl) (by kernel_rfl) (by kernel_rfl) (fun _ _ _ h => h) (Or.inl ⟨by rfl, ?_⟩) hH.out ?_
                  rotate_left
                  · intro w1 hSw
                    replace hSw : w1.heap[E]? = some (.cells #[.int .i64 x, .int .i64 y] 49) := hSw
                    obtain ⟨s0, s1⟩ := plcells hSw
                    clear hSw
                    go_simp; with_reducible rfl
                  simp only [List.getElem_toArray, List.getElem_cons_succ, List.getElem_cons_zero, Act.put, List.setIfInBounds_toArray, List.set_cons_zero, List.set_cons_succ]
                  refine wpAnyH_done (by kernel_rfl) ?_ _
                  go_wp2_with fail
                  go_roundw
                  case rel => exact ⟨k + 1, by omega, by go_num, by rw [rowP_succ TT n B x k (by have := HTL.out; omega), ← HY.out, HOK.out, if_pos rfl, ← List.append_assoc, HTT.out]; rw [HTT.out] at hout9; exact hout9, (HKX.out.trans (Keep.below hbY hw1)).trans hk9⟩
                  case measure => simp [intOf]; omega
                · refine wpOp_step rfl (fun K3 hK3 => ?_)
                  have HK3 := Lib.hid hK3
                  clear hK3
                  rw [if_pos (by rfl)]
                  go_simp
                  obtain ⟨q, eq⟩ : ∃ g, g = Y03.heap.size := ⟨_, rfl⟩
                  obtain ⟨Y037, eY⟩ : ∃ Y, Y = Y03.alloc (.cells #[.int .i64 x, .int .i64 y] 49) := ⟨_, rfl⟩
                  have hXY : Below Y03.heap.size Y03 Y037 := by rw [eY]; exact (Below.refl _ _).alloc (Nat.le_refl _) _
                  have hq : Y037.heap[q]? = some (.cells #[.int .i64 x, .int .i64 y] 49) := by rw [eY, eq]; exact (MapKept.heap_alloc Y03 _).1
                  have hqz : q < Y037.heap.size := by rw [eY, eq]; simp
                  replace h1 := own_below h1 hXY
                  have hqg : q ≠ g1 := by omega
                  replace hgz := Nat.lt_of_lt_of_le hgz hXY.size
                  rw [← eY, ← eq]
                  clear eY eq
                  replace hH := Lib.hid ((hXY.block E (by omega)).trans hH.out)
                  replace hbY := hbY.trans (hXY.mono hzY)
                  replace hzY := hbY.size
                  clear hXY
                  refine HK3.out _ _ ⟨hH.out, ?_⟩
                  clear HK3 K3
                  try simp only [List.getElem_toArray, List.getElem_cons_succ, List.getElem_cons_zero, Act.put, List.setIfInBounds_toArray, List.set_cons_zero, List.set_cons_succ]
                  refine wpAnyH_all (rs := [5]) (by kernel_rfl) (by simp) ?_
                  intro i hi; obtain rfl := List.mem_singleton.1 hi; clear hi
                  refine wpOp_step rfl (fun K3 hK3 => ?_)
                  have HK3 := Lib.hid hK3
                  clear hK3
                  rw [if_pos (by rfl)]
                  simp only [List.getElem_toArray, List.getElem_cons_succ, List.getElem_cons_zero]
                  refine wp_copy (.tmp 59) (.tmp 60) 25 49 (by rfl) Try.underlying25 Try.info49 X1.heap.size g1 (by rfl) h1 (by rfl) (hBX.1.below hbY) hnil (by have := HLEN.out; omega) hzY ?_
                  intro v1 Y0375 hown1 hXY _
                  replace h1 := hown1
                  clear hown1
                  replace hH := Lib.hid ((hXY.block E (by omega) (by simp; omega)).trans hH.out)
                  replace hbY := hbY.grown hXY hzY (fun r hr => by simp at hr; omega)
                  replace hq := (hXY.block q hqz (by simp; exact hqg)).trans hq
                  replace hqz := Nat.lt_of_lt_of_le hqz hXY.size
                  replace hzY := hbY.size
                  clear hXY
                  refine HK3.out _ _ ⟨hH.out, ?_⟩
                  clear HK3 K3
                  try simp only [List.getElem_toArray, List.getElem_cons_succ, List.getElem_cons_zero, Act.put, List.setIfInBounds_toArray, List.set_cons_zero, List.set_cons_succ]
                  refine wpAnyH_all (rs := [8]) (by kernel_rfl) (by simp) ?_
                  intro i hi; obtain rfl := List.mem_singleton.1 hi; clear hi
                  refine wpOp_step rfl (fun K3 hK3 => ?_)
                  have HK3 := Lib.hid hK3
                  clear hK3
                  rw [if_pos (by rfl)]
                  simp only [List.getElem_toArray, List.getElem_cons_succ, List.getElem_cons_zero]
                  refine wp_append_own (P := Try.prog) Y0375 (.tmp 61) (.tmp 63) 25 (by rfl) X1.heap.size 49 j0 (.agg #[.int .i64 0, .int .i64 0]) 2 16 Try.underlying25 hj hj0 hj1 hj2 rfl (by decide) v1 B.length _ (by rfl) h1 ⟨q, 0, none⟩ 1 1 [.int .i64 x, .int .i64 y] (by rfl) rfl (news_two hq) (by intro u hu; simp at hu; rcases hu with rfl | rfl <;> rfl) (by have := HLEN.out; unfold maxLen; omega) (by have := HLEN.out; omega) hzY ?_
                  intro v2 Y03758 hown2 hXY _
                  rw [used_snoc] at hown2
                  have hl2 : (B ++ [(x, y)]).length = B.length + 1 := by simp
                  rw [← hl2] at hown2
                  obtain ⟨hP2, hN2⟩ := pair_own hown2 (by have := HLEN.out; omega)
                  have hg1' : ∀ q, v1.ownBlock = some q → X1.heap.size ≤ q := fun q hq => (h1.lt q hq).1
                  replace hH := Lib.hid ((hXY.block E (by omega) (fun e => by have := hg1' E e.symm; omega)).trans hH.out)
                  replace hbY := hbY.grown hXY hzY (fun r hr => hg1' r hr)
                  replace hzY := hbY.size
                  clear hXY
                  refine HK3.out _ _ ⟨hH.out, ?_⟩
                  clear HK3 K3
                  try simp only [List.getElem_toArray, List.getElem_cons_succ, List.getElem_cons_zero, Act.put, List.setIfInBounds_toArray, List.set_cons_zero, List.set_cons_succ]
                  refine wpAnyH_all (rs := [10]) (by kernel_rfl) (by simp) ?_
                  intro i hi; obtain rfl := List.mem_singleton.1 hi; clear hi
                  refine wpOp_step rfl (fun K3 hK3 => ?_)
                  have HK3 := Lib.hid hK3
                  clear hK3
                  rw [if_pos (by rfl)]
                  go_simp
                  refine (HI.out (z - 1) (B ++ [(x, y)]) v2 _ _ w0 Y03758 HZ.out (hbr.trans (hbX1w.trans (hbY.mono hw1))) hP2 hN2 (by have := HLEN.out; omega) (HO3.out.below hbY hw1) (by have := HTL.out; have hc := HCN.out; rw [show cN (n + 1) = 1 + 16 * cN n from rfl] at hc; have := part_len (T := TT) (n := n) (B := B) (x := x) (by omega) (i := i) (k := k) (by omega) (by omega); simp only [List.length_append, List.length_singleton]; omega)).mono ?_
                  rintro e Y9 ⟨ov9, rfl, hout9, hk9⟩
                  replace hH := Lib.hid (hk9.2 E _ hH.out)
                  refine HK3.out _ _ ⟨hH.out, ?_⟩
                  clear HK3 K3
                  try simp only [List.getElem_toArray, List.getElem_cons_succ, List.getElem_cons_zero, Act.put, List.setIfInBounds_toArray, List.set_cons_zero, List.set_cons_succ]
                  refine wpAnyH_take (i := 11) (oi := _) (v := ?_) rfl (by kernel_rfl) (by kernel_rfl) (by kernel_rfl) (fun _ _ _ h => h) (Or.inl ⟨by rfl, ?_⟩) hH.out ?_
                  rotate_left
                  · intro w1 hSw
                    replace hSw : w1.heap[E]? = some (.cells #[.int .i64 x, .int .i64 y] 49) := hSw
                    obtain ⟨s0, s1⟩ := plcells hSw
                    clear hSw
                    go_simp; with_reducible rfl
                  simp only [List.getElem_toArray, List.getElem_cons_succ, List.getElem_cons_zero, Act.put, List.setIfInBounds_toArray, List.set_cons_zero, List.set_cons_succ]
                  refine wpAnyH_done (by kernel_rfl) ?_ _
                  go_wp2_with fail
                  go_roundw
                  case rel => exact ⟨k + 1, by omega, by go_num, by rw [rowP_succ TT n B x k (by have := HTL.out; omega), ← HY.out, HOK.out, if_pos rfl, ← List.append_assoc, HTT.out]; rw [HTT.out] at hout9; exact hout9, (HKX.out.trans (Keep.below hbY hw1)).trans hk9⟩
                  case measure => simp [intOf]; omega
              · refine wpOp_step rfl (fun K3 hK3 => ?_)
                have HK3 := Lib.hid hK3
                clear hK3
                rw [if_pos (by rfl)]
                go_simp
                obtain ⟨q, eq⟩ : ∃ g, g = Y0.heap.size := ⟨_, rfl⟩
                obtain ⟨Y07, eY⟩ : ∃ Y, Y = Y0.alloc (.cells #[.int .i64 x, .int .i64 y] 49) := ⟨_, rfl⟩
                have hXY : Below Y0.heap.size Y0 Y07 := by rw [eY]; exact (Below.refl _ _).alloc (Nat.le_refl _) _
                have hq : Y07.heap[q]? = some (.cells #[.int .i64 x, .int .i64 y] 49) := by rw [eY, eq]; exact (MapKept.heap_alloc Y0 _).1
                have hqz : q < Y07.heap.size := by rw [eY, eq]; simp
                rw [← eY, ← eq]
                clear eY eq
                replace hH := Lib.hid ((hXY.block E (by omega)).trans hH.out)
                replace hbY := hbY.trans (hXY.mono hzY)
                replace hzY := hbY.size
                clear hXY
                refine HK3.out _ _ ⟨hH.out, ?_⟩
                clear HK3 K3
                try simp only [List.getElem_toArray, List.getElem_cons_succ, List.getElem_cons_zero, Act.put, List.setIfInBounds_toArray, List.set_cons_zero, List.set_cons_succ]
                refine wpAnyH_all (rs := [3]) (by kernel_rfl) (by simp) ?_
                intro i hi; obtain rfl := List.mem_singleton.1 hi; clear hi
                refine wpOp_step rfl (fun K3 hK3 => ?_)
                have HK3 := Lib.hid hK3
                clear hK3
                rw [if_pos (by rfl)]
                go_simp
                obtain ⟨g1, eg1⟩ : ∃ g, g = Y07.heap.size := ⟨_, rfl⟩
                obtain ⟨Y073, eY⟩ : ∃ Y, Y = Y07.alloc (.cells #[] 49) := ⟨_, rfl⟩
                have hXY : Below Y07.heap.size Y07 Y073 := by rw [eY]; exact (Below.refl _ _).alloc (Nat.le_refl _) _
                have h1 : Y073.ownsRow X1.heap.size 49 2 (.slice (some ⟨g1, 0, none⟩) 0 0) 0 [] := by rw [eY, eg1]; exact World.ownsRow_lit Y07 #[] 0 (by omega) (by decide) rfl
                have hgz : g1 < Y073.heap.size := by rw [eY, eg1]; simp
                have hgl : X1.heap.size ≤ g1 := by omega
                have hqg : q ≠ g1 := by omega
                rw [← eY, ← eg1]
                clear eY eg1
                replace hH := Lib.hid ((hXY.block E (by omega)).trans hH.out)
                replace hbY := hbY.trans (hXY.mono hzY)
                replace hq := (hXY.block q hqz).trans hq
                replace hqz := Nat.lt_of_lt_of_le hqz hXY.size
                replace hzY := hbY.size
                clear hXY
                refine HK3.out _ _ ⟨hH.out, ?_⟩
                clear HK3 K3
                try simp only [List.getElem_toArray, List.getElem_cons_succ, List.getElem_cons_zero, Act.put, List.setIfInBounds_toArray, List.set_cons_zero, List.set_cons_succ]
                refine wpAnyH_all (rs := [5]) (by kernel_rfl) (by simp) ?_
                intro i hi; obtain rfl := List.mem_singleton.1 hi; clear hi
                refine wpOp_step rfl (fun K3 hK3 => ?_)
                have HK3 := Lib.hid hK3
                clear hK3
                rw [if_pos (by rfl)]
                simp only [List.getElem_toArray, List.getElem_cons_succ, List.getElem_cons_zero]
                refine wp_copy (.tmp 59) (.tmp 60) 25 49 (by rfl) Try.underlying25 Try.info49 X1.heap.size g1 (by rfl) h1 (by rfl) (hBX.1.below hbY) hnil (by have := HLEN.out; omega) hzY ?_
                intro v1 Y0735 hown1 hXY _
                replace h1 := hown1
                clear hown1
                replace hH := Lib.hid ((hXY.block E (by omega) (by simp; omega)).trans hH.out)
                replace hbY := hbY.grown hXY hzY (fun r hr => by simp at hr; omega)
                replace hq := (hXY.block q hqz (by simp; exact hqg)).trans hq
                replace hqz := Nat.lt_of_lt_of_le hqz hXY.size
                replace hzY := hbY.size
                clear hXY
                refine HK3.out _ _ ⟨hH.out, ?_⟩
                clear HK3 K3
                try simp only [List.getElem_toArray, List.getElem_cons_succ, List.getElem_cons_zero, Act.put, List.setIfInBounds_toArray, List.set_cons_zero, List.set_cons_succ]
                refine wpAnyH_all (rs := [8]) (by kernel_rfl) (by simp) ?_
                intro i hi; obtain rfl := List.mem_singleton.1 hi; clear hi
                refine wpOp_step rfl (fun K3 hK3 => ?_)
                have HK3 := Lib.hid hK3
                clear hK3
                rw [if_pos (by rfl)]
                simp only [List.getElem_toArray, List.getElem_cons_succ, List.getElem_cons_zero]
                refine wp_append_own (P := Try.prog) Y0735 (.tmp 61) (.tmp 63) 25 (by rfl) X1.heap.size 49 j0 (.agg #[.int .i64 0, .int .i64 0]) 2 16 Try.underlying25 hj hj0 hj1 hj2 rfl (by decide) v1 B.length _ (by rfl) h1 ⟨q, 0, none⟩ 1 1 [.int .i64 x, .int .i64 y] (by rfl) rfl (news_two hq) (by intro u hu; simp at hu; rcases hu with rfl | rfl <;> rfl) (by have := HLEN.out; unfold maxLen; omega) (by have := HLEN.out; omega) hzY ?_
                intro v2 Y07358 hown2 hXY _
                rw [used_snoc] at hown2
                have hl2 : (B ++ [(x, y)]).length = B.length + 1 := by simp
                rw [← hl2] at hown2
                obtain ⟨hP2, hN2⟩ := pair_own hown2 (by have := HLEN.out; omega)
                have hg1' : ∀ q, v1.ownBlock = some q → X1.heap.size ≤ q := fun q hq => (h1.lt q hq).1
                replace hH := Lib.hid ((hXY.block E (by omega) (fun e => by have := hg1' E e.symm; omega)).trans hH.out)
                replace hbY := hbY.grown hXY hzY (fun r hr => hg1' r hr)
                replace hzY := hbY.size
                clear hXY
                refine HK3.out _ _ ⟨hH.out, ?_⟩
                clear HK3 K3
                try simp only [List.getElem_toArray, List.getElem_cons_succ, List.getElem_cons_zero, Act.put, List.setIfInBounds_toArray, List.set_cons_zero, List.set_cons_succ]
                refine wpAnyH_all (rs := [10]) (by kernel_rfl) (by simp) ?_
                intro i hi; obtain rfl := List.mem_singleton.1 hi; clear hi
                refine wpOp_step rfl (fun K3 hK3 => ?_)
                have HK3 := Lib.hid hK3
                clear hK3
                rw [if_pos (by rfl)]
                go_simp
                refine (HI.out (z - 1) (B ++ [(x, y)]) v2 _ _ w0 Y07358 HZ.out (hbr.trans (hbX1w.trans (hbY.mono hw1))) hP2 hN2 (by have := HLEN.out; omega) (HO3.out.below hbY hw1) (by have := HTL.out; have hc := HCN.out; rw [show cN (n + 1) = 1 + 16 * cN n from rfl] at hc; have := part_len (T := TT) (n := n) (B := B) (x := x) (by omega) (i := i) (k := k) (by omega) (by omega); simp only [List.length_append, List.length_singleton]; omega)).mono ?_
                rintro e Y9 ⟨ov9, rfl, hout9, hk9⟩
                replace hH := Lib.hid (hk9.2 E _ hH.out)
                refine HK3.out _ _ ⟨hH.out, ?_⟩
                clear HK3 K3
                try simp only [List.getElem_toArray, List.getElem_cons_succ, List.getElem_cons_zero, Act.put, List.setIfInBounds_toArray, List.set_cons_zero, List.set_cons_succ]
                refine wpAnyH_take (i := 11) (oi := _) (v := ?_) rfl (by kernel_rfl) (by kernel_rfl) (by kernel_rfl) (fun _ _ _ h => h) (Or.inl ⟨by rfl, ?_⟩) hH.out ?_
                rotate_left
                · intro w1 hSw
                  replace hSw : w1.heap[E]? = some (.cells #[.int .i64 x, .int .i64 y] 49) := hSw
                  obtain ⟨s0, s1⟩ := plcells hSw
                  clear hSw
                  go_simp; with_reducible rfl
                simp only [List.getElem_toArray, List.getElem_cons_succ, List.getElem_cons_zero, Act.put, List.setIfInBounds_toArray, List.set_cons_zero, List.set_cons_succ]
                refine wpAnyH_done (by kernel_rfl) ?_ _
                go_wp2_with fail
                go_roundw
                case rel => exact ⟨k + 1, by omega, by go_num, by rw [rowP_succ TT n B x k (by have := HTL.out; omega), ← HY.out, HOK.out, if_pos rfl, ← List.append_assoc, HTT.out]; rw [HTT.out] at hout9; exact hout9, (HKX.out.trans (Keep.below hbY hw1)).trans hk9⟩
                case measure => simp [intOf]; omega
        · have k2 : ¬ (k : Int) < (S.length : Int) := by omega
          obtain rfl : k = S.length := by omega
          have HO2 := Lib.hid hout2
          have HK2 := Lib.hid hk2
          clear hout2 hk2
          go_wp2_with fail
          go_roundw
          case rel => exact ⟨i + 1, by omega, by go_num, by rw [rowsP_succ TT n B i (by have := HTL.out; omega), ← HX.out, HTL.out, ← List.append_assoc]; exact HO2.out, HK2.out⟩
          case measure => simp [intOf]; omega
    · have i2 : ¬ (i : Int) < (S.length : Int) := by omega
      obtain rfl : i = S.length := by omega
      have HO := Lib.hid hout1
      clear hout1
      go_wp2_with fail
      go_ret
      refine ⟨_, rfl, ?_, hk.trans hk1⟩
      have := HO.out
      rw [← HTL.out, List.append_assoc, List.singleton_append, ← listsP_succ, HTT.out] at this
      exact this

theorem lists_any (S : List (Int × Int)) (sv : Value) (wb : World) (hS : WheelsAt wb sv S) (h4 : S.length ≤ 4) : ∀ n, ListsAny S sv wb n
  | 0 => lists_zero S sv wb hS
  | n + 1 => lists_succ S sv wb hS h4 n (lists_any S sv wb hS h4 n)
end Go.Proofs.Ytoiapnokgpeipaa

/- The reference's list of all trains: plain lists, and how they lie in memory. -/
namespace Go.Proofs.Ytoiapnokgpeipaa
set_option linter.unusedSimpArgs false
open Go.RowKit Go.Maps

theorem Try.info27 : (Try.prog.info? 27).map (fun i => (i.zero, i.size, i.bytes)) = some (some (.agg #[.slice none 0 0, .int .i64 0]), 2, 32) := by kernel_rfl
/-- what was there below a bound, and all rows but those of one kind, is as it was -/
def KeepT (ty : TypeId) (base : Nat) (w w' : World) : Prop := Below base w w' ∧ ∀ (b : Nat) cs t, t ≠ ty → w.heap[b]? = some (.cells cs t (0, 0)) → w'.heap[b]? = some (.cells cs t (0, 0))
theorem KeepT.refl (ty : TypeId) (base : Nat) (w : World) : KeepT ty base w w := ⟨Below.refl _ _, fun _ _ _ _ h => h⟩
theorem KeepT.trans {ty : TypeId} {base : Nat} {a b c : World} (h : KeepT ty base a b) (k : KeepT ty base b c) : KeepT ty base a c := ⟨h.1.trans k.1, fun j cs t e f => k.2 j cs t e (h.2 j cs t e f)⟩
theorem KeepT.below {ty : TypeId} {base : Nat} {w w' : World} (h : Below w.heap.size w w') (hb : base ≤ w.heap.size) : KeepT ty base w w' :=
  ⟨h.mono hb, fun b _ _ _ e => (h.block b (Array.getElem?_eq_some_iff.1 e).1).trans e⟩
theorem KeepT.grown {ty : TypeId} {base : Nat} {w w' : World} {row : Option Nat} (h : w.grownBy w' row) (hb : base ≤ w.heap.size) (hr : ∀ q, row = some q → base ≤ q ∧ ∃ cs f, w.heap[q]? = some (.cells cs ty f)) : KeepT ty base w w' := by
  refine ⟨(Below.refl _ _).grown h hb (fun q e => (hr q e).1), fun b cs t ht e => (h.block b (Array.getElem?_eq_some_iff.1 e).1 fun e2 => ?_).trans e⟩
  obtain ⟨_, cs', f, e3⟩ := hr b e2.symm
  rw [e] at e3
  simp only [Option.some.injEq, Obj.cells.injEq] at e3
  exact ht e3.2.1
theorem KeepT.setCell {ty : TypeId} {base : Nat} {w : World} {b o : Nat} {u : Value} {cs : Array Value} {f : Nat × Nat} (hb : base ≤ b) (h : w.heap[b]? = some (.cells cs ty f)) : KeepT ty base w (w.setCell ⟨b, o, none⟩ u) := by
  refine ⟨(Below.refl _ _).setCell hb _, fun j cs' t ht e => (Below.heap_setCell _ _ _ _ fun e2 => ?_).trans e⟩
  subst e2
  rw [h] at e
  simp only [Option.some.injEq, Obj.cells.injEq] at e
  exact ht e.2.1.symm
theorem KeepT.keep {ty : TypeId} {base : Nat} {w w' : World} (h : KeepT ty base w w') (ht : ty ≠ 49) : Keep base w w' := ⟨h.1, fun b cs e => h.2 b cs 49 (Ne.symm ht) e⟩

/-- trains as values: pairs, idler -/
def flatV (vs : List Value) (M : List (List (Int × Int) × Int)) : List Value := (vs.zip M).flatMap (fun p => [p.1, .int .i64 p.2.2])
theorem flatV_snoc (vs : List Value) (M : List (List (Int × Int) × Int)) (h : vs.length = M.length) (x : Value) (B : List (Int × Int)) (i : Int) : flatV (vs ++ [x]) (M ++ [(B, i)]) = flatV vs M ++ [x, .int .i64 i] := by
  unfold flatV
  rw [List.zip_append h, List.flatMap_append]
  rfl
theorem flatV_get : ∀ (vs : List Value) (M : List (List (Int × Int) × Int)) (k : Nat), vs.length = M.length → k < M.length →
    (flatV vs M)[k * 2]? = some (vs.getD k (.slice none 0 0)) ∧ (flatV vs M)[k * 2 + 1]? = some (.int .i64 (M.getD k ([], 0)).2)
  | [], [], k, _, hk => by simp at hk
  | [], _ :: _, _, h, _ => by simp at h
  | _ :: _, [], _, _, hk => by simp at hk
  | v :: vs, m :: M, 0, _, _ => by unfold flatV; simp
  | v :: vs, m :: M, k + 1, h, hk => by
    have ih := flatV_get vs M k (by simpa using h) (by simpa using hk)
    have e : flatV (v :: vs) (m :: M) = v :: .int .i64 m.2 :: flatV vs M := rfl
    rw [e, show (k + 1) * 2 = k * 2 + 1 + 1 from by omega]
    simpa using ih
def OutT (base : Nat) (w : World) (v : Value) (M : List (List (Int × Int) × Int)) : Prop := ∃ vs : List Value, vs.length = M.length ∧ w.ownsRow base 27 2 v M.length (flatV vs M) ∧ ∀ i, i < M.length → PairRow w (vs.getD i (.slice none 0 0)) (M.getD i ([], 0)).1
theorem OutT.below {base : Nat} {w w' : World} {v : Value} {M : List (List (Int × Int) × Int)} (h : OutT base w v M) (hb : Below w.heap.size w w') : OutT base w' v M := by
  obtain ⟨vs, h1, h2, h3⟩ := h
  exact ⟨vs, h1, own_below h2 hb, fun i hi => (h3 i hi).keep (Keep.below hb (Nat.le_refl _))⟩
theorem own27 {w : World} {base n : Nat} {v : Value} {xs : List Value} (h : w.ownsRow base 27 2 v n xs) : ∀ q, v.ownBlock = some q → base ≤ q ∧ ∃ cs f, w.heap[q]? = some (.cells cs 27 f) := by
  intro q hq
  rcases h.2 with ⟨rfl, _⟩ | ⟨g, cap, cur, rfl, h1, h2, _⟩
  · simp [Value.ownBlock] at hq
  · simp only [Value.ownBlock, Option.some.injEq] at hq
    subst hq
    exact ⟨h1, cur, (0, 0), h2⟩
/-- one train more -/
theorem put_train {base : Nat} {w : World} {ov : Value} {a : Option Addr} {c : Nat} {M : List (List (Int × Int) × Int)} {B : List (Int × Int)} {i : Int} (hout : OutT base w ov M) (hB : PairRow w (.slice a B.length c) B) (hbase : base ≤ w.heap.size) (hlen : M.length + 1 ≤ 1000000) {ty : TypeId} :
    ∃ v' w', (Builtin.append_ #[92, 92] ty #[ov, .slice (some ⟨w.heap.size, 0, none⟩) 1 1]).run Try.prog (w.alloc (.cells #[.slice a B.length c, .int .i64 i] 27)) = .ok v' w' ∧ OutT base w' v' (M ++ [(B, i)]) ∧ KeepT 27 base w w' := by
  obtain ⟨j0, hji, hz0, hz1, hz2⟩ := info_parts Try.info27
  have hb : Below w.heap.size w (w.alloc (.cells #[.slice a B.length c, .int .i64 i] 27)) := (Below.refl _ _).alloc (Nat.le_refl _) _
  have k := KeepT.below (ty := 27) hb hbase
  obtain ⟨vs, h1, h2, h3⟩ := hout.below hb
  have hc := (MapKept.heap_alloc w (.cells #[.slice a B.length c, .int .i64 i] 27)).1
  have hc0 : (w.alloc (.cells #[.slice a B.length c, .int .i64 i] 27)).cell? ⟨w.heap.size, 0, none⟩ = some (.slice a B.length c) := by unfold World.cell?; rw [hc]; rfl
  have hc1 : (w.alloc (.cells #[.slice a B.length c, .int .i64 i] 27)).cell? ⟨w.heap.size, 1, none⟩ = some (.int .i64 i) := by unfold World.cell?; rw [hc]; rfl
  obtain ⟨v', w', hr, q1, q2, _, _⟩ := run_append_own_at (P := Try.prog) (w.alloc (.cells #[.slice a B.length c, .int .i64 i] 27)) base 92 ty 27 j0 (.agg #[.slice none 0 0, .int .i64 0]) 2 32 Try.underlying92 hji hz0 hz1 hz2 rfl (by decide) ov M.length (flatV vs M) h2 ⟨w.heap.size, 0, none⟩ 1 1 [.slice a B.length c, .int .i64 i] (by simp)
    (by intro j u hj; rw [Addr.add_lit]; match j, hj with | 0, hj => simp at hj; rw [← hj]; exact hc0 | 1, hj => simp at hj; rw [← hj]; exact hc1 | j + 2, hj => simp at hj) (by intro u hu; simp at hu; rcases hu with rfl | rfl <;> rfl) (by unfold maxLen; omega) (by omega) (by simp; omega)
  have k2 := KeepT.grown q2 (by simp; omega) (own27 h2)
  rw [← flatV_snoc vs M h1 _ B i] at q1
  have hk2 := k2.keep (by decide)
  refine ⟨v', w', hr, ⟨vs ++ [.slice a B.length c], by simp [h1], by simpa using q1, fun j hj => ?_⟩, k.trans k2⟩
  rw [List.length_append, List.length_singleton] at hj
  by_cases e : j < M.length
  · have e2 : j < vs.length := by rw [h1]; exact e
    have := (h3 j e).keep hk2
    simpa [List.getD, List.getElem?_append, e, e2] using this
  · obtain rfl : j = M.length := by omega
    have e3 : (vs ++ [Value.slice a B.length c]).getD M.length (.slice none 0 0) = .slice a B.length c := by rw [← h1]; simp [List.getD]
    rw [e3]
    simpa [List.getD] using (hB.keep (k.keep (by decide))).keep hk2
/-- a list of trains in memory -/
def TrainsAt (w : World) (v : Value) (M : List (List (Int × Int) × Int)) : Prop := ∃ a cap, v = .slice a M.length cap ∧ ∀ i, i < M.length → ∃ g b c, a = some ⟨g, 0, none⟩ ∧ g < w.heap.size ∧ w.cell? ⟨g, i * 2, none⟩ = some (.slice b (M.getD i ([], 0)).1.length c) ∧ w.cell? ⟨g, i * 2 + 1, none⟩ = some (.int .i64 (M.getD i ([], 0)).2) ∧ PairRow w (.slice b (M.getD i ([], 0)).1.length c) (M.getD i ([], 0)).1
theorem OutT.trains {base : Nat} {w : World} {v : Value} {M : List (List (Int × Int) × Int)} (h : OutT base w v M) : TrainsAt w v M := by
  obtain ⟨vs, h1, h2, h3⟩ := h
  rcases h2.2 with ⟨rfl, hn⟩ | ⟨g, cap, cur, rfl, g1, g2, g3, _, g5, g6⟩
  · exact ⟨none, 0, by rw [hn], fun i hi => by omega⟩
  · refine ⟨_, _, rfl, fun i hi => ?_⟩
    obtain ⟨e1, e2⟩ := flatV_get vs M i h1 hi
    obtain ⟨b, c, hs⟩ := (h3 i hi).1.shape
    rw [← g6] at e1 e2
    rw [hs] at e1
    rw [List.getElem?_take_of_lt (by omega), Array.getElem?_toList] at e1 e2
    refine ⟨g, b, c, rfl, (Array.getElem?_eq_some_iff.1 g2).1, (cell_cs g2).trans e1, (cell_cs g2).trans e2, ?_⟩
    rw [← hs]; exact h3 i hi
theorem TrainsAt.below {w w' : World} {v : Value} {M : List (List (Int × Int) × Int)} (h : TrainsAt w v M) (hb : Below w.heap.size w w') : TrainsAt w' v M := by
  obtain ⟨a, cap, e, h⟩ := h
  refine ⟨a, cap, e, fun i hi => ?_⟩
  obtain ⟨g, b, c, e1, e2, e3, e4, e5⟩ := h i hi
  exact ⟨g, b, c, e1, Nat.lt_of_lt_of_le e2 hb.size, (hb.cell (p := ⟨g, _, none⟩) e2).trans e3, (hb.cell (p := ⟨g, _, none⟩) e2).trans e4, e5.keep (Keep.below hb (Nat.le_refl _))⟩
/-- what the i-th list of pairs reads as -/
theorem row_at {base : Nat} {w0 w : World} {a : Option Addr} {n c : Nat} {LL : List (List (Int × Int))} (h : OutAt base w0 w (.slice a n c) LL) {i : Nat} (hi : i < LL.length) :
    ∃ g b d, a = some ⟨g, 0, none⟩ ∧ g < w.heap.size ∧ w.cell? ⟨g, i, none⟩ = some (.slice b (LL.getD i []).length d) ∧ PairRow w (.slice b (LL.getD i []).length d) (LL.getD i []) := by
  obtain ⟨xs, h1, h2, _⟩ := h
  rcases h1.2 with ⟨e, hn⟩ | ⟨g, cap, cur, e, g1, g2, g3, _, g5, g6⟩
  · omega
  · simp only [Value.slice.injEq] at e
    obtain ⟨rfl, _, _⟩ := e
    have hp := h2.2 i hi
    obtain ⟨b, d, hs⟩ := hp.1.shape
    rw [hs] at hp
    have e1 : xs[i]? = some (xs.getD i (.slice none 0 0)) := by
      have : i < xs.length := by rw [h2.1]; exact hi
      simp [List.getD, this]
    rw [hs, ← g6, List.getElem?_take_of_lt (by omega), Array.getElem?_toList] at e1
    exact ⟨g, b, d, rfl, (Array.getElem?_eq_some_iff.1 g2).1, (cell_cs g2).trans e1, hp⟩
theorem OutAt.keepT {base base' : Nat} {w0 w w' : World} {v : Value} {M : List (List (Int × Int))} (h : OutAt base w0 w v M) (k : KeepT 27 base' w w') : OutAt 0 w w' v M := by
  obtain ⟨xs, h1, h2, _⟩ := h
  have kk := k.keep (by decide)
  refine ⟨xs, ⟨h1.1, ?_⟩, h2.keep kk, ⟨k.1.mono (Nat.zero_le _), kk.2⟩⟩
  rcases h1.2 with h | ⟨g, cap, cur, e, g1, g2, g3⟩
  · exact .inl h
  · exact .inr ⟨g, cap, cur, e, Nat.zero_le _, k.2 g cur 25 (by decide) g2, g3⟩

def ableL (S : List (Int × Int)) (p o : Int) (same : Bool) (B : List (Int × Int)) (k : Nat) : List (List (Int × Int) × Int) := ((0 :: S.map (·.1)).take k).flatMap (fun i => if ableC S p o same B i = 0 then [(B, i)] else [])
theorem ableL_succ (S : List (Int × Int)) (p o : Int) (same : Bool) (B : List (Int × Int)) (k : Nat) (h : k < S.length + 1) :
    ableL S p o same B (k + 1) = ableL S p o same B k ++ (if ableC S p o same B ((0 :: S.map (·.1)).getD k 0) = 0 then [(B, (0 :: S.map (·.1)).getD k 0)] else []) := by
  have hl : k < (0 :: S.map (·.1)).length := by simpa using h
  unfold ableL
  rw [List.take_succ_eq_append_getElem hl, List.flatMap_append]
  simp only [List.flatMap_cons, List.flatMap_nil, List.append_nil]
  congr 1
  simp only [List.getD, List.getElem?_eq_getElem hl, Option.getD_some]
theorem ableL_len (S : List (Int × Int)) (p o : Int) (same : Bool) (B : List (Int × Int)) : ∀ k, (ableL S p o same B k).length ≤ k
  | 0 => by simp [ableL]
  | k + 1 => by
    by_cases h : k < S.length + 1
    · have := ableL_len S p o same B k
      rw [ableL_succ S p o same B k h, List.length_append]
      split <;> simp <;> omega
    · have := ableL_len S p o same B k
      have e : ableL S p o same B (k + 1) = ableL S p o same B k := by
        unfold ableL
        rw [List.take_of_length_le (by simp; omega), List.take_of_length_le (by simp; omega)]
      rw [e]; omega
def allTo (S : List (Int × Int)) (p o : Int) (same : Bool) (LL : List (List (Int × Int))) (i : Nat) : List (List (Int × Int) × Int) := (LL.take i).flatMap (fun B => ableL S p o same B (S.length + 1))
theorem allTo_succ (S : List (Int × Int)) (p o : Int) (same : Bool) (LL : List (List (Int × Int))) (i : Nat) (h : i < LL.length) : allTo S p o same LL (i + 1) = allTo S p o same LL i ++ ableL S p o same (LL.getD i []) (S.length + 1) := by
  unfold allTo
  rw [List.take_succ_eq_append_getElem h, List.flatMap_append]
  simp [List.getD, h]
theorem allTo_len (S : List (Int × Int)) (p o : Int) (same : Bool) (LL : List (List (Int × Int))) (h4 : S.length ≤ 4) : ∀ i, i ≤ LL.length → (allTo S p o same LL i).length ≤ i * 5
  | 0, _ => by simp [allTo]
  | i + 1, h => by
    have h1 := allTo_len S p o same LL h4 i (by omega)
    have h2 := ableL_len S p o same (LL.getD i []) (S.length + 1)
    rw [allTo_succ S p o same LL i (by omega), List.length_append]
    omega
def allR (S : List (Int × Int)) (p o : Int) (same : Bool) : List (List (Int × Int) × Int) := (listsP (S.map (·.1)) p.toNat []).flatMap (fun B => ableL S p o same B (S.length + 1))
theorem allR_len (S : List (Int × Int)) (p o : Int) (same : Bool) (h4 : S.length ≤ 4) (hp : p ≤ 3) : (allR S p o same).length ≤ 21845 := by
  have h1 := allTo_len S p o same (listsP (S.map (·.1)) p.toNat []) h4 _ (Nat.le_refl _)
  have h2 := listsP_len (T := S.map (·.1)) (by simpa using h4) p.toNat []
  have h3 : cN p.toNat ≤ 4369 := by
    have : p.toNat = 0 ∨ p.toNat = 1 ∨ p.toNat = 2 ∨ p.toNat = 3 := by omega
    rcases this with h | h | h | h <;> rw [h] <;> decide
  have e : allR S p o same = allTo S p o same (listsP (S.map (·.1)) p.toNat []) (listsP (S.map (·.1)) p.toNat []).length := by unfold allTo allR; rw [List.take_length]
  rw [e]; omega
theorem allTo_all (S : List (Int × Int)) (p o : Int) (same : Bool) (LL : List (List (Int × Int))) (h : LL = listsP (S.map (·.1)) p.toNat []) : allTo S p o same LL LL.length = allR S p o same := by
  unfold allTo allR
  rw [List.take_length, h]
end Go.Proofs.Ytoiapnokgpeipaa

/- all: all trains that can be built, as the reference lists them. -/
namespace Go.Proofs.Ytoiapnokgpeipaa
set_option linter.unusedSimpArgs false
open Go.RowKit Go.Maps

theorem tcells2 {X : World} {b : Nat} {a : Option Addr} {n c : Nat} {i : Int} (h : X.heap[b]? = some (.cells #[.slice a n c, .int .i64 i] 27)) : X.cell? ⟨b, 0, none⟩ = some (.slice a n c) ∧ X.cell? ⟨b, 1, none⟩ = some (.int .i64 i) ∧ X.frozen? ⟨b, 1, none⟩ = false := by
  refine ⟨?_, ?_, ?_⟩ <;> simp [World.cell?, World.frozen?, h]
theorem listsP_mem_len (T : List Int) : ∀ n B l, l ∈ listsP T n B → l.length ≤ B.length + n
  | 0, B, l, h => by unfold listsP at h; rw [List.mem_singleton.1 h]; omega
  | n + 1, B, l, h => by
    unfold listsP at h
    rcases List.mem_cons.1 h with rfl | h
    · omega
    · obtain ⟨x, _, h⟩ := List.mem_flatMap.1 h
      obtain ⟨y, _, h⟩ := List.mem_flatMap.1 h
      split at h
      · have := listsP_mem_len T n _ _ h
        rw [List.length_append, List.length_singleton] at this; omega
      · simp at h
set_option maxRecDepth 100000 in
set_option maxHeartbeats 800000 in
theorem amount_any (n : Int) (w : World) : Calls Try.prog 53 #[.int .i64 n] w fun e w' => e = .returned (.int .i64 (if n < wrap64 (-n) then wrap64 (-n) else n)) ∧ w = w' := by
  go_enter Try.func53, Try.ntmps53
  go_wp2
  all_goals (go_ret; exact ⟨by first | rfl | (rw [if_pos ‹_›]; rfl) | (rw [if_neg (by omega)]; rfl), rfl⟩)
set_option maxRecDepth 100000 in
set_option maxHeartbeats 6400000 in
theorem all_any (S : List (Int × Int)) (sv : Value) (t r p o : Int) (same : Bool) (w : World) (hS : WheelsAt w sv S) (h4 : S.length ≤ 4) (hp : 0 ≤ p ∧ p ≤ 3) (ho : 0 ≤ o ∧ o ≤ 200) :
    Calls Try.prog 51 #[sv, .agg #[.int .i64 t, .int .i64 r, .bool same, .int .i64 p, .int .i64 o]] w fun e w' => ∃ v, e = .returned v ∧ TrainsAt w' v (allR S p o same) ∧ (∀ g off n c, v = .slice (some ⟨g, off, none⟩) n c → w.heap.size < g) ∧ Below w.heap.size w w' := by
  obtain ⟨sa, sc, rfl⟩ := hS.shape
  obtain ⟨W0, hW0, hbw, hG, hz0⟩ := boxG w t r p o same
  have hS0 := hS.below hbw
  have hpn : p = (p.toNat : Int) := by omega
  have hls := lists_any S (.slice sa S.length sc) W0 hS0 h4 p.toNat p [] (.slice none 0 0) [] (.slice none 0 0) W0 W0 hpn (Below.refl _ _) ⟨⟨by simp [maxLen], .inl ⟨rfl, _, _, rfl⟩⟩, fun _ _ _ _ _ hB => absurd rfl hB⟩ (fun n c e => by simp at e; exact ⟨e.1.symm, e.2.symm⟩) (by simp; omega) ⟨[], ⟨rfl, .inl ⟨rfl, rfl⟩⟩, ⟨rfl, fun i hi => by simp at hi⟩, Keep.refl _ _⟩ (by
    have hc : cN p.toNat ≤ 4369 := by
      have : p.toNat = 0 ∨ p.toNat = 1 ∨ p.toNat = 2 ∨ p.toNat = 3 := by omega
      rcases this with h | h | h | h <;> rw [h] <;> decide
    simp; omega)
  obtain ⟨LL, hLL⟩ : ∃ LL, LL = listsP (S.map (·.1)) p.toNat [] := ⟨_, rfl⟩
  have hlen : LL.length ≤ 4369 := by
    have h1 := listsP_len (T := S.map (·.1)) (by simpa using h4) p.toNat []
    have hc : cN p.toNat ≤ 4369 := by
      have : p.toNat = 0 ∨ p.toNat = 1 ∨ p.toNat = 2 ∨ p.toNat = 3 := by omega
      rcases this with h | h | h | h <;> rw [h] <;> decide
    rw [hLL]; omega
  have HL := Lib.hid hls
  have HLL := Lib.hid hLL
  obtain ⟨g0, g1, g2, g3, g4⟩ := gcells hG
  rw [hW0] at g0 g1 g2 g3 g4
  clear hls hLL hpn
  go_enter Try.func51, Try.ntmps51
  go_wp2_with fail
  rw [← hW0]
  have hz1 : w.heap.size < W0.heap.size := by omega
  clear hW0 g0 g1 g2 g3 g4 hz0
  refine HL.out.mono ?_
  rintro e w1 ⟨lv, rfl, hout, hk⟩
  rw [List.nil_append, ← HLL.out] at hout
  obtain ⟨la, lc, rfl⟩ := hout.shape
  obtain ⟨N, hN⟩ : ∃ N, N = LL.length := ⟨_, rfl⟩
  rw [← hN] at hout ⊢
  have HN := Lib.hid hN
  have HOUT := Lib.hid hout
  have hG1 := (hk.1.block w.heap.size hz1).trans hG
  have hb1 : Below w.heap.size w w1 := hbw.trans (hk.1.mono (by omega))
  have hbW := hk.1
  have hw1 : W0.heap.size ≤ w1.heap.size := hk.1.size
  have hN4 : N ≤ 4369 := by omega
  clear HL hout hk hG hN hlen
  go_wp2_with fail
  go_loopw [5, 7] (fun ov c wr => ∃ i : Nat, i ≤ N ∧ c = .int .i64 i ∧ OutT W0.heap.size wr ov (allTo S p o same LL i) ∧ KeepT 27 W0.heap.size w1 wr) (fun _ c _ => N - (intOf c).toNat)
  case atStart => exact ⟨0, by omega, rfl, ⟨[], rfl, ⟨rfl, .inl ⟨rfl, rfl⟩⟩, fun i hi => by simp [allTo] at hi⟩, KeepT.refl _ _ _⟩
  case round =>
    obtain ⟨i, hi, rfl, hout, hk⟩ := hrel
    have i0 : (0 : Int) ≤ (i : Int) := by omega
    by_cases hil : i < N
    · have i2 : (i : Int) < (N : Int) := by omega
      go_wp2_with fail
      obtain ⟨wo, hwo⟩ : ∃ wo : World, wo = wr := ⟨_, rfl⟩
      subst hwo
      have HO := Lib.hid hout
      have HK := Lib.hid hk
      clear hout hk
      go_loopw [5, 8] (fun ov c wr => ∃ (k : Nat) (z : Int), k ≤ S.length + 1 ∧ z = (k : Int) - 1 ∧ c = .int .i64 z ∧ OutT W0.heap.size wr ov (allTo S p o same LL i ++ ableL S p o same (LL.getD i []) k) ∧ KeepT 27 W0.heap.size w1 wr) (fun _ c _ => (S.length - intOf c).toNat)
      case atStart => exact ⟨0, -1, by omega, by omega, rfl, by have e : ableL S p o same (LL.getD i []) 0 = [] := rfl; rw [e, List.append_nil]; exact HO.out, HK.out⟩
      case round =>
        obtain ⟨k, z, hkS, hz, rfl, hout, hk⟩ := hrel
        by_cases hkl : k < S.length + 1
        · have z2 : z < (S.length : Int) := by omega
          have z3 : z + 1 ≤ 9223372036854775807 := by omega
          have hiL : i < LL.length := by have := HN.out; omega
          obtain ⟨lg, lb, ld, e0, hlg, hcl, hrow⟩ := row_at (HOUT.out.keepT hk) hiL
          subst e0
          obtain ⟨Bi, hBi⟩ : ∃ B, B = LL.getD i [] := ⟨_, rfl⟩
          rw [← hBi] at hcl hrow
          have hBl : Bi.length ≤ 1000000 := by
            have h1 : Bi ∈ LL := by rw [hBi]; simp [List.getD, hiL]
            rw [HLL.out] at h1
            have h2 := listsP_mem_len (S.map (·.1)) _ _ _ h1
            simp at h2; omega
          have hw0 : W0.heap.size ≤ wr.heap.size := Nat.le_trans hw1 hk.1.size
          have HZ := Lib.hid hz
          have HBI := Lib.hid hBi
          clear hBi
          have hz0 : z = -1 ∨ 0 ≤ z := by omega
          rcases hz0 with rfl | hz0
          · have hIDL : (0 :: S.map (·.1)).getD k 0 = 0 := by obtain rfl : k = 0 := by omega
                                                              rfl
            have HIDL := Lib.hid hIDL
            clear hIDL hz
            have zz : ((-1 : Int)) < (S.length : Int) := z2
            have z9 : ¬ (0 : Int) ≤ -1 := by omega
            obtain ⟨E, hE⟩ : ∃ E, E = wr.heap.size := ⟨_, rfl⟩
            obtain ⟨X1, hX1⟩ : ∃ X, X = wr.alloc (.cells #[.slice lb Bi.length ld, .int .i64 0] 27) := ⟨_, rfl⟩
            have hbX1 : Below wr.heap.size wr X1 := by rw [hX1]; exact (Below.refl _ _).alloc (Nat.le_refl _) _
            have hE1 : X1.heap[E]? = some (.cells #[.slice lb Bi.length ld, .int .i64 0] 27) := by rw [hX1, hE]; exact (MapKept.heap_alloc wr _).1
            have hEz : E < X1.heap.size := by rw [hX1, hE]; simp
            have hE0 : W0.heap.size ≤ E := by omega
            have hkX := hk.trans (KeepT.below hbX1 hw0)
            have hrX := hrow.keep (Keep.below hbX1 (Nat.le_refl _))
            have hoX := hout.below hbX1
            have HX1 := Lib.hid hX1
            have HE := Lib.hid hE
            clear hout hk hrow hbX1 hX1 hE
            go_upto_region 12 with fail
            rw [← HX1.out, ← HE.out]
            clear HX1 HE hcl
            have HK2 := Lib.hid hkX
            have HO2 := Lib.hid hoX
            have HR2 := Lib.hid hrX
            have hSX := hS0.below (hbW.trans hkX.1)
            have hab := able_any S Bi _ (.slice lb Bi.length ld) t r p o 0 same X1 hSX hrX.1 hBl (by omega)
            obtain ⟨C, hC⟩ : ∃ C, ableC S p o same Bi 0 = C := ⟨_, rfl⟩
            rw [hC] at hab
            have HAB := Lib.hid hab
            have HC := Lib.hid hC
            clear hab hC
            obtain ⟨g0, g1, g2, g3, g4⟩ := gcells ((hkX.1.block w.heap.size hz1).trans hG1)
            obtain ⟨f0, f1, _⟩ := tcells2 hE1
            have hXz : X1.heap.size = X1.heap.size := rfl
            clear hkX hoX hrX hSX hXz
            go_wp2_with fail
            refine HAB.out.mono ?_
            rintro e X3 ⟨rfl, hb3⟩
            clear HAB g0 g1 g2 g3 g4 f0 f1
            have hX3 : W0.heap.size ≤ X1.heap.size := by omega
            have hk3 := HK2.out.trans (KeepT.below hb3 hX3)
            have hE3 := (hb3.block E hEz).trans hE1
            have ho3 := HO2.out.below hb3
            have hr3 := HR2.out.keep (Keep.below hb3 (Nat.le_refl _))
            have hz3' : W0.heap.size ≤ X3.heap.size := Nat.le_trans hX3 hb3.size
            clear hb3 HK2 HO2 HR2
            by_cases hC0 : C = 0
            · have c0 : (C == 0) = true := by simp [hC0]
              obtain ⟨v4, X4, hr4, ho4, hk4⟩ := put_train (i := 0) (ty := 92) ho3 hr3 hz3' (by
                have h1 := allTo_len S p o same LL h4 i (by omega)
                have h2 := ableL_len S p o same (LL.getD i []) k
                have h3 := HN.out
                rw [List.length_append]; omega)
              have HR4 := Lib.hid hr4
              have HC0 := Lib.hid hC0
              have HO4 := Lib.hid ho4
              have HK4 := Lib.hid (hk3.trans hk4)
              obtain ⟨f0, f1, _⟩ := tcells2 hE3
              clear hr4 ho4 hk4 hC0 ho3 hk3 hr3
              go_wp2_with (at_builtin; refine wpList_append_run rfl (.tmp 44) (.tmp 46) 92 rfl rfl rfl HR4.out ?_)
              go_roundw
              case rel => exact ⟨k + 1, 0, by omega, by have := HZ.out; omega, rfl, by rw [ableL_succ S p o same _ k hkl, ← HBI.out, HIDL.out, if_pos (by rw [HC.out]; exact HC0.out), ← List.append_assoc, HBI.out]; rw [HBI.out] at HO4; exact HO4.out, HK4.out⟩
              case measure => first | (simp [intOf]; omega) | simp [intOf]
            · have c0 : (C == 0) = false := by simp [hC0]
              have HC0 := Lib.hid hC0
              have HO4 := Lib.hid ho3
              have HK4 := Lib.hid hk3
              clear hC0 ho3 hk3 hr3
              go_wp2_with fail
              go_roundw
              case rel => exact ⟨k + 1, 0, by omega, by have := HZ.out; omega, rfl, by rw [ableL_succ S p o same _ k hkl, ← HBI.out, HIDL.out, if_neg (by rw [HC.out]; exact HC0.out), List.append_nil, HBI.out]; exact HO4.out, HK4.out⟩
              case measure => first | (simp [intOf]; omega) | simp [intOf]
          · have hk1 : k - 1 < S.length := by have := HZ.out; omega
            obtain ⟨sb, so, e0, _, _, _, hsb, hsc⟩ := (hS0.below (hbW.trans hk.1)).at rfl (by omega)
            subst e0
            have cz := (hsc (k - 1) hk1).1
            obtain ⟨y, hy⟩ : ∃ y, y = (S.getD (k - 1) (0, 0)).1 := ⟨_, rfl⟩
            rw [← hy] at cz
            have hIDL : (0 :: S.map (·.1)).getD k 0 = y := by
              obtain ⟨m, rfl⟩ : ∃ m, k = m + 1 := ⟨k - 1, by have := HZ.out; omega⟩
              rw [hy]
              simp [List.getD, show m < S.length from by omega]
            have HIDL := Lib.hid hIDL
            have zn : z.toNat = k - 1 := by have := HZ.out; omega
            have cza : ∀ A : Obj, (wr.alloc A).cell? ⟨sb, so + (k - 1) * 2, none⟩ = some (.int .i64 y) := fun A => (Below.cell ((Below.refl _ _).alloc (Nat.le_refl _) _) (p := ⟨sb, so + (k - 1) * 2, none⟩) hsb).trans cz
            clear hy hIDL hsc cz hz
            obtain ⟨E, hE⟩ : ∃ E, E = wr.heap.size := ⟨_, rfl⟩
            obtain ⟨X1, hX1⟩ : ∃ X, X = wr.alloc (.cells #[.slice lb Bi.length ld, .int .i64 y] 27) := ⟨_, rfl⟩
            have hbX1 : Below wr.heap.size wr X1 := by rw [hX1]; exact (Below.refl _ _).alloc (Nat.le_refl _) _
            have hE1 : X1.heap[E]? = some (.cells #[.slice lb Bi.length ld, .int .i64 y] 27) := by rw [hX1, hE]; exact (MapKept.heap_alloc wr _).1
            have hEz : E < X1.heap.size := by rw [hX1, hE]; simp
            have hE0 : W0.heap.size ≤ E := by omega
            have hkX := hk.trans (KeepT.below hbX1 hw0)
            have hrX := hrow.keep (Keep.below hbX1 (Nat.le_refl _))
            have hoX := hout.below hbX1
            have HX1 := Lib.hid hX1
            have HE := Lib.hid hE
            clear hout hk hrow hbX1 hX1 hE
            go_upto_region 12 with fail
            rw [← HX1.out, ← HE.out]
            clear HX1 HE hcl cza zn
            have HK2 := Lib.hid hkX
            have HO2 := Lib.hid hoX
            have HR2 := Lib.hid hrX
            have hSX := hS0.below (hbW.trans hkX.1)
            have hab := able_any S Bi _ (.slice lb Bi.length ld) t r p o y same X1 hSX hrX.1 hBl (by omega)
            obtain ⟨C, hC⟩ : ∃ C, ableC S p o same Bi y = C := ⟨_, rfl⟩
            rw [hC] at hab
            have HAB := Lib.hid hab
            have HC := Lib.hid hC
            clear hab hC
            obtain ⟨g0, g1, g2, g3, g4⟩ := gcells ((hkX.1.block w.heap.size hz1).trans hG1)
            obtain ⟨f0, f1, _⟩ := tcells2 hE1
            have hXz : X1.heap.size = X1.heap.size := rfl
            clear hkX hoX hrX hSX hXz
            go_wp2_with fail
            refine HAB.out.mono ?_
            rintro e X3 ⟨rfl, hb3⟩
            clear HAB g0 g1 g2 g3 g4 f0 f1
            have hX3 : W0.heap.size ≤ X1.heap.size := by omega
            have hk3 := HK2.out.trans (KeepT.below hb3 hX3)
            have hE3 := (hb3.block E hEz).trans hE1
            have ho3 := HO2.out.below hb3
            have hr3 := HR2.out.keep (Keep.below hb3 (Nat.le_refl _))
            have hz3' : W0.heap.size ≤ X3.heap.size := Nat.le_trans hX3 hb3.size
            clear hb3 HK2 HO2 HR2
            by_cases hC0 : C = 0
            · have c0 : (C == 0) = true := by simp [hC0]
              obtain ⟨v4, X4, hr4, ho4, hk4⟩ := put_train (i := y) (ty := 92) ho3 hr3 hz3' (by
                have h1 := allTo_len S p o same LL h4 i (by omega)
                have h2 := ableL_len S p o same (LL.getD i []) k
                have h3 := HN.out
                rw [List.length_append]; omega)
              have HR4 := Lib.hid hr4
              have HC0 := Lib.hid hC0
              have HO4 := Lib.hid ho4
              have HK4 := Lib.hid (hk3.trans hk4)
              obtain ⟨f0, f1, _⟩ := tcells2 hE3
              clear hr4 ho4 hk4 hC0 ho3 hk3 hr3
              go_wp2_with (at_builtin; refine wpList_append_run rfl (.tmp 44) (.tmp 46) 92 rfl rfl rfl HR4.out ?_)
              go_roundw
              case rel => exact ⟨k + 1, z + 1, by omega, by have := HZ.out; omega, rfl, by rw [ableL_succ S p o same _ k hkl, ← HBI.out, HIDL.out, if_pos (by rw [HC.out]; exact HC0.out), ← List.append_assoc, HBI.out]; rw [HBI.out] at HO4; exact HO4.out, HK4.out⟩
              case measure => first | (simp [intOf]; omega) | simp [intOf]
            · have c0 : (C == 0) = false := by simp [hC0]
              have HC0 := Lib.hid hC0
              have HO4 := Lib.hid ho3
              have HK4 := Lib.hid hk3
              clear hC0 ho3 hk3 hr3
              go_wp2_with fail
              go_roundw
              case rel => exact ⟨k + 1, z + 1, by omega, by have := HZ.out; omega, rfl, by rw [ableL_succ S p o same _ k hkl, ← HBI.out, HIDL.out, if_neg (by rw [HC.out]; exact HC0.out), List.append_nil, HBI.out]; exact HO4.out, HK4.out⟩
              case measure => first | (simp [intOf]; omega) | simp [intOf]
        · have k2 : ¬ z < (S.length : Int) := by omega
          obtain rfl : k = S.length + 1 := by omega
          have HO2 := Lib.hid hout
          have HK2 := Lib.hid hk
          have z9 : S.length ≤ 4 := h4
          clear hout hk
          go_wp2_with fail
          go_roundw
          case rel => exact ⟨i + 1, by omega, by go_num, by rw [allTo_succ S p o same LL i (by have := HN.out; omega)]; exact HO2.out, HK2.out⟩
          case measure => simp [intOf]; omega
    · have i2 : ¬ (i : Int) < (N : Int) := by omega
      obtain rfl : i = N := by omega
      have HO := Lib.hid hout
      have hb2 : Below w.heap.size w wr := hb1.trans (hk.1.mono (by omega))
      clear hout
      go_wp2_with fail
      go_ret
      obtain ⟨vs, _, h2, _⟩ := HO.out
      have h5 := fun q hq => (h2.lt q hq).1
      refine ⟨_, rfl, ?_, fun g off n c e => Nat.lt_of_lt_of_le hz1 (h5 g (congrArg Value.ownBlock e)), hb2⟩
      have := HO.out.trains
      rw [HN.out, allTo_all S p o same LL HLL.out] at this
      exact this
end Go.Proofs.Ytoiapnokgpeipaa
