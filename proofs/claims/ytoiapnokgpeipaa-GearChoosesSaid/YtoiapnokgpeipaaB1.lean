/- The iterator of pairs: for every loop body that keeps the stock. -/
import Derived.Test.YtoiapnokgpeipaaA7
import Derived.RangeFuncNested
import Derived.RangeFuncBound
import Derived.RangeFuncCalls
import Derived.RangeFuncLeaves
import Derived.Shelf.Abstract
import Derived.Shelf.RegionOpen
import Derived.OwnWalkIn
import Derived.TacticsInMore
import Derived.LoopNIn
import Derived.LoopIn
namespace Go.Proofs.Ytoiapnokgpeipaa
open Go.RowKit Go.Maps Go.Sort Go.Shelf
attribute [local go_sem] Oper.semAt_some

/-- teeth of a wheel -/
abbrev T6 := { x : Int // 6 ≤ x ∧ x ≤ 100 }
instance : Inhabited T6 := ⟨⟨6, by omega⟩⟩

/-- all pairs of teeth, in the order in which they come -/
def pairAt (tl : List T6) (q : Nat) : T6 × T6 := (tl.getD (q / tl.length) default, tl.getD (q % tl.length) default)
def pairsL (tl : List T6) : List (T6 × T6) := (List.range (tl.length * tl.length)).map (pairAt tl)
theorem pairsL_len (tl : List T6) : (pairsL tl).length = tl.length * tl.length := by simp [pairsL]
theorem pairsL_take (tl : List T6) (i j : Nat) (hi : i < tl.length) (hj : j < tl.length) :
    (pairsL tl).take (i * tl.length + j + 1) = (pairsL tl).take (i * tl.length + j) ++ [(tl.getD i default, tl.getD j default)] := by
  have hq : i * tl.length + j < (pairsL tl).length := by
    rw [pairsL_len]
    have : (i + 1) * tl.length ≤ tl.length * tl.length := Nat.mul_le_mul_right _ (by omega)
    rw [Nat.add_mul] at this; omega
  rw [List.take_succ_eq_append_getElem hq]
  congr 1
  have h1 : (i * tl.length + j) / tl.length = i := by
    rw [Nat.mul_comm, Nat.mul_add_div (by omega), Nat.div_eq_of_lt hj]; omega
  have h2 : (i * tl.length + j) % tl.length = j := by
    rw [Nat.mul_comm, Nat.mul_add_mod, Nat.mod_eq_of_lt hj]
  simp [pairsL, pairAt, h1, h2]

/-- what a round keeps: all blocks below n₀ but two -/
structure Keep2 (n₀ B m : Nat) (W W' : World) : Prop where
  size : W.heap.size ≤ W'.heap.size
  block : ∀ k, k < n₀ → k ≠ B → k ≠ m → W'.heap[k]? = W.heap[k]?
theorem Keep2.refl (n₀ B m : Nat) (W : World) : Keep2 n₀ B m W W := ⟨Nat.le_refl _, fun _ _ _ _ => rfl⟩
theorem Keep2.trans {n₀ B m : Nat} {X Y Z : World} (h : Keep2 n₀ B m X Y) (k : Keep2 n₀ B m Y Z) : Keep2 n₀ B m X Z := ⟨Nat.le_trans h.size k.size, fun i a b c => (k.block i a b c).trans (h.block i a b c)⟩
theorem Keep2.alloc {n₀ B m : Nat} {X Y : World} (h : Keep2 n₀ B m X Y) (hn : n₀ ≤ Y.heap.size) (o : Obj) : Keep2 n₀ B m X (Y.alloc o) :=
  h.trans ⟨by simp, fun k hk _ _ => Below.heap_alloc Y o k (by omega)⟩
theorem Keep2.cell {n₀ B m : Nat} {X Y : World} (h : Keep2 n₀ B m X Y) {b o : Nat} (hb : b < n₀) (h1 : b ≠ B) (h2 : b ≠ m) : Y.cell? ⟨b, o, none⟩ = X.cell? ⟨b, o, none⟩ :=
  World.cell?_of_block (w := X) (w' := Y) (a := ⟨b, o, none⟩) (h.block b hb h1 h2)


/-- what a round keeps: all cells but those of block B -/
structure KeepC (B : Nat) (W W' : World) : Prop where
  size : W.heap.size ≤ W'.heap.size
  same : ∀ k o, k ≠ B → W.heap[k]? = some o → o.isCells = true → W'.heap[k]? = some o
theorem KeepC.refl (B : Nat) (W : World) : KeepC B W W := ⟨Nat.le_refl _, fun _ _ _ h _ => h⟩
theorem KeepC.trans {B : Nat} {X Y Z : World} (h : KeepC B X Y) (k : KeepC B Y Z) : KeepC B X Z := ⟨Nat.le_trans h.size k.size, fun i o hi ho hc => k.same i o hi (h.same i o hi ho hc) hc⟩
theorem KeepC.of_grown {B : Nat} {X Y : World} {row : Option Nat} (hg : X.grownBy Y row) (hr : ∀ r, row = some r → r = B ∨ ∀ o, X.heap[r]? = some o → o.isCells = false) : KeepC B X Y :=
  ⟨hg.size, fun k o hk ho hc => (hg.block k (Array.getElem?_eq_some_iff.1 ho).1 (fun e => by
    rcases hr k e.symm with h | h
    · exact hk h
    · rw [h o ho] at hc; cases hc)).trans ho⟩
theorem KeepC.alloc {B : Nat} {X Y : World} (h : KeepC B X Y) (o : Obj) : KeepC B X (Y.alloc o) := h.trans (.of_grown (World.grownBy_alloc Y o none) (fun _ e => by cases e))
theorem KeepC.cell {B : Nat} {X Y : World} (h : KeepC B X Y) {b o : Nat} {v : Value} (hv : X.cell? ⟨b, o, none⟩ = some v) (h1 : b ≠ B) : Y.cell? ⟨b, o, none⟩ = some v := by
  unfold World.cell? at hv ⊢
  cases hX : X.heap[b]? with
  | none => simp [hX] at hv
  | some ob =>
    cases ob <;> simp [hX] at hv
    rw [h.same b _ h1 hX rfl]; simpa using hv

def encP (p : T6 × T6) : Array Value := #[.agg #[.int .i64 p.1.1, .int .i64 p.2.1]]

set_option maxRecDepth 100000 in
set_option maxHeartbeats 3200000 in
theorem pairs1_in (F : Fence) (n : Nat) (h73 : F.fn 73) (hro : F.round = none) (_hn : 1 ≤ n) (l Bs B b off cap : Nat) (S : List (Int × Int)) (tl : List T6) (J Jx : List (T6 × T6) → World → Prop)
    (hcm : cap ≤ 9223372036854775807) (hlc : S.length ≤ cap) (hlen : tl.length = S.length) (hteeth : ∀ i, i < S.length → (S.getD i (0, 0)).1 = (tl.getD i default).1)
    (hY : ∀ pre x W, J pre W → pre.length < tl.length * tl.length → YieldAt F (n - 1) Try.prog l (encP x) W fun e W' =>
      (e = .returned (.bool true) ∧ J (pre ++ [x]) W' ∧ KeepC B W W') ∨ (e = .returned (.bool false) ∧ Jx (pre ++ [x]) W'))
    (W : World) (hJ : AbidesFrom W.heap.size J) (hBsz : B < W.heap.size)
    (hBs : W.cell? ⟨Bs, 0, none⟩ = some (.slice (some ⟨b, off, none⟩) S.length cap)) (hBs2 : Bs ≠ B) (hb2 : b ≠ B)
    (hc : ∀ i, i < S.length → W.cell? ⟨b, off + i * 2, none⟩ = some (.int .i64 (S.getD i (0, 0)).1) ∧ W.cell? ⟨b, off + i * 2 + 1, none⟩ = some (.int .i64 (S.getD i (0, 0)).2)) (h0 : J [] W) :
    CallsIn F n Try.prog 73 #[.func (.yield l) #[] #[], .pointer (some ⟨Bs, 0, none⟩)] W fun e W' => (∃ v, e = .returned v) ∧
      ((∃ ys, ys = pairsL tl ∧ J ys W') ∨ (∃ pre, pre <+: pairsL tl ∧ Jx pre W')) := by
  refine callsIn_of_wp Try.func73 rfl h73 ?_ hro
  simp only [Try.ntmps73, List.size_toArray, List.length_cons, List.length_nil, Nat.reduceAdd, Nat.reduceSub, Array.replicate_succ, Array.replicate_zero, List.push_toArray, List.append_toArray, List.nil_append, List.cons_append]
  gi_wp2
  gi_loopw [4, 6, 9] (fun _ _ i wr => ∃ k : Nat, k ≤ S.length ∧ i = .int .i64 k ∧ KeepC B W wr ∧ J ((pairsL tl).take (k * tl.length)) wr) (fun _ _ i _ => S.length - (intOf i).toNat)
  case atStart => exact ⟨0, by omega, rfl, KeepC.refl _ _, by simpa using h0⟩
  case round =>
    obtain ⟨k, hk, rfl, hK, hJk⟩ := hrel
    by_cases hlt : k < S.length
    · obtain ⟨c0, c1⟩ := hc k hlt
      replace c0 := hK.cell c0 hb2
      replace c1 := hK.cell c1 hb2
      have hBs' := hK.cell hBs hBs2
      have hlb := World.block_lt_of_cell? _ _ c0
      have hlb2 := World.block_lt_of_cell? _ _ hBs'
      obtain ⟨x, hx⟩ : ∃ x, x = (S.getD k (0, 0)).1 := ⟨_, rfl⟩
      obtain ⟨y, hy⟩ : ∃ y, y = (S.getD k (0, 0)).2 := ⟨_, rfl⟩
      have hxt : x = (tl.getD k default).1 := by rw [hx]; exact hteeth k hlt
      rw [← hx] at c0
      rw [← hy] at c1
      obtain ⟨W1, hW1⟩ : ∃ W1, W1 = wr.alloc (.cells #[.int .i64 x, .int .i64 y] 58) := ⟨_, rfl⟩
      have hK1 : KeepC B W W1 := by rw [hW1]; exact hK.alloc _
      have hJ1 : J ((pairsL tl).take (k * tl.length)) W1 := by rw [hW1]; exact hJ _ _ _ none hJk (World.grownBy_alloc _ _ _) (fun _ e => by cases e)
      have hbx : W1.cell? ⟨wr.heap.size, 0, none⟩ = some (.int .i64 x) := by rw [hW1]; go_simp
      have hbs1 : W1.cell? ⟨Bs, 0, none⟩ = some (.slice (some ⟨b, off, none⟩) S.length cap) := by rw [hW1]; exact cell_al hBs' _
      have hne : wr.heap.size ≠ B := by have := hK.size; omega
      have Hx := Lib.hid hxt
      have Hc := Lib.hid hc
      have HW := Lib.hid hW1
      have Ht := Lib.hid hteeth
      clear hx hy hxt hc hteeth hW1
      gi_wp2
      rw [← HW.out]
      gi_loopw [6, 15] (fun _ i wr2 => ∃ j : Nat, j ≤ S.length ∧ i = .int .i64 j ∧ KeepC B W1 wr2 ∧ J ((pairsL tl).take (k * tl.length + j)) wr2) (fun _ i _ => S.length - (intOf i).toNat)
      case atStart => exact ⟨0, by omega, rfl, KeepC.refl _ _, by simpa using hJ1⟩
      case round =>
        obtain ⟨j, hj, rfl, hK2, hJj⟩ := hrel
        by_cases hltj : j < S.length
        · obtain ⟨d0, d1⟩ := Hc.out j hltj
          replace d0 := hK2.cell (hK1.cell d0 hb2) hb2
          replace d1 := hK2.cell (hK1.cell d1 hb2) hb2
          have hbx' := hK2.cell hbx hne
          have hlb3 := World.block_lt_of_cell? _ _ d0
          have hlb4 := World.block_lt_of_cell? _ _ hbx'
          obtain ⟨x2, hx2⟩ : ∃ x2, x2 = (S.getD j (0, 0)).1 := ⟨_, rfl⟩
          obtain ⟨y2, hy2⟩ : ∃ y2, y2 = (S.getD j (0, 0)).2 := ⟨_, rfl⟩
          have hxt2 : x2 = (tl.getD j default).1 := by rw [hx2]; exact Ht.out j hltj
          rw [← hx2] at d0
          rw [← hy2] at d1
          have hJ2 : J ((pairsL tl).take (k * tl.length + j)) (wr.alloc (.cells #[.int .i64 x2, .int .i64 y2] 58)) := hJ _ _ _ none hJj (World.grownBy_alloc _ _ _) (fun _ e => by cases e)
          have hlen2 : ((pairsL tl).take (k * tl.length + j)).length < tl.length * tl.length := by
            rw [List.length_take, pairsL_len]
            have : (k + 1) * tl.length ≤ tl.length * tl.length := Nat.mul_le_mul_right _ (by omega)
            rw [Nat.add_mul] at this; omega
          obtain ⟨fn, tmps, assign, body, hy', hR⟩ := hY _ (tl.getD k default, tl.getD j default) _ hJ2 hlen2
          have htk := pairsL_take tl k j (by omega) (by omega)
          rw [← htk] at hR
          unfold encP at hy'
          simp only [← hxt2, ← Hx.out] at hy'
          have Hr := Lib.hid hR
          have Hj := Lib.hid hJ2
          have hK3 : KeepC B W1 (wr.alloc (.cells #[.int .i64 x2, .int .i64 y2] 58)) := hK2.alloc _
          clear hx2 hy2 hxt2 hR hJ2 htk hlen2 hY
          gi_wp2
          refine Hr.out.mono ?_
          rintro e W3 (⟨rfl, hJ3, hk3⟩ | ⟨rfl, hJx3⟩)
          · gi_wp2
            go_roundw
            case rel => exact ⟨j + 1, by omega, by go_num, hK3.trans hk3, hJ3⟩
            case measure => simp [intOf]; omega
          · gi_wp2
            refine bodyPost_ret (results_none rfl _ _ _) rfl ?_
            exact ⟨⟨_, rfl⟩, .inr ⟨_, List.take_prefix _ _, hJx3⟩⟩
        · have hjl : j = tl.length := by omega
          subst hjl
          gi_wp2
          go_roundw
          case rel => exact ⟨k + 1, by omega, by go_num, hK1.trans hK2, by rw [Nat.add_mul, Nat.one_mul]; exact hJj⟩
          case measure => simp [intOf]; omega
    · gi_wp2
      go_end0
      have : k = tl.length := by omega
      subst this
      rw [List.take_of_length_le (by rw [pairsL_len]; exact Nat.le_refl _)] at hJk
      exact ⟨⟨_, rfl⟩, .inl ⟨_, rfl, hJk⟩⟩


set_option maxRecDepth 100000 in
set_option maxHeartbeats 1600000 in
theorem pairs1_nil (F : Fence) (n : Nat) (h73 : F.fn 73) (hro : F.round = none) (l Bs cap : Nat) (a : Option Addr) (W : World) (hBs : W.cell? ⟨Bs, 0, none⟩ = some (.slice a 0 cap)) :
    CallsIn F n Try.prog 73 #[.func (.yield l) #[] #[], .pointer (some ⟨Bs, 0, none⟩)] W fun e W' => (∃ v, e = .returned v) ∧ W' = W := by
  refine callsIn_of_wp Try.func73 rfl h73 ?_ hro
  simp only [Try.ntmps73, List.size_toArray, List.length_cons, List.length_nil, Nat.reduceAdd, Nat.reduceSub, Array.replicate_succ, Array.replicate_zero, List.push_toArray, List.append_toArray, List.nil_append, List.cons_append]
  gi_wp2
  gi_loopw [4, 6, 9] (fun _ _ i wr => i = .int .i64 0 ∧ wr = W) (fun _ _ _ _ => 0)
  case atStart => exact ⟨rfl, rfl⟩
  case round =>
    obtain ⟨rfl, rfl⟩ := hrel
    gi_wp2
    go_end0
    exact ⟨⟨_, rfl⟩, rfl⟩

theorem pairs_stops (n : Nat) (hn : 1 ≤ n) (Bs B : Nat) (sv : Value) (S : List (Int × Int)) (tl : List T6) (w : World) (hS : WheelsAt w sv S) (hsB : ∀ b off n cap, sv = .slice (some ⟨b, off, none⟩) n cap → b ≠ B)
    (hlen : tl.length = S.length) (hteeth : ∀ i, i < S.length → (S.getD i (0, 0)).1 = (tl.getD i default).1) (hBs : w.cell? ⟨Bs, 0, none⟩ = some sv) (hBsB : Bs ≠ B) (hB : B < w.heap.size) :
    SeqStopsK Fence.wide n Try.prog 73 #[.pointer (some ⟨Bs, 0, none⟩)] encP (KeepC B) (fun xs => xs = pairsL tl) (fun pre => pre <+: pairsL tl) (tl.length * tl.length) w := by
  intro l J Jx W hb hJ _ hY h0
  have hBsl := World.block_lt_of_cell? _ _ hBs
  have hBs' : W.cell? ⟨Bs, 0, none⟩ = some sv := (hb.cell (p := ⟨Bs, 0, none⟩) hBsl).trans hBs
  obtain ⟨hl, ⟨rfl, a, cap, rfl⟩ | ⟨b, off, cap, rfl, hlc, hcm, hbl, hc⟩⟩ := hS
  · refine (pairs1_nil Fence.wide n trivial rfl l Bs cap a W hBs').mono ?_
    rintro e W' ⟨hv, rfl⟩
    exact ⟨hv, .inl ⟨_, rfl, by
      have : pairsL tl = [] := List.length_eq_zero_iff.1 (by rw [pairsL_len, hlen]; rfl)
      rw [this]; exact h0⟩⟩
  · exact pairs1_in Fence.wide n trivial rfl hn l Bs B b off cap S tl J Jx hcm hlc hlen hteeth hY W hJ (by have := hb.size; omega) hBs' hBsB (hsB b off _ cap rfl)
      (fun i hi => ⟨(hb.cell (p := ⟨b, _, none⟩) hbl).trans (hc i hi).1, (hb.cell (p := ⟨b, _, none⟩) hbl).trans (hc i hi).2⟩) h0

set_option maxRecDepth 100000 in
theorem pairsOf_any (a : Option Addr) (n cap : Nat) (w : World) :
    Calls Try.prog 65 #[.slice a n cap] w fun e w' => e = .returned (.func (.func 73) #[] #[.pointer (some ⟨w.heap.size, 0, none⟩)]) ∧ w' = w.alloc (.cells #[.slice a n cap] 22) := by
  go_enter Try.func65, Try.ntmps65
  go_wp2
  go_ret
  exact ⟨rfl, rfl⟩

end Go.Proofs.Ytoiapnokgpeipaa
