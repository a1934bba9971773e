/- Term: the proofs as they come: for every loop body that keeps what the iterator reads. -/
import Derived.Test.YtcmfplfnpjknlaaA12
import Derived.RangeFuncNested
import Derived.RangeFuncBound
import Derived.RangeFuncCalls
import Derived.RangeFuncLeaves
import Derived.RangeFuncFrom
import Derived.RangeFuncBox
import Derived.Shelf.Abstract
import Derived.Shelf.RegionOpen
import Derived.OwnWalkIn
import Derived.TacticsInMore
import Derived.LoopNIn
import Derived.LoopIn
import Derived.OrdersIn
import Derived.OrdersHeld
namespace Go.Proofs.Ytcmfplfnpjknlaa
set_option linter.unusedSimpArgs false
set_option linter.unusedVariables false
open Go.RowKit Go.Shelf
attribute [local go_sem] Oper.semAt_some

/-- what a round keeps: all cells but those of some blocks -/
structure KeepE (E : Nat → Prop) (W W' : World) : Prop where
  size : W.heap.size ≤ W'.heap.size
  same : ∀ k o, ¬ E k → W.heap[k]? = some o → o.isCells = true → W'.heap[k]? = some o
theorem KeepE.refl (E : Nat → Prop) (W : World) : KeepE E W W := ⟨Nat.le_refl _, fun _ _ _ h _ => h⟩
theorem KeepE.trans {E : Nat → Prop} {X Y Z : World} (h : KeepE E X Y) (k : KeepE E Y Z) : KeepE E X Z := ⟨Nat.le_trans h.size k.size, fun i o hi ho hc => k.same i o hi (h.same i o hi ho hc) hc⟩
theorem KeepE.of_grown {E : Nat → Prop} {X Y : World} {row : Option Nat} (hg : X.grownBy Y row) (hr : ∀ r, row = some r → E r ∨ ∀ o, X.heap[r]? = some o → o.isCells = false) : KeepE E X Y :=
  ⟨hg.size, fun k o hk ho hc => (hg.block k (Array.getElem?_eq_some_iff.1 ho).1 (fun e => by
    rcases hr k e.symm with h | h
    · exact hk h
    · rw [h o ho] at hc; cases hc)).trans ho⟩
theorem KeepE.of_below {E : Nat → Prop} {X Y : World} (h : Below X.heap.size X Y) : KeepE E X Y := ⟨h.size, fun k o _ ho _ => (h.block k (Array.getElem?_eq_some_iff.1 ho).1).trans ho⟩
theorem KeepE.alloc {E : Nat → Prop} {X Y : World} (h : KeepE E X Y) (o : Obj) : KeepE E X (Y.alloc o) := h.trans (.of_grown (World.grownBy_alloc Y o none) (fun _ e => by cases e))
theorem KeepE.drew {E : Nat → Prop} {X Y : World} (h : KeepE E X Y) : KeepE E X Y.drew := ⟨h.size, h.same⟩
theorem KeepE.block {E : Nat → Prop} {X Y : World} (h : KeepE E X Y) {b : Nat} {cs : Array Value} {t : TypeId} {f : Nat × Nat} (hb : X.heap[b]? = some (.cells cs t f)) (h1 : ¬ E b) : Y.heap[b]? = some (.cells cs t f) := h.same b _ h1 hb rfl
theorem KeepE.cell {E : Nat → Prop} {X Y : World} (h : KeepE E X Y) {b o : Nat} {v : Value} (hv : X.cell? ⟨b, o, none⟩ = some v) (h1 : ¬ E b) : Y.cell? ⟨b, o, none⟩ = some v := by
  unfold World.cell? at hv ⊢
  cases hX : X.heap[b]? with
  | none => simp [hX] at hv
  | some ob =>
    cases ob <;> simp [hX] at hv
    rw [h.same b _ h1 hX rfl]; simpa using hv
theorem grown_of_below {X Y : World} (hb : Below X.heap.size X Y) : X.grownBy Y none := ⟨hb.os, hb.tape, hb.output, hb.size, fun k hk _ => hb.block k hk⟩
theorem abides_below {β : Type} {B : Nat} {J : β → World → Prop} (hJ : AbidesFrom B J) {s : β} {W W' : World} (h : J s W) (hb : Below W.heap.size W W') : J s W' := hJ s W W' none h (grown_of_below hb) (fun _ e => by cases e)

def cl (ps : List Prf) (x : Nat) : Nat := min x (ps.length - 1)
/-- the slices of the proofs' seals, where they lie -/
def PV (ps : List Prf) (sa : Nat → Option Addr) (sc : Nat → Nat) (j : Nat) : Value :=
  .agg #[.int .i64 (ps.getD j default).cls, .int .i64 (ps.getD j default).day, .slice (sa j) (ps.getD j default).seals.length (sc j), .int .i64 (ps.getD j default).failed]
def encH (ps : List Prf) (sa : Nat → Option Addr) (sc : Nat → Nat) (x : Nat) : Array Value := #[.int .i64 ((cl ps x : Nat) : Int), PV ps sa sc (cl ps x)]
/-- what the iterator reads -/
structure HMem (Bx R : Nat) (pa : Option Addr) (pc : Nat) (ps : List Prf) (sa : Nat → Option Addr) (sc : Nat → Nat) (W : World) : Prop where
  box : W.heap[Bx]? = some (.cells #[.pointer (some ⟨R, 0, none⟩)] 59 (0, 0))
  rc : W.cell? ⟨R, 2, none⟩ = some (.slice pa ps.length pc)
  prf : PrfAt W (.slice pa ps.length pc) ps
  sl : ∀ b off, pa = some ⟨b, off, none⟩ → ∀ i, i < ps.length → W.cell? ⟨b, off + i * 4 + 2, none⟩ = some (.slice (sa i) (ps.getD i default).seals.length (sc i))
set_option maxRecDepth 100000 in
set_option maxHeartbeats 3200000 in
theorem happ_in (n : Nat) (hn : 1 ≤ n) (l Bx R : Nat) (pa : Option Addr) (pc : Nat) (ps : List Prf) (sa : Nat → Option Addr) (sc : Nat → Nat) (E : Nat → Prop) (h12 : ps.length ≤ 12) (J Jx : List Nat → World → Prop)
    (e1 : 0 < ps.length → ∀ b off, pa = some ⟨b, off, none⟩ → ¬ E b) (W : World) (hM : HMem Bx R pa pc ps sa sc W) (hE : ∀ k, E k → k < W.heap.size) (hJ : AbidesFrom W.heap.size J)
    (hY : ∀ pre x W1, J pre W1 → pre.length < ps.length → YieldAt Fence.wide (n - 1) Try.prog l (encH ps sa sc x) W1 fun e W' =>
      (e = .returned (.bool true) ∧ J (pre ++ [x]) W' ∧ KeepE E W1 W') ∨ (e = .returned (.bool false) ∧ Jx (pre ++ [x]) W'))
    (h0 : J [] W) :
    CallsIn Fence.wide n Try.prog 57 #[.func (.yield l) #[] #[], .pointer (some ⟨Bx, 0, none⟩)] W fun e W' => (∃ v, e = .returned v) ∧
      ((∃ ys, ys = orderF ps ps.length ∧ J ys W') ∨ (∃ pre, pre <+: orderF ps ps.length ∧ Jx pre W')) := by
  have b0 := one_cell hM.box
  have r2 := hM.rc
  have hio := inOrder_any ps (.slice pa ps.length pc) W hM.prf h12
  have HM := Lib.hid hM
  have HY := Lib.hid hY
  have HE := Lib.hid hE
  have H1 := Lib.hid e1
  have HIO := Lib.hid hio
  clear hY hM hE e1 hio
  refine callsIn_of_wp Try.func57 rfl trivial ?_ rfl
  simp only [Try.ntmps57, List.size_toArray, List.length_cons, List.length_nil, Nat.reduceAdd, Nat.reduceSub, Array.replicate_succ, Array.replicate_zero, List.push_toArray, List.append_toArray, List.nil_append, List.cons_append]
  gi_wp2
  refine ⟨trivial, callsIn_wide.2 (HIO.out.mono ?_)⟩
  rintro e w1 ⟨g, rfl, hg, htab, hb1⟩
  have hJ1 := abides_below hJ h0 hb1
  have HT := Lib.hid htab
  have HB1 := Lib.hid hb1
  have HG := Lib.hid hg
  clear htab hb1 hg b0 r2
  gi_wp2
  gi_loopw [14] (fun i wr => ∃ k : Nat, k ≤ ps.length ∧ i = .int .i64 k ∧ KeepE E w1 wr ∧ J ((orderF ps ps.length).take k) wr) (fun i _ => ps.length - (intOf i).toNat)
  case atStart => exact ⟨0, by omega, rfl, KeepE.refl _ _, by simpa using hJ1⟩
  case round =>
    obtain ⟨k, hk, rfl, hK, hJk⟩ := hrel
    have hol := orderF_len ps ps.length
    by_cases hlt : k < ps.length
    · have hlt' : (k : Int) < (ps.length : Int) := by omega
      obtain ⟨g2, off2, eg, _, hgc⟩ := HT.out.ints (by unfold ordInts; rw [List.length_map, hol]; omega)
      simp only [Option.some.injEq, Addr.mk.injEq, and_true] at eg
      obtain ⟨rfl, rfl⟩ := eg
      have u0 := hgc k (by unfold ordInts; rw [List.length_map, hol]; omega)
      obtain ⟨x, hx⟩ : ∃ x, (orderF ps ps.length)[k]'(by rw [hol]; exact hlt) = x := ⟨_, rfl⟩
      have hxo : (ordInts ps).getD k default = (x : Int) := by
        unfold ordInts; simp [List.getD, hol, hlt, hx]
      have hxl : x < ps.length := by rw [← hx]; exact orderF_lt ps ps.length _ (List.getElem_mem _)
      rw [hxo, Nat.zero_add] at u0
      have u1 := hK.cell u0 (fun h => by have := HE.out _ h; have := HG.out; omega)
      obtain ⟨b, off, rfl, hbl, hcx⟩ := HM.out.prf.at (by omega)
      obtain ⟨sv, p0, p1, p2, p3, _⟩ := hcx x hxl
      have p2' := HM.out.sl b off rfl x hxl
      have hnb := H1.out (by omega) b off rfl
      have hcc : ∀ o v, W.cell? ⟨b, o, none⟩ = some v → wr.cell? ⟨b, o, none⟩ = some v := fun o v h => hK.cell ((HB1.out.cell (p := ⟨b, o, none⟩) hbl).trans h) hnb
      have q0 := hcc _ _ p0
      have q1 := hcc _ _ p1
      have q2 := hcc _ _ p2'
      have q3 := hcc _ _ p3
      have hpl : ((orderF ps ps.length).take k).length < ps.length := by rw [List.length_take, hol]; omega
      obtain ⟨fn, tmps, assign, body, hy', hR⟩ := HY.out _ x wr hJk hpl
      have htk : (orderF ps ps.length).take k ++ [x] = (orderF ps ps.length).take (k + 1) := by
        rw [List.take_succ_eq_append_getElem (by rw [hol]; exact hlt), hx]
      rw [htk] at hR
      unfold encH PV at hy'
      rw [show cl ps x = x by unfold cl; omega] at hy'
      generalize (ps.getD x default) = px at *
      obtain ⟨sax, hsa⟩ : ∃ s, sa x = s := ⟨_, rfl⟩
      obtain ⟨scx, hsc⟩ : ∃ s, sc x = s := ⟨_, rfl⟩
      rw [hsa, hsc] at q2 hy'
      have ix0 : (0 : Int) ≤ (x : Int) := by omega
      have ix1 : (x : Int) < (ps.length : Int) := by omega
      have Hr := Lib.hid hR
      clear hR hpl htk p0 p1 p2 p3 p2' hcc hcx hgc u0 hxo hx hol hnb hsa hsc
      gi_wp2
      refine Hr.out.mono ?_
      rintro e W3 (⟨rfl, hJ3, hk3⟩ | ⟨rfl, hJx3⟩)
      · gi_wp2
        go_roundw
        case rel => exact ⟨k + 1, by omega, by go_num, hK.trans hk3, hJ3⟩
        case measure => simp [intOf]; omega
      · gi_wp2
        refine bodyPost_ret (results_none rfl _ _ _) rfl ?_
        exact ⟨⟨_, rfl⟩, .inr ⟨_, List.take_prefix _ _, hJx3⟩⟩
    · rw [List.take_of_length_le (by omega)] at hJk
      have hge : ¬ (k : Int) < (ps.length : Int) := by omega
      clear hol
      gi_wp2
      go_end0
      exact ⟨⟨_, rfl⟩, .inl hJk⟩
theorem happ_stops (n : Nat) (hn : 1 ≤ n) (Bx R : Nat) (pa : Option Addr) (pc : Nat) (ps : List Prf) (sa : Nat → Option Addr) (sc : Nat → Nat) (E : Nat → Prop) (h12 : ps.length ≤ 12)
    (e1 : 0 < ps.length → ∀ b off, pa = some ⟨b, off, none⟩ → ¬ E b) (w : World) (hM : HMem Bx R pa pc ps sa sc w) (hE : ∀ k, E k → k < w.heap.size) (hR : R < w.heap.size) :
    SeqStopsK Fence.wide n Try.prog 57 #[.pointer (some ⟨Bx, 0, none⟩)] (encH ps sa sc) (KeepE E) (fun xs => xs = orderF ps ps.length) (fun pre => pre <+: orderF ps ps.length) ps.length w := by
  intro l J Jx W hb hJ _ hY h0
  have hM' : HMem Bx R pa pc ps sa sc W := ⟨(hb.block _ (Array.getElem?_eq_some_iff.1 hM.box).1).trans hM.box, (hb.cell (p := ⟨R, 2, none⟩) hR).trans hM.rc, hM.prf.below hb, fun b off e i hi => by
    subst e
    obtain ⟨b2, off2, e, hbl, _⟩ := hM.prf.at (by omega)
    simp only [Option.some.injEq, Addr.mk.injEq, and_true] at e
    obtain ⟨rfl, rfl⟩ := e
    exact (hb.cell (p := ⟨b, _, none⟩) hbl).trans (hM.sl b off rfl i hi)⟩
  exact happ_in n hn l Bx R pa pc ps sa sc E h12 J Jx e1 W hM' (fun k hk => Nat.lt_of_lt_of_le (hE k hk) hb.size) hJ hY h0
end Go.Proofs.Ytcmfplfnpjknlaa
