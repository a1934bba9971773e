/- A region that draws its order, in a walk that may call yield, and ends with some operations (ms) behind which nothing has to hold: what holds of the world (S) is kept by all the others. -/
import Derived.WalkKit
import Derived.OrdersHeld
import Derived.OrdersIn
import Derived.RangeFuncCalls
namespace Go.Proofs.Ytlcmedfjghcigaa
open Go.RowKit

variable {n : Nat} {P : Program} {md : Region.Mode} {ops : Array Oper} {Q : Exit → Act → World → Prop} {S : World → Prop} {ms : List Nat}

theorem putIn_held {j : Nat} {oi oj : Oper} {v : Value} (hj : ops[j]? = some oj) (hap : oi.apart ops oj = true) (hsi : ∀ cs b, oi.op ≠ .select cs b) (hsj : ∀ cs b, oj.op ≠ .select cs b)
    (hQ : ∀ c a w, Q (.panic c) (a.put oi.dst v) w → Q (.panic c) a w) {K : Act → World → Prop} {a : Act} {w : World} (hy : YieldsIf P ops S oi v a) (h : wpOpIn Fence.wide n P ops Q j K (a.put oi.dst v) w) :
    wpOpIn Fence.wide n P ops Q j (fun a' w' => YieldsIf P ops S oi v a' ∧ K (a'.put oi.dst v) w') a w := by
  obtain ⟨h1, h2, h3⟩ := Oper.apart_spec hap
  have stay : ∀ (b : Act), YieldsIf P ops S oi v b → ∀ u, YieldsIf P ops S oi v (b.put oj.dst u) := fun b hb u => hb.of_same (execOp_put oi hsi b oj.dst u h3) (wanted_put oi b oj.dst u h3)
  unfold wpOpIn at h ⊢
  simp only [hj] at h ⊢
  rw [wanted_put oj a oi.dst v h1] at h
  by_cases hw : Region.wanted oj (yielded ops a.tmps) = true
  · rw [if_pos hw] at h ⊢
    refine ⟨fun _ _ => trivial, ?_⟩
    replace h := h.2
    change oj.uponIn Fence.wide n P (a.put oi.dst v) K Q ((oj.semAt none (a.put oi.dst v).eval).run P w) at h
    change oj.uponIn Fence.wide n P a _ Q ((oj.semAt none a.eval).run P w)
    rw [Oper.semAt_none, execOp_put oj hsj a oi.dst v h1] at h
    rw [Oper.semAt_none]
    generalize (execOp a.eval oj).run P w = r at h ⊢
    have back : ∀ u, (a.put oi.dst v).put oj.dst u = (a.put oj.dst u).put oi.dst v := fun u => (Act.put_comm a v u h2)
    cases r with
    | halt x w' => cases x <;> simp only [Oper.uponIn] at h ⊢ <;> first | exact hQ _ _ _ h | exact h
    | ok x w' =>
      cases x <;> simp only [Oper.uponIn] at h ⊢
      case value u => exact ⟨stay a hy u, by rw [← back]; exact h⟩
      case skip => exact ⟨stay a hy undef, by rw [← back]; exact h⟩
      case defer d => exact ⟨YieldsIf.of_same (a := { a with defers := d :: a.defers }) (hy.of_same rfl rfl) (execOp_put oi hsi _ oj.dst undef h3) (wanted_put oi _ oj.dst undef h3), by rw [← Act.put_comm _ v undef h2, ← Act.put_defers]; exact h⟩
      case row r args => exact ⟨h.1, RowsIn.mono h.2 fun u _ he => ⟨stay a hy u, by rw [← back]; exact he⟩⟩
      case enter f args =>
        refine ⟨h.1, CallsIn.mono h.2 fun e _ he => ?_⟩
        cases e with
        | returned u => exact ⟨stay a hy u, by rw [← back]; exact he⟩
        | panicked c => exact hQ _ _ _ he
        | outgrown => exact he
      case round l f tmps assign body =>
        refine ⟨h.1, RoundIn.mono h.2 fun e _ he => ?_⟩
        cases e with
        | returned u => exact ⟨stay a hy u, by rw [← back]; exact he⟩
        | panicked c => exact hQ _ _ _ he
        | outgrown => exact he
  · rw [if_neg hw] at h ⊢
    exact ⟨fun _ _ => trivial, stay a hy undef, by rw [← Act.put_comm a v undef h2]; exact h.2⟩

theorem heldOpIn {i : Nat} {o : Oper} {v : Value} {a : Act} (hi : ops[i]? = some o) (hy : YieldsIf P ops S o v a) {K : Act → World → Prop} {w : World} (hS : S w) (h : K (a.put o.dst v) w) : wpOpIn Fence.wide n P ops Q i K a w := by
  unfold wpOpIn
  simp only [hi]
  rcases hy with ⟨hw, hv⟩ | ⟨hw, rfl⟩
  · rw [if_pos hw]
    refine ⟨fun _ _ => trivial, ?_⟩
    change o.uponIn Fence.wide n P a K Q ((o.semAt none a.eval).run P w)
    rw [Oper.semAt_none, hv w hS]
    exact h
  · rw [if_neg (by rw [hw]; simp)]
    exact ⟨fun _ _ => trivial, h⟩

/-- every order from here on; S behind each operation but those -/
def lastIn (n : Nat) (P : Program) (md : Region.Mode) (ops : Array Oper) (Q : Exit → Act → World → Prop) (S : World → Prop) (ms : List Nat) : Nat → Array Bool → Act → World → Prop
  | 0, listed, a, w => Region.ready md ops listed = [] ∧ Q .normal a w
  | k + 1, listed, a, w => (Region.ready md ops listed = [] → Q .normal a w) ∧
    ∀ j ∈ Region.ready md ops listed, wpOpIn Fence.wide n P ops Q j (fun a' w' => (¬ j ∈ ms → S w') ∧ lastIn n P md ops Q S ms k (listed.setIfInBounds j true) a' w') a w

theorem lastIn.any : ∀ (k : Nat) (listed : Array Bool) (a : Act) (w : World), lastIn n P md ops Q S ms k listed a w → wpAnyIn Fence.wide n P md ops Q k listed a w
  | 0, _, _, _, h => h
  | k + 1, _, _, _, h => ⟨h.1, fun j hj => wpOpIn_mono (fun _ _ q => lastIn.any k _ _ _ q.2) (h.2 j hj)⟩

/-- number m waits for number i -/
def waits (md : Region.Mode) (ops : Array Oper) (m i : Nat) : Bool := match ops[m]? with | some o => o.after.any (fun e => Region.binds md e && e.on == i) | none => false
/-- number m waits for number i, or for one that does -/
def waitsOn (md : Region.Mode) (ops : Array Oper) : Nat → Nat → Nat → Bool
  | 0, m, i => waits md ops m i
  | k + 1, m, i => waits md ops m i || (List.range ops.size).any fun j => waits md ops m j && waitsOn md ops k j i

theorem unlisted_of {listed : Array Bool} {i : Nat} (h : listed.getD i true = false) : i < listed.size := by
  rcases Nat.lt_or_ge i listed.size with h' | h'
  · exact h'
  · simp [Array.getElem?_eq_none h'] at h
theorem not_ready {i m : Nat} {listed : Array Bool} (hd : waits md ops m i = true) (hi : listed.getD i true = false) (hm : m ∈ Region.ready md ops listed) : False := by
  obtain ⟨_, o, ho, hall⟩ := mem_ready.1 hm
  unfold waits at hd
  rw [ho] at hd
  obtain ⟨e, he, hb⟩ := Array.any_eq_true'.1 hd
  rw [Bool.and_eq_true, beq_iff_eq] at hb
  have h1 := hall e he hb.1
  rw [hb.2] at h1
  have hlt := unlisted_of hi
  simp [hlt] at hi h1
  rw [hi] at h1
  cases h1

/-- whoever is listed, those that he waits for are -/
def Closed (md : Region.Mode) (ops : Array Oper) (L : Array Bool) : Prop := ∀ q o, ops[q]? = some o → L.getD q true = true → ∀ e ∈ o.after, Region.binds md e = true → L.getD e.on true = true
def closedB (md : Region.Mode) (ops : Array Oper) (L : Array Bool) : Bool := (List.range ops.size).all fun q => !L.getD q true || match ops[q]? with | some o => o.after.all (fun e => !Region.binds md e || L.getD e.on true) | none => true
theorem closed_of {L : Array Bool} (h : closedB md ops L = true) : Closed md ops L := fun q o ho hq e he hb => by
  unfold closedB at h
  rw [List.all_eq_true] at h
  have h1 := h q (List.mem_range.2 (Array.getElem?_eq_some_iff.1 ho).1)
  rw [ho, hq] at h1
  simp only [Bool.not_true, Bool.false_or] at h1
  have h2 := Array.all_eq_true_iff_forall_mem.1 h1 e he
  rw [hb] at h2
  simpa using h2
theorem getD_set_true (L : Array Bool) (j q : Nat) (h : L.getD q true = true) : (L.setIfInBounds j true).getD q true = true := by
  by_cases e : j = q
  · subst e
    by_cases hl : j < L.size
    · simp [hl]
    · simp [Array.getElem?_eq_none (show (L.setIfInBounds j true).size ≤ j by simp; omega)]
  · rw [getD_set_ne true e]; exact h
theorem Closed.list {L : Array Bool} {j : Nat} (h : Closed md ops L) (hj : j ∈ Region.ready md ops L) : Closed md ops (L.setIfInBounds j true) := fun q o ho hq e he hb => by
  refine getD_set_true L j _ ?_
  obtain ⟨_, oj, hoj, hall⟩ := mem_ready.1 hj
  have lift : ∀ e ∈ oj.after, Region.binds md e = true → L.getD e.on true = true := fun e he hb => by
    have h1 := hall e he hb
    by_cases hl : e.on < L.size
    · simp [hl] at h1 ⊢; exact h1
    · simp [Array.getElem?_eq_none (Nat.le_of_not_lt hl)]
  by_cases e2 : j = q
  · subst e2
    rw [ho] at hoj
    cases hoj
    exact lift e he hb
  · rw [getD_set_ne true e2] at hq
    exact h q o ho hq e he hb
theorem waitsOn_not {i : Nat} {L : Array Bool} (hc : Closed md ops L) (hi : L.getD i true = false) : ∀ (k m : Nat), waitsOn md ops k m i = true → (∀ o, ops[m]? = some o → ∀ e ∈ o.after, Region.binds md e = true → L.getD e.on true = true) → False := by
  have direct : ∀ m, waits md ops m i = true → (∀ o, ops[m]? = some o → ∀ e ∈ o.after, Region.binds md e = true → L.getD e.on true = true) → False := fun m h hd => by
    unfold waits at h
    cases ho : ops[m]? with
    | none => rw [ho] at h; cases h
    | some o =>
      rw [ho] at h
      obtain ⟨e, he, hb⟩ := Array.any_eq_true'.1 h
      rw [Bool.and_eq_true, beq_iff_eq] at hb
      have := hd o ho e he hb.1
      rw [hb.2, hi] at this; cases this
  intro k
  induction k with
  | zero => intro m h hd; exact direct m h hd
  | succ k ih =>
    intro m h hd
    unfold waitsOn at h
    rw [Bool.or_eq_true] at h
    rcases h with h | h
    · exact direct m h hd
    · rw [List.any_eq_true] at h
      obtain ⟨j, hj, h⟩ := h
      rw [Bool.and_eq_true] at h
      refine ih j h.2 (fun o ho => hc j o ho ?_)
      have h1 := h.1
      unfold waits at h1
      cases hom : ops[m]? with
      | none => rw [hom] at h1; cases h1
      | some om =>
        rw [hom] at h1
        obtain ⟨e, he, hb⟩ := Array.any_eq_true'.1 h1
        rw [Bool.and_eq_true, beq_iff_eq] at hb
        have := hd om hom e he hb.1
        rwa [hb.2] at this
theorem waitsOn_ready {i k m : Nat} {L : Array Bool} (h : waitsOn md ops k m i = true) (hc : Closed md ops L) (hi : L.getD i true = false) : ¬ m ∈ Region.ready md ops L := fun hm => by
  obtain ⟨_, o, ho, hall⟩ := mem_ready.1 hm
  refine waitsOn_not hc hi k m h (fun o' ho' e he hb => ?_)
  rw [ho] at ho'
  cases ho'
  have h1 := hall e he hb
  by_cases hl : e.on < L.size
  · simp [hl] at h1 ⊢; exact h1
  · simp [Array.getElem?_eq_none (Nat.le_of_not_lt hl)]

theorem lastIn.take {i : Nat} {oi : Oper} {v : Value} (hi : ops[i]? = some oi) (hs : Region.noSelect ops = true)
    (hQ : ∀ c a w, Q (.panic c) (a.put oi.dst v) w → Q (.panic c) a w) :
    ∀ (k : Nat) (listed : Array Bool) (a : Act) (w : World), Closed md ops listed → (∀ L : Array Bool, Closed md ops L → L.getD i true = false → ∀ m ∈ ms, ¬ m ∈ Region.ready md ops L) → Region.free md ops listed i = true → i ∈ Region.ready md ops listed → YieldsIf P ops S oi v a → S w →
      lastIn n P md ops Q S ms k (listed.setIfInBounds i true) (a.put oi.dst v) w → lastIn n P md ops Q S ms (k + 1) listed a w := by
  have hsel := Region.noSelect_spec hs
  intro k
  induction k with
  | zero =>
    intro listed a w _ hmr _ hr hy hS H
    refine ⟨fun e => absurd hr (by rw [e]; simp), fun j hj => ?_⟩
    rcases Classical.em (j = i) with rfl | hne
    · exact heldOpIn hi hy hS ⟨fun _ => hS, H⟩
    · exact absurd (ready_mono hj hne) (by rw [H.1]; simp)
  | succ k ih =>
    intro listed a w hcl hmr hf hr hy hS H
    refine ⟨fun e => absurd hr (by rw [e]; simp), fun j hj => ?_⟩
    rcases Classical.em (j = i) with rfl | hne
    · exact heldOpIn hi hy hS ⟨fun _ => hS, H⟩
    · have hiu := (mem_ready.1 hr).1
      have hjm : ¬ j ∈ ms := fun e => hmr listed hcl hiu j e hj
      obtain ⟨hun, oj, hoj, hall⟩ := mem_ready.1 hj
      have hni : ∀ e ∈ oj.after, Region.binds md e = true → e.on ≠ i := by
        intro e he hb heq
        refine not_ready (md := md) (ops := ops) (m := j) (i := i) ?_ hiu hj
        unfold waits
        rw [hoj]
        exact Array.any_eq_true'.2 ⟨e, he, by simp [hb, heq]⟩
      have hap := Region.free_spec hi hf j oj hoj hne hun hni
      have h2 := putIn_held hoj hap (fun cs b => hsel i oi cs b hi) (fun cs b => hsel j oj cs b hoj) hQ hy (H.2 j (ready_mono hj hne))
      refine wpOpIn_mono (fun a' w' h3 => ⟨fun _ => h3.2.1 hjm, ih _ _ _ (hcl.list hj) hmr ?_ (ready_mono hr (Ne.symm hne)) h3.1 (h3.2.1 hjm) ?_⟩) h2
      · simp only [Region.free, hi, List.all_eq_true, List.mem_range] at hf ⊢
        intro q hq
        have := hf q hq
        by_cases hjq : j = q
        · subst hjq
          have hsz := unlisted_of hun
          simp [hsz]
        · rw [getD_set_ne true hjq]; exact this
      · rw [Array.setIfInBounds_comm _ _ hne]
        exact h3.2.2

/-- as a walk uses it, where m waits for i, or for one that does -/
theorem lastIn_take {i : Nat} {oi : Oper} {v : Value} {k : Nat} {listed : Array Bool} {a : Act} {w : World} (hi : ops[i]? = some oi) (hs : Region.noSelect ops = true) (hc : closedB md ops listed = true) (hd : ms.all (fun m => waitsOn md ops 8 m i) = true)
    (hf : Region.free md ops listed i = true) (hr : (Region.ready md ops listed).contains i = true) (hQ : ∀ c a w, Q (.panic c) (a.put oi.dst v) w → Q (.panic c) a w) (hy : YieldsIf P ops S oi v a) (hS : S w)
    (h : lastIn n P md ops Q S ms k (listed.setIfInBounds i true) (a.put oi.dst v) w) : lastIn n P md ops Q S ms (k + 1) listed a w :=
  lastIn.take hi hs hQ k listed a w (closed_of hc) (fun L hL hi m hm => waitsOn_ready (List.all_eq_true.1 hd m hm) hL hi) hf (by simpa using hr) hy hS h

theorem lastIn_ready {rs : List Nat} {k : Nat} {listed : Array Bool} {a : Act} {w : World} (hr : Region.ready md ops listed = rs) (hne : rs ≠ [])
    (h : ∀ i ∈ rs, wpOpIn Fence.wide n P ops Q i (fun a' w' => (¬ i ∈ ms → S w') ∧ ((¬ i ∈ ms → S w') → lastIn n P md ops Q S ms k (listed.setIfInBounds i true) a' w')) a w) : lastIn n P md ops Q S ms (k + 1) listed a w :=
  ⟨fun h0 => absurd (hr ▸ h0) hne, fun j hj => wpOpIn_mono (fun _ _ q => ⟨q.1, q.2 q.1⟩) (h j (hr ▸ hj))⟩
theorem lastIn_done {listed : Array Bool} {a : Act} {w : World} (hr : Region.ready md ops listed = []) (h : Q .normal a w) : ∀ k, lastIn n P md ops Q S ms k listed a w
  | 0 => ⟨hr, h⟩
  | _ + 1 => ⟨fun _ => h, fun j hj => absurd hj (by rw [hr]; simp)⟩
theorem region_lastIn (S : World → Prop) (ms : List Nat) {id : Nat} {a : Act} {w : World} (hm : P.follows .mixedOrders = true) (hS : S w.drew)
    (h : S w.drew → lastIn n P .any ops Q S ms ops.size (Array.replicate ops.size false) a w.drew) : (Code.region id ops true).wpIn Fence.wide n P Q a w :=
  wpIn_region_any hm (lastIn.any _ _ _ _ (h hS))
end Go.Proofs.Ytlcmedfjghcigaa
