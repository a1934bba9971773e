/- A region that draws its order and ends with one operation (number m) that may undo what the loads before it read: what holds of the world (S) has to be kept by all operations but that one. -/
import Derived.WalkKit
import Derived.OrdersHeld
import Derived.Deep.RegionHeld3
namespace Go.Proofs.Ytdbjifpnbghbaaa
open Go.RowKit

variable {P : Program} {md : Region.Mode} {ops : Array Oper} {Q : Exit → Act → World → Prop} {S : World → Prop} {m : Nat}

/-- every order from here on; S behind each operation but number m -/
def wpLast (P : Program) (md : Region.Mode) (ops : Array Oper) (Q : Exit → Act → World → Prop) (S : World → Prop) (m : Nat) : Nat → Array Bool → Act → World → Prop
  | 0, listed, a, w => Region.ready md ops listed = [] ∧ Q .normal a w
  | n + 1, listed, a, w => (Region.ready md ops listed = [] → Q .normal a w) ∧
    ∀ j ∈ Region.ready md ops listed, wpOp P ops Q j (fun a' w' => (j ≠ m → S w') ∧ wpLast P md ops Q S m n (listed.setIfInBounds j true) a' w') a w

theorem wpLast.any : ∀ (n : Nat) (listed : Array Bool) (a : Act) (w : World), wpLast P md ops Q S m n listed a w → wpAny P md ops Q n listed a w
  | 0, _, _, _, h => h
  | n + 1, _, _, _, h => ⟨h.1, fun j hj => wpOp_mono (fun _ _ k => wpLast.any n _ _ _ k.2) (h.2 j hj)⟩

/-- number m waits for number i -/
def waitsFor (md : Region.Mode) (ops : Array Oper) (m i : Nat) : Bool := match ops[m]? with | some o => o.after.any (fun e => Region.binds md e && e.on == i) | none => false

theorem not_ready_of_waits {i : Nat} {listed : Array Bool} (hd : waitsFor md ops m i = true) (hi : listed.getD i true = false) (hm : m ∈ Region.ready md ops listed) : False := by
  obtain ⟨_, o, ho, hall⟩ := mem_ready.1 hm
  unfold waitsFor at hd
  rw [ho] at hd
  obtain ⟨e, he, hb⟩ := Array.any_eq_true'.1 hd
  rw [Bool.and_eq_true, beq_iff_eq] at hb
  have h1 := hall e he hb.1
  rw [hb.2] at h1
  by_cases hlt : i < listed.size
  · simp [hlt] at hi h1; rw [hi] at h1; cases h1
  · simp [Array.getElem?_eq_none (Nat.le_of_not_lt hlt)] at hi

theorem wpLast.take {i : Nat} {oi : Oper} {v : Value} (hi : ops[i]? = some oi) (hs : Region.noSelect ops = true) (hd : waitsFor md ops m i = true) (him : i ≠ m)
    (hQ : ∀ c a w, Q (.panic c) (a.put oi.dst v) w → Q (.panic c) a w) :
    ∀ (n : Nat) (listed : Array Bool) (a : Act) (w : World), Region.free md ops listed i = true → i ∈ Region.ready md ops listed → YieldsIf P ops S oi v a → S w →
      wpLast P md ops Q S m n (listed.setIfInBounds i true) (a.put oi.dst v) w → wpLast P md ops Q S m (n + 1) listed a w := by
  have hsel := Region.noSelect_spec hs
  intro n
  induction n with
  | zero =>
    intro listed a w _ hr hy hS H
    refine ⟨fun e => absurd hr (by rw [e]; simp), fun j hj => ?_⟩
    rcases Classical.em (j = i) with rfl | hne
    · exact hy.wpOp hi hS ⟨fun _ => hS, H⟩
    · exact absurd (ready_mono hj hne) (by rw [H.1]; simp)
  | succ n ih =>
    intro listed a w hf hr hy hS H
    refine ⟨fun e => absurd hr (by rw [e]; simp), fun j hj => ?_⟩
    rcases Classical.em (j = i) with rfl | hne
    · exact hy.wpOp hi hS ⟨fun _ => hS, H⟩
    · have hjm : j ≠ m := fun e => by subst e; exact not_ready_of_waits hd (mem_ready.1 hr).1 hj
      obtain ⟨hun, oj, hoj, hall⟩ := mem_ready.1 hj
      have hni : ∀ e ∈ oj.after, Region.binds md e = true → e.on ≠ i := by
        intro e he hb heq
        refine not_ready_of_waits (m := j) (i := i) ?_ (mem_ready.1 hr).1 hj
        unfold waitsFor
        rw [hoj]
        exact Array.any_eq_true'.2 ⟨e, he, by simp [hb, heq]⟩
      have hap := Region.free_spec hi hf j oj hoj hne hun hni
      have h2 := wpOp_putIf hoj hap (fun cs b => hsel i oi cs b hi) (fun cs b => hsel j oj cs b hoj) hQ hy (H.2 j (ready_mono hj hne))
      refine wpOp_mono (fun a' w' h3 => ⟨fun _ => h3.2.1 hjm, ih _ _ _ ?_ (ready_mono hr (Ne.symm hne)) h3.1 (h3.2.1 hjm) ?_⟩) h2
      · simp only [Region.free, hi, List.all_eq_true, List.mem_range] at hf ⊢
        intro k hk
        have := hf k hk
        by_cases hjk : j = k
        · subst hjk
          have hsz : j < listed.size := by
            rcases Nat.lt_or_ge j listed.size with h' | h'
            · exact h'
            · simp [Array.getElem?_eq_none h'] at hun
          simp [hsz]
        · rw [getD_set_ne true hjk]; exact this
      · rw [Array.setIfInBounds_comm _ _ hne]
        exact h3.2.2

/-- as a walk uses it: the operation written out, the side conditions closed -/
theorem wpLast_take {i : Nat} {oi : Oper} {v : Value} {n : Nat} {listed : Array Bool} {a : Act} {w : World} (hi : ops[i]? = some oi) (hs : Region.noSelect ops = true) (hd : waitsFor md ops m i = true) (him : i ≠ m)
    (hf : Region.free md ops listed i = true) (hr : (Region.ready md ops listed).contains i = true) (hQ : ∀ c a w, Q (.panic c) (a.put oi.dst v) w → Q (.panic c) a w) (hy : YieldsIf P ops S oi v a) (hS : S w)
    (h : wpLast P md ops Q S m n (listed.setIfInBounds i true) (a.put oi.dst v) w) : wpLast P md ops Q S m (n + 1) listed a w :=
  wpLast.take hi hs hd him hQ n listed a w hf (by simpa using hr) hy hS h

theorem wpLast_ready {rs : List Nat} {n : Nat} {listed : Array Bool} {a : Act} {w : World} (hr : Region.ready md ops listed = rs) (hne : rs ≠ [])
    (h : ∀ i ∈ rs, wpOp P ops Q i (fun a' w' => (i ≠ m → S w') ∧ ((i ≠ m → S w') → wpLast P md ops Q S m n (listed.setIfInBounds i true) a' w')) a w) : wpLast P md ops Q S m (n + 1) listed a w :=
  ⟨fun h0 => absurd (hr ▸ h0) hne, fun j hj => wpOp_mono (fun _ _ k => ⟨k.1, k.2 k.1⟩) (h j (hr ▸ hj))⟩

theorem wpLast_done {listed : Array Bool} {a : Act} {w : World} (hr : Region.ready md ops listed = []) (h : Q .normal a w) : ∀ n, wpLast P md ops Q S m n listed a w
  | 0 => ⟨hr, h⟩
  | _ + 1 => ⟨fun _ => h, fun j hj => absurd hj (by rw [hr]; simp)⟩

theorem wp_region_last (S : World → Prop) (m : Nat) {id : Nat} {a : Act} {w : World} (hm : P.follows .mixedOrders = true) (hS : S w.drew)
    (h : S w.drew → wpLast P .any ops Q S m ops.size (Array.replicate ops.size false) a w.drew) : (Code.region id ops true).wp P Q a w :=
  wp_region_any hm (wpLast.any _ _ _ _ (h hS))

end Go.Proofs.Ytdbjifpnbghbaaa
