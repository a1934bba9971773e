/- The shelf: a stock, and a map of what was taken. -/
import Derived.Test.YtoiapnokgpeipaaA1
import Derived.Maps.OwnSet
import Derived.Lib.QuietBelow
import Derived.Lib.BufferOwn
import Derived.Maps.RangeWalk
namespace Go.Proofs.Ytoiapnokgpeipaa
open Go.RowKit Go.Maps Go.Sort

theorem nodup_range : ∀ (n : Nat) (a : Int) (l : List Int), l.Nodup → (∀ x ∈ l, a ≤ x ∧ x < a + n) → l.length ≤ n
  | 0, a, l, _, h => by
    cases l with
    | nil => simp
    | cons x r => have := h x (by simp); omega
  | n + 1, a, l, hn, h => by
    have h1 := nodup_range n a (l.erase (a + n)) (hn.erase _) (fun x hx => by
      have hm := List.mem_of_mem_erase hx
      have := h x hm
      have hne : x ≠ a + n := fun e => by subst e; exact (List.Nodup.mem_erase_iff hn).1 hx |>.1 rfl
      omega)
    have h2 := List.length_erase (a := a + (n : Int)) (l := l)
    split at h2 <;> omega

def litInt : Lit → Int | .int _ a => a | _ => 0
theorem keys_len {H : Type} (L : List (Lit × DataW H)) (hap : L.Pairwise (fun p q => p.1 ≠ q.1)) (hk : ∀ p ∈ L, ∃ t, p.1 = .int .i64 t ∧ 6 ≤ t ∧ t ≤ 100) : L.length ≤ 95 := by
  have h := nodup_range 95 6 (L.map fun p => litInt p.1) ?_ ?_
  · simpa using h
  · rw [List.Nodup, List.pairwise_map]
    refine hap.imp_of_mem ?_
    intro p q hp hq hne e
    obtain ⟨t, ht, _⟩ := hk p hp
    obtain ⟨u, hu, _⟩ := hk q hq
    rw [ht, hu] at hne
    rw [ht, hu] at e
    simp only [litInt] at e
    exact hne (by rw [e])
  · intro x hx
    obtain ⟨p, hp, rfl⟩ := List.mem_map.1 hx
    obtain ⟨t, ht, h0, h1⟩ := hk p hp
    rw [ht]; simp only [litInt]; omega

/-- block m is the map of what was taken: f teeth of each kind -/
def TakenIs (w : World) (m : Nat) (f : Int → Int) : Prop := ∃ D : DataW Unit, w.ownsMap Try.prog 3 (plainElem Try.prog 3) m 95 D ∧
  (∀ t, 6 ≤ t → t ≤ 100 → D.atKey (.int .i64 t) (.lit (.int .i64 0)) = .lit (.int .i64 (f t))) ∧ (∃ es, D = .map es ∧ ∀ p ∈ es, ∃ t, p.1 = .int .i64 t ∧ 6 ≤ t ∧ t ≤ 100)

theorem key_law : Keyed Try.prog 3 := int_keyed Try.underlying3
theorem zeroE (w : World) : (zeroValue 3).run Try.prog w = .ok (.int .i64 0) w := by kernel_rfl

theorem TakenIs.lt {w : World} {m : Nat} {f : Int → Int} (h : TakenIs w m f) : m < w.heap.size := by
  obtain ⟨D, h1, _⟩ := h; exact h1.lt
theorem TakenIs.kept {w w' : World} {m : Nat} {f : Int → Int} {row : Option Nat} (h : TakenIs w m f) (hg : w.grownBy w' row) (hne : some m ≠ row) : TakenIs w' m f := by
  obtain ⟨D, h1, h2⟩ := h; exact ⟨D, h1.kept hg hne, h2⟩
theorem TakenIs.alloc {w : World} {m : Nat} {f : Int → Int} (h : TakenIs w m f) (o : Obj) : TakenIs (w.alloc o) m f := by
  obtain ⟨D, h1, h2⟩ := h; exact ⟨D, h1.alloc o, h2⟩
theorem TakenIs.drew {w : World} {m : Nat} {f : Int → Int} (h : TakenIs w m f) : TakenIs w.drew m f := h
theorem TakenIs.below {w w' : World} {m B : Nat} {f : Int → Int} (h : TakenIs w m f) (hb : Below B w w') (hm : m < B) : TakenIs w' m f := by
  obtain ⟨D, ⟨es, c, h1, h2⟩, h3⟩ := h
  exact ⟨D, ⟨es, c, (hb.block m hm).trans h1, h2⟩, h3⟩
theorem takenIs_made (w : World) : TakenIs (w.alloc (.map #[] 0)) w.heap.size (fun _ => 0) :=
  ⟨_, (World.ownsMap_made w _ _ _).mono (by omega), fun _ _ _ => rfl, ⟨[], rfl, by simp⟩⟩

theorem wf_teeth {t : Int} (h0 : 6 ≤ t) (h1 : t ≤ 100) : (Lit.int .i64 t).wf = true := WalkArith.wf_i64 (by omega)

theorem TakenIs.look {w : World} {m : Nat} {f : Int → Int} (h : TakenIs w m f) {t : Int} (h0 : 6 ≤ t) (h1 : t ≤ 100) :
    (Instr.lookup 67 (.map (some m)) (.int .i64 t) false).run Try.prog w = .ok (.int .i64 (f t)) w := by
  obtain ⟨D, ho, hf, _⟩ := h
  obtain ⟨c, hr, ha, _⟩ := ho.lookup_int key_law Try.underlying67 Try.underlying3 (zeroE w) (keyOf_int_mk Try.underlying3 (wf_teeth h0 h1))
  rw [hf t h0 h1] at ha
  cases ha
  exact hr

def upd (f : Int → Int) (t v : Int) : Int → Int := fun x => if x = t then v else f x

theorem TakenIs.store {w : World} {m : Nat} {f : Int → Int} (h : TakenIs w m f) {t v : Int} (h0 : 6 ≤ t) (h1 : t ≤ 100) (hv : (Lit.int .i64 v).wf = true) :
    ∃ w', (Instr.mapUpdate 67 (.map (some m)) (.int .i64 t) (.int .i64 v)).run Try.prog w = .ok () w' ∧ TakenIs w' m (upd f t v) ∧ w.grownBy w' (some m) := by
  obtain ⟨D, ho, hf, hk⟩ := h
  obtain ⟨w', hr, ho', hg⟩ := ho.update key_law Try.underlying67 (by unfold maxLen; omega) (keyOf_int_mk Try.underlying3 (wf_teeth h0 h1)) (plainElem_int Try.underlying3 hv)
  refine ⟨w', hr, ?_, hg⟩
  obtain ⟨L, rfl, hL⟩ := hk
  have hkeys : ∀ p ∈ DataW.insert ((.int .i64 t : Lit), (.lit (.int .i64 v) : DataW Unit)) (L.filter fun p => !p.1.sameKey (.int .i64 t)), ∃ t, p.1 = .int .i64 t ∧ 6 ≤ t ∧ t ≤ 100 := by
    intro p hp
    rcases ChangeMaps.mem_insert_iff.1 hp with rfl | hp
    · exact ⟨t, rfl, h0, h1⟩
    · exact hL p (List.mem_filter.1 hp).1
  have hap := ho'.tidy key_law
  obtain ⟨L2, e2, hap2⟩ := hap
  have e3 : L2 = DataW.insert ((.int .i64 t : Lit), (.lit (.int .i64 v) : DataW Unit)) (L.filter fun p => !p.1.sameKey (.int .i64 t)) := by
    have : (DataW.map L : DataW Unit).put (.int .i64 t) (.lit (.int .i64 v)) = .map (DataW.insert ((.int .i64 t : Lit), (.lit (.int .i64 v) : DataW Unit)) (L.filter fun p => !p.1.sameKey (.int .i64 t))) := rfl
    rw [this] at e2; cases e2; rfl
  subst e3
  refine ⟨_, ?_, ?_, _, rfl, hkeys⟩
  · obtain ⟨es, c, a1, a2, a3, a4⟩ := ho'
    refine ⟨es, c, a1, a2, ?_, a4⟩
    have hlen := congrArg (fun D : DataW Unit => match D with | .map l => l.length | _ => 0) a4
    have h95 := keys_len _ hap2 hkeys
    simp only [length_sorted, List.length_map, Array.length_toList] at hlen
    have hlen' : (DataW.insert ((.int .i64 t : Lit), (.lit (.int .i64 v) : DataW Unit)) (L.filter fun p => !p.1.sameKey (.int .i64 t))).length = es.size := hlen
    omega
  · intro x x0 x1
    rw [← e2]
    unfold upd
    by_cases e : x = t
    · rw [if_pos e, e]; exact atKey_put_same ⟨_, rfl⟩ (show WideAt.IsKeyLit (.int .i64 t) from trivial) _ _
    · rw [if_neg e, atKey_put_other (fun e' => e (by injection e'))]; exact hf x x0 x1


/-- a list of numbers, as a slice shows them -/
def IntsAt (w : World) (v : Value) (l : List Int) : Prop :=
  l.length ≤ maxLen ∧ ((l = [] ∧ ∃ a cap, v = .slice a 0 cap) ∨ ∃ b off cap, v = .slice (some ⟨b, off, none⟩) l.length cap ∧ l.length ≤ cap ∧ cap ≤ maxLen ∧ b < w.heap.size ∧
    ∀ i, i < l.length → w.cell? ⟨b, off + i, none⟩ = some (.int .i64 (l.getD i 0)))

/-- so many fewer were taken of each -/
def subF (f : Int → Int) (l : List Int) : Int → Int := fun x => f x - (l.count x : Int)
def addF (f : Int → Int) (l : List Int) : Int → Int := fun x => f x + (l.count x : Int)
theorem subF_nil (f : Int → Int) : subF f [] = f := by funext x; simp [subF]
theorem addF_nil (f : Int → Int) : addF f [] = f := by funext x; simp [addF]
theorem subF_step (f : Int → Int) (l : List Int) (k : Nat) (h : k < l.length) : upd (subF f (l.take k)) l[k] (subF f (l.take k) l[k] - 1) = subF f (l.take (k + 1)) := by
  funext x
  unfold upd subF
  rw [List.take_succ_eq_append_getElem h, List.count_append]
  by_cases e : x = l[k]
  · rw [if_pos e, e]; simp; omega
  · rw [if_neg e]; have : ¬ l[k] = x := fun h => e h.symm; simp [this]
theorem addF_step (f : Int → Int) (l : List Int) (k : Nat) (h : k < l.length) : upd (addF f (l.take k)) l[k] (addF f (l.take k) l[k] + 1) = addF f (l.take (k + 1)) := by
  funext x
  unfold upd addF
  rw [List.take_succ_eq_append_getElem h, List.count_append]
  by_cases e : x = l[k]
  · rw [if_pos e, e]; simp; omega
  · rw [if_neg e]; have : ¬ l[k] = x := fun h => e h.symm; simp [this]
theorem sub_addF (f : Int → Int) (l : List Int) : subF (addF f l) l = f := by funext x; unfold subF addF; omega

set_option maxHeartbeats 400000 in
theorem putBack_any (l : List Int) (v st : Value) (m : Nat) (f : Int → Int) (w : World) (hv : IntsAt w v l) (hm : TakenIs w m f) (hf : ∀ x, -1000 ≤ f x ∧ f x ≤ 1000) (hl : l.length ≤ 100) (ht : ∀ x ∈ l, 6 ≤ x ∧ x ≤ 100)
    (hvm : ∀ b off cap, v = .slice (some ⟨b, off, none⟩) l.length cap → b ≠ m) :
    Calls Try.prog 57 #[.agg #[st, .map (some m)], v] w fun e w' => e = .returned (.tuple #[]) ∧ TakenIs w' m (subF f l) ∧ w.grownBy w' (some m) := by
  obtain ⟨hq, ⟨rfl, a, cap, rfl⟩ | ⟨b, off, cap, rfl, hlc, hcm, hb, hc⟩⟩ := hv <;> clear hq
  · go_enter Try.func57, Try.ntmps57
    go_wp2
    go_loop [5, 8] (fun _ i => i = .int .i64 0) (fun _ _ => 0)
    case atStart => rfl
    case round =>
      subst hrel
      go_wp2
      go_end0
      exact ⟨rfl, by rw [subF_nil]; exact hm.alloc _, World.grownBy_alloc _ _ _⟩
  · have hbm := hvm b off cap rfl
    replace hcm : cap ≤ 9223372036854775807 := hcm
    obtain ⟨W0, hW0⟩ : ∃ W0, W0 = w.alloc (.cells #[st, .map (some m)] 69) := ⟨_, rfl⟩
    have hg0 : w.grownBy W0 (some m) := by rw [hW0]; exact World.grownBy_alloc _ _ _
    have hm0 : TakenIs W0 m f := by rw [hW0]; exact hm.alloc _
    have hbx : W0.cell? ⟨w.heap.size, 1, none⟩ = some (.map (some m)) := by rw [hW0]; go_simp
    have hml := hm.lt
    go_enter Try.func57, Try.ntmps57
    go_wp2
    rw [← hW0]
    clear hW0
    go_loopw [5, 8] (fun _ i wr => ∃ k : Nat, k ≤ l.length ∧ i = .int .i64 k ∧ TakenIs wr m (subF f (l.take k)) ∧ W0.grownBy wr (some m)) (fun _ i _ => l.length - (intOf i).toNat)
    case atStart => exact ⟨0, by omega, rfl, by rw [List.take_zero, subF_nil]; exact hm0, World.grownBy.refl _ _⟩
    case round =>
      obtain ⟨k, hk, rfl, htk, hg⟩ := hrel
      have hbx' : wr.cell? ⟨w.heap.size, 1, none⟩ = some (.map (some m)) := hg.cell hbx (by simp; omega)
      by_cases hlt : k < l.length
      · obtain ⟨x, hx⟩ : ∃ x, x = l[k] := ⟨_, rfl⟩
        have hcell : wr.cell? ⟨b, off + k, none⟩ = some (.int .i64 x) := by rw [hx]; simpa [hlt] using hg.cell (hg0.cell (hc k hlt) (by simpa using hbm)) (by simpa using hbm)
        have htt := ht l[k] (List.getElem_mem hlt)
        have hbd := hf l[k]
        have hcnt := List.count_le_length (a := l[k]) (l := l.take k)
        rw [List.length_take] at hcnt
        have hstep := subF_step f l k hlt
        have hfb : -2000 ≤ subF f (l.take k) l[k] ∧ subF f (l.take k) l[k] ≤ 1000 := by unfold subF; omega
        rw [← hx] at htt hfb hstep
        have hlook := htk.look htt.1 htt.2
        obtain ⟨y, hy⟩ : ∃ y, y = subF f (l.take k) x := ⟨_, rfl⟩
        rw [← hy] at hlook hfb hstep
        obtain ⟨w1, hst, ht1, hg1⟩ := htk.store (t := x) (v := y - 1) htt.1 htt.2 (WalkArith.wf_i64 (by omega))
        rw [hstep] at ht1
        obtain ⟨hf1, hf2⟩ := hfb
        clear hcnt hbd hf ht hc hvm hstep hy hx htt hbx
        go_wp2
        go_roundw
        case rel => exact ⟨k + 1, by omega, by go_num, ht1, hg.trans hg1⟩
        case measure => simp [intOf]; omega
      · go_wp2
        go_end0
        rw [List.take_of_length_le (by omega)] at htk
        exact ⟨rfl, htk, hg0.trans hg⟩


theorem WheelsAt.below {w w' : World} {v : Value} {S : List (Int × Int)} (h : WheelsAt w v S) (hb : Below w.heap.size w w') : WheelsAt w' v S := by
  obtain ⟨hl, ⟨rfl, h⟩ | ⟨b, off, cap, rfl, hlc, hcm, hlt, hc⟩⟩ := h
  · exact ⟨hl, .inl ⟨rfl, h⟩⟩
  · exact ⟨hl, .inr ⟨b, off, cap, rfl, hlc, hcm, by have := hb.size; omega, fun i hi => ⟨(hb.cell (p := ⟨b, _, none⟩) hlt).trans (hc i hi).1, (hb.cell (p := ⟨b, _, none⟩) hlt).trans (hc i hi).2⟩⟩⟩
theorem WheelsAt.grown {w w' : World} {v : Value} {S : List (Int × Int)} {m : Nat} (h : WheelsAt w v S) (hg : w.grownBy w' (some m)) (hne : ∀ b off n cap, v = .slice (some ⟨b, off, none⟩) n cap → b ≠ m) : WheelsAt w' v S := by
  obtain ⟨hl, ⟨rfl, h⟩ | ⟨b, off, cap, rfl, hlc, hcm, hlt, hc⟩⟩ := h
  · exact ⟨hl, .inl ⟨rfl, h⟩⟩
  · have hb := hne b off _ cap rfl
    exact ⟨hl, .inr ⟨b, off, cap, rfl, hlc, hcm, by have := hg.size; omega, fun i hi => ⟨hg.cell (hc i hi).1 (by simpa using hb), hg.cell (hc i hi).2 (by simpa using hb)⟩⟩⟩
theorem IntsAt.below {w w' : World} {v : Value} {l : List Int} (h : IntsAt w v l) (hb : Below w.heap.size w w') : IntsAt w' v l := by
  obtain ⟨hl, ⟨rfl, h⟩ | ⟨b, off, cap, rfl, hlc, hcm, hlt, hc⟩⟩ := h
  · exact ⟨hl, .inl ⟨rfl, h⟩⟩
  · exact ⟨hl, .inr ⟨b, off, cap, rfl, hlc, hcm, by have := hb.size; omega, fun i hi => (hb.cell (p := ⟨b, _, none⟩) hlt).trans (hc i hi)⟩⟩

theorem IntsAt.prefixed {w : World} {b off cap k : Nat} {l : List Int} (hk : k < l.length) (hlc : l.length ≤ cap) (hcm : cap ≤ maxLen) (hb : b < w.heap.size) (hc : ∀ i, i < l.length → w.cell? ⟨b, off + i, none⟩ = some (.int .i64 (l.getD i 0))) :
    IntsAt w.drew (.slice (some ⟨b, off, none⟩) k cap) (l.take k) := by
  have e : (l.take k).length = k := by rw [List.length_take]; omega
  refine ⟨by omega, .inr ⟨b, off, cap, by rw [e], by omega, hcm, hb, fun i hi => ?_⟩⟩
  rw [e] at hi
  have := hc i (by omega)
  have e2 : (l.take k).getD i 0 = l.getD i 0 := by simp [hi]
  rw [e2]; exact this
theorem addF_bd {f : Int → Int} {l : List Int} (hf : ∀ x, 0 ≤ f x ∧ f x ≤ 500) (hl : l.length ≤ 100) (k : Nat) (x : Int) : -1000 ≤ addF f (l.take k) x ∧ addF f (l.take k) x ≤ 1000 := by
  have := hf x
  have h2 := List.count_le_length (a := x) (l := l.take k)
  rw [List.length_take] at h2
  unfold addF; omega

theorem grownBy_of_drew {w w' : World} {row : Option Nat} (h : w.drew.grownBy w' row) : w.grownBy w' row := ⟨h.os, h.tape, h.output, h.size, h.block⟩

/-- can all be taken, one after the other? -/
def fitsB (S : List (Int × Int)) (f : Int → Int) (l : List Int) : Bool := (List.range l.length).all fun i => decide (addF f (l.take i) (l.getD i 0) < heldI S (l.getD i 0))

theorem fitsB_true {S : List (Int × Int)} {f : Int → Int} {l : List Int} (h : ∀ i, i < l.length → addF f (l.take i) (l.getD i 0) < heldI S (l.getD i 0)) : fitsB S f l = true := by
  unfold fitsB; rw [List.all_eq_true]; intro i hi; rw [List.mem_range] at hi; exact decide_eq_true (h i hi)
theorem fitsB_false {S : List (Int × Int)} {f : Int → Int} {l : List Int} {i : Nat} (hi : i < l.length) (h : heldI S (l.getD i 0) ≤ addF f (l.take i) (l.getD i 0)) : fitsB S f l = false := by
  unfold fitsB; rw [List.all_eq_false]; exact ⟨i, List.mem_range.2 hi, by simpa using h⟩

def takeF (S : List (Int × Int)) (f : Int → Int) (l : List Int) : Int → Int := if fitsB S f l then addF f l else f

set_option maxRecDepth 100000 in
set_option maxHeartbeats 800000 in
theorem take_any (S : List (Int × Int)) (l : List Int) (v st : Value) (m : Nat) (f : Int → Int) (w : World) (hS : WheelsAt w st S) (hv : IntsAt w v l) (hm : TakenIs w m f)
    (hf : ∀ x, 0 ≤ f x ∧ f x ≤ 500) (hl : l.length ≤ 100) (ht : ∀ x ∈ l, 6 ≤ x ∧ x ≤ 100)
    (hvm : ∀ b off cap, v = .slice (some ⟨b, off, none⟩) l.length cap → b ≠ m) (hsm : ∀ b off n cap, st = .slice (some ⟨b, off, none⟩) n cap → b ≠ m) :
    Calls Try.prog 38 #[.agg #[st, .map (some m)], v] w fun e w' => e = .returned (.bool (fitsB S f l)) ∧ TakenIs w' m (takeF S f l) ∧ w.grownBy w' (some m) := by
  obtain ⟨hq, ⟨rfl, a, cap, rfl⟩ | ⟨b, off, cap, rfl, hlc, hcm, hb, hc⟩⟩ := hv <;> clear hq
  · go_enter Try.func38, Try.ntmps38
    go_wp2
    go_loop [5, 6, 9] (fun _ _ i => i = .int .i64 0) (fun _ _ _ => 0)
    case atStart => rfl
    case round =>
      subst hrel
      go_wp2
      go_ret
      exact ⟨rfl, by rw [takeF]; simp [fitsB, addF_nil]; exact hm.alloc _, World.grownBy_alloc _ _ _⟩
  · have hbm := hvm b off cap rfl
    replace hcm : cap ≤ 9223372036854775807 := hcm
    obtain ⟨W0, hW0⟩ : ∃ W0, W0 = w.alloc (.cells #[st, .map (some m)] 69) := ⟨_, rfl⟩
    have hg0 : w.grownBy W0 (some m) := by rw [hW0]; exact World.grownBy_alloc _ _ _
    have hm0 : TakenIs W0 m f := by rw [hW0]; exact hm.alloc _
    have hbx : W0.cell? ⟨w.heap.size, 1, none⟩ = some (.map (some m)) := by rw [hW0]; go_simp
    have hbx0 : W0.cell? ⟨w.heap.size, 0, none⟩ = some st := by rw [hW0]; go_simp
    have hml := hm.lt
    go_enter Try.func38, Try.ntmps38
    go_wp2
    rw [← hW0]
    clear hW0
    go_loopw [5, 6, 9] (fun _ _ i wr => ∃ k : Nat, k ≤ l.length ∧ i = .int .i64 k ∧ TakenIs wr m (addF f (l.take k)) ∧ W0.grownBy wr (some m) ∧ (∀ i, i < k → addF f (l.take i) (l.getD i 0) < heldI S (l.getD i 0))) (fun _ _ i _ => l.length - (intOf i).toNat)
    case atStart => exact ⟨0, by omega, rfl, by rw [List.take_zero, addF_nil]; exact hm0, World.grownBy.refl _ _, fun i hi => absurd hi (by omega)⟩
    case round =>
      obtain ⟨k, hk, rfl, htk, hg, hall⟩ := hrel
      have hbx' : wr.cell? ⟨w.heap.size, 1, none⟩ = some (.map (some m)) := hg.cell hbx (by simp; omega)
      have hbx0' : wr.cell? ⟨w.heap.size, 0, none⟩ = some st := hg.cell hbx0 (by simp; omega)
      by_cases hlt : k < l.length
      · obtain ⟨x, hx⟩ : ∃ x, x = l[k] := ⟨_, rfl⟩
        have hwb : b < wr.heap.size := by have := hg0.size; have := hg.size; omega
        have hcell : wr.cell? ⟨b, off + k, none⟩ = some (.int .i64 x) := by rw [hx]; simpa [hlt] using hg.cell (hg0.cell (hc k hlt) (by simpa using hbm)) (by simpa using hbm)
        have htt := ht l[k] (List.getElem_mem hlt)
        have hbd := hf l[k]
        have hcnt := List.count_le_length (a := l[k]) (l := l.take k)
        rw [List.length_take] at hcnt
        have hstep := addF_step f l k hlt
        have hfb : 0 ≤ addF f (l.take k) l[k] ∧ addF f (l.take k) l[k] ≤ 1000 := by unfold addF; omega
        have hgd : l.getD k 0 = x := by rw [hx]; simp [hlt]
        rw [← hx] at htt hfb hstep
        obtain ⟨y, hy⟩ : ∃ y, y = addF f (l.take k) x := ⟨_, rfl⟩
        rw [← hy] at hfb hstep
        have hlook : ∀ W, TakenIs W m (addF f (l.take k)) → (Instr.lookup 67 (.map (some m)) (.int .i64 x) false).run Try.prog W = .ok (.int .i64 y) W := fun W hW => by rw [hy]; exact hW.look htt.1 htt.2
        have hqlook : ∀ d os, (Instr.lookup 67 (.map (some m)) (.int .i64 x) false).run Try.prog (grow (redrawn wr d) os) = .ok (.int .i64 y) (grow (redrawn wr d) os) := fun d os => hlook _ (htk.below (below_regrown wr d os) htk.lt)
        have k0 := cell_regrown hbx0'
        have k1 := cell_regrown hbx'
        have hSr : WheelsAt wr st S := (hS.grown hg0 hsm).grown hg hsm
        have cC : ∀ d os, Calls Try.prog 56 #[.agg #[st, .map (some m)], .int .i64 x] (grow (redrawn wr d) os) fun e w'' => e = .returned (.int .i64 (heldI S x)) ∧ ∃ p : Regrown, w'' = grow (redrawn wr p.d) p.os :=
          fun d os => Calls.regrown_of (count_any S st _ x _ (hSr.below (below_regrown wr d os)))
        obtain ⟨z, hz⟩ : ∃ z, z = heldI S x := ⟨_, rfl⟩
        rw [← hz] at cC
        have Hx := Lib.hid hx; have Hy := Lib.hid hy; have Hz := Lib.hid hz; have Hs := Lib.hid hstep; have Hgd := Lib.hid hgd; have Hall := Lib.hid hall
        obtain ⟨hf1, hf2⟩ := hfb
        have hcq0 : ∀ i, i < l.length → wr.cell? ⟨b, off + i, none⟩ = some (.int .i64 (l.getD i 0)) := fun i hi => hg.cell (hg0.cell (hc i hi) (by simpa using hbm)) (by simpa using hbm)
        have Hf := Lib.hid hf; have Ht := Lib.hid ht; have Hc := Lib.hid hcq0
        clear hx hy hz hstep hgd hall hcnt hbd hf ht hc hvm hlook hcq0
        go_wp2
        refine wp_region_quiet_below (by kernel_rfl) (by kernel_rfl) ?_
        repeat (quiet_step (first | exact cC _ _))
        refine wpQuiet_nil ?_
        intro _ hw'
        obtain ⟨⟨dq, osq⟩, hw''⟩ := hw'
        subst hw''
        have hbq := below_regrown wr dq osq
        generalize grow (redrawn wr dq) osq = wq at *
        clear hqlook cC k0 k1
        have q0 : wq.cell? ⟨w.heap.size, 0, none⟩ = some st := by rw [hbq.cell (p := ⟨_, _, none⟩) (World.block_lt_of_cell? _ _ hbx0')]; exact hbx0'
        have q1 : wq.cell? ⟨w.heap.size, 1, none⟩ = some (.map (some m)) := by rw [hbq.cell (p := ⟨_, _, none⟩) (World.block_lt_of_cell? _ _ hbx')]; exact hbx'
        have hgq : W0.grownBy wq (some m) := hg.trans (Lib.grownBy_below (World.grownBy.refl _ _) hbq)
        have htq : TakenIs wq m (addF f (l.take k)) := htk.below hbq htk.lt
        have hwq : b < wq.heap.size := by have := hbq.size; omega
        have hcq : ∀ i, i < l.length → wq.cell? ⟨b, off + i, none⟩ = some (.int .i64 (l.getD i 0)) := fun i hi => (hbq.cell (p := ⟨b, _, none⟩) hwb).trans (Hc.out i hi)
        have hf := Hf.out; have ht := Ht.out
        clear hbx hbx0 hbx' hbx0' hcell Hc Hf Ht
        by_cases hzy : z ≤ y
        · have htk' : TakenIs wq.drew m (addF f (l.take k)) := htq.drew
          have hpb := putBack_any (l.take k) (.slice (some ⟨b, off, none⟩) k cap) st m _ wq.drew (IntsAt.prefixed hlt hlc hcm hwq hcq) htk' (addF_bd hf hl k) (by rw [List.length_take]; omega) (fun x hx => ht x (List.mem_of_mem_take hx)) (fun b' off' cap' e => by simp only [Value.slice.injEq, Option.some.injEq, Addr.mk.injEq] at e; rw [← e.1.1]; exact hbm)
          rw [sub_addF] at hpb
          clear hcq hf ht
          go_wp2_with fail
          go_region_with (go_at_call 57; refine hpb.mono ?_; rintro e w9 ⟨rfl, hp1, hp2⟩)
          all_goals go_wp2
          all_goals go_ret
          all_goals have hfit : fitsB S f l = false := fitsB_false hlt (by rw [Hgd.out, ← Hz.out, ← Hy.out]; exact hzy)
          all_goals exact ⟨by rw [hfit]; rfl, by rw [takeF, hfit]; exact hp1, hg0.trans (hgq.trans (grownBy_of_drew hp2))⟩
        · have hzy' : y < z := by omega
          clear hcq hf ht
          have hlookq := htq.look htt.1 htt.2
          rw [← Hy.out] at hlookq
          obtain ⟨w1, hst, ht1, hg1⟩ := htq.store (t := x) (v := y + 1) htt.1 htt.2 (WalkArith.wf_i64 (by omega))
          rw [Hs.out] at ht1
          clear hzy htt hcm
          go_wp2
          go_roundw
          case rel => exact ⟨k + 1, by omega, by go_num, ht1, hgq.trans hg1, fun i hi => if e : i < k then Hall.out i e else by
            obtain rfl : i = k := by omega
            rw [Hgd.out, ← Hz.out, ← Hy.out]; exact hzy'⟩
          case measure => simp [intOf]; omega
      · go_wp2
        go_ret
        have hfit : fitsB S f l = true := fitsB_true (fun i hi => hall i (by omega))
        rw [List.take_of_length_le (by omega)] at htk
        exact ⟨by rw [hfit]; rfl, by rw [takeF, hfit]; exact htk, hg0.trans hg⟩

end Go.Proofs.Ytoiapnokgpeipaa
