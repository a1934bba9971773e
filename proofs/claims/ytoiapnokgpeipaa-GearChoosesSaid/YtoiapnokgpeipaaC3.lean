/- The wheels of a train, as a new slice. -/
import Derived.Test.YtoiapnokgpeipaaA5
namespace Go.Proofs.Ytoiapnokgpeipaa
set_option linter.unusedSimpArgs false
open Go.RowKit

def usedP (P : List (Int × Int)) : List Int := P.flatMap (fun x => [x.1, x.2])
def usedL (P : List (Int × Int)) (i : Int) : List Int := usedP P ++ (if i = 0 then [] else [i])
theorem usedP_snoc (P : List (Int × Int)) (k : Nat) (h : k < P.length) : ((usedP (P.take k)).map (Value.int .i64)) ++ [.int .i64 P[k].1, .int .i64 P[k].2] = (usedP (P.take (k + 1))).map (Value.int .i64) := by
  rw [List.take_succ_eq_append_getElem h]; unfold usedP; rw [List.flatMap_append, List.map_append]; rfl
theorem usedP_len (P : List (Int × Int)) : (usedP P).length = P.length * 2 := by
  unfold usedP; induction P with
  | nil => rfl
  | cons x t ih => rw [List.flatMap_cons, List.length_append, ih]; simp; omega

theorem cell_two_new2 (w : World) (o : Obj) (x y : Value) (t : TypeId) : ∀ j u, [x, y][j]? = some u → ((w.alloc o).alloc (.cells #[x, y] t)).cell? ((⟨w.heap.size + 1, 0, none⟩ : Addr).add j) = some u := by
  intro j u h
  have := (MapKept.heap_alloc (w.alloc o) (.cells #[x, y] t)).1
  simp only [World.size_alloc] at this
  match j, h with
  | 0, h =>
    simp at h; subst h
    show World.cell? _ ⟨w.heap.size + 1, 0, none⟩ = _
    simp only [World.cell?]; rw [this]; rfl
  | 1, h =>
    simp at h; subst h
    show World.cell? _ ⟨w.heap.size + 1, 0 + 1, none⟩ = _
    simp only [World.cell?]; rw [this]; rfl

theorem ownsRow_mono' {w : World} {base base' : Nat} {e : TypeId} {size : Nat} {v : Value} {n : Nat} {xs : List Value} (h : w.ownsRow base e size v n xs) (hb : base' ≤ base) : w.ownsRow base' e size v n xs := by
  refine ⟨h.1, ?_⟩
  rcases h.2 with hn | ⟨g, cap, cur, h1, h2, h3⟩
  · exact .inl hn
  · exact .inr ⟨g, cap, cur, h1, by omega, h3⟩

set_option maxRecDepth 100000 in
set_option maxHeartbeats 1600000 in
theorem wheelsOf_any (P : List (Int × Int)) (v : Value) (i : Int) (w : World) (hv : WheelsAt w v P) (hl : P.length ≤ 1000) :
    Calls Try.prog 35 #[.agg #[v, .int .i64 i]] w fun e w' => ∃ u, e = .returned u ∧ Below w.heap.size w w' ∧ w'.ownsRow w.heap.size 3 1 u (usedL P i).length ((usedL P i).map (Value.int .i64)) := by
  obtain ⟨i0, hi, hz0, hz1, hz2⟩ := info_parts Try.info3
  obtain ⟨W0, hW0⟩ : ∃ W0, W0 = w.alloc (.cells #[v, .int .i64 i] 27) := ⟨_, rfl⟩
  have hg0 : Below w.heap.size w W0 := by rw [hW0]; exact (Below.refl _ _).alloc (Nat.le_refl _) _
  have hr0 : W0.heap[w.heap.size]? = some (.cells #[v, .int .i64 i] 27) := by rw [hW0]; exact (MapKept.heap_alloc w _).1
  have hsz : w.heap.size + 1 = W0.heap.size := by rw [hW0]; simp
  obtain ⟨hq, ⟨rfl, a, cap, rfl⟩ | ⟨b, off, cap, rfl, hlc, hcm, hb, hc⟩⟩ := hv
  · clear hq
    go_enter Try.func35, Try.ntmps35
    go_wp2
    rw [← hW0]
    clear hW0
    go_loopw [3, 5, 9] (fun d _ i wr => i = .int .i64 0 ∧ d = .slice none 0 0 ∧ wr = W0) (fun _ _ _ _ => 0)
    case atStart => exact ⟨rfl, rfl, rfl⟩
    case round =>
      obtain ⟨rfl, rfl, rfl⟩ := hrel
      have k1 : wr.cell? ⟨w.heap.size, 1, none⟩ = some (.int .i64 i) := by simp [World.cell?, hr0]
      by_cases h0 : i = 0
      · subst h0
        go_wp2
        go_ret
        exact ⟨_, rfl, hg0, World.ownsRow_nil _ _ _ _⟩
      · have hd : wr.ownsRow wr.heap.size 3 1 (.slice none 0 0) 0 [] := World.ownsRow_nil _ _ _ _
        go_wp2_with (at_builtin; refine wpList_append_own_at _ rfl (.tmp 24) (.tmp 27) 64 rfl wr.heap.size 3 i0 (.int .i64 0) 1 8 Try.underlying64 hi hz0 hz1 hz2 rfl (by decide) _ _ _ rfl (hd.alloc _) ⟨wr.heap.size, 0, none⟩ 1 1 [.int .i64 i] rfl rfl (cell_one_new _ _ _) (ints_oneCell .i64 [i]) (by unfold maxLen; omega) (by omega) (by simp; try omega) ?_; intro v1 w1 hd1 hg1 hnil1 hloc1)
        go_ret
        refine ⟨_, rfl, ?_, ?_⟩
        · exact (hg0.alloc (by omega) _).grown hg1 (by simp; omega) (fun t ht => by cases ht)
        · have e : usedL [] i = [i] := by unfold usedL; rw [if_neg h0]; rfl
          rw [e]
          exact ownsRow_mono' hd1 (by omega)
  · replace hcm : cap ≤ 9223372036854775807 := hcm
    clear hq
    go_enter Try.func35, Try.ntmps35
    go_wp2
    rw [← hW0]
    clear hW0
    go_loopw [3, 5, 9] (fun d _ i wr => ∃ k : Nat, k ≤ P.length ∧ i = .int .i64 k ∧ Below W0.heap.size W0 wr ∧ wr.ownsRow W0.heap.size 3 1 d (k * 2) ((usedP (P.take k)).map (Value.int .i64))) (fun _ _ i _ => P.length - (intOf i).toNat)
    case atStart => exact ⟨0, by omega, rfl, Below.refl _ _, World.ownsRow_nil _ _ _ _⟩
    case round =>
      obtain ⟨k, hk, rfl, hbel, hd⟩ := hrel
      have hb2 : Below w.heap.size w wr := hg0.trans (hbel.mono (by omega))
      by_cases hlt : k < P.length
      · obtain ⟨c0, c1⟩ := hc k hlt
        rw [← hb2.cell (p := ⟨b, _, none⟩) hb] at c0 c1
        obtain ⟨x, hx⟩ : ∃ x, x = P[k].1 := ⟨_, rfl⟩
        obtain ⟨y, hy⟩ : ∃ y, y = P[k].2 := ⟨_, rfl⟩
        have hgd : P.getD k (0, 0) = P[k] := by simp [hlt]
        rw [hgd, ← hx] at c0
        rw [hgd, ← hy] at c1
        have hs1 := usedP_snoc P k hlt
        rw [← hx, ← hy] at hs1
        have G1 := Lib.hid hs1.symm
        generalize (usedP (P.take k)).map (Value.int .i64) = L1 at *
        have hws := hbel.size
        have hdl := hd.lt
        clear hc hgd hx hy hs1
        go_wp2_with (at_builtin; refine wpList_append_own_at _ rfl (.tmp 13) (.tmp 18) 64 rfl W0.heap.size 3 i0 (.int .i64 0) 1 8 Try.underlying64 hi hz0 hz1 hz2 rfl (by decide) _ _ _ rfl ((hd.alloc _).alloc _) ⟨wr.heap.size + 1, 0, none⟩ 2 2 [.int .i64 x, .int .i64 y] rfl rfl (cell_two_new2 wr _ _ _ 3) (ints_oneCell .i64 [x, y]) (by unfold maxLen; omega) (by omega) (by simp; omega) ?_; intro v1 w1 hd1 hg1 hnil1 hloc1)
        go_roundw
        case rel =>
          refine ⟨k + 1, by omega, by go_num, ?_, ?_⟩
          · exact (((hbel.alloc hws _).alloc (by simp; omega) _).grown hg1 (by simp; omega) (fun t ht => (hdl t ht).1))
          · rw [G1.out, Nat.succ_mul]; exact hd1
        case measure => simp [intOf]; omega
      · have hkl : k = P.length := by omega
        subst hkl
        rw [List.take_of_length_le (Nat.le_refl _)] at hd
        have hws := hbel.size
        have hdl := hd.lt
        have hrw : wr.heap[w.heap.size]? = some (.cells #[.slice (some ⟨b, off, none⟩) P.length cap, .int .i64 i] 27) := (hbel.block _ (by omega)).trans hr0
        have k1 : wr.cell? ⟨w.heap.size, 1, none⟩ = some (.int .i64 i) := by simp [World.cell?, hrw]
        rw [← usedP_len] at hd
        have hul := usedP_len P
        have hb2 : Below w.heap.size w wr := hg0.trans (hbel.mono (by omega))
        obtain ⟨L1, hL1⟩ : ∃ L1, L1 = (usedP P).map (Value.int .i64) := ⟨_, rfl⟩
        rw [← hL1] at hd
        by_cases h0 : i = 0
        · subst h0
          have HL := Lib.hid hL1
          clear hL1
          go_wp2
          go_ret
          refine ⟨_, rfl, hb2, ?_⟩
          have e : usedL P 0 = usedP P := by unfold usedL; simp
          rw [e, ← HL.out]
          exact ownsRow_mono' hd (by omega)
        · have HL := Lib.hid hL1
          clear hL1
          go_wp2_with (at_builtin; refine wpList_append_own_at _ rfl (.tmp 24) (.tmp 27) 64 rfl W0.heap.size 3 i0 (.int .i64 0) 1 8 Try.underlying64 hi hz0 hz1 hz2 rfl (by decide) _ _ _ rfl (hd.alloc _) ⟨wr.heap.size, 0, none⟩ 1 1 [.int .i64 i] rfl rfl (cell_one_new _ _ _) (ints_oneCell .i64 [i]) (by unfold maxLen; omega) (by omega) (by simp; try omega) ?_; intro v1 w1 hd1 hg1 hnil1 hloc1)
          go_ret
          refine ⟨_, rfl, ?_, ?_⟩
          · exact (hb2.alloc (by omega) _).grown hg1 (by simp; omega) (fun t ht => by have := (hdl t ht).1; omega)
          · have e : usedL P i = usedP P ++ [i] := by unfold usedL; rw [if_neg h0]
            rw [e, List.map_append, List.length_append, ← HL.out]
            exact ownsRow_mono' hd1 (by omega)
end Go.Proofs.Ytoiapnokgpeipaa
