/- ratioOf, wheelsOf, pairsError: what a train is made of. -/
import Derived.Test.YtoiapnokgpeipaaA4
import Derived.Maps.AppendAt
import Derived.Laws.OwnMore
namespace Go.Proofs.Ytoiapnokgpeipaa
open Go.RowKit Go.Maps Go.Sort

theorem Try.info3 : (Try.prog.info? 3).map (fun i => (i.zero, i.size, i.bytes)) = some (some (.int .i64 0), 1, 8) := by kernel_rfl

/-- the product of a slice that the call itself made -/
theorem product_own (l : List Int) (v : Value) (base : Nat) (w : World) (h : w.ownsRow base 3 1 v l.length (l.map (Value.int .i64))) (hl : l.length ≤ maxLen) :
    Calls Try.prog 45 #[v] w fun e w' => e = .returned (.int .i64 (prodW l)) ∧ w = w' := by
  rcases h.2 with ⟨rfl, hn⟩ | ⟨g, cap, cur, rfl, _⟩
  · obtain rfl : l = [] := List.length_eq_zero_iff.1 hn
    exact product_nil w 0
  · refine product_any l g 0 cap w hl (fun i hi => ?_)
    have := h.cellAt i (by omega)
    rw [Nat.zero_add, this]; simp [hi]

/-- what drives, what is driven: the products -/
def drvs (l : List (Int × Int)) : List Int := l.map (·.1)
def drns (l : List (Int × Int)) : List Int := l.map (·.2)

theorem map_take_snoc {α β : Type} (f : α → β) (l : List α) (k : Nat) (h : k < l.length) : (l.take k).map f ++ [f l[k]] = (l.take (k + 1)).map f := by
  rw [List.take_succ_eq_append_getElem h, List.map_append]; rfl

theorem dis_left {a a' b : Option Nat} {n m : Nat} (h : b = none ∨ a ≠ b) (hb : ∀ t, b = some t → t < n) (hl : a' = a ∨ a' = some m) (hm : n ≤ m) : b = none ∨ a' ≠ b := by
  rcases h with h | h
  · exact .inl h
  · rcases hl with rfl | rfl
    · exact .inr h
    · exact .inr (fun e => by have := hb m e.symm; omega)
theorem dis_right {a b b' : Option Nat} {n m : Nat} (h : b = none ∨ a ≠ b) (ha : ∀ t, a = some t → t < n) (hl : b' = b ∨ b' = some m) (hm : n ≤ m) : b' = none ∨ a ≠ b' := by
  rcases hl with rfl | rfl
  · exact h
  · exact .inr (fun e => by have := ha m e; omega)
theorem keep_of_dis {a b : Option Nat} (h : b = none ∨ a ≠ b) : a = none ∨ a ≠ b := by
  rcases h with rfl | h
  · cases a <;> simp
  · exact .inr h
theorem cell_two_new' (w : World) (o : Obj) (x : Value) (t : TypeId) : ∀ j u, [x][j]? = some u → ((w.alloc o).alloc (.cells #[x] t)).cell? ((⟨w.heap.size + 1, 0, none⟩ : Addr).add j) = some u := by
  have := cell_one_new (w.alloc o) x t
  simpa using this
theorem pair_kept {w w1 : World} {x y : Value} {t : TypeId} {o : Obj} {row : Option Nat} (hg : ((w.alloc (.cells #[x, y] t)).alloc o).grownBy w1 row) (hr : ∀ t, row = some t → t ≠ w.heap.size) :
    w1.cell? ⟨w.heap.size, 1, none⟩ = some y := by
  refine hg.cell (cell_al ?_ o) ?_
  · go_simp
  · intro e; exact hr _ e.symm rfl

set_option maxRecDepth 100000 in
set_option maxHeartbeats 1600000 in
theorem ratioOf_any (P : List (Int × Int)) (v : Value) (w : World) (hv : WheelsAt w v P) (hl : P.length ≤ 1000) :
    Calls Try.prog 42 #[v] w fun e w' => e = .returned (.agg #[.int .i64 (prodW (drvs P)), .int .i64 (prodW (drns P))]) ∧ Below w.heap.size w w' := by
  obtain ⟨hq, ⟨rfl, a, cap, rfl⟩ | ⟨b, off, cap, rfl, hlc, hcm, hb, hc⟩⟩ := hv
  · clear hq
    go_enter Try.func42, Try.ntmps42
    go_wp2
    go_loop [3, 4, 6, 9] (fun d n _ i => i = .int .i64 0 ∧ d = .slice none 0 0 ∧ n = .slice none 0 0) (fun _ _ _ _ => 0)
    case atStart => exact ⟨rfl, rfl, rfl⟩
    case round =>
      obtain ⟨rfl, rfl, rfl⟩ := hrel
      go_wp2_with fail
      refine (product_nil _ _).mono ?_
      rintro e w1 ⟨rfl, rfl⟩
      go_wp2_with fail
      refine (product_nil _ _).mono ?_
      rintro e w1 ⟨rfl, rfl⟩
      go_wp2
      refine bodyPost_ret (v := .agg #[.int .i64 1, .int .i64 1]) (by simp [results, Try.results42, go_sem]) rfl ⟨rfl, ?_⟩
      repeat (first | exact Below.refl _ _ | refine Below.setCell ?_ (by simp) _ | refine Below.alloc ?_ (by simp; try omega) _)
  · replace hcm : cap ≤ 9223372036854775807 := hcm
    clear hq
    obtain ⟨i0, hi, hz0, hz1, hz2⟩ := info_parts Try.info3
    obtain ⟨W0, hW0⟩ : ∃ W0, W0 = w.alloc (.cells #[.int .i64 0, .int .i64 0] 78) := ⟨_, rfl⟩
    have hg0 : Below w.heap.size w W0 := by rw [hW0]; exact (Below.refl _ _).alloc (Nat.le_refl _) _
    have hr0 : W0.heap[w.heap.size]? = some (.cells #[.int .i64 0, .int .i64 0] 78) := by rw [hW0]; exact (MapKept.heap_alloc w _).1
    have hsz : w.heap.size + 1 = W0.heap.size := by rw [hW0]; simp
    go_enter Try.func42, Try.ntmps42
    go_wp2
    rw [← hW0]
    clear hW0
    go_loopw [3, 4, 6, 9] (fun d n _ i wr => ∃ k : Nat, k ≤ P.length ∧ i = .int .i64 k ∧ Below W0.heap.size W0 wr ∧ wr.ownsRow W0.heap.size 3 1 d k (((P.take k).map (·.1)).map (Value.int .i64)) ∧
      wr.ownsRow W0.heap.size 3 1 n k (((P.take k).map (·.2)).map (Value.int .i64)) ∧ (n.ownBlock = none ∨ d.ownBlock ≠ n.ownBlock)) (fun _ _ _ i _ => P.length - (intOf i).toNat)
    case atStart => exact ⟨0, by omega, rfl, Below.refl _ _, World.ownsRow_nil _ _ _ _, World.ownsRow_nil _ _ _ _, .inl rfl⟩
    case round =>
      obtain ⟨k, hk, rfl, hbel, hd, hn, hne⟩ := hrel
      have hb2 : Below w.heap.size w wr := hg0.trans (hbel.mono (by omega))
      by_cases hlt : k < P.length
      · obtain ⟨c0, c1⟩ := hc k hlt
        rw [← hb2.cell (p := ⟨b, _, none⟩) hb] at c0 c1
        obtain ⟨x, hx⟩ : ∃ x, x = P[k].1 := ⟨_, rfl⟩
        obtain ⟨y, hy⟩ : ∃ y, y = P[k].2 := ⟨_, rfl⟩
        have hgd : P.getD k (0, 0) = P[k] := by simp [hlt]
        rw [hgd, ← hx] at c0
        rw [hgd, ← hy] at c1
        have hs1 := map_take_snoc (fun z : Int × Int => Value.int .i64 z.1) P k hlt
        have hs2 := map_take_snoc (fun z : Int × Int => Value.int .i64 z.2) P k hlt
        have e1 : ((P.take k).map (·.1)).map (Value.int .i64) = (P.take k).map (fun z : Int × Int => Value.int .i64 z.1) := by rw [List.map_map]; rfl
        have e2 : ((P.take k).map (·.2)).map (Value.int .i64) = (P.take k).map (fun z : Int × Int => Value.int .i64 z.2) := by rw [List.map_map]; rfl
        have e1' : ((P.take (k + 1)).map (·.1)).map (Value.int .i64) = (P.take (k + 1)).map (fun z : Int × Int => Value.int .i64 z.1) := by rw [List.map_map]; rfl
        have e2' : ((P.take (k + 1)).map (·.2)).map (Value.int .i64) = (P.take (k + 1)).map (fun z : Int × Int => Value.int .i64 z.2) := by rw [List.map_map]; rfl
        rw [e1] at hd
        rw [e2] at hn
        rw [← hx] at hs1
        rw [← hy] at hs2
        have G1 := Lib.hid (e1'.trans hs1.symm)
        have G2 := Lib.hid (e2'.trans hs2.symm)
        generalize (P.take k).map (fun z : Int × Int => Value.int .i64 z.1) = L1 at *
        generalize (P.take k).map (fun z : Int × Int => Value.int .i64 z.2) = L2 at *
        have hws := hbel.size
        have hdl := hd.lt
        have hnl := hn.lt
        clear hc hgd hx hy hs1 hs2 e1 e2 e1' e2'
        have hne1 : ∀ t, u3.ownBlock = some t → t ≠ wr.heap.size := fun t ht => by have := hdl t ht; omega
        go_wp2_with (first
          | (at_builtin; refine wpList_append_own_at _ rfl (.tmp 13) (.tmp 16) 64 rfl W0.heap.size 3 i0 (.int .i64 0) 1 8 Try.underlying64 hi hz0 hz1 hz2 rfl (by decide) _ _ _ rfl ((hd.alloc _).alloc _) ⟨wr.heap.size + 1, 0, none⟩ 1 1 [.int .i64 x] rfl rfl (cell_two_new' wr _ _ 3) (ints_oneCell .i64 [x]) (by unfold maxLen; omega) (by omega) (by simp; omega) ?_; intro v1 w1 hd1 hg1 hnil1 hloc1; have c2 := pair_kept hg1 hne1; have hn1 := ((hn.alloc (.cells #[.int .i64 x, .int .i64 y] 49)).alloc (.cells #[.int .i64 x] 3)).kept hg1 (by rcases hne with h | h; exact .inl h; exact .inr (Ne.symm h)); have hws1 := hg1.size; simp only [World.size_alloc] at hws1)
          | (at_builtin; refine wpList_append_own_at _ rfl (.tmp 18) (.tmp 21) 64 rfl W0.heap.size 3 i0 (.int .i64 0) 1 8 Try.underlying64 hi hz0 hz1 hz2 rfl (by decide) _ _ _ rfl (hn1.alloc _) ⟨w1.heap.size, 0, none⟩ 1 1 [.int .i64 y] rfl rfl (cell_one_new _ _ _) (ints_oneCell .i64 [y]) (by unfold maxLen; omega) (by omega) (by simp; omega) ?_; intro v2 w2 hn2 hg2 hnil2 hloc2))
        go_roundw
        case rel =>
          have D1 := dis_left hne (fun t ht => (hnl t ht).2) hloc1 (by simp; omega)
          have D2 := dis_right D1 (fun t ht => (hd1.lt t ht).2) hloc2 (by simp)
          have hs2 := hg2.size
          simp only [World.size_alloc] at hs2
          refine ⟨k + 1, by omega, by go_num, ?_, ?_, ?_, D2⟩
          · exact (((((hbel.alloc hws _).alloc (by simp; omega) _).grown hg1 (by simp; omega) (fun t ht => (hdl t ht).1)).alloc (by omega) _).grown hg2 (by simp; omega) (fun t ht => (hnl t ht).1))
          · rw [G1.out]; exact (hd1.alloc _).kept hg2 (keep_of_dis D1)
          · rw [G2.out]; exact hn2
        case measure => simp [intOf]; omega
      · have hkl : k = P.length := by omega
        subst hkl
        rw [List.take_of_length_le (Nat.le_refl _)] at hd hn
        go_wp2_with fail
        refine (product_own (drvs P) _ W0.heap.size _ (by simpa [drvs] using hd) (by simp [drvs, maxLen]; omega)).mono ?_
        rintro e w1 ⟨rfl, rfl⟩
        go_wp2_with fail
        refine (product_own (drns P) _ W0.heap.size _ (by simpa [drns] using hn) (by simp [drns, maxLen]; omega)).mono ?_
        rintro e w1 ⟨rfl, rfl⟩
        have hws := hbel.size
        have hrw : wr.heap[w.heap.size]? = some (.cells #[.int .i64 0, .int .i64 0] 78) := (hbel.block _ (by omega)).trans hr0
        have k0 : wr.cell? ⟨w.heap.size, 0, none⟩ = some (.int .i64 0) := by simp [World.cell?, hrw]
        have k1 : wr.cell? ⟨w.heap.size, 1, none⟩ = some (.int .i64 0) := by simp [World.cell?, hrw]
        have kf : wr.frozen? ⟨w.heap.size, 0, none⟩ = false := by simp [World.frozen?, hrw]
        have kf1 : wr.frozen? ⟨w.heap.size, 1, none⟩ = false := by simp [World.frozen?, hrw]
        go_wp2
        refine bodyPost_ret (v := .agg #[.int .i64 (prodW (drvs P)), .int .i64 (prodW (drns P))]) (by simp [results, Try.results42, go_sem, k0, k1]) rfl ⟨rfl, ?_⟩
        exact (hg0.trans ((hbel.mono (by omega)).setCell (by simp) _)).setCell (by simp) _

end Go.Proofs.Ytoiapnokgpeipaa
