/- Contracts: what is told of each drum; Places and Run of the program and of the document. -/
import Derived.Test.YtmcndecmnfbggaaD4
import Derived.Test.YtmcndecmnfbggaaD5
import Derived.Deep.RegionWith
import Derived.Outline
namespace Go.Proofs.Ytmcndecmnfbggaa
set_option linter.unusedSimpArgs false
open Go.RowKit

def figsL (t : Int) (k : Nat) : List Int := (List.range k).map fun i => figP (plc t i)
theorem figsL_succ (t : Int) (k : Nat) : figsL t (k + 1) = figsL t k ++ [figP (plc t k)] := by unfold figsL; rw [List.range_succ, List.map_append]; rfl
theorem figsL_len (t : Int) (k : Nat) : (figsL t k).length = k := by simp [figsL]
theorem drumcells {X : World} {b : Nat} {t : Int} {y : TypeId} (h : X.heap[b]? = some (.cells #[.int .i64 (plc t 0), .int .i64 (plc t 1), .int .i64 (plc t 2), .int .i64 (plc t 3), .int .i64 (plc t 4), .int .i64 (plc t 5)] y)) (k : Nat) (hk : k < 6) : X.cell? ⟨b, k, none⟩ = some (.int .i64 (plc t k)) := by
  have : k = 0 ∨ k = 1 ∨ k = 2 ∨ k = 3 ∨ k = 4 ∨ k = 5 := by omega
  rcases this with rfl | rfl | rfl | rfl | rfl | rfl <;> simp [World.cell?, h]
theorem ownsRow_mono' {w : World} {base base' : Nat} {e : TypeId} {size : Nat} {v : Value} {n : Nat} {xs : List Value} (h : w.ownsRow base e size v n xs) (hb : base' ≤ base) : w.ownsRow base' e size v n xs := by
  obtain ⟨h1, h2 | ⟨g, cap, cur, h3, h4, h5⟩⟩ := h
  · exact ⟨h1, .inl h2⟩
  · exact ⟨h1, .inr ⟨g, cap, cur, h3, by omega, h5⟩⟩
set_option maxRecDepth 100000 in
set_option maxHeartbeats 1600000 in
theorem tellPlace_any (d t : Int) (w : World) (hd : 1 ≤ d ∧ d ≤ 6) : Calls Try.prog 29 #[drumV t, .int .i64 d, .func (.func 31) #[] #[]] w (RowRes w (placesL t d.toNat)) := by
  obtain ⟨n, rfl⟩ : ∃ n : Nat, d = n := ⟨d.toNat, by omega⟩
  rw [show (n : Int).toNat = n by omega]
  obtain ⟨i0, hi, hz0, hz1, hz2⟩ := info_parts Try.info3
  obtain ⟨hd1, hd2⟩ := hd
  obtain ⟨W0, hW0⟩ : ∃ X, X = w.alloc (.cells #[.int .i64 (plc t 0), .int .i64 (plc t 1), .int .i64 (plc t 2), .int .i64 (plc t 3), .int .i64 (plc t 4), .int .i64 (plc t 5)] 56) := ⟨_, rfl⟩
  have hb0 : Below w.heap.size w W0 := by rw [hW0]; exact (Below.refl _ _).alloc (Nat.le_refl _) _
  have hr0 : W0.heap[w.heap.size]? = some (.cells #[.int .i64 (plc t 0), .int .i64 (plc t 1), .int .i64 (plc t 2), .int .i64 (plc t 3), .int .i64 (plc t 4), .int .i64 (plc t 5)] 56 (0, 0)) := by rw [hW0]; exact (MapKept.heap_alloc w _).1
  have hsz : W0.heap.size = w.heap.size + 1 := by rw [hW0]; simp
  unfold drumV
  go_enter Try.func29, Try.ntmps29
  go_wp2
  rw [← hW0]
  clear hW0
  go_loopw [7, 9, 13] (fun d _ i wr => ∃ k : Nat, k ≤ n ∧ i = .int .i64 k ∧ Below w.heap.size w wr ∧ wr.heap[w.heap.size]? = some (.cells #[.int .i64 (plc t 0), .int .i64 (plc t 1), .int .i64 (plc t 2), .int .i64 (plc t 3), .int .i64 (plc t 4), .int .i64 (plc t 5)] 56 (0, 0)) ∧ wr.ownsRow (w.heap.size + 1) 3 1 d k ((placesL t k).map (Value.int .i64))) (fun _ _ i _ => n - (intOf i).toNat)
  case atStart => exact ⟨0, by omega, rfl, hb0, hr0, World.ownsRow_nil _ _ _ _⟩
  case round =>
    obtain ⟨k, hk, rfl, hbel, hr, hown⟩ := hrel
    by_cases hlt : k < n
    · have c0 := drumcells hr k (by omega)
      have hs := placesL_succ t k
      have hpb := plc_bd t k
      have hblt := (Array.getElem?_eq_some_iff.1 hr).1
      obtain ⟨q, hq⟩ : ∃ q, plc t k = q := ⟨_, rfl⟩
      obtain ⟨L, hL⟩ : ∃ L, (placesL t k).map (Value.int .i64) = L := ⟨_, rfl⟩
      have hs2 : (placesL t (k + 1)).map (Value.int .i64) = L ++ [.int .i64 (q)] := by rw [hs, List.map_append, hL, hq]; rfl
      rw [hq] at c0 hpb
      rw [hL] at hown
      have HS := Lib.hid hs2
      have HR := Lib.hid hr
      have hws := hbel.size
      have hdl := hown.lt
      have i0' : (0 : Int) ≤ (k : Int) := by omega
      have i1 : (k : Int) < (n : Int) := by omega
      have i2 : (k : Int) < 6 := by omega
      clear hs hs2 hq hL hr
      go_wp2_with fail
      refine (place_any _ _).mono ?_
      rintro e w' ⟨rfl, rfl⟩
      go_wp2_with (at_builtin; refine wpList_append_own_at _ rfl (.tmp 17) (.tmp 21) 24 rfl (w.heap.size + 1) 3 i0 (.int .i64 0) 1 8 Try.underlying24 hi hz0 hz1 hz2 rfl (by decide) _ _ _ rfl (hown.alloc _) ⟨wr.heap.size, 0, none⟩ 1 1 [.int .i64 (q)] rfl rfl (cell_one_new _ _ _) (one_oneCell _) (by unfold maxLen; omega) (by omega) (by simp; try omega) ?_; intro v1 w1 hd1 hg1 hnil1 hloc1)
      go_roundw
      case rel =>
        refine ⟨k + 1, by omega, by go_num, ?_, ?_, ?_⟩
        · exact (hbel.alloc hws _).grown hg1 (by simp; omega) (fun t ht => by have := (hdl t ht).1; omega)
        · exact (hg1.block _ (by simp; omega) (fun e => by have := (hdl _ e.symm).1; omega)).trans ((Below.heap_alloc _ _ _ hblt).trans HR.out)
        · rw [HS.out]; exact hd1
      case measure => simp [intOf]; omega
    · obtain rfl : k = n := by omega
      have i1 : ¬ (k : Int) < (k : Int) := by omega
      go_wp2
      go_ret
      exact ⟨_, rfl, by rw [placesL_len]; exact ownsRow_mono' hown (by omega), hbel⟩
set_option maxRecDepth 100000 in
set_option maxHeartbeats 1600000 in
theorem tellFigure_any (d t : Int) (w : World) (hd : 1 ≤ d ∧ d ≤ 6) : Calls Try.prog 29 #[drumV t, .int .i64 d, .func (.func 36) #[] #[]] w (RowRes w (figsL t d.toNat)) := by
  obtain ⟨n, rfl⟩ : ∃ n : Nat, d = n := ⟨d.toNat, by omega⟩
  rw [show (n : Int).toNat = n by omega]
  obtain ⟨i0, hi, hz0, hz1, hz2⟩ := info_parts Try.info3
  obtain ⟨hd1, hd2⟩ := hd
  obtain ⟨W0, hW0⟩ : ∃ X, X = w.alloc (.cells #[.int .i64 (plc t 0), .int .i64 (plc t 1), .int .i64 (plc t 2), .int .i64 (plc t 3), .int .i64 (plc t 4), .int .i64 (plc t 5)] 56) := ⟨_, rfl⟩
  have hb0 : Below w.heap.size w W0 := by rw [hW0]; exact (Below.refl _ _).alloc (Nat.le_refl _) _
  have hr0 : W0.heap[w.heap.size]? = some (.cells #[.int .i64 (plc t 0), .int .i64 (plc t 1), .int .i64 (plc t 2), .int .i64 (plc t 3), .int .i64 (plc t 4), .int .i64 (plc t 5)] 56 (0, 0)) := by rw [hW0]; exact (MapKept.heap_alloc w _).1
  have hsz : W0.heap.size = w.heap.size + 1 := by rw [hW0]; simp
  unfold drumV
  go_enter Try.func29, Try.ntmps29
  go_wp2
  rw [← hW0]
  clear hW0
  go_loopw [7, 9, 13] (fun d _ i wr => ∃ k : Nat, k ≤ n ∧ i = .int .i64 k ∧ Below w.heap.size w wr ∧ wr.heap[w.heap.size]? = some (.cells #[.int .i64 (plc t 0), .int .i64 (plc t 1), .int .i64 (plc t 2), .int .i64 (plc t 3), .int .i64 (plc t 4), .int .i64 (plc t 5)] 56 (0, 0)) ∧ wr.ownsRow (w.heap.size + 1) 3 1 d k ((figsL t k).map (Value.int .i64))) (fun _ _ i _ => n - (intOf i).toNat)
  case atStart => exact ⟨0, by omega, rfl, hb0, hr0, World.ownsRow_nil _ _ _ _⟩
  case round =>
    obtain ⟨k, hk, rfl, hbel, hr, hown⟩ := hrel
    by_cases hlt : k < n
    · have c0 := drumcells hr k (by omega)
      have hs := figsL_succ t k
      have hpb := plc_bd t k
      have hblt := (Array.getElem?_eq_some_iff.1 hr).1
      obtain ⟨q, hq⟩ : ∃ q, plc t k = q := ⟨_, rfl⟩
      obtain ⟨L, hL⟩ : ∃ L, (figsL t k).map (Value.int .i64) = L := ⟨_, rfl⟩
      have hs2 : (figsL t (k + 1)).map (Value.int .i64) = L ++ [.int .i64 (figP q)] := by rw [hs, List.map_append, hL, hq]; rfl
      rw [hq] at c0 hpb
      rw [hL] at hown
      have HS := Lib.hid hs2
      have HR := Lib.hid hr
      have hws := hbel.size
      have hdl := hown.lt
      have i0' : (0 : Int) ≤ (k : Int) := by omega
      have i1 : (k : Int) < (n : Int) := by omega
      have i2 : (k : Int) < 6 := by omega
      clear hs hs2 hq hL hr
      go_wp2_with fail
      refine (figure_any _ _ (by omega) (by omega)).mono ?_
      rintro e w' ⟨rfl, rfl⟩
      go_wp2_with (at_builtin; refine wpList_append_own_at _ rfl (.tmp 17) (.tmp 21) 24 rfl (w.heap.size + 1) 3 i0 (.int .i64 0) 1 8 Try.underlying24 hi hz0 hz1 hz2 rfl (by decide) _ _ _ rfl (hown.alloc _) ⟨wr.heap.size, 0, none⟩ 1 1 [.int .i64 (figP q)] rfl rfl (cell_one_new _ _ _) (one_oneCell _) (by unfold maxLen; omega) (by omega) (by simp; try omega) ?_; intro v1 w1 hd1 hg1 hnil1 hloc1)
      go_roundw
      case rel =>
        refine ⟨k + 1, by omega, by go_num, ?_, ?_, ?_⟩
        · exact (hbel.alloc hws _).grown hg1 (by simp; omega) (fun t ht => by have := (hdl t ht).1; omega)
        · exact (hg1.block _ (by simp; omega) (fun e => by have := (hdl _ e.symm).1; omega)).trans ((Below.heap_alloc _ _ _ hblt).trans HR.out)
        · rw [HS.out]; exact hd1
      case measure => simp [intOf]; omega
    · obtain rfl : k = n := by omega
      have i1 : ¬ (k : Int) < (k : Int) := by omega
      go_wp2
      go_ret
      exact ⟨_, rfl, by rw [figsL_len]; exact ownsRow_mono' hown (by omega), hbel⟩
end Go.Proofs.Ytmcndecmnfbggaa
