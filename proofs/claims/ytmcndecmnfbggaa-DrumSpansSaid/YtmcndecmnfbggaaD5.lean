/- Contracts: what is told of each drum; the document's places. -/
import Derived.Test.YtmcndecmnfbggaaD3
import Derived.MapKept
import Derived.Maps.AppendAt
import Derived.OwnWalk
namespace Go.Proofs.Ytmcndecmnfbggaa
set_option linter.unusedSimpArgs false
open Go.RowKit

theorem Try.info3 : (Try.prog.info? 3).map (fun i => (i.zero, i.size, i.bytes)) = some (some (.int .i64 0), 1, 8) := by kernel_rfl
theorem ints_own {w : World} {base : Nat} {x : Value} {l : List Int} (h : w.ownsRow base 3 1 x l.length (l.map (Value.int .i64))) (hl : l.length ≤ 1000) : IntsAt w x l := by
  refine ⟨by unfold maxLen; omega, ?_⟩
  rcases h.2 with ⟨rfl, hn⟩ | ⟨g, cap, cur, rfl, h2, h3, h4, h5, _⟩
  · obtain rfl : l = [] := List.length_eq_zero_iff.1 hn
    exact .inl ⟨rfl, _, _, rfl⟩
  · refine .inr ⟨g, 0, cap, rfl, h4, h5, (Array.getElem?_eq_some_iff.1 h3).1, fun i hi => ?_⟩
    rw [h.cellAt (0 + i) (by omega), Nat.zero_add]; simp [hi]
theorem one_oneCell (x : Int) : ∀ v ∈ ([.int .i64 x] : List Value), v.oneCell' = true := by intro v hv; rw [List.mem_singleton] at hv; subst hv; rfl
def placesL (t : Int) (k : Nat) : List Int := (List.range k).map (plc t)
theorem placesL_succ (t : Int) (k : Nat) : placesL t (k + 1) = placesL t k ++ [plc t k] := by unfold placesL; rw [List.range_succ, List.map_append]; rfl
theorem placesL_len (t : Int) (k : Nat) : (placesL t k).length = k := by simp [placesL]
/-- a row of ints of the call's own -/
def RowRes (w : World) (l : List Int) (e : Ending) (w' : World) : Prop := ∃ v, e = .returned v ∧ w'.ownsRow w.heap.size 3 1 v l.length (l.map (Value.int .i64)) ∧ Below w.heap.size w w'
set_option maxRecDepth 100000 in
set_option maxHeartbeats 1600000 in
theorem refPlaces_any (d t : Int) (w : World) (h0 : 0 ≤ t) (h1 : t ≤ 1000000000) (hd : 1 ≤ d ∧ d ≤ 6) : Calls Try.prog 33 #[.int .i64 d, .int .i64 t] w (RowRes w (placesL t d.toNat)) := by
  obtain ⟨n, rfl⟩ : ∃ n : Nat, d = n := ⟨d.toNat, by omega⟩
  rw [show (n : Int).toNat = n by omega]
  obtain ⟨i0, hi, hz0, hz1, hz2⟩ := info_parts Try.info3
  obtain ⟨hd1, hd2⟩ := hd
  have hpl := fun k (hk : k ≤ 5) (W : World) => refPlace_any t h0 h1 k hk W
  have HPL := Lib.hid hpl
  clear hpl
  go_enter Try.func33, Try.ntmps33
  go_wp2
  go_loopw [5, 6] (fun d i wr => ∃ k : Nat, k ≤ n ∧ i = .int .i64 k ∧ Below w.heap.size w wr ∧ wr.ownsRow w.heap.size 3 1 d k ((placesL t k).map (Value.int .i64))) (fun _ i _ => n - (intOf i).toNat)
  case atStart => exact ⟨0, by omega, rfl, Below.refl _ _, World.ownsRow_nil _ _ _ _⟩
  case round =>
    obtain ⟨k, hk, rfl, hbel, hown⟩ := hrel
    by_cases hlt : k < n
    · have hc := HPL.out k (by omega) wr
      have hs := placesL_succ t k
      obtain ⟨q, hq⟩ : ∃ q, plc t k = q := ⟨_, rfl⟩
      obtain ⟨L, hL⟩ : ∃ L, (placesL t k).map (Value.int .i64) = L := ⟨_, rfl⟩
      have hs2 : (placesL t (k + 1)).map (Value.int .i64) = L ++ [.int .i64 q] := by rw [hs, List.map_append, hL, hq]; rfl
      rw [hq] at hc
      rw [hL] at hown
      have HS := Lib.hid hs2
      have HC := Lib.hid hc
      have hws := hbel.size
      have hdl := hown.lt
      have i1 : (k : Int) < (n : Int) := by omega
      clear hs hs2 hq hL hc
      go_wp2_with fail
      refine HC.out.mono ?_
      rintro e w' ⟨rfl, rfl⟩
      go_wp2_with (at_builtin; refine wpList_append_own_at _ rfl (.tmp 12) (.tmp 16) 24 rfl w.heap.size 3 i0 (.int .i64 0) 1 8 Try.underlying24 hi hz0 hz1 hz2 rfl (by decide) _ _ _ rfl (hown.alloc _) ⟨wr.heap.size, 0, none⟩ 1 1 [.int .i64 q] rfl rfl (cell_one_new _ _ _) (one_oneCell q) (by unfold maxLen; omega) (by omega) (by simp; try omega) ?_; intro v1 w1 hd1 hg1 hnil1 hloc1)
      go_roundw
      case rel =>
        refine ⟨k + 1, by omega, by go_num, ?_, ?_⟩
        · exact (hbel.alloc hws _).grown hg1 (by simp; omega) (fun t ht => (hdl t ht).1)
        · rw [HS.out]; exact hd1
      case measure => simp [intOf]; omega
    · obtain rfl : k = n := by omega
      have i1 : ¬ (k : Int) < (k : Int) := by omega
      go_wp2
      go_ret
      exact ⟨_, rfl, by rw [placesL_len]; exact hown, hbel⟩
end Go.Proofs.Ytmcndecmnfbggaa
