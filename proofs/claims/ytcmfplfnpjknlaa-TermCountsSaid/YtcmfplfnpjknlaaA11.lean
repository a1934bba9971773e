/- Term: the stable sort of the proofs' numbers; inOrder. -/
import Derived.Test.YtcmfplfnpjknlaaA10
import Derived.OwnWalk
namespace Go.Proofs.Ytcmfplfnpjknlaa
set_option linter.unusedSimpArgs false
set_option linter.unusedVariables false
open Go.RowKit Go.Shelf Go.Lib
open Go.Sort hiding Below
open Go.Maps (keyOf_int_mk)

theorem grown_sorted1 {α : Type} [Inhabited α] {enc : α → Value} {w W : World} {g : Nat} {d : Array α} (h : SW enc w g 0 d W) : w.grownBy W (some g) := by
  obtain ⟨m, os, rfl⟩ := h
  refine ⟨rfl, rfl, rfl, by simp [sortWorld, putRow, mapBlock, Sort.ahead], fun k hk hne => ?_⟩
  unfold sortWorld
  rw [heap_grow_old _ _ (by simpa [putRow, mapBlock, Sort.ahead] using hk)]
  have : g ≠ k := fun e => hne (by rw [e])
  simp [putRow, mapBlock, Sort.ahead, Array.getElem?_modify, this]
theorem CmpAt.kept {w w' : World} {K Lb b off n cap g : Nat} {ps : List Prf} (h : CmpAt w K Lb b off n cap ps) (hg : w.grownBy w' (some g)) (h1 : K ≠ g) (h2 : Lb ≠ g) (h3 : b ≠ g) : CmpAt w' K Lb b off n cap ps := by
  have hb := hg.block b h.lt (fun e => h3 (by simpa using e))
  have hc : ∀ o, w'.cell? ⟨b, o, none⟩ = w.cell? ⟨b, o, none⟩ := fun o => World.cell?_of_block (w := w) hb
  exact ⟨(hg.block K (Array.getElem?_eq_some_iff.1 h.key).1 (fun e => h1 (by simpa using e))).trans h.key, (hg.block Lb (Array.getElem?_eq_some_iff.1 h.lst).1 (fun e => h2 (by simpa using e))).trans h.lst, h.len, h.pos, h.few, Nat.lt_of_lt_of_le h.lt hg.size,
    fun i hi => (hc _).trans (h.cls i hi), fun i hi => (hc _).trans (h.day i hi), fun i hi => by obtain ⟨sa, sc, e⟩ := h.seals i hi; exact ⟨sa, sc, (hc _).trans e⟩, fun i hi => (hc _).trans (h.failed i hi)⟩
set_option maxHeartbeats 1600000 in
theorem stable_any (g n cap : Nat) (ps : List Prf) (K Lb b off c2 : Nat) (w : World) (hC : CmpAt w K Lb b off n c2 ps) (h1 : K ≠ g) (h2 : Lb ≠ g) (h3 : b ≠ g) (hH : Holds (encN n) w g 0 (Array.range n)) (hg : g < w.heap.size) :
    Calls Try.prog 62 #[.slice (some ⟨g, 0, none⟩) n cap, .func (.func 63) #[] #[.pointer (some ⟨K, 0, none⟩), .pointer (some ⟨Lb, 0, none⟩)]] w fun e w' => e = .returned (.tuple #[]) ∧ SW (encN n) w g 0 (insertionSort (ltOf (cmpD ps)) (Array.range n) 0 n) w' := by
  have eg : ∀ args w, (callFunc 63 args).run Try.prog w = .ok (.enter 63 args) w := enters_of Try.func63 (by kernel_rfl) rfl
  have hcmp : CmpLays1 Try.prog 63 #[.pointer (some ⟨K, 0, none⟩), .pointer (some ⟨Lb, 0, none⟩)] (encN n) (cmpD ps) g 0 (Array.range n).size w := fun m os dk hd x y =>
    closure_any K Lb b off n c2 ps x y _ (hC.kept (grown_sorted1 ⟨m, os, rfl⟩) h1 h2 h3)
  have k1 := Any.insertionSortCmpFunc_s Try.ins (encN n) (cmpD ps) 63 #[.pointer (some ⟨K, 0, none⟩), .pointer (some ⟨Lb, 0, none⟩)] g 0 cap 0 n (Array.range n) (Array.range n) w w eg hcmp ⟨fun _ => rfl, hH, hg⟩ rfl (SW.start hH) (Nat.zero_le _) (by simp) (by have := hC.few; simp; omega)
  change Calls Try.prog 70 #[_, .int .i64 0, _, _] _ _ at k1
  rw [Array.size_range] at k1
  have hn := hC.few
  have n1 : (n : Int) < 20 := by omega
  have hn0 : 0 < n := hC.pos
  have K1 := Lib.hid k1
  have EG := Lib.hid eg
  clear k1 eg hcmp hC hH
  have k2 : Calls Try.prog 68 #[.slice (some ⟨g, 0, none⟩) n cap, .int .i64 n, .func (.func 63) #[] #[.pointer (some ⟨K, 0, none⟩), .pointer (some ⟨Lb, 0, none⟩)]] w fun e w' => e = .returned (.tuple #[]) ∧ SW (encN n) w g 0 (insertionSort (ltOf (cmpD ps)) (Array.range n) 0 n) w' := by
    go_enter Try.func68, Try.ntmps68
    go_wp2_with fail
    refine wp_loop_rounds 1 ?_
    rw [rounds_succ]
    go_wp2_with (go_at_call 70; (with_reducible refine K1.out.mono ?_); rintro e w' ⟨rfl, hsw⟩)
    refine wp_loop_rounds 1 ?_
    rw [rounds_succ]
    go_wp2
    go_end0
    exact ⟨rfl, hsw⟩
  have K2 := Lib.hid k2
  clear k2
  go_enter Try.func62, Try.ntmps62
  go_wp2_with (go_at_call 68; (with_reducible refine K2.out.mono ?_); rintro e w' ⟨rfl, hsw⟩)
  go_end0
  exact ⟨rfl, hsw⟩
theorem info3 : (Try.prog.info? 3).map (fun i => (i.zero, i.size, i.bytes)) = some (some (.int .i64 0), 1, 8) := by kernel_rfl
/-- an empty list: nothing to do -/
theorem stable_none (g n cap : Nat) (cb : Array Value) (w : World) (hn : n = 0) : Calls Try.prog 62 #[.slice (some ⟨g, 0, none⟩) n cap, .func (.func 63) #[] cb] w fun e w' => e = .returned (.tuple #[]) ∧ w = w' := by
  subst hn
  have k0 : Calls Try.prog 70 #[.slice (some ⟨g, 0, none⟩) 0 cap, .int .i64 0, .int .i64 0, .func (.func 63) #[] cb] w fun e w' => e = .returned (.tuple #[]) ∧ w = w' := by
    go_enter Try.func70, Try.ntmps70
    go_wp2_with fail
    refine wp_loop_rounds 1 ?_
    rw [rounds_succ]
    go_wp2
    go_end0
    exact ⟨rfl, rfl⟩
  have K0 := Lib.hid k0
  clear k0
  have k2 : Calls Try.prog 68 #[.slice (some ⟨g, 0, none⟩) 0 cap, .int .i64 0, .func (.func 63) #[] cb] w fun e w' => e = .returned (.tuple #[]) ∧ w = w' := by
    go_enter Try.func68, Try.ntmps68
    go_wp2_with fail
    refine wp_loop_rounds 1 ?_
    rw [rounds_succ]
    go_wp2_with (go_at_call 70; (with_reducible refine K0.out.mono ?_); rintro e w' ⟨rfl, rfl⟩)
    refine wp_loop_rounds 1 ?_
    rw [rounds_succ]
    go_wp2
    go_end0
    exact ⟨rfl, rfl⟩
  have K2 := Lib.hid k2
  clear k2
  go_enter Try.func62, Try.ntmps62
  go_wp2_with (go_at_call 68; (with_reducible refine K2.out.mono ?_); rintro e w' ⟨rfl, rfl⟩)
  go_end0
  exact ⟨rfl, rfl⟩
def ordInts (ps : List Prf) : List Int := (orderF ps ps.length).map fun (i : Nat) => (i : Int)
def OrdRes (w : World) (ps : List Prf) (e : Ending) (w' : World) : Prop := ∃ g, e = .returned (.slice (some ⟨g, 0, none⟩) ps.length ps.length) ∧ w.heap.size ≤ g ∧ TabAt 1 numC w' (.slice (some ⟨g, 0, none⟩) ps.length ps.length) (ordInts ps) ∧ Below w.heap.size w w'
theorem orderF_len (ps : List Prf) (n : Nat) : (orderF ps n).length = n := by simp [orderF, ordR_len]
theorem orderF_lt (ps : List Prf) (n : Nat) : ∀ z ∈ orderF ps n, z < n := fun z hz => ordR_lt ps n z (by simpa [orderF] using hz)
set_option maxRecDepth 100000 in
set_option maxHeartbeats 3200000 in
theorem inOrder_any (ps : List Prf) (pv : Value) (w : World) (h : PrfAt w pv ps) (hn : ps.length ≤ 12) : Calls Try.prog 58 #[pv, .func (.func 59) #[] #[]] w (OrdRes w ps) := by
  obtain ⟨j0, hj, hj0, hj1, hj2⟩ := info_parts info3
  obtain ⟨pa, pc, rfl⟩ := h.shape
  obtain ⟨W0, hW0⟩ : ∃ X, X = (w.alloc (.cells #[.slice pa ps.length pc] 24)).alloc (.cells #[.func (.func 59) #[] #[]] 108) := ⟨_, rfl⟩
  have hb0 : Below w.heap.size w W0 := by rw [hW0]; exact ((Below.refl _ _).alloc (Nat.le_refl _) _).alloc (by simp) _
  have h1 : W0.heap[w.heap.size]? = some (.cells #[.slice pa ps.length pc] 24 (0, 0)) := by
    rw [hW0]; exact (Below.heap_alloc _ _ _ (by simp)).trans (alloc_heap w _)
  have h2 : W0.heap[w.heap.size + 1]? = some (.cells #[.func (.func 59) #[] #[]] 108 (0, 0)) := by
    have := alloc_heap (w.alloc (.cells #[.slice pa ps.length pc] 24)) (.cells #[.func (.func 59) #[] #[]] 108)
    rw [hW0]; simpa using this
  have hsz : W0.heap.size = w.heap.size + 2 := by rw [hW0]; simp
  obtain ⟨S, hS⟩ : ∃ S, w.heap.size = S := ⟨_, rfl⟩
  rw [hS] at h1 h2 hsz
  have l0 := one_cell h1
  have HS := Lib.hid hS
  have H1 := Lib.hid h1
  have H2 := Lib.hid h2
  have HB := Lib.hid hb0
  have HPW := Lib.hid h
  have HSZ := Lib.hid hsz
  have bz : j0.bytes * ps.length ≤ 281474976710656 := by rw [hj2]; omega
  have bm : ps.length ≤ maxLen := by unfold maxLen; omega
  obtain ⟨w1, hrun, hown, hg1⟩ := run_make_full (P := Try.prog) W0 (S + 2) 32 3 j0 (.int .i64 0) 1 Try.underlying32 hj hj0 hj1 .i64 .i64 ps.length bz bm (by rw [hsz]; exact Nat.le_refl _)
  rw [hsz] at hrun hown
  have hb1 : Below (S + 2) W0 w1 := (Below.refl _ _).grown hg1 (by rw [hsz]; exact Nat.le_refl _) (fun k hk => by cases hk)
  have l1 := (hb1.cell (p := ⟨S, 0, none⟩) (by simp)).trans l0
  have HO := Lib.hid hown
  have HB1 := Lib.hid hb1
  clear h1 h2 hb0 hsz h hown hg1 hb1 bz
  go_enter Try.func58, Try.ntmps58
  go_upto_region 1 with fail
  rw [← hW0]
  clear hW0 hS
  go_wp2_with fail
  clear hrun l0
  go_loopw [12] (fun i wr => ∃ (k : Nat) (xs : List Value), k ≤ ps.length ∧ i = .int .i64 k ∧ wr.ownsRow (S + 2) 3 1 (.slice (some ⟨S + 2, 0, none⟩) ps.length ps.length) ps.length xs ∧ (∀ i, i < k → xs[i]? = some (.int .i64 i)) ∧ Below (S + 2) W0 wr) (fun i _ => ps.length - (intOf i).toNat)
  case atStart => exact ⟨0, _, by omega, rfl, HO.out, fun i hi => by omega, HB1.out⟩
  case round =>
    obtain ⟨k, xs, hk, rfl, hown, hxs, hbel⟩ := hrel
    have hwl := (hbel.cell (p := ⟨S, 0, none⟩) (by simp)).trans (one_cell H1.out)
    by_cases hlt : k < ps.length
    · have hst := hown.stored k (.int .i64 k)
      have hxl := hown.1
      have hfz := hown.frozenAt k
      have hc0 : wr.cell? ⟨S + 2, k, none⟩ = some (xs[k]'(by omega)) := by rw [hown.cellAt k (by omega)]; simp
      obtain ⟨x0, hx0⟩ : ∃ x0, xs[k]'(by omega) = x0 := ⟨_, rfl⟩
      rw [hx0] at hc0
      have HST := Lib.hid hst
      have HXS := Lib.hid hxs
      have HBE := Lib.hid hbel
      have kx : (0 : Int) ≤ k := by omega
      have ky : (k : Int) < (ps.length : Int) := by omega
      have HXL := Lib.hid hxl
      clear hst hxs hbel hown hx0 hxl
      go_wp2
      go_roundw
      case rel =>
        refine ⟨k + 1, _, by omega, by go_num, HST.out.1, fun i hi => ?_, HBE.out.setCell (by simp) _⟩
        have := HXL.out
        by_cases e : i = k
        · subst e; simp [List.getElem?_set, show i < xs.length by omega]
        · rw [List.getElem?_set_ne (by omega)]; exact HXS.out i (by omega)
      case measure => simp [intOf]; omega
    · have hkl : k = ps.length := by omega
      obtain ⟨wv, rfl⟩ : ∃ wv : World, wv = wr := ⟨_, rfl⟩
      have i1 : ¬ (k : Int) < (ps.length : Int) := by omega
      have hkb := (hbel.block (S + 1) (by omega)).trans H2.out
      have hlb := (hbel.block S (by omega)).trans H1.out
      have hB2 : Below w.heap.size w wv := HB.out.trans (hbel.mono (by rw [HS.out]; omega))
      have hgl : S + 2 < wv.heap.size := by
        rcases hown.2 with ⟨e, _⟩ | ⟨g, cap, cur, e, _, hg, _⟩
        · simp at e
        · simp at e; rw [e.1]; exact (Array.getElem?_eq_some_iff.1 hg).1
      have HB2 := Lib.hid hB2
      by_cases h0 : ps.length = 0
      · have hs := stable_none (S + 2) ps.length ps.length #[.pointer (some ⟨S + 1, 0, none⟩), .pointer (some ⟨S, 0, none⟩)] wv h0
        have hon : ordInts ps = [] := by unfold ordInts; rw [h0]; rfl
        have HON := Lib.hid hon
        have H0 := Lib.hid h0
        have K := Lib.hid hs
        clear hs hon h0 hown hxs hbel hkl hkb hlb hB2
        go_wp2_with (go_at_call 62; (with_reducible refine K.out.mono ?_); rintro e w' ⟨rfl, rfl⟩)
        go_ret
        exact ⟨S + 2, rfl, by rw [HS.out]; exact Nat.le_add_right _ _, ⟨by rw [HON.out]; simp [maxLen], .inl ⟨HON.out, _, _, by rw [H0.out]⟩⟩, HB2.out⟩
      · have hcmp : ∃ b off, pa = some ⟨b, off, none⟩ ∧ b < S ∧ CmpAt wv (S + 1) S b off ps.length pc ps := by
          obtain ⟨b, off, e, hbS, hcx⟩ := HPW.out.at (by omega)
          have hcell : ∀ o, wv.cell? ⟨b, o, none⟩ = w.cell? ⟨b, o, none⟩ := fun o => hB2.cell (p := ⟨b, o, none⟩) hbS
          refine ⟨b, off, e, by have := HS.out; omega, ⟨hkb, by rw [e] at hlb; exact hlb, rfl, by omega, hn, by have := hB2.size; omega, fun i hi => ?_, fun i hi => ?_, fun i hi => ?_, fun i hi => ?_⟩⟩
          · obtain ⟨sv, g1, g2, g3, g4, g5⟩ := hcx i hi; exact (hcell _).trans g1
          · obtain ⟨sv, g1, g2, g3, g4, g5⟩ := hcx i hi; exact (hcell _).trans g2
          · obtain ⟨sv, g1, g2, g3, g4, g5⟩ := hcx i hi
            obtain ⟨sa, sc, rfl⟩ := g5.shape
            exact ⟨sa, sc, (hcell _).trans g3⟩
          · obtain ⟨sv, g1, g2, g3, g4, g5⟩ := hcx i hi; exact (hcell _).trans g4
        obtain ⟨b, off, rfl, hbS, hC⟩ := hcmp
        have hH : Holds (encN ps.length) wv (S + 2) 0 (Array.range ps.length) := fun j hj => by
          rw [Array.size_range] at hj
          have hxl := hown.1
          refine ⟨?_, ?_⟩
          · rw [Nat.zero_add, hown.cellAt j (by omega), hxs j (by omega), getElem!_pos _ j (by simpa using hj)]
            simp [encN, show min j (ps.length - 1) = j by omega]
          · rw [Nat.zero_add]; exact hown.frozenAt j
        have hs := stable_any (S + 2) ps.length ps.length ps (S + 1) S b off pc wv hC (by omega) (by omega) (by omega) hH hgl
        have HH := Lib.hid hH
        have K := Lib.hid hs
        have HGL := Lib.hid hgl
        clear hs hown hxs hbel hkb hlb hB2 hC hH
        go_wp2_with (go_at_call 62; (with_reducible refine K.out.mono ?_); rintro e w' ⟨rfl, hsw⟩)
        go_ret
        have hsz : (insertionSort (ltOf (cmpD ps)) (Array.range ps.length) 0 ps.length).size = ps.length := by
          rw [← Array.length_toList, sort_is, orderF_len]
        have hho := hsw.holds HGL.out HH.out (by rw [hsz, Array.size_range])
        have hlen : (ordInts ps).length = ps.length := by unfold ordInts; rw [List.length_map, orderF_len]
        have hgr := grown_sorted1 hsw
        refine ⟨S + 2, rfl, by rw [HS.out]; omega, ⟨by rw [hlen]; exact bm, .inr ⟨S + 2, 0, ps.length, by rw [hlen], by rw [hlen]; exact Nat.le_refl _, bm, Nat.lt_of_lt_of_le HGL.out hgr.size, fun i hi j hj => ?_⟩⟩, HB2.out.grown hgr HB2.out.size (fun k hk => by cases hk; have := HS.out; omega)⟩
        rw [hlen] at hi
        have h1 := (hho i (by rw [hsz]; exact hi)).1
        have hj0 : j = 0 := by omega
        subst hj0
        rw [show 0 + i * 1 + 0 = 0 + i by omega, h1]
        have h2 : (insertionSort (ltOf (cmpD ps)) (Array.range ps.length) 0 ps.length)[i]! = (orderF ps ps.length)[i]'(by rw [orderF_len]; exact hi) := by
          rw [getElem!_pos _ i (by rw [hsz]; exact hi), ← Array.getElem_toList]
          congr 1
          exact sort_is ps
        have h3 := orderF_lt ps ps.length _ (List.getElem_mem (l := orderF ps ps.length) (n := i) (by rw [orderF_len]; exact hi))
        rw [h2]
        unfold encN numC ordInts
        rw [Nat.min_eq_left (by omega)]
        simp [List.getD, orderF_len, hi]
end Go.Proofs.Ytcmfplfnpjknlaa
