/- Term: contract of enterRows. -/
import Derived.Test.YtcmfplfnpjknlaaA6
import Derived.Test.YtcmfplfnpjknlaaG1
import Derived.OwnWalk
namespace Go.Proofs.Ytcmfplfnpjknlaa
set_option linter.unusedSimpArgs false
set_option linter.unusedVariables false
open Go.RowKit Go.Maps

/-- the list of checks lies as it lay -/
def K87 (w w' : World) : Prop := ∀ (b : Nat) (cs : Array Value), w.heap[b]? = some (.cells cs 87 (0, 0)) → w'.heap[b]? = some (.cells cs 87 (0, 0))
theorem K87.refl (w : World) : K87 w w := fun _ _ h => h
theorem K87.trans {a b c : World} (h : K87 a b) (k : K87 b c) : K87 a c := fun i cs hi => k i cs (h i cs hi)
theorem K87.of_below {w w' : World} (hb : Below w.heap.size w w') : K87 w w' := fun b cs h => (hb.block b (Array.getElem?_eq_some_iff.1 h).1).trans h
theorem K87.of_grown {w w' : World} {row : Option Nat} (hg : w.grownBy w' row) (hr : ∀ (r : Nat) (cs : Array Value), row = some r → w.heap[r]? ≠ some (.cells cs 87 (0, 0))) : K87 w w' := fun b cs h =>
  (hg.block b (Array.getElem?_eq_some_iff.1 h).1 (fun e => hr b cs e.symm h)).trans h
theorem setCell_grown (X : World) (a : Addr) (v : Value) : X.grownBy (X.setCell a v) (some a.block) :=
  ⟨rfl, rfl, rfl, by simp [World.setCell], fun k hk hne => Below.heap_setCell X a v k (fun e => hne (by rw [e]))⟩
theorem heap_set {X : World} {b : Nat} {cs : Array Value} {T : TypeId} (h : X.heap[b]? = some (.cells cs T (0, 0))) (o : Nat) (v : Value) : (X.setCell ⟨b, o, none⟩ v).heap[b]? = some (.cells (cs.setIfInBounds o v) T (0, 0)) := by
  simp [World.setCell, Array.getElem?_modify, h]
theorem info75 : (Try.prog.info? 75).map (fun i => (i.zero, i.size, i.bytes)) = some (some (.pointer none), 1, 8) := by kernel_rfl
theorem one_cell {X : World} {b : Nat} {v : Value} {T : TypeId} (h : X.heap[b]? = some (.cells #[v] T)) : X.cell? ⟨b, 0, none⟩ = some v := by simp [World.cell?, h]
theorem cell_new (X : World) (v : Value) (T : TypeId) : ∀ q u, ([v] : List Value)[q]? = some u → (X.alloc (.cells #[v] T)).cell? ((⟨X.heap.size, 0, none⟩ : Addr).add q) = some u := by
  intro q u h
  have hq : q = 0 := by
    cases q with
    | zero => rfl
    | succ q => simp at h
  subst hq
  simp at h; subst h
  have e : (⟨X.heap.size, 0, none⟩ : Addr).add 0 = ⟨X.heap.size, 0, none⟩ := by simp [Addr.add]
  rw [e]
  exact one_cell (alloc_heap X (.cells #[v] T))
theorem own_ne {w : World} {base n : Nat} {v : Value} {xs : List Value} {b : Nat} {cs : Array Value} {T : TypeId} (h : w.ownsRow base 75 1 v n xs) (hb : w.heap[b]? = some (.cells cs T (0, 0))) (hT : T ≠ 75) : v.ownBlock ≠ some b := by
  intro e
  rcases h.2 with ⟨rfl, _⟩ | ⟨g, cap, cur, rfl, _, hg, _⟩
  · simp [Value.ownBlock] at e
  · simp [Value.ownBlock] at e
    subst e
    rw [hb] at hg
    simp at hg
    exact hT hg.2
theorem own_ne_map {w : World} {base n : Nat} {v : Value} {xs : List Value} {b : Nat} {es : Array MapEntry} {c : Nat} (h : w.ownsRow base 75 1 v n xs) (hb : w.heap[b]? = some (.map es c)) : v.ownBlock ≠ some b := by
  intro e
  rcases h.2 with ⟨rfl, _⟩ | ⟨g, cap, cur, rfl, _, hg, _⟩
  · simp [Value.ownBlock] at e
  · simp [Value.ownBlock] at e
    subst e
    rw [hb] at hg
    simp at hg
theorem MapIs.heap {w : World} {M : Nat} {bs : List (Int × Int)} (h : MapIs w M bs) : ∃ es c, w.heap[M]? = some (.map es c) := by
  obtain ⟨D, ⟨es, c, e1, _⟩, _⟩ := h; exact ⟨es, c, e1⟩
/-- a row more, behind all others -/
theorem rec_push {B : Nat} {cv rv pv bv : Value} {R M P : Nat} {w w1 w2 : World} {G v' : Value} {ps : List Nat} {L : List (Row × (Int × Int))} {bs : List (Int × Int)} {r : Row} {t : Int × Int} (h : RecAt B cv rv pv bv R M w G ps L bs) (hl : L.length < 24) (hP : P = w.heap.size) (hBP : B ≤ P)
    (hO : SeenAt w1 P r t) (hb1 : Below w.heap.size w w1) (hown : w2.ownsRow B 75 1 v' (L.length + 1) (ps.map ptrV ++ [ptrV P])) (hg : w1.grownBy w2 G.ownBlock) :
    RecAt B cv rv pv bv R M (w2.setCell ⟨R, 4, none⟩ v') v' (ps ++ [P]) (L ++ [(r, t)]) bs ∧ Below B w (w2.setCell ⟨R, 4, none⟩ v') ∧ K87 w (w2.setCell ⟨R, 4, none⟩ v') := by
  have h1 := h.below hb1
  have eb : w2.heap[R]? = some (.cells #[cv, rv, pv, bv, G, .map (some M)] 86 (0, 0)) := (hg.block R (Array.getElem?_eq_some_iff.1 h1.box).1 (fun e => own_ne h1.row h1.box (by decide) e.symm)).trans h1.box
  have hse : ∀ p r t, SeenAt w1 p r t → SeenAt (w2.setCell ⟨R, 4, none⟩ v') p r t := fun p r t hs => by
    have e2 : w2.heap[p]? = _ := (hg.block p (Array.getElem?_eq_some_iff.1 hs).1 (fun e => own_ne h1.row hs (by decide) e.symm)).trans hs
    refine (Below.heap_setCell w2 ⟨R, 4, none⟩ v' p (fun e => ?_)).trans e2
    simp only [] at e
    rw [e, eb] at e2
    simp at e2
  have hbb : Below B w w2 := (hb1.mono (by omega)).grown hg (by have := hb1.size; omega) (fun k hk => (h.row.lt k hk).1)
  have hk : K87 w (w2.setCell ⟨R, 4, none⟩ v') := ((K87.of_below hb1).trans (K87.of_grown hg (fun r cs e h2 => own_ne h1.row h2 (by decide) e))).trans (K87.of_grown (setCell_grown w2 ⟨R, 4, none⟩ v') (fun r cs e h2 => by
    simp only [Option.some.injEq] at e
    rw [← e, eb] at h2
    simp at h2))
  refine ⟨⟨?_, ?_, ?_, ?_, ?_, ?_, h.hR, h.hM, ?_, ?_⟩, hbb.setCell h.hR _, hk⟩
  · have := heap_set eb 4 v'
    simpa using this
  · rw [List.length_append, List.map_append]
    exact hown.kept (setCell_grown w2 ⟨R, 4, none⟩ v') (.inr (own_ne hown eb (by decide)))
  · simp [h.len]
  · intro i hi
    rw [List.length_append, List.length_singleton] at hi
    by_cases e : i = L.length
    · subst e
      have := hse P r t hO
      simpa [List.getD, h.len ▸ List.getElem?_append_right (Nat.le_refl _), ← h.len] using this
    · have hi' : i < L.length := by omega
      have hi2 : i < ps.length := by rw [h.len]; exact hi'
      have := hse _ _ _ (h1.seen i hi')
      simpa [List.getD, List.getElem?_append_left hi', List.getElem?_append_left hi2] using this
  · simp; omega
  · obtain ⟨es, c, em⟩ := h1.map.heap
    have m2 := h1.map.kept hg (fun e => own_ne_map h1.row em e.symm)
    obtain ⟨es2, c2, em2⟩ := m2.heap
    refine m2.kept (setCell_grown w2 ⟨R, 4, none⟩ v') (fun e => ?_)
    simp only [Option.some.injEq] at e
    rw [e, eb] at em2
    simp at em2
  · intro p hp
    rcases List.mem_append.1 hp with hp | hp
    · exact h.ge p hp
    · simp at hp; omega
  · rw [List.nodup_append]
    refine ⟨h.nd, by simp, fun a ha b hb2 => ?_⟩
    simp at hb2
    obtain ⟨i, hi, rfl⟩ := List.mem_iff_getElem.1 ha
    have hlt := (Array.getElem?_eq_some_iff.1 (h.seen i (by rw [← h.len]; exact hi))).1
    have e : ps.getD i 0 = ps[i] := by simp [List.getD, hi]
    rw [e] at hlt
    omega
/-- the rows that were entered: those of the list, each with its term -/
def enteredL (s : Stk) : List (Row × (Int × Int)) := s.rs.map fun r => (r, (r.day + s.cs[r.cls.toNat]!.term, 0))
theorem enteredL_len (s : Stk) : (enteredL s).length = s.rs.length := by simp [enteredL]
def rowsErr (s : Stk) : Nat × Int := firstErr (fun i => if rowBad s.rs i then 5 else 0) s.rs.length 0
def RowsEntered (w0 w : World) (s : Stk) (cv rv pv bv : Value) (R M : Nat) (e : Ending) (w' : World) : Prop :=
  e = .returned (.tuple #[.int .i64 (rowsErr s).1, .int .i64 (rowsErr s).2]) ∧ Below w0.heap.size w0 w' ∧ K87 w w' ∧ ((rowsErr s).2 = 0 → ∃ G ps, RecAt w0.heap.size cv rv pv bv R M w' G ps (enteredL s) [])
theorem rowOk_of {s : Stk} (h : stkOk s = true) {k : Nat} (hk : k < s.rs.length) : ∃ c : Nat, s.rs[k]!.cls = c ∧ c < s.cs.length ∧ 1 ≤ s.rs[k]!.lo ∧ s.rs[k]!.lo ≤ s.rs[k]!.hi ∧ s.rs[k]!.hi ≤ 1000000 ∧ 0 ≤ s.rs[k]!.day ∧ s.rs[k]!.day ≤ 131072 ∧ 1 ≤ s.cs[c]!.term ∧ s.cs[c]!.term ≤ 10000 := by
  unfold stkOk at h
  simp only [Bool.and_eq_true, List.all_eq_true] at h
  obtain ⟨_, h1, h2, _⟩ := h
  have h3 := h2 s.rs[k]! (by rw [getElem!_pos s.rs k hk]; exact List.getElem_mem hk)
  unfold rowOk at h3
  simp only [Bool.and_eq_true, inF_iff, decide_eq_true_eq] at h3
  obtain ⟨a, b, c, d, e⟩ := h3
  have hc : (s.rs[k]!.cls.toNat) < s.cs.length := by omega
  have h4 := h1 s.cs[s.rs[k]!.cls.toNat]! (by rw [getElem!_pos s.cs _ hc]; exact List.getElem_mem hc)
  unfold clsOk at h4
  simp only [Bool.and_eq_true, inF_iff] at h4
  exact ⟨s.rs[k]!.cls.toNat, by omega, hc, by omega, c, by omega, e.1, e.2, h4.1.1, h4.1.2⟩
theorem stk_few {s : Stk} (h : stkOk s = true) : s.cs.length ≤ 5 ∧ s.rs.length ≤ 24 ∧ s.ps.length ≤ 12 ∧ s.bs.length ≤ 24 := by
  unfold stkOk at h
  simp only [Bool.and_eq_true, decide_eq_true_eq] at h
  exact ⟨h.1.1, h.1.2.1, h.1.2.2.1, h.1.2.2.2⟩
theorem rowBad_false {s : Stk} {k : Nat} {L : List (Row × (Int × Int))} (hL : L.map (·.1) = s.rs.take k) (h : ∀ i, i < L.length → meetsF (L.getD i default).1 s.rs[k]! = false) : rowBad s.rs k = false := by
  unfold rowBad
  rw [← hL, List.any_eq_false]
  intro x hx
  obtain ⟨y, hy, rfl⟩ := List.mem_map.1 hx
  obtain ⟨i, hi, rfl⟩ := List.mem_iff_getElem.1 hy
  have := h i hi
  simpa [List.getD, hi] using this
theorem rowBad_true {s : Stk} {k i : Nat} {L : List (Row × (Int × Int))} (hL : L.map (·.1) = s.rs.take k) (hi : i < L.length) (h : meetsF (L.getD i default).1 s.rs[k]! = true) : rowBad s.rs k = true := by
  unfold rowBad
  rw [← hL, List.any_eq_true]
  exact ⟨L[i].1, List.mem_map.2 ⟨L[i], List.getElem_mem hi, rfl⟩, by simpa [List.getD, hi] using h⟩
theorem entered_step {s : Stk} {k c : Nat} (hk : k < s.rs.length) (hc : s.rs[k]!.cls = c) : (enteredL s).take (k + 1) = (enteredL s).take k ++ [(s.rs[k]!, (s.rs[k]!.day + s.cs[c]!.term, 0))] := by
  rw [List.take_succ_eq_append_getElem (by rw [enteredL_len]; exact hk)]
  unfold enteredL
  rw [List.getElem_map, ← getElem!_pos s.rs k hk, hc, Int.toNat_natCast]
set_option maxRecDepth 100000 in
set_option maxHeartbeats 6400000 in
theorem enterRows_any (s : Stk) (cv rv pv bv : Value) (R M : Nat) (w0 w : World) (hs : stkOk s = true) (hc : TabAt 4 clsC w0 cv s.cs) (hr : TabAt 4 rowC w0 rv s.rs) (hb : Below w0.heap.size w0 w) (h : RecAt w0.heap.size cv rv pv bv R M w (.slice none 0 0) [] [] []) :
    Calls Try.prog 36 #[.pointer (some ⟨R, 0, none⟩)] w (RowsEntered w0 w s cv rv pv bv R M) := by
  obtain ⟨j0, hj, hj0, hj1, hj2⟩ := info_parts info75
  obtain ⟨va, vc, rfl⟩ := hr.shape
  obtain ⟨ca, cc, rfl⟩ := hc.shape
  obtain ⟨f1, f2, _, _⟩ := stk_few hs
  obtain ⟨c0, c1, c2, c3, c4, c5⟩ := six_cells h.box
  have HH := Lib.hid h
  have HC := Lib.hid hc
  have HR := Lib.hid hr
  have HS := Lib.hid hs
  have HB := Lib.hid hb
  clear c0 c2 c3 c4 c5 h hc hr hs hb
  go_enter Try.func36, Try.ntmps36
  go_wp2_with fail
  clear c1
  go_loopw [14] (fun i wr => ∃ (k : Nat) (G : Value) (ps : List Nat), k ≤ s.rs.length ∧ i = .int .i64 k ∧ Below w0.heap.size w0 wr ∧ K87 w wr ∧ RecAt w0.heap.size (.slice ca s.cs.length cc) (.slice va s.rs.length vc) pv bv R M wr G ps ((enteredL s).take k) [] ∧ ∀ i, i < k → rowBad s.rs i = false) (fun i _ => s.rs.length - (intOf i).toNat)
  case atStart => exact ⟨0, _, [], by omega, rfl, HB.out, K87.refl _, HH.out, fun i hi => by omega⟩
  case round =>
    obtain ⟨k, G, ps, hk, rfl, hbel, hk87, hrec, hok⟩ := hrel
    have HOK := Lib.hid hok
    have HK := Lib.hid hk87
    clear hok hk87
    by_cases hlt : k < s.rs.length
    · obtain ⟨bb, off, e1, hlb, hcx⟩ := HR.out.at (by omega)
      subst e1
      obtain ⟨c, hcls, hcl, g1, g2, g3, g4, g5, g6, g7⟩ := rowOk_of HS.out hlt
      have hst := entered_step hlt hcls
      obtain ⟨⟨lo, hi, cls, day⟩, hx⟩ : ∃ x, s.rs.getD k default = x := ⟨_, rfl⟩
      have hx2 : s.rs[k]! = ⟨lo, hi, cls, day⟩ := by rw [← hx]; simp [List.getD, hlt]
      rw [hx2] at hcls g1 g2 g3 g4 g5 hst
      simp only [] at hcls g1 g2 g3 g4 g5 hst
      subst hcls
      have q0 := hcx k hlt 0 (by omega)
      have q1 := hcx k hlt 1 (by omega)
      have q2 := hcx k hlt 2 (by omega)
      have q3 := hcx k hlt 3 (by omega)
      rw [hx] at q0 q1 q2 q3
      simp only [Nat.add_zero, rowC] at q0 q1 q2 q3
      have e0 := (hbel.cell (p := ⟨bb, _, none⟩) hlb).trans q0
      have e1 := (hbel.cell (p := ⟨bb, _, none⟩) hlb).trans q1
      have e2 := (hbel.cell (p := ⟨bb, _, none⟩) hlb).trans q2
      have e3 := (hbel.cell (p := ⟨bb, _, none⟩) hlb).trans q3
      clear q0 q1 q2 q3 hcx
      obtain ⟨cb, co, ec, hcb, hcc⟩ := HC.out.at (by omega)
      subst ec
      have t0 := hcc c hcl 0 (by omega)
      obtain ⟨tm, htm⟩ : ∃ x, s.cs[c]!.term = x := ⟨_, rfl⟩
      have ht2 : clsC (s.cs.getD c default) 0 = tm := by rw [← htm]; simp [clsC, List.getD, hcl]
      rw [ht2] at t0
      simp only [Nat.add_zero] at t0
      rw [htm] at g6 g7 hst
      have HT := Lib.hid t0
      have HST := Lib.hid hst
      have HX := Lib.hid hx2
      obtain ⟨L, hLe⟩ : ∃ L, (enteredL s).take k = L := ⟨_, rfl⟩
      have hLl : L.length = k := by rw [← hLe, List.length_take, enteredL_len]; omega
      have hLm : L.map (·.1) = s.rs.take k := by rw [← hLe, List.map_take]; congr 1; simp [enteredL, Function.comp_def]
      rw [hLe] at hrec
      have l24 : L.length ≤ 24 := by omega
      have HL := Lib.hid hLe
      have HLL := Lib.hid hLl
      have HLM := Lib.hid hLm
      obtain ⟨ga, gc, rfl⟩ := hrec.shape
      obtain ⟨X, hX⟩ : ∃ X, wr.alloc (.cells #[.int .i64 lo, .int .i64 hi, .int .i64 c, .int .i64 day] 42) = X := ⟨_, rfl⟩
      have hbX : Below wr.heap.size wr X := by rw [← hX]; exact (Below.refl _ _).alloc (Nat.le_refl _) _
      have hrX : X.heap[wr.heap.size]? = some (.cells #[.int .i64 lo, .int .i64 hi, .int .i64 c, .int .i64 day] 42 (0, 0)) := by rw [← hX]; exact alloc_heap wr _
      obtain ⟨Q, hQ⟩ : ∃ Q, wr.heap.size = Q := ⟨_, rfl⟩
      rw [hQ] at hrX
      have hQ0 : w0.heap.size ≤ Q := by rw [← hQ]; exact hbel.size
      have hbX0 := hbel.trans (hbX.mono hbel.size)
      have hrecX := hrec.below hbX
      obtain ⟨d0, d1, d2, d3, d4, d5⟩ := six_cells hrecX.box
      have HRX := Lib.hid hrX
      have HBX := Lib.hid hbX0
      have HKX := Lib.hid (HK.out.trans (K87.of_below hbX))
      have HRECX := Lib.hid hrecX
      have kx : (0 : Int) ≤ k := by omega
      have ky : (k : Int) < (s.rs.length : Int) := by omega
      clear hst hx hx2 hLe hLl hLm t0 ht2 htm hcc d0 d2 d3 d5 hrX hbX hbX0 hrecX hrec hbel
      go_upto_region 4 with fail
      go_wp2_with fail
      clear hX hQ e0 e1 e2 e3 d1 d4
      go_loopw [24] (fun i wr => ∃ j : Nat, j ≤ L.length ∧ i = .int .i64 j ∧ Below X.heap.size X wr ∧ ∀ i, i < j → meetsF (L.getD i default).1 ⟨lo, hi, c, day⟩ = false) (fun i _ => L.length - (intOf i).toNat)
      case atStart => exact ⟨0, by omega, rfl, Below.refl _ _, fun i hi => by omega⟩
      case round =>
        obtain ⟨j, hjl, rfl, hbel, hno⟩ := hrel
        have hl24 := HLL.out
        by_cases hlt2 : j < L.length
        · obtain ⟨g, eg, _, hgl, hgc⟩ := (HRECX.out.below hbel).at (by omega)
          subst eg
          have u0 := hgc j hlt2
          have hsn := (HRECX.out.below hbel).seen j hlt2
          obtain ⟨p, hp⟩ : ∃ p, ps.getD j 0 = p := ⟨_, rfl⟩
          obtain ⟨r, hr⟩ : ∃ r, L.getD j default = r := ⟨_, rfl⟩
          rw [hp] at u0 hsn
          rw [hr] at hsn
          have k1 := meets_any p r.1 ⟨lo, hi, c, day⟩ r.2 _ hsn
          simp only [rowV] at k1
          obtain ⟨v0, v1, v2, v3⟩ := four_cells (box_step (w0 := X) HRX.out hbel)
          have ij1 : (j : Int) < (L.length : Int) := by omega
          cases hm : meetsF r.1 ⟨lo, hi, c, day⟩ with
          | true =>
            rw [hm] at k1
            have hbad := rowBad_true HLM.out hlt2 (by rw [hr, HX.out]; exact hm)
            have hfe : rowsErr s = (k, 5) := by
              unfold rowsErr
              rw [firstErr_at s.rs.length 0 k hlt (fun j hj => by rw [Nat.zero_add, HOK.out j hj]; rfl) (by rw [Nat.zero_add, hbad]; simp), Nat.zero_add, hbad]; rfl
            have K1 := Lib.hid k1
            have HFE := Lib.hid hfe
            have HBEL := Lib.hid hbel
            clear k1 hgc hsn hp hr hm hbad hfe hno hl24 hbel
            go_wp2_with (go_at_call 52; (with_reducible refine K1.out.mono ?_); rintro e w2 ⟨rfl, hb2⟩)
            go_ret2
            have hbb : Below w0.heap.size w0 w2 := HBX.out.trans ((HBEL.out.trans (hb2.mono HBEL.out.size)).mono HBX.out.size)
            exact ⟨by rw [HFE.out]; rfl, hbb, HKX.out.trans (K87.of_below (HBEL.out.trans (hb2.mono HBEL.out.size))), fun e => by rw [HFE.out] at e; cases e⟩
          | false =>
            rw [hm] at k1
            have hno2 : ∀ i, i < j + 1 → meetsF (L.getD i default).1 ⟨lo, hi, c, day⟩ = false := fun i hi => by
              by_cases e : i = j
              · subst e; rw [hr]; exact hm
              · exact hno i (by omega)
            have K1 := Lib.hid k1
            have HNO := Lib.hid hno2
            have HBEL := Lib.hid hbel
            clear k1 hgc hsn hp hr hm hno hno2 hl24 hbel
            go_wp2_with (go_at_call 52; (with_reducible refine K1.out.mono ?_); rintro e w2 ⟨rfl, hb2⟩)
            go_roundw
            case rel => exact ⟨j + 1, by omega, by go_num, HBEL.out.trans (hb2.mono HBEL.out.size), HNO.out⟩
            case measure => simp [intOf]; omega
        · have hjl2 : j = L.length := by omega
          subst hjl2
          have hgood := rowBad_false HLM.out (fun i hi => by rw [HX.out]; exact hno i hi)
          have HG := Lib.hid hgood
          have hrecY := HRECX.out.below hbel
          have hRX : X.heap[Q]? = _ := HRX.out
          have hRY := box_step (w0 := X) hRX hbel
          have hbY := HBX.out.trans (hbel.mono HBX.out.size)
          obtain ⟨wY, rfl⟩ : ∃ wY : World, wY = wr := ⟨_, rfl⟩
          have tY := (hbY.cell (p := ⟨cb, _, none⟩) hcb).trans HT.out
          have HRY := Lib.hid hRY
          have HBY := Lib.hid hbY
          have HKY := Lib.hid (HKX.out.trans (K87.of_below hbel))
          have HRECY := Lib.hid hrecY
          have HTY := Lib.hid tY
          have i1 : ¬ (L.length : Int) < (L.length : Int) := by omega
          clear hno hgood hrecY hRX hRY hbY hbel tY HRX HRECX hl24
          go_upto_region 10 with fail
          clear i1
          have HD := Lib.hid (show IntKind.i64.wrap (day + tm) = day + tm from IntWalk.i64_in _ (by omega))
          have hsum := HD.out
          have kc0 : (0 : Int) ≤ (c : Int) := by omega
          have kc1 : (c : Int) < (s.cs.length : Int) := by omega
          obtain ⟨z1, z2, z3⟩ : wY.heap[R]? = some (.cells #[.slice (some ⟨cb, co, none⟩) s.cs.length cc, .slice (some ⟨bb, off, none⟩) s.rs.length vc, pv, bv, .slice ga L.length gc, .map (some M)] 86 (0, 0)) ∧ wY.heap[Q]? = some (.cells #[.int .i64 lo, .int .i64 hi, .int .i64 c, .int .i64 day] 42 (0, 0)) ∧ wY.cell? ⟨cb, co + c * 4, none⟩ = some (.int .i64 tm) := ⟨HRECY.out.box, HRY.out, HTY.out⟩
          have hT : wY.drew.heap[R]? = some (.cells #[.slice (some ⟨cb, co, none⟩) s.cs.length cc, .slice (some ⟨bb, off, none⟩) s.rs.length vc, pv, bv, .slice ga L.length gc, .map (some M)] 86 (0, 0)) ∧ wY.drew.heap[Q]? = some (.cells #[.int .i64 lo, .int .i64 hi, .int .i64 c, .int .i64 day] 42 (0, 0)) ∧ wY.drew.cell? ⟨cb, co + c * 4, none⟩ = some (.int .i64 tm) := ⟨z1, z2, z3⟩
          clear z1 z2 z3
          refine wp_region_last (fun w' => w'.heap[R]? = some (.cells #[.slice (some ⟨cb, co, none⟩) s.cs.length cc, .slice (some ⟨bb, off, none⟩) s.rs.length vc, pv, bv, .slice ga L.length gc, .map (some M)] 86 (0, 0)) ∧ w'.heap[Q]? = some (.cells #[.int .i64 lo, .int .i64 hi, .int .i64 c, .int .i64 day] 42 (0, 0)) ∧ w'.cell? ⟨cb, co + c * 4, none⟩ = some (.int .i64 tm)) 25 (by kernel_rfl) hT (fun hHeld => ?_)
          refine wpLast_take (i := 0) (oi := _) (v := ?_) rfl (by kernel_rfl) (by kernel_rfl) (by decide) (by kernel_rfl) (by kernel_rfl) (fun _ _ _ h => h) (Or.inl ⟨by rfl, ?_⟩) hT ?_
          rotate_left
          · intro w1 hSw
            obtain ⟨s1, s2, s3⟩ := hSw
            obtain ⟨x0, x1, x2, x3, x4, x5⟩ := six_cells s1
            obtain ⟨y0, y1, y2, y3⟩ := four_cells s2
            go_simp; with_reducible rfl
          simp only [List.getElem_toArray, List.getElem_cons_succ, List.getElem_cons_zero, Act.put, List.setIfInBounds_toArray, List.set_cons_zero, List.set_cons_succ]
          refine wpLast_take (i := 1) (oi := _) (v := ?_) rfl (by kernel_rfl) (by kernel_rfl) (by decide) (by kernel_rfl) (by kernel_rfl) (fun _ _ _ h => h) (Or.inl ⟨by rfl, ?_⟩) hT ?_
          rotate_left
          · intro w1 hSw
            obtain ⟨s1, s2, s3⟩ := hSw
            obtain ⟨x0, x1, x2, x3, x4, x5⟩ := six_cells s1
            obtain ⟨y0, y1, y2, y3⟩ := four_cells s2
            go_simp; with_reducible rfl
          simp only [List.getElem_toArray, List.getElem_cons_succ, List.getElem_cons_zero, Act.put, List.setIfInBounds_toArray, List.set_cons_zero, List.set_cons_succ]
          refine wpLast_take (i := 2) (oi := _) (v := ?_) rfl (by kernel_rfl) (by kernel_rfl) (by decide) (by kernel_rfl) (by kernel_rfl) (fun _ _ _ h => h) (Or.inl ⟨by rfl, ?_⟩) hT ?_
          rotate_left
          · intro w1 hSw
            obtain ⟨s1, s2, s3⟩ := hSw
            obtain ⟨x0, x1, x2, x3, x4, x5⟩ := six_cells s1
            obtain ⟨y0, y1, y2, y3⟩ := four_cells s2
            go_simp; with_reducible rfl
          simp only [List.getElem_toArray, List.getElem_cons_succ, List.getElem_cons_zero, Act.put, List.setIfInBounds_toArray, List.set_cons_zero, List.set_cons_succ]
          refine wpLast_take (i := 3) (oi := _) (v := ?_) rfl (by kernel_rfl) (by kernel_rfl) (by decide) (by kernel_rfl) (by kernel_rfl) (fun _ _ _ h => h) (Or.inl ⟨by rfl, ?_⟩) hT ?_
          rotate_left
          · intro w1 hSw
            obtain ⟨s1, s2, s3⟩ := hSw
            obtain ⟨x0, x1, x2, x3, x4, x5⟩ := six_cells s1
            obtain ⟨y0, y1, y2, y3⟩ := four_cells s2
            go_simp; with_reducible rfl
          simp only [List.getElem_toArray, List.getElem_cons_succ, List.getElem_cons_zero, Act.put, List.setIfInBounds_toArray, List.set_cons_zero, List.set_cons_succ]
          refine wpLast_take (i := 4) (oi := _) (v := ?_) rfl (by kernel_rfl) (by kernel_rfl) (by decide) (by kernel_rfl) (by kernel_rfl) (fun _ _ _ h => h) (Or.inl ⟨by rfl, ?_⟩) hT ?_
          rotate_left
          · intro w1 hSw
            obtain ⟨s1, s2, s3⟩ := hSw
            obtain ⟨x0, x1, x2, x3, x4, x5⟩ := six_cells s1
            obtain ⟨y0, y1, y2, y3⟩ := four_cells s2
            go_simp; with_reducible rfl
          simp only [List.getElem_toArray, List.getElem_cons_succ, List.getElem_cons_zero, Act.put, List.setIfInBounds_toArray, List.set_cons_zero, List.set_cons_succ]
          refine wpLast_take (i := 5) (oi := _) (v := ?_) rfl (by kernel_rfl) (by kernel_rfl) (by decide) (by kernel_rfl) (by kernel_rfl) (fun _ _ _ h => h) (Or.inl ⟨by rfl, ?_⟩) hT ?_
          rotate_left
          · intro w1 hSw
            obtain ⟨s1, s2, s3⟩ := hSw
            obtain ⟨x0, x1, x2, x3, x4, x5⟩ := six_cells s1
            obtain ⟨y0, y1, y2, y3⟩ := four_cells s2
            go_simp; with_reducible rfl
          simp only [List.getElem_toArray, List.getElem_cons_succ, List.getElem_cons_zero, Act.put, List.setIfInBounds_toArray, List.set_cons_zero, List.set_cons_succ]
          refine wpLast_take (i := 6) (oi := _) (v := ?_) rfl (by kernel_rfl) (by kernel_rfl) (by decide) (by kernel_rfl) (by kernel_rfl) (fun _ _ _ h => h) (Or.inl ⟨by rfl, ?_⟩) hT ?_
          rotate_left
          · intro w1 hSw
            obtain ⟨s1, s2, s3⟩ := hSw
            obtain ⟨x0, x1, x2, x3, x4, x5⟩ := six_cells s1
            obtain ⟨y0, y1, y2, y3⟩ := four_cells s2
            go_simp; with_reducible rfl
          simp only [List.getElem_toArray, List.getElem_cons_succ, List.getElem_cons_zero, Act.put, List.setIfInBounds_toArray, List.set_cons_zero, List.set_cons_succ]
          refine wpLast_take (i := 7) (oi := _) (v := ?_) rfl (by kernel_rfl) (by kernel_rfl) (by decide) (by kernel_rfl) (by kernel_rfl) (fun _ _ _ h => h) (Or.inl ⟨by rfl, ?_⟩) hT ?_
          rotate_left
          · intro w1 hSw
            obtain ⟨s1, s2, s3⟩ := hSw
            obtain ⟨x0, x1, x2, x3, x4, x5⟩ := six_cells s1
            obtain ⟨y0, y1, y2, y3⟩ := four_cells s2
            go_simp; with_reducible rfl
          simp only [List.getElem_toArray, List.getElem_cons_succ, List.getElem_cons_zero, Act.put, List.setIfInBounds_toArray, List.set_cons_zero, List.set_cons_succ]
          refine wpLast_take (i := 8) (oi := _) (v := ?_) rfl (by kernel_rfl) (by kernel_rfl) (by decide) (by kernel_rfl) (by kernel_rfl) (fun _ _ _ h => h) (Or.inl ⟨by rfl, ?_⟩) hT ?_
          rotate_left
          · intro w1 hSw
            obtain ⟨s1, s2, s3⟩ := hSw
            obtain ⟨x0, x1, x2, x3, x4, x5⟩ := six_cells s1
            obtain ⟨y0, y1, y2, y3⟩ := four_cells s2
            go_simp; with_reducible rfl
          simp only [List.getElem_toArray, List.getElem_cons_succ, List.getElem_cons_zero, Act.put, List.setIfInBounds_toArray, List.set_cons_zero, List.set_cons_succ]
          refine wpLast_take (i := 9) (oi := _) (v := ?_) rfl (by kernel_rfl) (by kernel_rfl) (by decide) (by kernel_rfl) (by kernel_rfl) (fun _ _ _ h => h) (Or.inl ⟨by rfl, ?_⟩) hT ?_
          rotate_left
          · intro w1 hSw
            obtain ⟨s1, s2, s3⟩ := hSw
            obtain ⟨x0, x1, x2, x3, x4, x5⟩ := six_cells s1
            obtain ⟨y0, y1, y2, y3⟩ := four_cells s2
            go_simp; with_reducible rfl
          simp only [List.getElem_toArray, List.getElem_cons_succ, List.getElem_cons_zero, Act.put, List.setIfInBounds_toArray, List.set_cons_zero, List.set_cons_succ]
          refine wpLast_take (i := 10) (oi := _) (v := ?_) rfl (by kernel_rfl) (by kernel_rfl) (by decide) (by kernel_rfl) (by kernel_rfl) (fun _ _ _ h => h) (Or.inl ⟨by rfl, ?_⟩) hT ?_
          rotate_left
          · intro w1 hSw
            obtain ⟨s1, s2, s3⟩ := hSw
            obtain ⟨x0, x1, x2, x3, x4, x5⟩ := six_cells s1
            obtain ⟨y0, y1, y2, y3⟩ := four_cells s2
            go_simp; with_reducible rfl
          simp only [List.getElem_toArray, List.getElem_cons_succ, List.getElem_cons_zero, Act.put, List.setIfInBounds_toArray, List.set_cons_zero, List.set_cons_succ]
          refine wpLast_take (i := 11) (oi := _) (v := ?_) rfl (by kernel_rfl) (by kernel_rfl) (by decide) (by kernel_rfl) (by kernel_rfl) (fun _ _ _ h => h) (Or.inl ⟨by rfl, ?_⟩) hT ?_
          rotate_left
          · intro w1 hSw
            obtain ⟨s1, s2, s3⟩ := hSw
            obtain ⟨x0, x1, x2, x3, x4, x5⟩ := six_cells s1
            obtain ⟨y0, y1, y2, y3⟩ := four_cells s2
            go_simp; with_reducible rfl
          simp only [List.getElem_toArray, List.getElem_cons_succ, List.getElem_cons_zero, Act.put, List.setIfInBounds_toArray, List.set_cons_zero, List.set_cons_succ]
          refine wpLast_take (i := 12) (oi := _) (v := ?_) rfl (by kernel_rfl) (by kernel_rfl) (by decide) (by kernel_rfl) (by kernel_rfl) (fun _ _ _ h => h) (Or.inl ⟨by rfl, ?_⟩) hT ?_
          rotate_left
          · intro w1 hSw
            obtain ⟨s1, s2, s3⟩ := hSw
            obtain ⟨x0, x1, x2, x3, x4, x5⟩ := six_cells s1
            obtain ⟨y0, y1, y2, y3⟩ := four_cells s2
            go_simp; with_reducible rfl
          simp only [List.getElem_toArray, List.getElem_cons_succ, List.getElem_cons_zero, Act.put, List.setIfInBounds_toArray, List.set_cons_zero, List.set_cons_succ]
          refine wpLast_take (i := 13) (oi := _) (v := ?_) rfl (by kernel_rfl) (by kernel_rfl) (by decide) (by kernel_rfl) (by kernel_rfl) (fun _ _ _ h => h) (Or.inl ⟨by rfl, ?_⟩) hT ?_
          rotate_left
          · intro w1 hSw
            obtain ⟨s1, s2, s3⟩ := hSw
            obtain ⟨x0, x1, x2, x3, x4, x5⟩ := six_cells s1
            obtain ⟨y0, y1, y2, y3⟩ := four_cells s2
            go_simp; with_reducible rfl
          simp only [List.getElem_toArray, List.getElem_cons_succ, List.getElem_cons_zero, Act.put, List.setIfInBounds_toArray, List.set_cons_zero, List.set_cons_succ]
          refine wpLast_take (i := 14) (oi := _) (v := ?_) rfl (by kernel_rfl) (by kernel_rfl) (by decide) (by kernel_rfl) (by kernel_rfl) (fun _ _ _ h => h) (Or.inl ⟨by rfl, ?_⟩) hT ?_
          rotate_left
          · intro w1 hSw
            obtain ⟨s1, s2, s3⟩ := hSw
            obtain ⟨x0, x1, x2, x3, x4, x5⟩ := six_cells s1
            obtain ⟨y0, y1, y2, y3⟩ := four_cells s2
            go_simp; with_reducible rfl
          simp only [List.getElem_toArray, List.getElem_cons_succ, List.getElem_cons_zero, Act.put, List.setIfInBounds_toArray, List.set_cons_zero, List.set_cons_succ]
          refine wpLast_take (i := 15) (oi := _) (v := ?_) rfl (by kernel_rfl) (by kernel_rfl) (by decide) (by kernel_rfl) (by kernel_rfl) (fun _ _ _ h => h) (Or.inl ⟨by rfl, ?_⟩) hT ?_
          rotate_left
          · intro w1 hSw
            obtain ⟨s1, s2, s3⟩ := hSw
            obtain ⟨x0, x1, x2, x3, x4, x5⟩ := six_cells s1
            obtain ⟨y0, y1, y2, y3⟩ := four_cells s2
            go_simp; with_reducible rfl
          simp only [List.getElem_toArray, List.getElem_cons_succ, List.getElem_cons_zero, Act.put, List.setIfInBounds_toArray, List.set_cons_zero, List.set_cons_succ]
          refine wpLast_take (i := 16) (oi := _) (v := ?_) rfl (by kernel_rfl) (by kernel_rfl) (by decide) (by kernel_rfl) (by kernel_rfl) (fun _ _ _ h => h) (Or.inl ⟨by rfl, ?_⟩) hT ?_
          rotate_left
          · intro w1 hSw
            obtain ⟨s1, s2, s3⟩ := hSw
            obtain ⟨x0, x1, x2, x3, x4, x5⟩ := six_cells s1
            obtain ⟨y0, y1, y2, y3⟩ := four_cells s2
            go_simp; with_reducible rfl
          simp only [List.getElem_toArray, List.getElem_cons_succ, List.getElem_cons_zero, Act.put, List.setIfInBounds_toArray, List.set_cons_zero, List.set_cons_succ]
          refine wpLast_take (i := 17) (oi := _) (v := ?_) rfl (by kernel_rfl) (by kernel_rfl) (by decide) (by kernel_rfl) (by kernel_rfl) (fun _ _ _ h => h) (Or.inl ⟨by rfl, ?_⟩) hT ?_
          rotate_left
          · intro w1 hSw
            obtain ⟨s1, s2, s3⟩ := hSw
            obtain ⟨x0, x1, x2, x3, x4, x5⟩ := six_cells s1
            obtain ⟨y0, y1, y2, y3⟩ := four_cells s2
            go_simp; with_reducible rfl
          simp only [List.getElem_toArray, List.getElem_cons_succ, List.getElem_cons_zero, Act.put, List.setIfInBounds_toArray, List.set_cons_zero, List.set_cons_succ]
          refine wpLast_take (i := 18) (oi := _) (v := ?_) rfl (by kernel_rfl) (by kernel_rfl) (by decide) (by kernel_rfl) (by kernel_rfl) (fun _ _ _ h => h) (Or.inl ⟨by rfl, ?_⟩) hT ?_
          rotate_left
          · intro w1 hSw
            obtain ⟨s1, s2, s3⟩ := hSw
            obtain ⟨x0, x1, x2, x3, x4, x5⟩ := six_cells s1
            obtain ⟨y0, y1, y2, y3⟩ := four_cells s2
            go_simp; with_reducible rfl
          simp only [List.getElem_toArray, List.getElem_cons_succ, List.getElem_cons_zero, Act.put, List.setIfInBounds_toArray, List.set_cons_zero, List.set_cons_succ]
          refine wpLast_take (i := 19) (oi := _) (v := ?_) rfl (by kernel_rfl) (by kernel_rfl) (by decide) (by kernel_rfl) (by kernel_rfl) (fun _ _ _ h => h) (Or.inl ⟨by rfl, ?_⟩) hT ?_
          rotate_left
          · intro w1 hSw
            obtain ⟨s1, s2, s3⟩ := hSw
            obtain ⟨x0, x1, x2, x3, x4, x5⟩ := six_cells s1
            obtain ⟨y0, y1, y2, y3⟩ := four_cells s2
            go_simp; with_reducible rfl
          simp only [List.getElem_toArray, List.getElem_cons_succ, List.getElem_cons_zero, Act.put, List.setIfInBounds_toArray, List.set_cons_zero, List.set_cons_succ]
          refine wpLast_ready (rs := [20]) (by kernel_rfl) (by simp) ?_
          intro i hi; obtain rfl := List.mem_singleton.1 hi; clear hi
          refine wpOp_step rfl (fun K3 hK3 => ?_)
          have HK3 := Lib.hid hK3
          clear hK3
          rw [if_pos (by rfl)]
          go_simp
          obtain ⟨P, hP⟩ : ∃ P, wY.heap.size = P := ⟨_, rfl⟩
          have hO : SeenAt (wY.alloc (.cells #[.int .i64 lo, .int .i64 hi, .int .i64 c, .int .i64 day, .int .i64 (day + tm), .int .i64 0] 78)).drew P ⟨lo, hi, c, day⟩ (day + tm, 0) := by
            rw [← hP]; exact alloc_heap wY _
          have hbP : Below wY.heap.size wY (wY.alloc (.cells #[.int .i64 lo, .int .i64 hi, .int .i64 c, .int .i64 day, .int .i64 (day + tm), .int .i64 0] 78)).drew := ((Below.refl _ _).alloc (Nat.le_refl _) _).drew
          rw [hP]
          have HPP := Lib.hid hP.symm
          clear hP
          generalize (wY.alloc (.cells #[.int .i64 lo, .int .i64 hi, .int .i64 c, .int .i64 day, .int .i64 (day + tm), .int .i64 0] 78)).drew = wa at *
          have ha := HRECY.out.below hbP
          have hra := box_step (w0 := w0) HRY.out hbP
          have hba := HBY.out.trans (hbP.mono HBY.out.size)
          have hta := (hba.cell (p := ⟨cb, co + c * 4, none⟩) hcb).trans HT.out
          refine HK3.out _ _ ⟨fun _ => ⟨ha.box, hra, hta⟩, fun _ => ?_⟩
          clear HK3 K3
          try simp only [List.getElem_toArray, List.getElem_cons_succ, List.getElem_cons_zero, Act.put, List.setIfInBounds_toArray, List.set_cons_zero, List.set_cons_succ]
          refine wpLast_ready (rs := [21]) (by kernel_rfl) (by simp) ?_
          intro i hi; obtain rfl := List.mem_singleton.1 hi; clear hi
          refine wpOp_step rfl (fun K3 hK3 => ?_)
          have HK3 := Lib.hid hK3
          clear hK3
          rw [if_pos (by rfl)]
          go_simp
          have hnew := cell_new wa (.pointer (some ⟨P, 0, none⟩)) 75
          have hbQ : Below wa.heap.size wa (wa.alloc (.cells #[.pointer (some ⟨P, 0, none⟩)] 75)) := (Below.refl _ _).alloc (Nat.le_refl _) _
          obtain ⟨P2, hP2⟩ : ∃ P2, wa.heap.size = P2 := ⟨_, rfl⟩
          rw [hP2] at hnew ⊢
          clear hP2
          generalize (wa.alloc (.cells #[.pointer (some ⟨P, 0, none⟩)] 75)) = wc at *
          have hc2 := ha.below hbQ
          have hrc := box_step (w0 := w0) hra hbQ
          have hbc := hba.trans (hbQ.mono hba.size)
          have htc := (hbc.cell (p := ⟨cb, co + c * 4, none⟩) hcb).trans HT.out
          have hOc := hO.below (B := 0) hbQ
          have hbYc := hbP.trans (hbQ.mono hbP.size)
          refine HK3.out _ _ ⟨fun _ => ⟨hc2.box, hrc, htc⟩, fun _ => ?_⟩
          clear HK3 K3
          try simp only [List.getElem_toArray, List.getElem_cons_succ, List.getElem_cons_zero, Act.put, List.setIfInBounds_toArray, List.set_cons_zero, List.set_cons_succ]
          refine wpLast_ready (rs := [22]) (by kernel_rfl) (by simp) ?_
          intro i hi; obtain rfl := List.mem_singleton.1 hi; clear hi
          refine wpOp_step rfl (fun K3 hK3 => ?_)
          have HK3 := Lib.hid hK3
          clear hK3
          rw [if_pos (by rfl)]
          simp only [List.getElem_toArray, List.getElem_cons_succ, List.getElem_cons_zero]
          have hrow := hc2.row
          refine wp_append_own (P := Try.prog) wc (.tmp 37) (.tmp 54) 84 (by rfl) w0.heap.size 75 j0 (.pointer none) 1 8 Try.underlying84 hj hj0 hj1 hj2 rfl (by decide) (.slice ga L.length gc) L.length _ (by rfl) hrow ⟨P2, 0, none⟩ 1 1 [.pointer (some ⟨P, 0, none⟩)] (by rfl) rfl hnew (by intro u hu; simp at hu; subst hu; rfl) (by unfold maxLen; omega) (by omega) hbc.size ?_
          intro v' w2 hown hg _
          have hpush := fun hl h1 h2 => rec_push (G := .slice ga L.length gc) (v' := v') HRECY.out hl HPP.out h1 hOc hbYc hown h2
          have hR2 : w2.heap[R]? = _ := (hg.block R (Array.getElem?_eq_some_iff.1 hc2.box).1 (fun e => own_ne hc2.row hc2.box (by decide) e.symm)).trans hc2.box
          have hQ2 : w2.heap[Q]? = _ := (hg.block Q (Array.getElem?_eq_some_iff.1 hrc).1 (fun e => own_ne hc2.row hrc (by decide) e.symm)).trans hrc
          have hb2 : Below w0.heap.size w0 w2 := hbc.grown hg hbc.size (fun k hk => (hrow.lt k hk).1)
          have ht2 := (hb2.cell (p := ⟨cb, co + c * 4, none⟩) hcb).trans HT.out
          obtain ⟨v2, cap2, rfl⟩ : ∃ v2 cap2, v' = .slice (some ⟨v2, 0, none⟩) (L.length + 1) cap2 := by
            rcases hown.2 with ⟨_, hn⟩ | ⟨g, cap, cur, e, _⟩
            · omega
            · exact ⟨g, cap, e⟩
          have HOWN := Lib.hid hown
          have HG2 := Lib.hid hg
          have HPU := Lib.hid hpush
          clear hown hg hpush hrow hnew
          refine HK3.out _ _ ⟨fun _ => ⟨hR2, hQ2, ht2⟩, fun _ => ?_⟩
          clear HK3 K3
          try simp only [List.getElem_toArray, List.getElem_cons_succ, List.getElem_cons_zero, Act.put, List.setIfInBounds_toArray, List.set_cons_zero, List.set_cons_succ]
          refine wpLast_ready (rs := [23]) (by kernel_rfl) (by simp) ?_
          intro i hi; obtain rfl := List.mem_singleton.1 hi; clear hi
          refine wpOp_step rfl (fun K3 hK3 => ?_)
          have HK3 := Lib.hid hK3
          clear hK3
          rw [if_pos (by rfl)]
          go_simp
          refine HK3.out _ _ ⟨fun _ => ⟨hR2, hQ2, ht2⟩, fun _ => ?_⟩
          clear HK3 K3
          try simp only [List.getElem_toArray, List.getElem_cons_succ, List.getElem_cons_zero, Act.put, List.setIfInBounds_toArray, List.set_cons_zero, List.set_cons_succ]
          refine wpLast_ready (rs := [24]) (by kernel_rfl) (by simp) ?_
          intro i hi; obtain rfl := List.mem_singleton.1 hi; clear hi
          refine wpOp_step rfl (fun K3 hK3 => ?_)
          have HK3 := Lib.hid hK3
          clear hK3
          rw [if_pos (by rfl)]
          go_simp
          refine HK3.out _ _ ⟨fun _ => ⟨hR2, hQ2, ht2⟩, fun _ => ?_⟩
          clear HK3 K3
          try simp only [List.getElem_toArray, List.getElem_cons_succ, List.getElem_cons_zero, Act.put, List.setIfInBounds_toArray, List.set_cons_zero, List.set_cons_succ]
          obtain ⟨x0, x1, x2, x3, x4, x5⟩ := six_cells hR2
          have xf : w2.frozen? ⟨R, 4, none⟩ = false := by simp [World.frozen?, hR2]
          clear x0 x1 x2 x3 x5
          refine wpLast_ready (rs := [25]) (by kernel_rfl) (by simp) ?_
          intro i hi; obtain rfl := List.mem_singleton.1 hi; clear hi
          refine wpOp_step rfl (fun K3 hK3 => ?_)
          have HK3 := Lib.hid hK3
          clear hK3
          rw [if_pos (by rfl)]
          go_simp
          refine HK3.out _ _ ⟨fun h => absurd rfl h, fun _ => ?_⟩
          clear HK3 K3 xf x4
          try simp only [List.getElem_toArray, List.getElem_cons_succ, List.getElem_cons_zero, Act.put, List.setIfInBounds_toArray, List.set_cons_zero, List.set_cons_succ]
          refine wpLast_done (by kernel_rfl) ?_ _
          obtain ⟨hrec3, hb3, hk3⟩ := HPU.out (by have := HLL.out; omega) (by rw [HPP.out]; exact HBY.out.size) HG2.out
          have hb4 := HBY.out.trans hb3
          have hst2 := HST.out
          rw [HL.out] at hst2
          rw [← hst2] at hrec3
          have hok2 : ∀ i, i < k + 1 → rowBad s.rs i = false := fun i hi => by
            by_cases e : i = k
            · rw [e]; exact HG.out
            · exact HOK.out i (by omega)
          have HREC3 := Lib.hid hrec3
          have HB4 := Lib.hid hb4
          have HK4 := Lib.hid (HKY.out.trans hk3)
          have HOK2 := Lib.hid hok2
          clear hrec3 hb3 hb4 hk3 hst2 hok2 hR2 hQ2 ht2 hb2
          go_wp2
          go_roundw
          case rel => exact ⟨k + 1, _, _, by omega, by go_num, HB4.out, HK4.out, HREC3.out, HOK2.out⟩
          case measure => simp [intOf]; omega
    · have hkl : k = s.rs.length := by omega
      have hfe : rowsErr s = (0, 0) := firstErr_ok _ _ (fun j hj => by rw [Nat.zero_add, HOK.out j (by omega)]; rfl)
      rw [List.take_of_length_le (by rw [enteredL_len]; omega)] at hrec
      have HFE := Lib.hid hfe
      have HREC := Lib.hid hrec
      have HBE := Lib.hid hbel
      have i1 : ¬ (k : Int) < (s.rs.length : Int) := by omega
      clear hkl hfe hrec hbel
      go_wp2
      go_ret2
      exact ⟨by rw [HFE.out]; rfl, HBE.out, HK.out, fun _ => ⟨_, _, HREC.out⟩⟩
end Go.Proofs.Ytcmfplfnpjknlaa
