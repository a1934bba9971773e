/- The laws of term: the chapter's example. -/
import Derived.Test.YtcmfplfnpjknlaaA21
namespace Go.Proofs.Ytcmfplfnpjknlaa
set_option linter.unusedSimpArgs false
set_option linter.unusedVariables false
open Go.RowKit

def sampV (Z : Nat) : Value := .agg #[.slice (some ⟨Z + 1, 0, none⟩) 2 2, .slice (some ⟨Z + 2, 0, none⟩) 3 3, .slice (some ⟨Z + 6, 0, none⟩) 3 3, .slice (some ⟨Z + 7, 0, none⟩) 2 2]
/-- the example's stock in memory -/
structure SampAt (X : World) (Z : Nat) (n : Int) : Prop where
  c : X.heap[Z + 1]? = some (.cells #[.int .i64 1000, .int .i64 1, .int .i64 300, .int .i64 1, .int .i64 500, .int .i64 2, .int .i64 100, .int .i64 0] 50 (0, 0))
  r : X.heap[Z + 2]? = some (.cells #[.int .i64 1, .int .i64 100, .int .i64 0, .int .i64 10, .int .i64 101, .int .i64 150, .int .i64 1, .int .i64 20, .int .i64 201, .int .i64 210, .int .i64 0, .int .i64 400] 42 (0, 0))
  s1 : X.heap[Z + 3]? = some (.cells #[.int .i64 5, .int .i64 50, .int .i64 205] 3 (0, 0))
  s2 : X.heap[Z + 4]? = some (.cells #[.int .i64 110, .int .i64 n] 3 (0, 0))
  s3 : X.heap[Z + 5]? = some (.cells #[.int .i64 60] 3 (0, 0))
  p : X.heap[Z + 6]? = some (.cells #[.int .i64 0, .int .i64 900, .slice (some ⟨Z + 3, 0, none⟩) 3 3, .int .i64 1, .int .i64 1, .int .i64 300, .slice (some ⟨Z + 4, 0, none⟩) 2 2, .int .i64 2, .int .i64 0, .int .i64 1300, .slice (some ⟨Z + 5, 0, none⟩) 1 1, .int .i64 0] 52 (0, 0))
  b : X.heap[Z + 7]? = some (.cells #[.int .i64 50, .int .i64 1000, .int .i64 130, .int .i64 200] 43 (0, 0))
theorem SampAt.below {X Y : World} {Z : Nat} {n : Int} (h : SampAt X Z n) (hb : Below X.heap.size X Y) : SampAt Y Z n :=
  ⟨box_step (w0 := X) h.c hb, box_step (w0 := X) h.r hb, box_step (w0 := X) h.s1 hb, box_step (w0 := X) h.s2 hb, box_step (w0 := X) h.s3 hb, box_step (w0 := X) h.p hb, box_step (w0 := X) h.b hb⟩
theorem cell_at {X : World} {b : Nat} {cs : Array Value} {T : TypeId} (h : X.heap[b]? = some (.cells cs T (0, 0))) (o : Nat) : X.cell? ⟨b, o, none⟩ = cs[o]? := by simp [World.cell?, h]
theorem SampAt.stk {X : World} {Z : Nat} {n : Int} (h : SampAt X Z n) : StkAt X (sampV Z) (sampleF n) := by
  have hl : ∀ {b : Nat} {o : Obj}, X.heap[b]? = some o → b < X.heap.size := fun h => (Array.getElem?_eq_some_iff.1 h).1
  refine ⟨_, _, _, _, rfl, ⟨by simp [sampleF, maxLen], .inr ⟨Z + 1, 0, 2, rfl, by simp [sampleF], by simp [maxLen], hl h.c, fun i hi j hj => ?_⟩⟩, ⟨by simp [sampleF, maxLen], .inr ⟨Z + 2, 0, 3, rfl, by simp [sampleF], by simp [maxLen], hl h.r, fun i hi j hj => ?_⟩⟩, ⟨by simp [sampleF, maxLen], .inr ⟨Z + 6, 0, 3, rfl, by simp [sampleF], by simp [maxLen], hl h.p, fun i hi => ?_⟩⟩, ⟨by simp [sampleF, maxLen], .inr ⟨Z + 7, 0, 2, rfl, by simp [sampleF], by simp [maxLen], hl h.b, fun i hi j hj => ?_⟩⟩⟩
  · have hi2 : i < 2 := hi
    rw [cell_at h.c]
    rcases (by omega : i = 0 ∨ i = 1) with rfl | rfl <;> rcases (by omega : j = 0 ∨ j = 1 ∨ j = 2 ∨ j = 3) with rfl | rfl | rfl | rfl <;> rfl
  · have hi2 : i < 3 := hi
    rw [cell_at h.r]
    rcases (by omega : i = 0 ∨ i = 1 ∨ i = 2) with rfl | rfl | rfl <;> rcases (by omega : j = 0 ∨ j = 1 ∨ j = 2 ∨ j = 3) with rfl | rfl | rfl | rfl <;> rfl
  · have hi2 : i < 3 := hi
    have ti : ∀ (b : Nat) (l : List Int), l.length ≤ 3 → X.heap[b]? = some (.cells (l.map (Value.int .i64)).toArray 3 (0, 0)) → TabAt 1 numC X (.slice (some ⟨b, 0, none⟩) l.length l.length) l := fun b l hl3 hb =>
      ⟨by unfold maxLen; omega, .inr ⟨b, 0, l.length, rfl, Nat.le_refl _, by unfold maxLen; omega, hl hb, fun i hi j hj => by
        have : j = 0 := by omega
        subst this
        rw [cell_at hb]
        simp [numC, List.getD, hi]⟩⟩
    rcases (by omega : i = 0 ∨ i = 1 ∨ i = 2) with rfl | rfl | rfl
    · exact ⟨_, (cell_at h.p _).trans rfl, (cell_at h.p _).trans rfl, (cell_at h.p _).trans rfl, (cell_at h.p _).trans rfl, ti (Z + 3) [5, 50, 205] (by simp) h.s1⟩
    · exact ⟨_, (cell_at h.p _).trans rfl, (cell_at h.p _).trans rfl, (cell_at h.p _).trans rfl, (cell_at h.p _).trans rfl, ti (Z + 4) [110, n] (by simp) h.s2⟩
    · exact ⟨_, (cell_at h.p _).trans rfl, (cell_at h.p _).trans rfl, (cell_at h.p _).trans rfl, (cell_at h.p _).trans rfl, ti (Z + 5) [60] (by simp) h.s3⟩
  · have hi2 : i < 2 := hi
    rw [cell_at h.b]
    rcases (by omega : i = 0 ∨ i = 1) with rfl | rfl <;> rcases (by omega : j = 0 ∨ j = 1) with rfl | rfl <;> rfl
theorem alloc_get (w : World) (o : Obj) (k : Nat) : (w.alloc o).heap[k]? = if k = w.heap.size then some o else w.heap[k]? := by
  by_cases h : k = w.heap.size
  · rw [if_pos h, h]; exact alloc_heap w o
  · rw [if_neg h]
    by_cases h2 : k < w.heap.size
    · exact Below.heap_alloc w o k h2
    · rw [Array.getElem?_eq_none (by simp; omega), Array.getElem?_eq_none (by omega)]
set_option maxRecDepth 100000 in
set_option maxHeartbeats 3200000 in
theorem sample_any (w : World) : Calls Try.prog 23 #[] w fun e w' => e = .returned (sampV w.heap.size) ∧ SampAt w' w.heap.size 120 ∧ Below w.heap.size w w' := by
  obtain ⟨Z, hZ⟩ : ∃ Z, w.heap.size = Z := ⟨_, rfl⟩
  go_enter Try.func23, Try.ntmps23
  go_wp2
  have hb : Below w.heap.size w ((((((((w.alloc (.cells #[.slice (some ⟨Z + 1, 0, none⟩) 2 2, .slice (some ⟨Z + 1 + 1, 0, none⟩) 3 3, .slice (some ⟨Z + 1 + 1 + 1 + 1 + 1 + 1, 0, none⟩) 3 3, .slice (some ⟨Z + 1 + 1 + 1 + 1 + 1 + 1 + 1, 0, none⟩) 2 2] 27)).alloc (.cells #[.int .i64 1000, .int .i64 1, .int .i64 300, .int .i64 1, .int .i64 500, .int .i64 2, .int .i64 100, .int .i64 0] 50)).alloc (.cells #[.int .i64 1, .int .i64 100, .int .i64 0, .int .i64 10, .int .i64 101, .int .i64 150, .int .i64 1, .int .i64 20, .int .i64 201, .int .i64 210, .int .i64 0, .int .i64 400] 42)).alloc (.cells #[.int .i64 5, .int .i64 50, .int .i64 205] 3)).alloc (.cells #[.int .i64 110, .int .i64 120] 3)).alloc (.cells #[.int .i64 60] 3)).alloc (.cells #[.int .i64 0, .int .i64 900, .slice (some ⟨Z + 1 + 1 + 1, 0, none⟩) 3 3, .int .i64 1, .int .i64 1, .int .i64 300, .slice (some ⟨Z + 1 + 1 + 1 + 1, 0, none⟩) 2 2, .int .i64 2, .int .i64 0, .int .i64 1300, .slice (some ⟨Z + 1 + 1 + 1 + 1 + 1, 0, none⟩) 1 1, .int .i64 0] 52)).alloc (.cells #[.int .i64 50, .int .i64 1000, .int .i64 130, .int .i64 200] 43)) := (((((((((Below.refl _ _).alloc (Nat.le_refl _) _).alloc (by simp <;> omega) _).alloc (by simp <;> omega) _).alloc (by simp <;> omega) _).alloc (by simp <;> omega) _).alloc (by simp <;> omega) _).alloc (by simp <;> omega) _).alloc (by simp <;> omega) _)
  have h0 : ((((((((w.alloc (.cells #[.slice (some ⟨Z + 1, 0, none⟩) 2 2, .slice (some ⟨Z + 1 + 1, 0, none⟩) 3 3, .slice (some ⟨Z + 1 + 1 + 1 + 1 + 1 + 1, 0, none⟩) 3 3, .slice (some ⟨Z + 1 + 1 + 1 + 1 + 1 + 1 + 1, 0, none⟩) 2 2] 27)).alloc (.cells #[.int .i64 1000, .int .i64 1, .int .i64 300, .int .i64 1, .int .i64 500, .int .i64 2, .int .i64 100, .int .i64 0] 50)).alloc (.cells #[.int .i64 1, .int .i64 100, .int .i64 0, .int .i64 10, .int .i64 101, .int .i64 150, .int .i64 1, .int .i64 20, .int .i64 201, .int .i64 210, .int .i64 0, .int .i64 400] 42)).alloc (.cells #[.int .i64 5, .int .i64 50, .int .i64 205] 3)).alloc (.cells #[.int .i64 110, .int .i64 120] 3)).alloc (.cells #[.int .i64 60] 3)).alloc (.cells #[.int .i64 0, .int .i64 900, .slice (some ⟨Z + 1 + 1 + 1, 0, none⟩) 3 3, .int .i64 1, .int .i64 1, .int .i64 300, .slice (some ⟨Z + 1 + 1 + 1 + 1, 0, none⟩) 2 2, .int .i64 2, .int .i64 0, .int .i64 1300, .slice (some ⟨Z + 1 + 1 + 1 + 1 + 1, 0, none⟩) 1 1, .int .i64 0] 52)).alloc (.cells #[.int .i64 50, .int .i64 1000, .int .i64 130, .int .i64 200] 43)).heap[Z]? = some (.cells #[.slice (some ⟨Z + 1, 0, none⟩) 2 2, .slice (some ⟨Z + 1 + 1, 0, none⟩) 3 3, .slice (some ⟨Z + 1 + 1 + 1 + 1 + 1 + 1, 0, none⟩) 3 3, .slice (some ⟨Z + 1 + 1 + 1 + 1 + 1 + 1 + 1, 0, none⟩) 2 2] 27) := by (simp only [alloc_get, World.size_alloc, hZ]; repeat (first | rw [if_neg (by omega)] | rw [if_pos trivial] | rw [if_pos (by omega)]))
  have hs : SampAt ((((((((w.alloc (.cells #[.slice (some ⟨Z + 1, 0, none⟩) 2 2, .slice (some ⟨Z + 1 + 1, 0, none⟩) 3 3, .slice (some ⟨Z + 1 + 1 + 1 + 1 + 1 + 1, 0, none⟩) 3 3, .slice (some ⟨Z + 1 + 1 + 1 + 1 + 1 + 1 + 1, 0, none⟩) 2 2] 27)).alloc (.cells #[.int .i64 1000, .int .i64 1, .int .i64 300, .int .i64 1, .int .i64 500, .int .i64 2, .int .i64 100, .int .i64 0] 50)).alloc (.cells #[.int .i64 1, .int .i64 100, .int .i64 0, .int .i64 10, .int .i64 101, .int .i64 150, .int .i64 1, .int .i64 20, .int .i64 201, .int .i64 210, .int .i64 0, .int .i64 400] 42)).alloc (.cells #[.int .i64 5, .int .i64 50, .int .i64 205] 3)).alloc (.cells #[.int .i64 110, .int .i64 120] 3)).alloc (.cells #[.int .i64 60] 3)).alloc (.cells #[.int .i64 0, .int .i64 900, .slice (some ⟨Z + 1 + 1 + 1, 0, none⟩) 3 3, .int .i64 1, .int .i64 1, .int .i64 300, .slice (some ⟨Z + 1 + 1 + 1 + 1, 0, none⟩) 2 2, .int .i64 2, .int .i64 0, .int .i64 1300, .slice (some ⟨Z + 1 + 1 + 1 + 1 + 1, 0, none⟩) 1 1, .int .i64 0] 52)).alloc (.cells #[.int .i64 50, .int .i64 1000, .int .i64 130, .int .i64 200] 43)) Z 120 := ⟨by (simp only [alloc_get, World.size_alloc, hZ]; repeat (first | rw [if_neg (by omega)] | rw [if_pos trivial] | rw [if_pos (by omega)])), by (simp only [alloc_get, World.size_alloc, hZ]; repeat (first | rw [if_neg (by omega)] | rw [if_pos trivial] | rw [if_pos (by omega)])), by (simp only [alloc_get, World.size_alloc, hZ]; repeat (first | rw [if_neg (by omega)] | rw [if_pos trivial] | rw [if_pos (by omega)])), by (simp only [alloc_get, World.size_alloc, hZ]; repeat (first | rw [if_neg (by omega)] | rw [if_pos trivial] | rw [if_pos (by omega)])), by (simp only [alloc_get, World.size_alloc, hZ]; repeat (first | rw [if_neg (by omega)] | rw [if_pos trivial] | rw [if_pos (by omega)])), by (simp only [alloc_get, World.size_alloc, hZ]; repeat (first | rw [if_neg (by omega)] | rw [if_pos trivial] | rw [if_pos (by omega)])), by (simp only [alloc_get, World.size_alloc, hZ]; repeat (first | rw [if_neg (by omega)] | rw [if_pos trivial] | rw [if_pos (by omega)]))⟩
  generalize ((((((((w.alloc (.cells #[.slice (some ⟨Z + 1, 0, none⟩) 2 2, .slice (some ⟨Z + 1 + 1, 0, none⟩) 3 3, .slice (some ⟨Z + 1 + 1 + 1 + 1 + 1 + 1, 0, none⟩) 3 3, .slice (some ⟨Z + 1 + 1 + 1 + 1 + 1 + 1 + 1, 0, none⟩) 2 2] 27)).alloc (.cells #[.int .i64 1000, .int .i64 1, .int .i64 300, .int .i64 1, .int .i64 500, .int .i64 2, .int .i64 100, .int .i64 0] 50)).alloc (.cells #[.int .i64 1, .int .i64 100, .int .i64 0, .int .i64 10, .int .i64 101, .int .i64 150, .int .i64 1, .int .i64 20, .int .i64 201, .int .i64 210, .int .i64 0, .int .i64 400] 42)).alloc (.cells #[.int .i64 5, .int .i64 50, .int .i64 205] 3)).alloc (.cells #[.int .i64 110, .int .i64 120] 3)).alloc (.cells #[.int .i64 60] 3)).alloc (.cells #[.int .i64 0, .int .i64 900, .slice (some ⟨Z + 1 + 1 + 1, 0, none⟩) 3 3, .int .i64 1, .int .i64 1, .int .i64 300, .slice (some ⟨Z + 1 + 1 + 1 + 1, 0, none⟩) 2 2, .int .i64 2, .int .i64 0, .int .i64 1300, .slice (some ⟨Z + 1 + 1 + 1 + 1 + 1, 0, none⟩) 1 1, .int .i64 0] 52)).alloc (.cells #[.int .i64 50, .int .i64 1000, .int .i64 130, .int .i64 200] 43)) = X at *
  obtain ⟨v0, v1, v2, v3⟩ := four_cells h0
  refine bodyPost_ret (v := sampV Z) (by simp [sampV, results, Try.results23, go_sem, v0, v1, v2, v3]) rfl ⟨by rw [hZ], by rw [hZ]; exact hs, hb⟩
set_option maxHeartbeats 1600000 in
theorem ints_any (l m : List Int) (u v : Value) (w : World) (hu : TabAt 1 numC w u l) (hv : TabAt 1 numC w v m) : Calls Try.prog 14 #[u, v] w fun e w' => e = .returned (.bool (decide (l = m))) ∧ ∃ q, w' = w.drewN q := by
  obtain ⟨ua, uc, rfl⟩ := hu.shape
  obtain ⟨va, vc, rfl⟩ := hv.shape
  have m1 : l.length ≤ 9223372036854775807 := hu.1
  have m2 : m.length ≤ 9223372036854775807 := hv.1
  have HU := Lib.hid hu
  have HV := Lib.hid hv
  clear hu hv
  by_cases hlm : l.length = m.length
  · have n1 : ((l.length : Int) != (m.length : Int)) = false := by simpa using (show (l.length : Int) = (m.length : Int) by omega)
    have HLM := Lib.hid hlm
    clear hlm
    go_enter Try.func14, Try.ntmps14
    go_wp2_with fail
    clear n1
    go_loopw [5] (fun i wr => ∃ k : Nat, k ≤ l.length ∧ i = .int .i64 k ∧ (∃ q, wr = w.drewN q) ∧ ∀ j, j < k → l.getD j default = m.getD j default) (fun i _ => l.length - (intOf i).toNat)
    case atStart => exact ⟨0, by omega, rfl, ⟨0, rfl⟩, fun j hj => by omega⟩
    case round =>
      obtain ⟨k, hk, rfl, ⟨q, rfl⟩, hsame⟩ := hrel
      by_cases hlt : k < l.length
      · have hlt2 : k < m.length := by rw [← HLM.out]; exact hlt
        obtain ⟨b1, o1, e1, _, hc1⟩ := HU.out.ints (by omega)
        obtain ⟨b2, o2, e2, _, hc2⟩ := HV.out.ints (by omega)
        subst e1
        subst e2
        have d1 := hc1 k hlt
        have d2 := hc2 k hlt2
        obtain ⟨x, hx⟩ : ∃ x, l.getD k default = x := ⟨_, rfl⟩
        obtain ⟨y, hy⟩ : ∃ y, m.getD k default = y := ⟨_, rfl⟩
        rw [hx] at d1
        rw [hy] at d2
        have i1 : (k : Int) < (l.length : Int) := by omega
        have i2 : (k : Int) < (m.length : Int) := by omega
        have i0 : (0 : Int) ≤ (k : Int) := by omega
        by_cases hxy : x = y
        · have n1 : (x != y) = false := by simpa using hxy
          have n2 : (x == y) = true := by simpa using hxy
          have hs2 : ∀ j, j < k + 1 → l.getD j default = m.getD j default := fun j hj => by
            by_cases e : j = k
            · rw [e, hx, hy]; exact hxy
            · exact hsame j (by omega)
          have HS := Lib.hid hs2
          clear hs2 hsame hxy hx hy hc1 hc2
          go_wp2
          go_quiet (fail)
          go_wp2
          go_roundw
          case rel => exact ⟨k + 1, by omega, by go_num, ⟨_, rfl⟩, HS.out⟩
          case measure => simp [intOf]; omega
        · have n1 : (x != y) = true := by simpa using hxy
          have n2 : (x == y) = false := by simpa using hxy
          have hne : decide (l = m) = false := decide_eq_false (fun e => hxy (by rw [← hx, ← hy, e]))
          have HN := Lib.hid hne
          clear hne hsame hxy hx hy hc1 hc2
          go_wp2
          go_quiet (fail)
          go_wp2
          go_ret
          exact ⟨by rw [HN.out]; rfl, _, World.drewN_drewN _ _ _⟩
      · have heq : decide (l = m) = true := decide_eq_true (List.ext_getElem HLM.out (fun i h1 h2 => by
          have := hsame i (by omega)
          simpa [List.getD, h1, h2] using this))
        have HE := Lib.hid heq
        have i1 : ¬ (k : Int) < (l.length : Int) := by omega
        clear heq hsame
        go_wp2
        go_ret
        exact ⟨by rw [HE.out]; rfl, _, rfl⟩
  · have n1 : ((l.length : Int) != (m.length : Int)) = true := by simpa using (show ¬ (l.length : Int) = (m.length : Int) by omega)
    have hne : decide (l = m) = false := decide_eq_false (fun e => hlm (by rw [e]))
    have HN := Lib.hid hne
    clear hne hlm
    go_enter Try.func14, Try.ntmps14
    go_wp2
    go_ret
    exact ⟨by rw [HN.out]; rfl, 0, rfl⟩
end Go.Proofs.Ytcmfplfnpjknlaa
