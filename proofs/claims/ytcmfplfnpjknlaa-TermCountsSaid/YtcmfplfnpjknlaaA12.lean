/- Term: slices.Contains; contract of proofError. -/
import Derived.Test.YtcmfplfnpjknlaaA11
namespace Go.Proofs.Ytcmfplfnpjknlaa
set_option linter.unusedSimpArgs false
set_option linter.unusedVariables false
open Go.RowKit
open Go.Maps (keyOf_int_mk)

theorem TabAt.ints {w : World} {l : List Int} {a : Option Addr} {n c : Nat} (h : TabAt 1 numC w (.slice a n c) l) (hl : 0 < l.length) : ∃ b off, a = some ⟨b, off, none⟩ ∧ b < w.heap.size ∧ ∀ i, i < l.length → w.cell? ⟨b, off + i, none⟩ = some (.int .i64 (l.getD i default)) := by
  obtain ⟨b, off, e, hb, hc⟩ := h.at hl
  exact ⟨b, off, e, hb, fun i hi => by have := hc i hi 0 (by omega); simpa [numC] using this⟩
theorem TabAt.cap {w : World} {l : List Int} {a : Option Addr} {n c : Nat} (h : TabAt 1 numC w (.slice a n c) l) (hl : 0 < l.length) : l.length ≤ c ∧ c ≤ maxLen := by
  obtain ⟨_, ⟨rfl, _⟩ | ⟨b, off, cap, e, h1, h2, h3, h4⟩⟩ := h
  · simp at hl
  · simp only [Value.slice.injEq] at e
    obtain ⟨rfl, rfl, rfl⟩ := e
    exact ⟨h1, h2⟩
theorem TabAt.cut {w : World} {l : List Int} {a : Option Addr} {n c k : Nat} (h : TabAt 1 numC w (.slice a n c) l) (hk : k < l.length) : TabAt 1 numC w (.slice a k c) (l.take k) := by
  obtain ⟨hl, ⟨rfl, _⟩ | ⟨b, off, cap, e, h1, h2, h3, h4⟩⟩ := h
  · simp at hk
  · simp only [Value.slice.injEq] at e
    obtain ⟨rfl, rfl, rfl⟩ := e
    have hlen : (l.take k).length = k := by rw [List.length_take]; omega
    refine ⟨by rw [hlen]; omega, .inr ⟨b, off, c, by rw [hlen], by rw [hlen]; omega, h2, h3, fun i hi j hj => ?_⟩⟩
    rw [hlen] at hi
    have := h4 i (by omega) j hj
    rw [this]
    simp [List.getD, List.getElem?_take, hi]
def ixOf (l : List Int) (x : Int) : Int := match l.findIdx? (fun y => x == y) with | some i => i | none => -1
set_option maxHeartbeats 800000 in
theorem index_any (l : List Int) (x : Int) (v : Value) (w : World) (h : TabAt 1 numC w v l) : Calls Try.prog 65 #[v, .int .i64 x] w fun e w' => e = .returned (.int .i64 (ixOf l x)) ∧ w = w' := by
  obtain ⟨a, c, rfl⟩ := h.shape
  have hm : l.length ≤ 9223372036854775807 := h.1
  have HH := Lib.hid h
  obtain ⟨X, hX⟩ : ∃ X, ixOf l x = X := ⟨_, rfl⟩
  rw [hX]
  have HX := Lib.hid hX
  clear h hX
  go_enter Try.func65, Try.ntmps65
  go_wp2_with fail
  go_loop [8] (fun i => ∃ j : Nat, j ≤ l.length ∧ i = .int .i64 j ∧ ∀ i, i < j → (x == l.getD i default) = false) (fun i => l.length - (intOf i).toNat)
  case atStart => exact ⟨0, by omega, rfl, fun i hi => by omega⟩
  case round =>
    obtain ⟨j, hj, rfl, hno⟩ := hrel
    by_cases hlt : j < l.length
    · obtain ⟨b, off, e, hb, hc⟩ := HH.out.ints (by omega)
      subst e
      have d0 := hc j hlt
      obtain ⟨y, hy⟩ : ∃ y, l.getD j default = y := ⟨_, rfl⟩
      rw [hy] at d0
      have i1 : (j : Int) < (l.length : Int) := by omega
      cases hxy : x == y with
      | true =>
        have hr : X = j := by
          rw [← HX.out]
          unfold ixOf
          have : l.findIdx? (fun y => x == y) = some j := by
            rw [List.findIdx?_eq_some_iff_getElem]
            refine ⟨hlt, by have : l[j] = y := by rw [← hy]; simp [List.getD, hlt]
                            rw [this]; exact hxy, fun i hi => ?_⟩
            have := hno i hi
            simpa [List.getD, show i < l.length by omega] using this
          rw [this]
        subst hr
        clear hc hy hno
        go_wp2
        go_ret
        exact ⟨rfl, rfl⟩
      | false =>
        have hno2 : ∀ i, i < j + 1 → (x == l.getD i default) = false := fun i hi => by
          by_cases e : i = j
          · subst e; rw [hy]; exact hxy
          · exact hno i (by omega)
        have HN := Lib.hid hno2
        clear hc hy hno hno2
        go_wp2
        go_round
        case rel => exact ⟨j + 1, by omega, by go_num, HN.out⟩
        case measure => simp [intOf]; omega
    · have hr : X = -1 := by
        rw [← HX.out]
        unfold ixOf
        have : l.findIdx? (fun y => x == y) = none := by
          rw [List.findIdx?_eq_none_iff]
          intro y hy
          obtain ⟨i, hi, rfl⟩ := List.mem_iff_getElem.1 hy
          have := hno i (by omega)
          simpa [List.getD, hi] using this
        rw [this]
      subst hr
      have i1 : ¬ (j : Int) < (l.length : Int) := by omega
      clear hno
      go_wp2
      go_ret
      exact ⟨rfl, rfl⟩
theorem ixOf_ge (l : List Int) (x : Int) : decide (0 ≤ ixOf l x) = l.contains x := by
  unfold ixOf
  cases h : l.findIdx? (fun y => x == y) with
  | none =>
    rw [List.findIdx?_eq_none_iff] at h
    have : l.contains x = false := by
      rw [Bool.eq_false_iff]; intro hc
      rw [List.contains_iff_mem] at hc
      have := h x hc
      simp at this
    rw [this]; rfl
  | some i =>
    rw [List.findIdx?_eq_some_iff_getElem] at h
    obtain ⟨hi, h1, _⟩ := h
    have : l.contains x = true := by
      rw [List.contains_iff_mem]
      have e : x = l[i] := by simpa using h1
      rw [e]; exact List.getElem_mem hi
    rw [this]; simp
theorem contains_any (l : List Int) (x : Int) (v : Value) (w : World) (h : TabAt 1 numC w v l) : Calls Try.prog 60 #[v, .int .i64 x] w fun e w' => e = .returned (.bool (l.contains x)) ∧ w = w' := by
  obtain ⟨a, c, rfl⟩ := h.shape
  have k1 := index_any l x _ w h
  have hc := ixOf_ge l x
  obtain ⟨r, hr⟩ : ∃ r, ixOf l x = r := ⟨_, rfl⟩
  rw [hr] at k1 hc
  rw [← hc]
  clear hr hc h
  have K := Lib.hid k1
  clear k1
  go_enter Try.func60, Try.ntmps60
  go_wp2_with (go_at_call 65; (with_reducible refine K.out.mono ?_); rintro e w' ⟨rfl, rfl⟩)
  go_ret
  exact ⟨rfl, rfl⟩
section
variable {B : Nat} {cv rv pv bv : Value} {R M : Nat} {w : World} {G : Value} {ps : List Nat} {L : List (Row × (Int × Int))}
set_option maxRecDepth 100000 in
set_option maxHeartbeats 6400000 in
theorem proofError_any (s : Stk) (ts : List (Int × Int)) (p : Prf) (sv : Value) (h : RecAt B cv rv pv bv R M w G ps L s.bs) (hL1 : L.map (·.1) = s.rs) (hL2 : L.map (·.2) = ts) (hs : TabAt 1 numC w sv p.seals) (hok : ∀ x ∈ p.seals, 1 ≤ x ∧ x ≤ 1000000) :
    Calls Try.prog 54 #[.pointer (some ⟨R, 0, none⟩), .agg #[.int .i64 p.cls, .int .i64 p.day, sv, .int .i64 p.failed]] w fun e w' => e = .returned (.int .i64 (prfErr s ts p)) ∧ Below w.heap.size w w' := by
  obtain ⟨sa, sc, rfl⟩ := hs.shape
  have hm : p.seals.length ≤ 9223372036854775807 := hs.1
  obtain ⟨W0, hW0⟩ : ∃ X, X = w.alloc (.cells #[.int .i64 p.cls, .int .i64 p.day, .slice sa p.seals.length sc, .int .i64 p.failed] 52) := ⟨_, rfl⟩
  have hb0 : Below w.heap.size w W0 := by rw [hW0]; exact (Below.refl _ _).alloc (Nat.le_refl _) _
  have hr0 : W0.heap[w.heap.size]? = some (.cells #[.int .i64 p.cls, .int .i64 p.day, .slice sa p.seals.length sc, .int .i64 p.failed] 52 (0, 0)) := by rw [hW0]; exact alloc_heap w _
  obtain ⟨P, hP⟩ : ∃ P, w.heap.size = P := ⟨_, rfl⟩
  rw [hP] at hr0
  obtain ⟨d0, d1, d2, d3⟩ := four_cells hr0
  have HREC := Lib.hid (h.below hb0)
  have HSL := Lib.hid (hs.below hb0)
  have HB := Lib.hid hb0
  have HL1 := Lib.hid hL1
  have HL2 := Lib.hid hL2
  have HOKS := Lib.hid hok
  obtain ⟨E, hE⟩ : ∃ E, prfErr s ts p = E := ⟨_, rfl⟩
  rw [hE]
  have HE := Lib.hid hE
  have hfe : ∀ k c, k < p.seals.length → (∀ j, j < k → sealErr s ts p j = 0) → sealErr s ts p k = c → c ≠ 0 → E = c := fun k c hk hz hc h0 => by
    rw [← HE.out]
    unfold prfErr
    rw [firstErr_at p.seals.length 0 k hk (fun j hj => by rw [Nat.zero_add]; exact hz j hj) (by rw [Nat.zero_add, hc]; exact h0), Nat.zero_add, hc]
  have HFE := Lib.hid hfe
  clear hr0 hb0 h hs hL1 hL2 hok hE hfe
  obtain ⟨pcls, hpc⟩ : ∃ x, p.cls = x := ⟨_, rfl⟩
  obtain ⟨pday, hpd⟩ : ∃ x, p.day = x := ⟨_, rfl⟩
  have HPC := Lib.hid hpc
  have HPD := Lib.hid hpd
  rw [hpc] at d0 hW0 ⊢
  rw [hpd] at d1 hW0 ⊢
  clear hpc hpd
  go_enter Try.func54, Try.ntmps54
  go_upto_region 1 with fail
  rw [← hW0]
  clear hW0 hP
  go_wp2_with fail
  go_loopw [11] (fun i wr => ∃ k : Nat, k ≤ p.seals.length ∧ i = .int .i64 k ∧ (∃ q, wr = W0.drewN q) ∧ ∀ j, j < k → sealErr s ts p j = 0) (fun i _ => p.seals.length - (intOf i).toNat)
  case atStart => exact ⟨0, by omega, rfl, ⟨0, rfl⟩, fun i hi => by omega⟩
  case round =>
    obtain ⟨k, hk, rfl, ⟨q, rfl⟩, hz⟩ := hrel
    by_cases hlt : k < p.seals.length
    · obtain ⟨bb, off, e1, hlb, hcx⟩ := HSL.out.ints (by omega)
      subst e1
      have hcap := HSL.out.cap (by omega)
      obtain ⟨cp1, cp2⟩ := hcap
      unfold maxLen at cp2
      have cp3 : (k : Int) ≤ (sc : Int) := by omega
      have cp4 : ¬ sc = 0 := by omega
      have g0 := hcx k hlt
      obtain ⟨x, hx⟩ : ∃ x, p.seals.getD k default = x := ⟨_, rfl⟩
      rw [hx] at g0
      have hx2 : p.seals[k]! = x := by rw [← hx]; simp [List.getD, hlt]
      have hxm : x ∈ p.seals := by rw [← hx2, getElem!_pos p.seals k hlt]; exact List.getElem_mem hlt
      obtain ⟨hx0, hx1⟩ := HOKS.out x hxm
      have hwx : (Lit.int .i64 x).wf = true := WalkArith.wf_i64 (by omega)
      have hro := fun q => rowOf_any x (HREC.out.drewN q)
      rw [HL1.out] at hro
      have hse : sealErr s ts p k = match rowIx s.rs x with | none => 4 | some i => if s.rs[i]!.cls ≠ pcls then 11 else if (p.seals.take k).contains x then 5 else if sealStands s.bs s.rs[i]! ts[i]!.1 x pday ≠ 1 then 6 else 0 := by
        unfold sealErr; rw [hx2, HPC.out, HPD.out]; rfl
      have HSE := Lib.hid hse
      have HZ := Lib.hid hz
      have kx : (0 : Int) ≤ k := by omega
      have ky : (k : Int) < (p.seals.length : Int) := by omega
      have ky2 : (k : Int) ≤ (p.seals.length : Int) := by omega
      clear hse hz hx hx2 hxm hcx
      cases hix : rowIx s.rs x with
      | none =>
        have hse := HSE.out
        rw [hix] at hse hro
        have hf := HFE.out k 4 hlt HZ.out hse (by decide)
        simp only [ixV] at hro
        subst hf
        have HRO := Lib.hid hro
        clear hse hix hro
        go_wp2_with (go_at_call 32; (with_reducible refine (HRO.out _).mono ?_); rintro e w2 ⟨rfl, q2, rfl⟩)
        go_ret
        exact ⟨rfl, below_drewn HB.out _⟩
      | some i =>
        have hse := HSE.out
        rw [hix] at hse hro
        obtain ⟨hil, _⟩ := rowIx_lt hix
        have hil2 : i < L.length := by rw [← HL1.out] at hil; simpa using hil
        have hsn := HREC.out.seen i hil2
        obtain ⟨pt, hpt⟩ : ∃ p, ps.getD i 0 = p := ⟨_, rfl⟩
        obtain ⟨⟨r, t⟩, hr⟩ : ∃ r, L.getD i default = r := ⟨_, rfl⟩
        rw [hpt, hr] at hsn
        have hrr : s.rs[i]! = r := by
          have e := congrArg (fun l => l[i]?) HL1.out
          simp only [List.getElem?_map] at e
          rw [getElem!_pos s.rs i hil]
          have h2 : L[i]? = some (r, t) := by rw [← hr]; simp [List.getD, hil2]
          rw [h2, List.getElem?_eq_getElem hil] at e
          simpa using e.symm
        have htt : ts[i]! = t := by
          have e := congrArg (fun l => l[i]?) HL2.out
          simp only [List.getElem?_map] at e
          have h2 : L[i]? = some (r, t) := by rw [← hr]; simp [List.getD, hil2]
          rw [h2] at e
          simp only [Option.map_some] at e
          have : i < ts.length := by rw [← HL2.out]; simpa using hil2
          rw [getElem!_pos ts i this]
          rw [List.getElem?_eq_getElem this] at e
          simpa using e.symm
        simp only [ixV, hpt] at hro
        obtain ⟨z0, z1, z2, z3, z4, z5⟩ := six_cells hsn
        simp only [] at hse z2
        rw [hrr, htt] at hse
        have hst := fun q => stands_any pt r t x pday (HREC.out.drewN q) (hsn.below (B := 0) (below_drewn (Below.refl _ _) q)) hwx
        have hco := fun q => contains_any (p.seals.take k) x (.slice (some ⟨bb, off, none⟩) k sc) (W0.drewN q) ((HSL.out.cut hlt).below (below_drewn (Below.refl _ _) q))
        obtain ⟨cb, hcb⟩ : ∃ c, (p.seals.take k).contains x = c := ⟨_, rfl⟩
        obtain ⟨sd, hsd⟩ : ∃ c, sealStands s.bs r t.1 x pday = c := ⟨_, rfl⟩
        rw [hcb] at hco hse
        rw [hsd] at hst hse
        have HRO := Lib.hid hro
        have HSE2 := Lib.hid hse
        have HCO := Lib.hid hco
        have HST := Lib.hid hst
        clear hro hse hix hil hsn hpt hr hrr htt z0 z1 z3 z4 z5 hco hst hcb hsd
        by_cases hcl : r.cls = pcls
        · have n1 : (r.cls != pcls) = false := by simpa using hcl
          have hse := HSE2.out
          rw [if_neg (by simpa using hcl)] at hse
          clear hcl
          cases cb with
          | true =>
            have hf := HFE.out k 5 hlt HZ.out (by simpa using hse) (by decide)
            subst hf
            clear hse
            go_wp2_with (first | (go_at_call 32; (with_reducible refine (HRO.out _).mono ?_); rintro e w2 ⟨rfl, q2, rfl⟩) | (go_at_call 60; (with_reducible refine (HCO.out _).mono ?_); rintro e w2 ⟨rfl, rfl⟩))
            go_quiet (fail)
            go_wp2_with (first | (go_at_call 60; (with_reducible refine (HCO.out _).mono ?_); rintro e w2 ⟨rfl, rfl⟩))
            go_ret
            exact ⟨rfl, below_drewn HB.out _⟩
          | false =>
            by_cases hs1 : sd = 1
            · subst hs1
              have hz2 : sealErr s ts p k = 0 := by simpa using hse
              have HZ2 := Lib.hid hz2
              clear hse hz2
              go_wp2_with (first | (go_at_call 32; (with_reducible refine (HRO.out _).mono ?_); rintro e w2 ⟨rfl, q2, rfl⟩))
              go_quiet (fail)
              go_wp2_with (first | (go_at_call 60; (with_reducible refine (HCO.out _).mono ?_); rintro e w2 ⟨rfl, rfl⟩) | (go_at_call 33; (with_reducible refine (HST.out _).mono ?_); rintro e w2 ⟨rfl, rfl⟩))
              go_roundw
              case rel =>
                refine ⟨k + 1, by omega, by go_num, ⟨_, rfl⟩, fun j hj => ?_⟩
                by_cases e : j = k
                · rw [e]; exact HZ2.out
                · exact HZ.out j (by omega)
              case measure => simp [intOf]; omega
            · have hf := HFE.out k 6 hlt HZ.out (by simpa [hs1] using hse) (by decide)
              subst hf
              have n2 : (sd != 1) = true := by simpa using hs1
              have n3 : (sd == 1) = false := by simpa using hs1
              clear hse hs1
              go_wp2_with (first | (go_at_call 32; (with_reducible refine (HRO.out _).mono ?_); rintro e w2 ⟨rfl, q2, rfl⟩))
              go_quiet (fail)
              go_wp2_with (first | (go_at_call 60; (with_reducible refine (HCO.out _).mono ?_); rintro e w2 ⟨rfl, rfl⟩) | (go_at_call 33; (with_reducible refine (HST.out _).mono ?_); rintro e w2 ⟨rfl, rfl⟩))
              go_ret
              exact ⟨rfl, below_drewn HB.out _⟩
        · have n1 : (r.cls != pcls) = true := by simpa using hcl
          have hse := HSE2.out
          rw [if_pos (by simpa using hcl)] at hse
          have hf := HFE.out k 11 hlt HZ.out hse (by decide)
          subst hf
          clear hse hcl
          go_wp2_with (first | (go_at_call 32; (with_reducible refine (HRO.out _).mono ?_); rintro e w2 ⟨rfl, q2, rfl⟩))
          go_quiet (fail)
          go_wp2
          go_ret
          exact ⟨rfl, below_drewn (below_drewn HB.out _) _⟩
    · have hkl : k = p.seals.length := by omega
      have hr : E = 0 := by
        rw [← HE.out]
        unfold prfErr
        rw [firstErr_ok _ _ (fun j hj => by rw [Nat.zero_add]; exact hz j (by omega))]
      subst hr
      have i1 : ¬ (k : Int) < (p.seals.length : Int) := by omega
      clear hkl hz
      go_wp2
      go_ret
      exact ⟨rfl, below_drewn HB.out _⟩
end
end Go.Proofs.Ytcmfplfnpjknlaa
