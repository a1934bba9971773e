/- Rounds. -/
import Derived.Test.YtoiapnokgpeipaaC3
import Derived.Test.YtoiapnokgpeipaaC1
import Derived.Test.YtoiapnokgpeipaaC2
import Derived.Deep.RegionHeld
namespace Go.Proofs.Ytoiapnokgpeipaa
set_option linter.unusedSimpArgs false
open Go.RowKit Go.Maps

def pairOk (x : Int × Int) : Bool := teethB x.1 && teethB x.2
/-- how often the drum turns, and why that is not known -/
def roundsC (P : List (Int × Int)) (n : Int) : Int × Int :=
  if 3 < P.length ∨ n < 0 ∨ 1073741824 < n then (0, 2) else if P.all pairOk then (n * prodW (drvs P) / prodW (drns P), 0) else (0, 2)

theorem prodW_bd (l : List Int) (h : ∀ x ∈ l, 6 ≤ x ∧ x ≤ 100) (hl : l.length ≤ 3) : 1 ≤ prodW l ∧ prodW l ≤ 1000000 := by
  match l, h, hl with
  | [], _, _ => exact ⟨by decide, by decide⟩
  | [a], h, _ =>
    have ha := h a (by simp)
    have e : prodW [a] = wrap64 (1 * a) := rfl
    rw [e, Int.one_mul, IntWalk.wrap64_in _ (by omega)]; omega
  | [a, b], h, _ =>
    have ha := h a (by simp)
    have hb := h b (by simp)
    have e : prodW [a, b] = wrap64 (wrap64 (1 * a) * b) := rfl
    have h1 := mul_bd (x := a) (y := b) (by omega) ha.2 (by omega) hb.2
    have h2 : 1 ≤ a * b := Int.mul_pos (by omega) (by omega)
    rw [e, Int.one_mul, IntWalk.wrap64_in a (by omega), IntWalk.wrap64_in (a * b) (by omega)]; omega
  | [a, b, c], h, _ =>
    have ha := h a (by simp)
    have hb := h b (by simp)
    have hc := h c (by simp)
    have e : prodW [a, b, c] = wrap64 (wrap64 (wrap64 (1 * a) * b) * c) := rfl
    have h1 := mul_bd (x := a) (y := b) (by omega) ha.2 (by omega) hb.2
    have h2 : 1 ≤ a * b := Int.mul_pos (by omega) (by omega)
    have h3 := mul_bd (x := a * b) (y := c) (by omega) h1.2 (by omega) hc.2
    have h4 : 1 ≤ a * b * c := Int.mul_pos (by omega) (by omega)
    rw [e, Int.one_mul, IntWalk.wrap64_in a (by omega), IntWalk.wrap64_in (a * b) (by omega), IntWalk.wrap64_in (a * b * c) (by omega)]; omega
theorem pairOk_miss {P : List (Int × Int)} {k : Nat} (hk : k < P.length) (h : pairOk P[k] = false) : P.all pairOk = false := by
  rw [List.all_eq_false]; exact ⟨_, List.getElem_mem hk, by simp [h]⟩

set_option maxRecDepth 100000 in
set_option maxHeartbeats 3200000 in
theorem rounds_any (P : List (Int × Int)) (v : Value) (i n : Int) (w : World) (hv : WheelsAt w v P) :
    Calls Try.prog 15 #[.agg #[v, .int .i64 i], .int .i64 n] w fun e w' => e = .returned (.tuple #[.int .i64 (roundsC P n).1, .int .i64 (roundsC P n).2]) ∧ Below w.heap.size w w' := by
  obtain ⟨C, hC⟩ : ∃ C, C = roundsC P n := ⟨_, rfl⟩
  rw [← hC]
  have HC := Lib.hid hC
  clear hC
  obtain ⟨N, cap, sa, rfl, hNl⟩ : ∃ N cap sa, v = .slice sa N cap ∧ N = P.length := by
    obtain ⟨_, ⟨rfl, a, cap, rfl⟩ | ⟨b, off, cap, rfl, _⟩⟩ := hv
    · exact ⟨0, cap, a, rfl, rfl⟩
    · exact ⟨_, cap, _, rfl, rfl⟩
  have HNl := Lib.hid hNl
  have hq := hv.1
  have hNm : N ≤ 9223372036854775807 := by rw [hNl]; exact hq
  clear hq
  obtain ⟨W0, hW0⟩ : ∃ W0, W0 = w.alloc (.cells #[.slice sa N cap, .int .i64 i] 27) := ⟨_, rfl⟩
  have hg0 : Below w.heap.size w W0 := by rw [hW0]; exact (Below.refl _ _).alloc (Nat.le_refl _) _
  have hr0 : W0.heap[w.heap.size]? = some (.cells #[.slice sa N cap, .int .i64 i] 27) := by rw [hW0]; exact (MapKept.heap_alloc w _).1
  have hsz : w.heap.size + 1 = W0.heap.size := by rw [hW0]; simp
  by_cases hb1 : 3 < N
  · have hCv : RowKit.Hid (C = (0, 2)) := Lib.hid (by rw [HC.out]; unfold roundsC; rw [if_pos (.inl (by rw [← hNl]; exact hb1))])
    clear hNl hW0 hr0
    go_enter Try.func15, Try.ntmps15
    go_wp2
    refine bodyPost_ret (v := .tuple #[.int .i64 0, .int .i64 2]) (by simp [results, Try.results15, go_sem]) rfl ⟨by rw [hCv.out], (Below.refl _ _).alloc (Nat.le_refl _) _⟩
  by_cases hb2 : n < 0
  · have hCv : RowKit.Hid (C = (0, 2)) := Lib.hid (by rw [HC.out]; unfold roundsC; rw [if_pos (.inr (.inl hb2))])
    clear hNl hW0 hr0
    go_enter Try.func15, Try.ntmps15
    go_wp2
    refine bodyPost_ret (v := .tuple #[.int .i64 0, .int .i64 2]) (by simp [results, Try.results15, go_sem]) rfl ⟨by rw [hCv.out], (Below.refl _ _).alloc (Nat.le_refl _) _⟩
  by_cases hb3 : 1073741824 < n
  · have hCv : RowKit.Hid (C = (0, 2)) := Lib.hid (by rw [HC.out]; unfold roundsC; rw [if_pos (.inr (.inr hb3))])
    clear hNl hW0 hr0
    go_enter Try.func15, Try.ntmps15
    go_wp2
    refine bodyPost_ret (v := .tuple #[.int .i64 0, .int .i64 2]) (by simp [results, Try.results15, go_sem]) rfl ⟨by rw [hCv.out], (Below.refl _ _).alloc (Nat.le_refl _) _⟩
  have hCv : C = if P.all pairOk then (n * prodW (drvs P) / prodW (drns P), 0) else (0, 2) := by rw [HC.out]; unfold roundsC; rw [if_neg (by rw [← hNl]; omega)]
  have HCv := Lib.hid hCv
  clear HC hCv
  have hv0 := hv.below hg0
  clear hNl
  go_enter Try.func15, Try.ntmps15
  go_wp2
  rw [← hW0]
  clear hW0
  go_loopw [7, 24] (fun _ i wr => ∃ k : Nat, k ≤ N ∧ i = .int .i64 k ∧ Below W0.heap.size W0 wr ∧ ∀ j, j < k → ∀ h : j < P.length, pairOk P[j] = true) (fun _ i _ => N - (intOf i).toNat)
  case atStart => exact ⟨0, by omega, rfl, Below.refl _ _, fun j hj => by omega⟩
  case round =>
    obtain ⟨k, hk, rfl, hbel, hno⟩ := hrel
    have hb2' : Below w.heap.size w wr := hg0.trans (hbel.mono (by omega))
    have hs := hbel.size
    by_cases hlt : k < N
    · have hkP : k < P.length := by rw [← HNl.out]; exact hlt
      obtain ⟨_, ⟨hP, _⟩ | ⟨b, off, cap2, hve, hlc, hcm, hb, hc⟩⟩ := hv
      · rw [hP] at hkP; simp at hkP
      replace hcm : cap2 ≤ 9223372036854775807 := hcm
      obtain ⟨c0, c1⟩ := hc k hkP
      rw [← hb2'.cell (p := ⟨b, _, none⟩) hb] at c0 c1
      obtain ⟨x, hx⟩ : ∃ x, x = P[k].1 := ⟨_, rfl⟩
      obtain ⟨y, hy⟩ : ∃ y, y = P[k].2 := ⟨_, rfl⟩
      have hgd : P.getD k (0, 0) = P[k] := by simp [hkP]
      rw [hgd, ← hx] at c0
      rw [hgd, ← hy] at c1
      simp only [Value.slice.injEq] at hve
      obtain ⟨rfl, hve0, rfl⟩ := hve
      clear hve0
      have hpo : pairOk P[k] = (teethB x && teethB y) := by rw [hx, hy]; rfl
      obtain ⟨tx, htx⟩ : ∃ tx, teethB x = tx := ⟨_, rfl⟩
      obtain ⟨ty, hty⟩ : ∃ ty, teethB y = ty := ⟨_, rfl⟩
      rw [htx, hty] at hpo
      clear hx hy hgd hc
      have HNO := Lib.hid hno
      clear hno
      cases htt : (tx && ty) with
      | false =>
        rw [htt] at hpo
        have hCf : RowKit.Hid (C = (0, 2)) := Lib.hid (by rw [HCv.out, pairOk_miss hkP hpo]; rfl)
        clear HCv hpo
        cases tx with
        | false =>
          clear htt
          go_wp2_with (go_at_call 36; refine Calls.mono (isTeeth_any _ _) ?_; rintro e w3 ⟨rfl, rfl⟩; rw [htx])
          refine bodyPost_ret (v := .tuple #[.int .i64 0, .int .i64 2]) (by simp [results, Try.results15, go_sem]) rfl ⟨by rw [hCf.out], hb2'.alloc (by omega) _⟩
        | true =>
          have hy2 : ty = false := by simpa using htt
          subst hy2
          clear htt
          go_wp2_with (go_at_call 36; refine Calls.mono (isTeeth_any _ _) ?_; rintro e w3 ⟨rfl, rfl⟩; first | rw [htx] | rw [hty])
          refine bodyPost_ret (v := .tuple #[.int .i64 0, .int .i64 2]) (by simp [results, Try.results15, go_sem]) rfl ⟨by rw [hCf.out], hb2'.alloc (by omega) _⟩
      | true =>
        rw [htt] at hpo
        obtain ⟨rfl, rfl⟩ : tx = true ∧ ty = true := by simpa using htt
        have HPO := Lib.hid hpo
        clear hpo htt
        go_wp2_with (go_at_call 36; refine Calls.mono (isTeeth_any _ _) ?_; rintro e w3 ⟨rfl, rfl⟩; first | rw [htx] | rw [hty])
        go_roundw
        case rel =>
          refine ⟨k + 1, by omega, by go_num, hbel.alloc hbel.size _, fun j hj h => ?_⟩
          by_cases e : j = k
          · subst e; exact HPO.out
          · exact HNO.out j (by omega) h
        case measure => simp [intOf]; omega
    · have hall : P.all pairOk = true := by
        rw [List.all_eq_true]
        intro z hz
        obtain ⟨j, hj, rfl⟩ := List.getElem_of_mem hz
        exact hno j (by have := HNl.out; omega) hj
      have hCt : RowKit.Hid (C = (n * prodW (drvs P) / prodW (drns P), 0)) := Lib.hid (by rw [HCv.out, hall]; rfl)
      have hP3 : P.length ≤ 3 := by have := HNl.out; omega
      have hmem : ∀ z ∈ P, (6 ≤ z.1 ∧ z.1 ≤ 100) ∧ (6 ≤ z.2 ∧ z.2 ≤ 100) := by
        intro z hz
        have := List.all_eq_true.1 hall z hz
        unfold pairOk at this
        rw [Bool.and_eq_true] at this
        exact ⟨of_decide_eq_true this.1, of_decide_eq_true this.2⟩
      have hd := prodW_bd (drvs P) (by intro z hz; obtain ⟨q, hq, rfl⟩ := List.mem_map.1 hz; exact (hmem q hq).1) (by simpa [drvs] using hP3)
      have hn := prodW_bd (drns P) (by intro z hz; obtain ⟨q, hq, rfl⟩ := List.mem_map.1 hz; exact (hmem q hq).2) (by simpa [drns] using hP3)
      have hrt := ratioOf_any P (.slice sa N cap) wr (hv.below hb2') (by omega)
      generalize prodW (drvs P) = dv at *
      generalize prodW (drns P) = nv at *
      have hrw : wr.heap[w.heap.size]? = some (.cells #[.slice sa N cap, .int .i64 i] 27) := (hbel.block _ (by omega)).trans hr0
      obtain ⟨k0, k1⟩ : wr.cell? ⟨w.heap.size, 0, none⟩ = some (.slice sa N cap) ∧ wr.cell? ⟨w.heap.size, 1, none⟩ = some (.int .i64 i) := by refine ⟨?_, ?_⟩ <;> simp [World.cell?, hrw]
      clear HCv hall hmem hno hv hv0 hr0 hrw
      go_wp2_with fail
      refine hrt.mono ?_
      rintro e w3 ⟨rfl, hb3'⟩
      clear hrt k0 k1
      have hB3 : (w3.alloc (.cells #[.int .i64 dv, .int .i64 nv] 78)).heap[w3.heap.size]? = some (.cells #[.int .i64 dv, .int .i64 nv] 78) := (MapKept.heap_alloc w3 _).1
      have hbw3 : Below w.heap.size w w3 := hb2'.trans (hb3'.mono (by omega))
      have hz3 : wr.heap.size ≤ w3.heap.size := hb3'.size
      have hwd := mul_bd (x := n) (y := dv) hb2 hb3 (by omega) hd.2
      have hdn0 : nv ≠ 0 := by omega
      have hdne : (nv == 0) = false := by simpa using hdn0
      have htd : (n * dv).tdiv nv = n * dv / nv := Int.tdiv_eq_ediv_of_nonneg hwd.1
      have hin := tdiv_bd (n * dv) nv (by omega) (by omega)
      go_wp2_with fail
      refine wp_region_held_drew (S := fun w' => w'.heap[w3.heap.size]? = some (.cells #[.int .i64 dv, .int .i64 nv] 78)) (by kernel_rfl) hB3 (fun hHeld => ?_)
      refine wpAnyH_take (i := 0) (oi := _) (v := ?_) rfl (by kernel_rfl) (by kernel_rfl) (by kernel_rfl) (fun _ _ _ h => h) (Or.inl ⟨by rfl, ?_⟩) hHeld ?_
      rotate_left
      · intro w1 hSw
        replace hSw : w1.heap[w3.heap.size]? = some (.cells #[.int .i64 dv, .int .i64 nv] 78) := hSw
        have c0 : w1.cell? ⟨w3.heap.size, 0, none⟩ = some (.int .i64 dv) := by simp only [World.cell?, hSw]; rfl
        have c1 : w1.cell? ⟨w3.heap.size, 1, none⟩ = some (.int .i64 nv) := by simp only [World.cell?, hSw]; rfl
        clear hSw
        go_simp; with_reducible rfl
      simp only [List.getElem_toArray, List.getElem_cons_succ, List.getElem_cons_zero, Act.put, List.setIfInBounds_toArray, List.set_cons_zero, List.set_cons_succ]
      refine wpAnyH_take (i := 1) (oi := _) (v := ?_) rfl (by kernel_rfl) (by kernel_rfl) (by kernel_rfl) (fun _ _ _ h => h) (Or.inl ⟨by rfl, ?_⟩) hHeld ?_
      rotate_left
      · intro w1 hSw
        replace hSw : w1.heap[w3.heap.size]? = some (.cells #[.int .i64 dv, .int .i64 nv] 78) := hSw
        have c0 : w1.cell? ⟨w3.heap.size, 0, none⟩ = some (.int .i64 dv) := by simp only [World.cell?, hSw]; rfl
        have c1 : w1.cell? ⟨w3.heap.size, 1, none⟩ = some (.int .i64 nv) := by simp only [World.cell?, hSw]; rfl
        clear hSw
        go_simp; with_reducible rfl
      simp only [List.getElem_toArray, List.getElem_cons_succ, List.getElem_cons_zero, Act.put, List.setIfInBounds_toArray, List.set_cons_zero, List.set_cons_succ]
      refine wpAnyH_take (i := 2) (oi := _) (v := ?_) rfl (by kernel_rfl) (by kernel_rfl) (by kernel_rfl) (fun _ _ _ h => h) (Or.inl ⟨by rfl, ?_⟩) hHeld ?_
      rotate_left
      · intro w1 hSw
        replace hSw : w1.heap[w3.heap.size]? = some (.cells #[.int .i64 dv, .int .i64 nv] 78) := hSw
        have c0 : w1.cell? ⟨w3.heap.size, 0, none⟩ = some (.int .i64 dv) := by simp only [World.cell?, hSw]; rfl
        have c1 : w1.cell? ⟨w3.heap.size, 1, none⟩ = some (.int .i64 nv) := by simp only [World.cell?, hSw]; rfl
        clear hSw
        go_simp; with_reducible rfl
      simp only [List.getElem_toArray, List.getElem_cons_succ, List.getElem_cons_zero, Act.put, List.setIfInBounds_toArray, List.set_cons_zero, List.set_cons_succ]
      refine wpAnyH_take (i := 5) (oi := _) (v := ?_) rfl (by kernel_rfl) (by kernel_rfl) (by kernel_rfl) (fun _ _ _ h => h) (Or.inl ⟨by rfl, ?_⟩) hHeld ?_
      rotate_left
      · intro w1 hSw
        replace hSw : w1.heap[w3.heap.size]? = some (.cells #[.int .i64 dv, .int .i64 nv] 78) := hSw
        have c0 : w1.cell? ⟨w3.heap.size, 0, none⟩ = some (.int .i64 dv) := by simp only [World.cell?, hSw]; rfl
        have c1 : w1.cell? ⟨w3.heap.size, 1, none⟩ = some (.int .i64 nv) := by simp only [World.cell?, hSw]; rfl
        clear hSw
        go_simp; with_reducible rfl
      simp only [List.getElem_toArray, List.getElem_cons_succ, List.getElem_cons_zero, Act.put, List.setIfInBounds_toArray, List.set_cons_zero, List.set_cons_succ]
      refine wpAnyH_take (i := 6) (oi := _) (v := ?_) rfl (by kernel_rfl) (by kernel_rfl) (by kernel_rfl) (fun _ _ _ h => h) (Or.inl ⟨by rfl, ?_⟩) hHeld ?_
      rotate_left
      · intro w1 hSw
        replace hSw : w1.heap[w3.heap.size]? = some (.cells #[.int .i64 dv, .int .i64 nv] 78) := hSw
        have c0 : w1.cell? ⟨w3.heap.size, 0, none⟩ = some (.int .i64 dv) := by simp only [World.cell?, hSw]; rfl
        have c1 : w1.cell? ⟨w3.heap.size, 1, none⟩ = some (.int .i64 nv) := by simp only [World.cell?, hSw]; rfl
        clear hSw
        go_simp; with_reducible rfl
      simp only [List.getElem_toArray, List.getElem_cons_succ, List.getElem_cons_zero, Act.put, List.setIfInBounds_toArray, List.set_cons_zero, List.set_cons_succ]
      refine wpAnyH_all (rs := [3]) (by kernel_rfl) (by simp) ?_
      intro i hi; obtain rfl := List.mem_singleton.1 hi; clear hi
      refine wpOp_step rfl (fun K3 hK3 => ?_)
      have HK3 := Lib.hid hK3
      clear hK3
      rw [if_pos (by rfl)]
      go_simp
      have hS4 : ((w3.alloc (.cells #[.int .i64 dv, .int .i64 nv] 78)).drew.alloc (.cells #[.int .i64 n, .int .i64 dv] 3)).heap[w3.heap.size]? = some (.cells #[.int .i64 dv, .int .i64 nv] 78) := by rw [Below.heap_alloc _ _ _ (by simp)]; exact hB3
      refine HK3.out _ _ ⟨hS4, ?_⟩
      clear HK3 K3
      try simp only [List.getElem_toArray, List.getElem_cons_succ, List.getElem_cons_zero, Act.put, List.setIfInBounds_toArray, List.set_cons_zero, List.set_cons_succ]
      refine wpAnyH_all (rs := [4]) (by kernel_rfl) (by simp) ?_
      intro i hi; obtain rfl := List.mem_singleton.1 hi; clear hi
      refine wpOp_step rfl (fun K3 hK3 => ?_)
      have HK3 := Lib.hid hK3
      clear hK3
      rw [if_pos (by rfl)]
      go_simp
      have q0 : ((w3.alloc (.cells #[.int .i64 dv, .int .i64 nv] 78)).alloc (.cells #[.int .i64 n, .int .i64 dv] 3)).drew.cell? ⟨w3.heap.size + 1, 0, none⟩ = some (.int .i64 n) := by go_simp
      have q1 : ((w3.alloc (.cells #[.int .i64 dv, .int .i64 nv] 78)).alloc (.cells #[.int .i64 n, .int .i64 dv] 3)).drew.cell? ⟨w3.heap.size + 1, 1, none⟩ = some (.int .i64 dv) := by go_simp
      refine (product_two n dv _ _ (by omega) (by omega) (by omega) (by omega) q0 q1).mono ?_
      rintro e w5 ⟨rfl, rfl⟩
      clear q0 q1
      refine HK3.out _ _ ⟨hS4, ?_⟩
      clear HK3 K3
      try simp only [List.getElem_toArray, List.getElem_cons_succ, List.getElem_cons_zero, Act.put, List.setIfInBounds_toArray, List.set_cons_zero, List.set_cons_succ]
      refine wpAnyH_take (i := 7) (oi := _) (v := ?_) rfl (by kernel_rfl) (by kernel_rfl) (by kernel_rfl) (fun _ _ _ h => h) (Or.inl ⟨by rfl, ?_⟩) hS4 ?_
      rotate_left
      · intro w1 hSw
        replace hSw : w1.heap[w3.heap.size]? = some (.cells #[.int .i64 dv, .int .i64 nv] 78) := hSw
        have c0 : w1.cell? ⟨w3.heap.size, 0, none⟩ = some (.int .i64 dv) := by simp only [World.cell?, hSw]; rfl
        have c1 : w1.cell? ⟨w3.heap.size, 1, none⟩ = some (.int .i64 nv) := by simp only [World.cell?, hSw]; rfl
        clear hSw
        go_simp; with_reducible rfl
      simp only [List.getElem_toArray, List.getElem_cons_succ, List.getElem_cons_zero, Act.put, List.setIfInBounds_toArray, List.set_cons_zero, List.set_cons_succ]
      refine wpAnyH_take (i := 8) (oi := _) (v := ?_) rfl (by kernel_rfl) (by kernel_rfl) (by kernel_rfl) (fun _ _ _ h => h) (Or.inl ⟨by rfl, ?_⟩) hS4 ?_
      rotate_left
      · intro w1 hSw
        replace hSw : w1.heap[w3.heap.size]? = some (.cells #[.int .i64 dv, .int .i64 nv] 78) := hSw
        have c0 : w1.cell? ⟨w3.heap.size, 0, none⟩ = some (.int .i64 dv) := by simp only [World.cell?, hSw]; rfl
        have c1 : w1.cell? ⟨w3.heap.size, 1, none⟩ = some (.int .i64 nv) := by simp only [World.cell?, hSw]; rfl
        clear hSw
        go_simp; with_reducible rfl
      simp only [List.getElem_toArray, List.getElem_cons_succ, List.getElem_cons_zero, Act.put, List.setIfInBounds_toArray, List.set_cons_zero, List.set_cons_succ]
      refine wpAnyH_take (i := 9) (oi := _) (v := ?_) rfl (by kernel_rfl) (by kernel_rfl) (by kernel_rfl) (fun _ _ _ h => h) (Or.inl ⟨by rfl, ?_⟩) hS4 ?_
      rotate_left
      · intro w1 hSw
        replace hSw : w1.heap[w3.heap.size]? = some (.cells #[.int .i64 dv, .int .i64 nv] 78) := hSw
        have c0 : w1.cell? ⟨w3.heap.size, 0, none⟩ = some (.int .i64 dv) := by simp only [World.cell?, hSw]; rfl
        have c1 : w1.cell? ⟨w3.heap.size, 1, none⟩ = some (.int .i64 nv) := by simp only [World.cell?, hSw]; rfl
        clear hSw
        go_simp; with_reducible rfl
      simp only [List.getElem_toArray, List.getElem_cons_succ, List.getElem_cons_zero, Act.put, List.setIfInBounds_toArray, List.set_cons_zero, List.set_cons_succ]
      refine wpAnyH_done (by kernel_rfl) ?_ _
      go_wp2
      have hw : IntKind.i64.wrap (n * dv / nv) = n * dv / nv := by rw [htd] at hin; exact IntWalk.i64_in _ (by omega)
      refine bodyPost_ret (v := .tuple #[.int .i64 (n * dv / nv), .int .i64 0]) (by simp [results, Try.results15, go_sem, hw]) rfl ⟨by rw [hCt.out], ?_⟩
      exact ((hbw3.alloc (by omega) _).alloc (by simp; omega) _).drew
end Go.Proofs.Ytoiapnokgpeipaa
