/- Sound: the law's on. -/
import Derived.Test.YtdbjifpnbghbaaaM3
namespace Go.Proofs.Ytdbjifpnbghbaaa
set_option linter.unusedSimpArgs false
set_option linter.unusedVariables false
open Go.RowKit Go.Maps Go.BigFrame

theorem on_iff {l : List Pi} {S : List St} {t : Int} : onF l S t = true ↔ ∃ i, i < S.length ∧ posF l (S.getD i default).p.toNat + (S.getD i default).a ≤ t ∧ t ≤ posF l (S.getD i default).p.toNat + (S.getD i default).b := by
  unfold onF
  rw [List.any_eq_true]
  constructor
  · rintro ⟨x, hx, h⟩
    obtain ⟨i, hi, rfl⟩ := List.mem_iff_getElem.1 hx
    refine ⟨i, hi, ?_⟩
    rw [List.getD, List.getElem?_eq_getElem hi]
    simpa using h
  · rintro ⟨i, hi, h⟩
    rw [List.getD, List.getElem?_eq_getElem hi] at h
    exact ⟨_, List.getElem_mem hi, by simpa using h⟩
/-- the stretches can be looked at -/
def StOk (l : List Pi) (S : List St) : Prop := ∀ i, i < S.length → (0 ≤ (S.getD i default).p ∧ (S.getD i default).p < (l.length : Int)) ∧ (0 ≤ (S.getD i default).a ∧ (S.getD i default).a ≤ 100000) ∧ (0 ≤ (S.getD i default).b ∧ (S.getD i default).b ≤ 100000)
theorem stOk_of {l : List Pi} {S : List St} (h : ∀ x ∈ S, (0 ≤ x.p ∧ x.p < (l.length : Int)) ∧ (0 ≤ x.a ∧ x.a ≤ 100000) ∧ (0 ≤ x.b ∧ x.b ≤ 100000)) : StOk l S := fun i hi => by
  rw [List.getD, List.getElem?_eq_getElem hi]
  exact h _ (List.getElem_mem hi)
set_option maxRecDepth 100000 in
set_option maxHeartbeats 6400000 in
theorem on_any (l : List Pi) (hok : lineOk l = true) (v : Value) (S : List St) (hS : StOk l S) (v2 : Value) (t : Int) (w : World) (hl : TabAt 3 piC w v l) (hh : TabAt 3 stC w v2 S) : Calls Try.prog 28 #[v, v2, .int .i64 t] w fun e w' => e = .returned (.bool (onF l S t)) ∧ Below w.heap.size w w' := by
  obtain ⟨a, c, rfl⟩ := hl.shape
  obtain ⟨la, lc, rfl⟩ := hh.shape
  have ml : S.length ≤ 9223372036854775807 := hh.1
  have HL := Lib.hid hl
  have HH := Lib.hid hh
  have HSO := Lib.hid hS
  have HOK := Lib.hid hok
  have hall := on_iff (l := l) (S := S) (t := t)
  obtain ⟨R, hR⟩ : ∃ R, onF l S t = R := ⟨_, rfl⟩
  rw [hR] at hall ⊢
  have HALL := Lib.hid hall
  have hcap : 0 < S.length → ∃ lb lof, a = some ⟨lb, lof, none⟩ ∧ l.length ≤ c := fun h => by
    have h1 := hS 0 h
    obtain ⟨lb, lof, e, _⟩ := hl.at (by omega)
    refine ⟨lb, lof, e, ?_⟩
    obtain ⟨_, ⟨h0, _⟩ | ⟨b', off', cap, e, h1, _⟩⟩ := hl
    · subst h0; simp at h1; omega
    · simp only [Value.slice.injEq] at e; omega
  have HCAP := Lib.hid hcap
  clear hall hR hl hh hcap hS hok
  go_enter Try.func28, Try.ntmps28
  go_wp2_with fail
  go_loopw [8, 9, 12] (fun _ _ i wr => ∃ j : Nat, j ≤ S.length ∧ i = .int .i64 j ∧ (∀ b, b < j → ¬ (posF l (S.getD b default).p.toNat + (S.getD b default).a ≤ t ∧ t ≤ posF l (S.getD b default).p.toNat + (S.getD b default).b)) ∧ Below w.heap.size w wr) (fun _ _ i _ => S.length - (intOf i).toNat)
  case atStart => exact ⟨0, by omega, rfl, fun b hb => absurd hb (Nat.not_lt_zero _), Below.refl _ _⟩
  case round =>
    obtain ⟨j, hj, rfl, hfo, hbw⟩ := hrel
    have HFO := Lib.hid hfo
    have HBW := Lib.hid hbw
    clear hfo
    by_cases hlt : j < S.length
    · obtain ⟨pb, pof, e0, hcp⟩ := HCAP.out (by omega)
      subst e0
      obtain ⟨lb, lo, e1, hlb, hlx⟩ := HH.out.at (by omega)
      subst e1
      have x0 := (hbw.cell (p := ⟨lb, lo + j * 3 + 0, none⟩) hlb).trans (hlx j hlt 0 (by omega))
      have x1 := (hbw.cell (p := ⟨lb, lo + j * 3 + 1, none⟩) hlb).trans (hlx j hlt 1 (by omega))
      have x2 := (hbw.cell (p := ⟨lb, lo + j * 3 + 2, none⟩) hlb).trans (hlx j hlt 2 (by omega))
      have hso := HSO.out j hlt
      have hyes : posF l (S.getD j default).p.toNat + (S.getD j default).a ≤ t ∧ t ≤ posF l (S.getD j default).p.toNat + (S.getD j default).b → R = true := fun h => HALL.out.2 ⟨j, hlt, h⟩
      have hnx : ¬ (posF l (S.getD j default).p.toNat + (S.getD j default).a ≤ t ∧ t ≤ posF l (S.getD j default).p.toNat + (S.getD j default).b) → ∀ b, b < j + 1 → ¬ (posF l (S.getD b default).p.toNat + (S.getD b default).a ≤ t ∧ t ≤ posF l (S.getD b default).p.toNat + (S.getD b default).b) := fun h b hb => by
        by_cases e : b = j
        · rw [e]; exact h
        · exact HFO.out b (by omega)
      obtain ⟨⟨p, t0, t1⟩, hrow⟩ : ∃ x : St, S.getD j default = x := ⟨_, rfl⟩
      rw [hrow] at x0 x1 x2 hso hyes hnx
      simp only [Nat.add_zero, stC] at x0 x1 x2 hso hyes hnx
      obtain ⟨⟨hp0, hp1⟩, ha, hb⟩ := hso
      obtain ⟨q, rfl⟩ : ∃ q : Nat, p = q := ⟨p.toNat, by omega⟩
      simp only [Int.toNat_natCast] at hyes hnx
      have hq : q < l.length := by omega
      have hpos := pos_small HOK.out (i := q) (by omega)
      obtain ⟨W1, hW1⟩ : ∃ X, X = wr.alloc (.cells #[.int .i64 q, .int .i64 t0, .int .i64 t1] 49) := ⟨_, rfl⟩
      have hr1 : W1.heap[wr.heap.size]? = some (.cells #[.int .i64 q, .int .i64 t0, .int .i64 t1] 49 (0, 0)) := by rw [hW1]; exact alloc_heap wr _
      have hbb : Below wr.heap.size wr W1 := by rw [hW1]; exact (Below.refl _ _).alloc (Nat.le_refl _) _
      have hb1 := HBW.out.trans (hbb.mono hbw.size)
      have HB1 := Lib.hid hb1
      have htk := (HL.out.below hb1).take (i := q) (by omega) (by omega)
      have hln : (l.take q).length = q := by simp; omega
      have KE := End_any (l.take q) (.slice (some ⟨pb, pof, none⟩) q c) W1 htk (fun i hi => by
        rw [hln] at hi
        rw [pos_take l q i hi]
        have := pos_small HOK.out (i := i) (by omega)
        omega)
      have he : endF (l.take q) = posF l q := by unfold endF; rw [hln, pos_take l q q (Nat.le_refl _)]
      rw [he] at KE
      obtain ⟨B, hB⟩ : ∃ B, posF l q = B := ⟨_, rfl⟩
      rw [hB] at KE hpos hyes hnx
      have KEE := Lib.hid KE
      have HYES := Lib.hid hyes
      have HNX := Lib.hid hnx
      obtain ⟨d0, d1, d2⟩ := three_cells hr1
      have ij1 : (j : Int) < (S.length : Int) := Int.ofNat_lt.2 hlt
      have iq0 : (0 : Int) ≤ (q : Int) := by omega
      have iq1 : (q : Int) < (l.length : Int) := Int.ofNat_lt.2 hq
      have iq2 : (q : Int) ≤ (c : Int) := by omega
      have hqc : q ≤ c := by omega
      have hq2 : ¬ (q : Int) < 0 := by omega
      have hq3 : ¬ (l.length : Int) ≤ (q : Int) := by omega
      have w1 : IntKind.i64.wrap ((j : Int) + 1) = (j : Int) + 1 := IntWalk.i64_in _ (by omega)
      have w2 : IntKind.i64.wrap (B + t0) = B + t0 := IntWalk.i64_in _ (by omega)
      have w3 : IntKind.i64.wrap (B + t1) = B + t1 := IntWalk.i64_in _ (by omega)
      clear hlx hrow hyes hnx hr1 hbb hbw hlb hb1 htk hln KE he hB hp0 hp1 ha hb hpos
      go_upto_region 4 with fail
      rw [← hW1]
      obtain ⟨D, hD⟩ : ∃ B, wr.heap.size = B := ⟨_, rfl⟩
      rw [hD] at d0 d1 d2 ⊢
      clear hW1 hD x0 x1 x2
      by_cases h1 : B + t0 ≤ t
      · by_cases h2 : t ≤ B + t1
        · have hrr := HYES.out ⟨h1, h2⟩
          subst hrr
          go_wp2_with (go_at_call 25; (with_reducible refine KEE.out.mono ?_); rintro e w3 ⟨rfl, rfl⟩)
          go_ret
          exact ⟨rfl, HB1.out⟩
        · have HNX2 := Lib.hid (HNX.out (fun h => h2 h.2))
          go_wp2_with (go_at_call 25; (with_reducible refine KEE.out.mono ?_); rintro e w3 ⟨rfl, rfl⟩)
          go_roundw
          case rel => exact ⟨j + 1, by omega, by go_num, HNX2.out, HB1.out⟩
          case measure => simp [intOf]; omega
      · have HNX2 := Lib.hid (HNX.out (fun h => h1 h.1))
        go_wp2_with (go_at_call 25; (with_reducible refine KEE.out.mono ?_); rintro e w3 ⟨rfl, rfl⟩)
        go_roundw
        case rel => exact ⟨j + 1, by omega, by go_num, HNX2.out, HB1.out⟩
        case measure => simp [intOf]; omega
    · have i1 : ¬ (j : Int) < (S.length : Int) := by omega
      have hjl : j = S.length := by omega
      have hR : R = false := by
        rw [← Bool.not_eq_true, HALL.out]
        rintro ⟨i, hi, h⟩
        exact HFO.out i (by omega) h
      subst hR
      go_wp2
      go_ret
      exact ⟨rfl, HBW.out⟩
end Go.Proofs.Ytdbjifpnbghbaaa
