/- Term: contract of enterBroken. -/
import Derived.Test.YtcmfplfnpjknlaaA7
namespace Go.Proofs.Ytcmfplfnpjknlaa
set_option linter.unusedSimpArgs false
set_option linter.unusedVariables false
open Go.RowKit Go.Maps

/-- a seal more that is broken -/
theorem rec_map {B : Nat} {cv rv pv bv : Value} {R M : Nat} {w w' : World} {G : Value} {ps : List Nat} {L : List (Row × (Int × Int))} {bs bs' : List (Int × Int)} (h : RecAt B cv rv pv bv R M w G ps L bs) (hm : MapIs w' M bs') (hg : w.grownBy w' (some M)) (hB : B ≤ w.heap.size) :
    RecAt B cv rv pv bv R M w' G ps L bs' ∧ Below B w w' ∧ K87 w w' := by
  obtain ⟨es, c, em⟩ := h.map.heap
  have hne : ∀ (b : Nat) (cs : Array Value) (T : TypeId), w.heap[b]? = some (.cells cs T (0, 0)) → w'.heap[b]? = some (.cells cs T (0, 0)) := fun b cs T hb =>
    (hg.block b (Array.getElem?_eq_some_iff.1 hb).1 (fun e => by
      simp only [Option.some.injEq] at e
      rw [e, em] at hb
      simp at hb)).trans hb
  exact ⟨⟨hne _ _ _ h.box, h.row.kept hg (.inr (own_ne_map h.row em)), h.len, fun i hi => hne _ _ _ (h.seen i hi), h.few, hm, h.hR, h.hM, h.ge, h.nd⟩, (Below.refl _ _).grown hg hB (fun k hk => by cases hk; exact h.hM), fun b cs hb => hne b cs 87 hb⟩
def bsErr (s : Stk) : Nat × Int := firstErr (brkErr s.rs s.bs) s.bs.length 0
def BrokenEntered (w0 w : World) (s : Stk) (cv rv pv bv : Value) (R M : Nat) (G : Value) (ps : List Nat) (L : List (Row × (Int × Int))) (e : Ending) (w' : World) : Prop :=
  e = .returned (.tuple #[.int .i64 (bsErr s).1, .int .i64 (bsErr s).2]) ∧ Below w0.heap.size w0 w' ∧ K87 w w' ∧ ((bsErr s).2 = 0 → RecAt w0.heap.size cv rv pv bv R M w' G ps L s.bs)
theorem brkOk_of {s : Stk} (h : stkOk s = true) {k : Nat} (hk : k < s.bs.length) : 1 ≤ s.bs[k]!.1 ∧ s.bs[k]!.1 ≤ 1000000 ∧ 0 ≤ s.bs[k]!.2 ∧ s.bs[k]!.2 ≤ 131072 := by
  unfold stkOk at h
  simp only [Bool.and_eq_true, List.all_eq_true] at h
  obtain ⟨_, _, _, _, h2⟩ := h
  have h3 := h2 s.bs[k]! (by rw [getElem!_pos s.bs k hk]; exact List.getElem_mem hk)
  unfold brkOk at h3
  simp only [Bool.and_eq_true, inF_iff] at h3
  exact ⟨h3.1.1, h3.1.2, h3.2.1, h3.2.2⟩
theorem rowIx_lt {rs : List Row} {n : Int} {i : Nat} (h : rowIx rs n = some i) : i < rs.length ∧ hasF rs[i]! n = true := by
  unfold rowIx at h
  rw [List.findIdx?_eq_some_iff_getElem] at h
  obtain ⟨h1, h2, _⟩ := h
  exact ⟨h1, by rw [getElem!_pos rs i h1]; exact h2⟩
set_option maxRecDepth 100000 in
set_option maxHeartbeats 6400000 in
theorem enterBroken_any (s : Stk) (cv rv pv bv : Value) (R M : Nat) (w0 w : World) (G : Value) (ps : List Nat) (L : List (Row × (Int × Int))) (hs : stkOk s = true) (hbr : TabAt 2 brkC w0 bv s.bs) (hb : Below w0.heap.size w0 w) (hL : L.map (·.1) = s.rs) (h : RecAt w0.heap.size cv rv pv bv R M w G ps L []) :
    Calls Try.prog 37 #[.pointer (some ⟨R, 0, none⟩)] w (BrokenEntered w0 w s cv rv pv bv R M G ps L) := by
  obtain ⟨va, vc, rfl⟩ := hbr.shape
  obtain ⟨_, _, _, f4⟩ := stk_few hs
  obtain ⟨c0, c1, c2, c3, c4, c5⟩ := six_cells h.box
  have HH := Lib.hid h
  have HBR := Lib.hid hbr
  have HS := Lib.hid hs
  have HB := Lib.hid hb
  have HL := Lib.hid hL
  clear c0 c1 c2 c4 c5 h hbr hs hb hL
  go_enter Try.func37, Try.ntmps37
  go_wp2_with fail
  clear c3
  go_loopw [17] (fun i wr => ∃ k : Nat, k ≤ s.bs.length ∧ i = .int .i64 k ∧ Below w0.heap.size w0 wr ∧ K87 w wr ∧ RecAt w0.heap.size cv rv pv (.slice va s.bs.length vc) R M wr G ps L (s.bs.take k) ∧ ∀ i, i < k → brkErr s.rs s.bs i = 0) (fun i _ => s.bs.length - (intOf i).toNat)
  case atStart => exact ⟨0, by omega, rfl, HB.out, K87.refl _, HH.out, fun i hi => by omega⟩
  case round =>
    obtain ⟨k, hk, rfl, hbel, hk87, hrec, hok⟩ := hrel
    have HOK := Lib.hid hok
    have HK := Lib.hid hk87
    clear hok hk87
    by_cases hlt : k < s.bs.length
    · obtain ⟨bb, off, e1, hlb, hcx⟩ := HBR.out.at (by omega)
      subst e1
      obtain ⟨g1, g2, g3, g4⟩ := brkOk_of HS.out hlt
      obtain ⟨⟨x, d⟩, hx⟩ : ∃ x, s.bs.getD k default = x := ⟨_, rfl⟩
      have hx2 : s.bs[k]! = (x, d) := by rw [← hx]; simp [List.getD, hlt]
      have htk : s.bs.take (k + 1) = s.bs.take k ++ [(x, d)] := by
        rw [List.take_succ_eq_append_getElem hlt, ← getElem!_pos s.bs k hlt, hx2]
      rw [hx2] at g1 g2 g3 g4
      simp only [] at g1 g2 g3 g4
      have q0 := hcx k hlt 0 (by omega)
      have q1 := hcx k hlt 1 (by omega)
      rw [hx] at q0 q1
      simp only [Nat.add_zero, brkC] at q0 q1
      have e0 := (hbel.cell (p := ⟨bb, _, none⟩) hlb).trans q0
      have e1 := (hbel.cell (p := ⟨bb, _, none⟩) hlb).trans q1
      have hwx : (Lit.int .i64 x).wf = true := WalkArith.wf_i64 (by omega)
      have hwd : (Lit.int .i64 d).wf = true := WalkArith.wf_i64 (by omega)
      obtain ⟨X, hX⟩ : ∃ X, wr.alloc (.cells #[.int .i64 x, .int .i64 d] 43) = X := ⟨_, rfl⟩
      have hbX : Below wr.heap.size wr X := by rw [← hX]; exact (Below.refl _ _).alloc (Nat.le_refl _) _
      have hrX : X.heap[wr.heap.size]? = some (.cells #[.int .i64 x, .int .i64 d] 43 (0, 0)) := by rw [← hX]; exact alloc_heap wr _
      obtain ⟨Q, hQ⟩ : ∃ Q, wr.heap.size = Q := ⟨_, rfl⟩
      rw [hQ] at hrX
      obtain ⟨y0, y1⟩ := two_cells hrX
      have hbX0 := hbel.trans (hbX.mono hbel.size)
      have hrecX := hrec.below hbX
      obtain ⟨d0, d1, d2, d3, d4, d5⟩ := six_cells hrecX.box
      have hlook : ∀ q, (Instr.lookup 83 (.map (some M)) (.int .i64 x) true).run Try.prog (X.drewN q) = _ := fun q => (hrecX.drewN q).map.look hwx
      have hro := fun q => rowOf_any x (hrecX.drewN q)
      rw [HL.out] at hro
      have HBX := Lib.hid hbX0
      have HKX := Lib.hid (HK.out.trans (K87.of_below hbX))
      have HRECX := Lib.hid hrecX
      have HLOOK := Lib.hid hlook
      have HX := Lib.hid hx2
      have HTK := Lib.hid htk
      have HQ := Lib.hid (show w0.heap.size ≤ X.heap.size from hbX0.size)
      have kx : (0 : Int) ≤ k := by omega
      have ky : (k : Int) < (s.bs.length : Int) := by omega
      clear hx hx2 htk hcx q0 q1 d0 d1 d2 d3 d4 hrX hbX hbX0 hrecX hrec hbel hlook
      have hfe : ∀ c : Int, brkErr s.rs s.bs k = c → c ≠ 0 → bsErr s = (k, c) := fun c hc h0 => by
        unfold bsErr
        rw [firstErr_at s.bs.length 0 k hlt (fun j hj => by rw [Nat.zero_add]; exact HOK.out j hj) (by rw [Nat.zero_add, hc]; exact h0), Nat.zero_add, hc]
      have HFE := Lib.hid hfe
      have hbe : brkErr s.rs s.bs k = match rowIx s.rs x with | none => 4 | some i => if (s.bs.take k).any (fun b => b.1 == x) then 5 else if d < s.rs[i]!.day then 7 else 0 := by
        unfold brkErr; rw [HX.out]; rfl
      have HBE := Lib.hid hbe
      clear hfe hbe
      cases hix : rowIx s.rs x with
      | none =>
        have hbe := HBE.out
        rw [hix] at hbe hro
        have hf := HFE.out 4 hbe (by decide)
        simp only [ixV] at hro
        have HF := Lib.hid hf
        have HRO := Lib.hid hro
        have hl := HLOOK.out
        clear hf hbe hix hro
        go_upto_region 4 with fail
        clear hX hQ e0 e1
        go_quiet (fail)
        go_wp2_with (go_at_call 32; (with_reducible refine (HRO.out _).mono ?_); rintro e w2 ⟨rfl, q2, rfl⟩)
        go_ret2
        exact ⟨by rw [HF.out]; rfl, below_drewn HBX.out _, HKX.out, fun e => by rw [HF.out] at e; cases e⟩
      | some i =>
        have hbe := HBE.out
        rw [hix] at hbe hro
        obtain ⟨hil, _⟩ := rowIx_lt hix
        have hil2 : i < L.length := by rw [← HL.out] at hil; simpa using hil
        have hsn := HRECX.out.seen i hil2
        obtain ⟨p, hp⟩ : ∃ p, ps.getD i 0 = p := ⟨_, rfl⟩
        obtain ⟨⟨r, t⟩, hr⟩ : ∃ r, L.getD i default = r := ⟨_, rfl⟩
        rw [hp, hr] at hsn
        have hrr : s.rs[i]! = r := by
          rw [getElem!_pos s.rs i hil]
          have : L[i] = (r, t) := by rw [← hr]; simp [List.getD, hil2]
          have h2 : (L.map (·.1))[i]'(by rw [HL.out]; exact hil) = r := by simp [this]
          rw [← h2]
          congr 1
          exact HL.out.symm
        simp only [ixV, hp] at hro
        obtain ⟨z0, z1, z2, z3, z4, z5⟩ := six_cells hsn
        have hbany := brkDay_isSome (s.bs.take k) x
        simp only [] at hbe z3
        rw [← hbany, hrr] at hbe
        have HRO := Lib.hid hro
        have HBY := Lib.hid hbe
        clear hbe hro hix hil hsn hp hr hrr z0 z1 z2 z4 z5
        cases hbd : (brkDay (s.bs.take k) x).isSome with
        | true =>
          have hbe := HBY.out
          have hl := HLOOK.out
          rw [hbd] at hbe hl
          have hf := HFE.out 5 (by simpa using hbe) (by decide)
          have HF := Lib.hid hf
          clear hf hbe hbd hbany
          go_upto_region 4 with fail
          clear hX hQ e0 e1
          go_quiet (fail)
          go_wp2_with (go_at_call 32; (with_reducible refine (HRO.out _).mono ?_); rintro e w2 ⟨rfl, q2, rfl⟩)
          go_ret2
          exact ⟨by rw [HF.out]; rfl, below_drewn HBX.out _, HKX.out, fun e => by rw [HF.out] at e; cases e⟩
        | false =>
          have hbe := HBY.out
          have hl := HLOOK.out
          rw [hbd] at hbe hl
          by_cases hdd : d < r.day
          · have hf := HFE.out 7 (by simpa [hdd] using hbe) (by decide)
            have HF := Lib.hid hf
            clear hf hbe hbd hbany
            go_upto_region 4 with fail
            clear hX hQ e0 e1
            go_quiet (fail)
            go_wp2_with (go_at_call 32; (with_reducible refine (HRO.out _).mono ?_); rintro e w2 ⟨rfl, q2, rfl⟩)
            go_ret2
            exact ⟨by rw [HF.out]; rfl, below_drewn HBX.out _, HKX.out, fun e => by rw [HF.out] at e; cases e⟩
          · have hbe0 : brkErr s.rs s.bs k = 0 := by simpa [hdd] using hbe
            rw [hbd] at hbany
            have hst : ∀ q, ∃ w', (Instr.mapUpdate 83 (.map (some M)) (.int .i64 x) (.int .i64 d)).run Try.prog (X.drewN q) = .ok () w' ∧ MapIs w' M (s.bs.take k ++ [(x, d)]) ∧ (X.drewN q).grownBy w' (some M) := fun q =>
              (HRECX.out.drewN q).map.store hwx hwd (by rw [List.length_take]; omega) hbany.symm
            obtain ⟨F, hF⟩ : ∃ F : Nat → World, ∀ q, (Instr.mapUpdate 83 (.map (some M)) (.int .i64 x) (.int .i64 d)).run Try.prog (X.drewN q) = .ok () (F q) ∧ MapIs (F q) M (s.bs.take k ++ [(x, d)]) ∧ (X.drewN q).grownBy (F q) (some M) :=
              ⟨fun q => Classical.choose (hst q), fun q => Classical.choose_spec (hst q)⟩
            have hF1 := fun q => (hF q).1
            have HF2 := Lib.hid (fun q => (hF q).2)
            have HE0 := Lib.hid hbe0
            have hdd' : r.day ≤ d := by omega
            clear hst hF hbe hbd hbany hbe0
            go_upto_region 4 with fail
            clear hX hQ e0 e1
            go_quiet (fail)
            go_wp2_with (go_at_call 32; (with_reducible refine (HRO.out _).mono ?_); rintro e w2 ⟨rfl, q2, rfl⟩)
            go_roundw
            case rel =>
              obtain ⟨hm, hg⟩ := HF2.out _
              obtain ⟨h1, h2, h3⟩ := rec_map (HRECX.out.drewN _) hm hg HQ.out
              refine ⟨k + 1, by omega, by go_num, (below_drewn HBX.out _).trans h2, HKX.out.trans h3, by rw [HTK.out]; exact h1, fun i hi => ?_⟩
              by_cases e : i = k
              · rw [e]; exact HE0.out
              · exact HOK.out i (by omega)
            case measure => simp [intOf]; omega
    · have hkl : k = s.bs.length := by omega
      have hfe : bsErr s = (0, 0) := firstErr_ok _ _ (fun j hj => by rw [Nat.zero_add]; exact HOK.out j (by omega))
      rw [List.take_of_length_le (by omega)] at hrec
      have HFE := Lib.hid hfe
      have HREC := Lib.hid hrec
      have HBE := Lib.hid hbel
      have i1 : ¬ (k : Int) < (s.bs.length : Int) := by omega
      clear hkl hfe hrec hbel
      go_wp2
      go_ret2
      exact ⟨by rw [HFE.out]; rfl, HBE.out, HK.out, fun _ => HREC.out⟩
end Go.Proofs.Ytcmfplfnpjknlaa
