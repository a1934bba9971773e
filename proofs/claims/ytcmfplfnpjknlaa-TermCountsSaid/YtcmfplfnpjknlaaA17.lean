/- Term: contract of recordsOf. -/
import Derived.Test.YtcmfplfnpjknlaaA16
namespace Go.Proofs.Ytcmfplfnpjknlaa
set_option linter.unusedSimpArgs false
set_option linter.unusedVariables false
open Go.RowKit

/-- the records of a stock, or what is wrong with it -/
def RecRes (w : World) (s : Stk) (e : Ending) (w' : World) : Prop := Below w.heap.size w w' ∧
  (((termsF s).2.1 ≠ 0 ∧ e = .returned (.tuple #[.pointer none, .int .i64 (termsF s).1, .int .i64 (termsF s).2.1])) ∨
   ((termsF s).2.1 = 0 ∧ stkOk s = true ∧ ∃ ca cc rv pv bv R M G ptrs, e = .returned (.tuple #[.pointer (some ⟨R, 0, none⟩), .int .i64 0, .int .i64 0]) ∧ RecAt w.heap.size (.slice ca s.cs.length cc) rv pv bv R M w' G ptrs (rowsT s (termsF s).2.2) s.bs))
theorem terms_bad {s : Stk} (h : stkOk s = false) : termsF s = (0, 1, []) := by unfold termsF; rw [if_pos h]
theorem terms_rows {s : Stk} (h : stkOk s = true) (h1 : (rowsErr s).2 ≠ 0) : termsF s = ((rowsErr s).1, (rowsErr s).2, []) := by
  unfold termsF; rw [if_neg (by simp [h])]
  unfold rowsErr at h1 ⊢
  simp [h1]
theorem terms_bs {s : Stk} (h : stkOk s = true) (h1 : (rowsErr s).2 = 0) (h2 : (bsErr s).2 ≠ 0) : termsF s = ((bsErr s).1, (bsErr s).2, []) := by
  unfold termsF; rw [if_neg (by simp [h])]
  unfold rowsErr at h1
  unfold bsErr at h2 ⊢
  simp [h1, h2]
theorem terms_ps {s : Stk} (h : stkOk s = true) (h1 : (rowsErr s).2 = 0) (h2 : (bsErr s).2 = 0) : termsF s = prfR s := by
  unfold termsF; rw [if_neg (by simp [h])]
  change (match rowsErr s with | (i, e) => if e ≠ 0 then (i, e, []) else match bsErr s with | (i, e) => if e ≠ 0 then (i, e, []) else prfR s) = _
  simp [h1, h2]
theorem run_good (s : Stk) : ∀ (o : List Nat) (ts : List (Int × Int)), (runF s o ts).2.1 = 0 → (runF s o ts).1 = 0
  | [], _, _ => rfl
  | i :: o, ts, h => by
    unfold runF at h ⊢
    split
    · rename_i h1; rw [if_pos h1] at h; exact run_good s o _ h
    · rename_i h1; rw [if_neg h1] at h; exact absurd h h1
theorem firstErr_good {f : Nat → Int} : ∀ (n i : Nat), (firstErr f n i).2 = 0 → (firstErr f n i).1 = 0
  | 0, _, _ => rfl
  | n + 1, i, h => by
    unfold firstErr at h ⊢
    split
    · rename_i h1; rw [if_pos h1] at h; exact firstErr_good n (i + 1) h
    · rename_i h1; rw [if_neg h1] at h; exact absurd h h1
theorem slices_of {w : World} {pa : Option Addr} {pc : Nat} {ps : List Prf} (h : PrfAt w (.slice pa ps.length pc) ps) : ∃ (sa : Nat → Option Addr) (sc : Nat → Nat), ∀ b off, pa = some ⟨b, off, none⟩ → ∀ i, i < ps.length → w.cell? ⟨b, off + i * 4 + 2, none⟩ = some (.slice (sa i) (ps.getD i default).seals.length (sc i)) ∧ TabAt 1 numC w (.slice (sa i) (ps.getD i default).seals.length (sc i)) (ps.getD i default).seals := by
  have hx : ∀ i, ∃ q : Option Addr × Nat, i < ps.length → ∀ b off, pa = some ⟨b, off, none⟩ → w.cell? ⟨b, off + i * 4 + 2, none⟩ = some (.slice q.1 (ps.getD i default).seals.length q.2) ∧ TabAt 1 numC w (.slice q.1 (ps.getD i default).seals.length q.2) (ps.getD i default).seals := by
    intro i
    by_cases hi : i < ps.length
    · obtain ⟨b, off, e, hb, hc⟩ := h.at (by omega)
      obtain ⟨sv, g1, g2, g3, g4, g5⟩ := hc i hi
      obtain ⟨a, c, rfl⟩ := g5.shape
      refine ⟨(a, c), fun _ b2 off2 e2 => ?_⟩
      rw [e] at e2
      simp only [Option.some.injEq, Addr.mk.injEq, and_true] at e2
      obtain ⟨rfl, rfl⟩ := e2
      exact ⟨g3, g5⟩
    · exact ⟨(none, 0), fun h => absurd h hi⟩
  exact ⟨fun i => (Classical.choose (hx i)).1, fun i => (Classical.choose (hx i)).2, fun b off e i hi => Classical.choose_spec (hx i) hi b off e⟩
theorem three_cells {X : World} {b : Nat} {x y z : Value} {t : TypeId} (h : X.heap[b]? = some (.cells #[x, y, z] t)) : X.cell? ⟨b, 0, none⟩ = some x ∧ X.cell? ⟨b, 1, none⟩ = some y ∧ X.cell? ⟨b, 2, none⟩ = some z := by
  simp [World.cell?, h]
set_option maxRecDepth 100000 in
set_option maxHeartbeats 6400000 in
theorem recordsOf_any (s : Stk) (v : Value) (w : World) (hs : StkAt w v s) : Calls Try.prog 24 #[v] w (RecRes w s) := by
  obtain ⟨cv, rv, pv, bv, rfl, hc, hr, hp, hb⟩ := hs
  have kst := fun X hb' => isStock_any s (.agg #[cv, rv, pv, bv]) X (StkAt.below ⟨cv, rv, pv, bv, rfl, hc, hr, hp, hb⟩ hb')
  obtain ⟨ca, cc, rfl⟩ := hc.shape
  obtain ⟨ra, rc, rfl⟩ := hr.shape
  obtain ⟨pa, pc, rfl⟩ := hp.shape
  obtain ⟨ba, bc, rfl⟩ := hb.shape
  obtain ⟨sa, sc, hsl⟩ := slices_of hp
  obtain ⟨W0, hW0⟩ : ∃ X, X = w.alloc (.cells #[.slice ca s.cs.length cc, .slice ra s.rs.length rc, .slice pa s.ps.length pc, .slice ba s.bs.length bc] 27) := ⟨_, rfl⟩
  have hb0 : Below w.heap.size w W0 := by rw [hW0]; exact (Below.refl _ _).alloc (Nat.le_refl _) _
  have hr0 : W0.heap[w.heap.size]? = some (.cells #[.slice ca s.cs.length cc, .slice ra s.rs.length rc, .slice pa s.ps.length pc, .slice ba s.bs.length bc] 27 (0, 0)) := by rw [hW0]; exact alloc_heap w _
  have k1 := kst W0 hb0
  obtain ⟨P, hP⟩ : ∃ P, w.heap.size = P := ⟨_, rfl⟩
  rw [hP] at hr0
  obtain ⟨d0, d1, d2, d3⟩ := four_cells hr0
  have HC := Lib.hid hc
  have HRW := Lib.hid hr
  have HPF := Lib.hid hp
  have HBK := Lib.hid hb
  have HSL := Lib.hid hsl
  have HB0 := Lib.hid hb0
  have HR0 := Lib.hid hr0
  have HP := Lib.hid hP
  clear hc hr hp hb hsl hb0 hr0 kst
  cases hok : stkOk s with
  | false =>
    rw [hok] at k1
    have K1 := Lib.hid k1
    have HT := Lib.hid (terms_bad hok)
    clear k1 hok
    go_enter Try.func24, Try.ntmps24
    go_upto_region 1 with fail
    rw [← hW0]
    clear hW0 hP
    go_wp2_with (go_at_call 35; (with_reducible refine K1.out.mono ?_); rintro e w1 ⟨rfl, hb1⟩)
    refine bodyPost_ret (v := .tuple #[.pointer none, .int .i64 0, .int .i64 1]) (by simp [results, Try.results24, go_sem]) rfl ⟨HB0.out.trans (hb1.mono HB0.out.size), .inl ⟨by rw [HT.out]; decide, by rw [HT.out]; rfl⟩⟩
  | true =>
    rw [hok] at k1
    have K1 := Lib.hid k1
    have HOK := Lib.hid hok
    clear k1 hok
    have hmm := @run_makeMap Try.prog
    go_enter Try.func24, Try.ntmps24
    go_upto_region 1 with fail
    rw [← hW0]
    clear hW0 hP
    go_upto_region 3 with (go_at_call 35; (with_reducible refine K1.out.mono ?_); rintro e w1 ⟨rfl, hb1⟩)
    have hbw1 := HB0.out.trans (hb1.mono HB0.out.size)
    obtain ⟨d0, d1, d2, d3⟩ := four_cells (box_step (w0 := w) HR0.out hb1)
    have HB1 := Lib.hid hbw1
    have HR1 := Lib.hid (box_step (w0 := w) HR0.out hb1)
    clear hb1 hbw1
    go_upto_region 4 with fail
    obtain ⟨X, hX⟩ : ∃ X, (w1.alloc (.map #[] 0)).alloc (.cells #[.slice ca s.cs.length cc, .slice ra s.rs.length rc, .slice pa s.ps.length pc, .slice ba s.bs.length bc, .slice none 0 0, .map (some w1.heap.size)] 86) = X := ⟨_, rfl⟩
    have hbX : Below w1.heap.size w1 X := by rw [← hX]; exact ((Below.refl _ _).alloc (Nat.le_refl _) _).alloc (by simp) _
    have hw1 := HB1.out.size
    have hrec : RecAt w.heap.size (.slice ca s.cs.length cc) (.slice ra s.rs.length rc) (.slice pa s.ps.length pc) (.slice ba s.bs.length bc) (w1.heap.size + 1) w1.heap.size X (.slice none 0 0) [] [] [] := by
      refine ⟨?_, World.ownsRow_nil _ _ _ _, rfl, fun i hi => by simp at hi, by simp, ?_, by omega, by omega, (fun p hp => by cases hp), List.nodup_nil⟩
      · rw [← hX]
        have := alloc_heap (w1.alloc (.map #[] 0)) (.cells #[.slice ca s.cs.length cc, .slice ra s.rs.length rc, .slice pa s.ps.length pc, .slice ba s.bs.length bc, .slice none 0 0, .map (some w1.heap.size)] 86)
        simpa using this
      · rw [← hX]
        exact (mapIs_made w1).below ((Below.refl _ _).alloc (Nat.le_refl _) _)
    have hbwX : Below w.heap.size w X := HB1.out.trans (hbX.mono hw1)
    obtain ⟨R, hR⟩ : ∃ R, w1.heap.size + 1 = R := ⟨_, rfl⟩
    obtain ⟨M, hM⟩ : ∃ M, w1.heap.size = M := ⟨_, rfl⟩
    rw [hR, hM] at hrec
    have HREC := Lib.hid hrec
    have HBX := Lib.hid hbwX
    rw [hX, hR, hM]
    clear hX hbX hrec hbwX hR hM hw1
    clear d0 d1 d2 d3
    go_upto_region 5 with fail
    obtain ⟨Y, hY⟩ : ∃ Y, X.alloc (.cells #[.func (.func 36) #[.pointer (some ⟨R, 0, none⟩)] #[], .func (.func 37) #[.pointer (some ⟨R, 0, none⟩)] #[], .func (.func 38) #[.pointer (some ⟨R, 0, none⟩)] #[]] 87) = Y := ⟨_, rfl⟩
    have hbY : Below X.heap.size X Y := by rw [← hY]; exact (Below.refl _ _).alloc (Nat.le_refl _) _
    have hF : Y.heap[X.heap.size]? = some (.cells #[.func (.func 36) #[.pointer (some ⟨R, 0, none⟩)] #[], .func (.func 37) #[.pointer (some ⟨R, 0, none⟩)] #[], .func (.func 38) #[.pointer (some ⟨R, 0, none⟩)] #[]] 87 (0, 0)) := by rw [← hY]; exact alloc_heap X _
    have hrecY := HREC.out.below hbY
    have hbwY := HBX.out.trans (hbY.mono HBX.out.size)
    obtain ⟨F, hFe⟩ : ∃ F, X.heap.size = F := ⟨_, rfl⟩
    rw [hFe] at hF
    rw [hY, hFe]
    clear hY hFe hbY
    have k36 := enterRows_any s _ _ _ _ R M w Y HOK.out HC.out HRW.out hbwY hrecY
    obtain ⟨f0, f1, f2⟩ := three_cells hF
    have K36 := Lib.hid k36
    have HF := Lib.hid hF
    clear hrecY hbwY k36 hF
    go_wp2_with fail
    refine wp_loop_rounds 4 ?_
    rw [rounds_succ]
    by_cases h1 : (rowsErr s).2 = 0
    · go_wp2_with (go_at_call 36; (with_reducible refine K36.out.mono ?_); rintro e w2 ⟨rfl, hb2, hk2, hr2⟩)
      obtain ⟨G, ps, hrec2⟩ := hr2 h1
      have hF2 := hk2 F _ HF.out
      have k37 := enterBroken_any s _ _ _ _ R M w w2 G ps (enteredL s) HOK.out HBK.out hb2 (by simp [enteredL, Function.comp_def]) hrec2
      obtain ⟨f0, f1, f2⟩ := three_cells hF2
      have K37 := Lib.hid k37
      have HF2 := Lib.hid hF2
      have H1 := Lib.hid h1
      clear hr2 hk2 hb2 hrec2 k37 hF2 h1 K36
      rw [rounds_succ]
      by_cases h2 : (bsErr s).2 = 0
      · go_wp2_with (go_at_call 37; (with_reducible refine K37.out.mono ?_); rintro e w3 ⟨rfl, hb3, hk3, hr3⟩)
        have hrec3 := hr3 h2
        have hF3 := hk3 F _ HF2.out
        have k38 := enterProofs_any s ca cc _ _ pa pc R M w w3 G ps sa sc HOK.out HC.out HPF.out HSL.out hb3 hrec3
        obtain ⟨f0, f1, f2⟩ := three_cells hF3
        have hT := terms_ps HOK.out H1.out h2
        have K38 := Lib.hid k38
        have H2 := Lib.hid h2
        have HT := Lib.hid hT
        clear hr3 hk3 hb3 hrec3 k38 hF3 h2 K37 hT
        rw [rounds_succ]
        by_cases h3 : (prfR s).2.1 = 0
        · go_wp2_with (go_at_call 38; (with_reducible refine K38.out.mono ?_); rintro e w4 ⟨rfl, hb4, hk4, hr4⟩)
          rw [rounds_succ]
          go_wp2
          refine bodyPost_ret (v := .tuple #[.pointer (some ⟨R, 0, none⟩), .int .i64 0, .int .i64 0]) (by simp [results, Try.results24, go_sem]) rfl ⟨hb4, .inr ⟨by rw [HT.out]; exact h3, HOK.out, ca, cc, _, _, _, R, M, G, ps, rfl, by rw [HT.out]; exact hr4 h3⟩⟩
        · obtain ⟨er, her⟩ : ∃ e, (prfR s).2.1 = e := ⟨_, rfl⟩
          obtain ⟨ix, hix⟩ : ∃ e, (prfR s).1 = e := ⟨_, rfl⟩
          unfold ProofsEntered at K38
          rw [her, hix] at K38
          rw [her] at h3
          have e1 : (er != 0) = true := by simpa using h3
          have HE := Lib.hid her
          have HI := Lib.hid hix
          have H3 := Lib.hid h3
          clear her hix h3
          go_wp2_with (go_at_call 38; (with_reducible refine K38.out.mono ?_); rintro e w4 ⟨rfl, hb4, hk4, hr4⟩)
          refine bodyPost_ret (v := .tuple #[.pointer none, .int .i64 ix, .int .i64 er]) (by simp [results, Try.results24, go_sem]) rfl ⟨hb4, .inl ⟨by rw [HT.out, HE.out]; exact H3.out, by rw [HT.out, HE.out, HI.out]⟩⟩
      · have hT := terms_bs HOK.out H1.out h2
        obtain ⟨er, her⟩ : ∃ e, (bsErr s).2 = e := ⟨_, rfl⟩
        obtain ⟨ix, hix⟩ : ∃ e, (bsErr s).1 = e := ⟨_, rfl⟩
        unfold BrokenEntered at K37
        rw [her, hix] at K37 hT
        rw [her] at h2
        have e1 : (er != 0) = true := by simpa using h2
        have HT := Lib.hid hT
        have H2 := Lib.hid h2
        clear hT her hix h2
        go_wp2_with (go_at_call 37; (with_reducible refine K37.out.mono ?_); rintro e w3 ⟨rfl, hb3, hk3, hr3⟩)
        refine bodyPost_ret (v := .tuple #[.pointer none, .int .i64 ix, .int .i64 er]) (by simp [results, Try.results24, go_sem]) rfl ⟨hb3, .inl ⟨by rw [HT.out]; exact H2.out, by rw [HT.out]⟩⟩
    · have hT := terms_rows HOK.out h1
      obtain ⟨er, her⟩ : ∃ e, (rowsErr s).2 = e := ⟨_, rfl⟩
      obtain ⟨ix, hix⟩ : ∃ e, (rowsErr s).1 = e := ⟨_, rfl⟩
      unfold RowsEntered at K36
      rw [her, hix] at K36 hT
      rw [her] at h1
      have e1 : (er != 0) = true := by simpa using h1
      have HT := Lib.hid hT
      have H1 := Lib.hid h1
      clear hT her hix h1
      go_wp2_with (go_at_call 36; (with_reducible refine K36.out.mono ?_); rintro e w2 ⟨rfl, hb2, hk2, hr2⟩)
      refine bodyPost_ret (v := .tuple #[.pointer none, .int .i64 ix, .int .i64 er]) (by simp [results, Try.results24, go_sem]) rfl ⟨hb2, .inl ⟨by rw [HT.out]; exact H1.out, by rw [HT.out]⟩⟩
end Go.Proofs.Ytcmfplfnpjknlaa
