/- Term: the reference's after. -/
import Derived.Test.YtcmfplfnpjknlaaC3
import Derived.Test.YtcmfplfnpjknlaaB32
import Derived.Test.YtcmfplfnpjknlaaA15
import Derived.Test.YtcmfplfnpjknlaaA29
namespace Go.Proofs.Ytcmfplfnpjknlaa
set_option linter.unusedSimpArgs false
set_option linter.unusedVariables false
open Go.RowKit Go.Maps

theorem Try.info73a : (Try.prog.info? 73).map (fun i => (i.zero, i.size, i.bytes)) = some (some (.agg #[.int .i64 0, .int .i64 0]), 2, 16) := by kernel_rfl
theorem flat_set0 : ∀ {L : List (Int × Int)} {j : Nat} (x : Int), j < L.length → (flatK 2 trmC L).set (j * 2) (.int .i64 x) = flatK 2 trmC (L.set j (x, (L.getD j default).2))
  | [], j, x, h => by simp at h
  | y :: l, 0, x, _ => by unfold flatK; simp [trmC, List.range, List.range.loop]
  | y :: l, j + 1, x, h => by
    have ih := flat_set0 (L := l) (j := j) x (by simpa using h)
    unfold flatK at ih ⊢
    rw [List.flatMap_cons, show (j + 1) * 2 = j * 2 + 2 by omega]
    simp only [List.set_cons_succ, List.flatMap_cons, List.getD_cons_succ]
    rw [← ih]
    simp [List.range, List.range.loop]
theorem flat_set1 : ∀ {L : List (Int × Int)} {j : Nat} (x : Int), j < L.length → (flatK 2 trmC L).set (j * 2 + 1) (.int .i64 x) = flatK 2 trmC (L.set j ((L.getD j default).1, x))
  | [], j, x, h => by simp at h
  | y :: l, 0, x, _ => by unfold flatK; simp [trmC, List.range, List.range.loop]
  | y :: l, j + 1, x, h => by
    have ih := flat_set1 (L := l) (j := j) x (by simpa using h)
    unfold flatK at ih ⊢
    rw [List.flatMap_cons, show (j + 1) * 2 + 1 = j * 2 + 1 + 2 by omega]
    simp only [List.set_cons_succ, List.flatMap_cons, List.getD_cons_succ]
    rw [← ih]
    simp [List.range, List.range.loop]
theorem src_trm {w : World} {v : Value} {ts : List (Int × Int)} (h : TabAt 2 trmC w v ts) (hn : NilOk v) : (v = .slice none 0 0 ∧ ts = []) ∨ ∃ (ad : Addr) (c : Nat), v = .slice (some ad) ts.length c ∧ ∀ j u, (flatK 2 trmC ts)[j]? = some u → w.cell? (ad.add j) = some u := by
  rcases h.2 with ⟨rfl, a, c, rfl⟩ | ⟨b, off, cap, rfl, h1, h2, h3, h4⟩
  · cases a with
    | none =>
      obtain ⟨_, rfl⟩ := hn _ _ rfl
      exact .inl ⟨rfl, rfl⟩
    | some ad => exact .inr ⟨ad, c, rfl, fun j u hu => by simp [flatK] at hu⟩
  · refine .inr ⟨_, cap, rfl, fun j u hu => ?_⟩
    have hj := (List.getElem?_eq_some_iff.1 hu).1
    rw [flat_len] at hj
    have e : j = j / 2 * 2 + j % 2 := by omega
    have hg := flat_get (f := trmC) (L := ts) (i := j / 2) (j := j % 2) (k := 2) (by omega) (by omega)
    rw [← e, hu] at hg
    have := h4 (j / 2) (by omega) (j % 2) (by omega)
    rw [Addr.add_lit, Option.some.inj hg]
    rwa [show off + j = off + j / 2 * 2 + j % 2 by omega]
/-- the copy of a list of terms -/
theorem copy_trm (W0 : World) {v : Value} {ts : List (Int × Int)} (h : TabAt 2 trmC W0 v ts) (hn : NilOk v) (hl : ts.length ≤ 1000) : ∃ g cap w', (Builtin.append_ #[66, 66] 66 #[.slice (some ⟨W0.heap.size, 0, none⟩) 0 0, v]).run Try.prog (W0.alloc (.cells #[] 73)) = .ok (.slice (some ⟨g, 0, none⟩) ts.length cap) w' ∧
    w'.ownsRow W0.heap.size 73 2 (.slice (some ⟨g, 0, none⟩) ts.length cap) ts.length (flatK 2 trmC ts) ∧ W0.heap.size ≤ g ∧ Below W0.heap.size W0 w' := by
  obtain ⟨i0, hi, hz0, hz1, hz2⟩ := info_parts Try.info73a
  have hown : (W0.alloc (.cells #[] 73)).ownsRow W0.heap.size 73 2 (.slice (some ⟨W0.heap.size, 0, none⟩) 0 0) 0 [] := World.ownsRow_lit (base := W0.heap.size) (e := 73) (size := 2) W0 #[] 0 (Nat.le_refl _) (by unfold maxLen; omega) rfl
  have hb : Below W0.heap.size W0 (W0.alloc (.cells #[] 73)) := (Below.refl _ _).alloc (Nat.le_refl _) _
  have h' := h.below hb
  rcases src_trm h' hn with ⟨rfl, rfl⟩ | ⟨ad, c, rfl, hc⟩
  · exact ⟨_, _, _, run_append_owned_none (P := Try.prog) (w := W0.alloc (.cells #[] 73)) W0.heap.size 66 66 73 i0 2 Try.underlying66 hi _ 0 [] hown, by simpa [flatK] using hown, Nat.le_refl _, hb⟩
  · obtain ⟨v', w', hr, h2, h3, h4, _⟩ := run_append_own_at (P := Try.prog) (W0.alloc (.cells #[] 73)) W0.heap.size 66 66 73 i0 (.agg #[.int .i64 0, .int .i64 0]) 2 16 Try.underlying66 hi hz0 hz1 hz2 rfl (by decide) _ 0 [] hown ad ts.length c (flatK 2 trmC ts) (flat_len 2 trmC ts) hc flat_one (by unfold maxLen; omega) (by omega) (by simp)
    rw [Nat.zero_add, List.nil_append] at h2
    have hne : v' ≠ .slice none 0 0 := fun e => by have := (h4.1 e).1; cases this
    have h2' := h2
    rcases h2.2 with ⟨e, _⟩ | ⟨g, cap, cur, rfl, hg, _⟩
    · exact absurd e hne
    · exact ⟨g, cap, w', hr, h2', hg, hb.grown h3 (by simp) (fun k e => by have e1 : W0.heap.size = k := Option.some.inj e; omega)⟩
theorem wpList_append_run {ops : Array Oper} {rest : List Oper} {o : Oper} {a : Act} {w : World} {Q : Exit → Act → World → Prop} (hgd : o.guard = none) (s x : Operand) (t : TypeId) (ho : o.op = .call { callee := .builtin .append, args := #[s, x], argTypes := #[t, t] }) {v u v' : Value} {w' : World}
    (hs : a.eval s = v) (hx : a.eval x = u) (hr : (Builtin.append_ #[t, t] o.type #[v, u]).run Try.prog w = .ok v' w') (h : wpList Try.prog ops Q rest (a.put o.dst v') w') : wpList Try.prog ops Q (o :: rest) a w :=
  wpList_plain hgd fun K hK => by
    unfold Oper.wp execOp
    simp only [ho, resolve, invoke, builtin, Sem.run_bind, Sem.run_pure, Result.andThen_ok, List.map_toArray, List.map_cons, List.map_nil, hs, hx, hr]
    exact hK _ _ h
theorem stepF_same (c : Cls) (p : Prf) (r : Row) (t : Int × Int) (h : r.cls ≠ p.cls ∨ (decide (r.day ≤ p.day) && decide (p.day < t.1)) = false) : stepF c p r t = t := by
  unfold stepF
  rcases h with h | h
  · rw [if_neg h]
  · split
    · unfold provF
      have : standsF r t.1 p.day ≠ 1 := by
        unfold standsF
        rw [Bool.and_eq_false_iff, decide_eq_false_iff_not, decide_eq_false_iff_not] at h
        split
        · omega
        · split
          · omega
          · omega
      rw [if_pos this]
    · rfl
theorem stepF_act (c : Cls) (p : Prf) (r : Row) (t : Int × Int) (h : r.cls = p.cls) (h2 : (decide (r.day ≤ p.day) && decide (p.day < t.1)) = true) : stepF c p r t = if c.fail < failsF p then (p.day + 1, t.2) else if t.2 < c.times then (t.1 + c.more, t.2 + 1) else t := by
  unfold stepF
  rw [if_pos h]
  unfold provF
  rw [Bool.and_eq_true, decide_eq_true_eq, decide_eq_true_eq] at h2
  have : ¬ standsF r t.1 p.day ≠ 1 := by
    unfold standsF
    rw [if_neg (by omega), if_pos h2.2]
    simp
  rw [if_neg this]
theorem getD_bang {α : Type} [Inhabited α] (l : List α) {k : Nat} (hk : k < l.length) : l.getD k default = l[k]! := by
  rw [getElem!_pos l k hk, List.getD, List.getElem?_eq_getElem hk]; rfl
set_option maxRecDepth 100000 in
set_option maxHeartbeats 12800000 in
theorem after_any (s : Stk) (ts : List (Int × Int)) (p : Prf) (v lv sv : Value) (w : World) (hs : StkAt w v s) (hl : TabAt 2 trmC w lv ts) (hnl : NilOk lv) (hpn : TabAt 1 numC w sv p.seals) (hok : stkOk s = true) (hts : TsOk s ts) (c : Nat) (hpc : p.cls = c) (hc : c < s.cs.length) (hd0 : 0 ≤ p.day) (hd1 : p.day ≤ 131072) (hf0 : 0 ≤ p.failed) (hf1 : p.failed < 1048576) :
    Calls Try.prog 46 #[v, lv, .agg #[.int .i64 p.cls, .int .i64 p.day, sv, .int .i64 p.failed]] w fun e w' => (∃ v', e = .returned v' ∧ TabAt 2 trmC w' v' (afterF s ts p) ∧ NilOk v') ∧ Below w.heap.size w w' := by
  have hfew := rows_few hok
  have hcls := clsOk_of hok hc
  have hstep := fun j (hj : j < s.rs.length) => mixT_step hts.1 p hj
  have hget := fun j (hj : j < s.rs.length) => afterF_get hts.1 p hj
  have hmix := fun j (hj : j < s.rs.length) => mixT_get hts.1 p hj
  have hmlen := fun j (hj : j ≤ s.rs.length) => mixT_len hts.1 p hj
  have hm0 := mixT_zero s ts p
  have hma := mixT_all hts.1 p
  obtain ⟨MX, hMX⟩ : ∃ f, f = mixT s ts p := ⟨_, rfl⟩
  obtain ⟨AF, hAF⟩ : ∃ f, f = afterF s ts p := ⟨_, rfl⟩
  rw [← hMX, ← hAF] at hma
  rw [← hMX] at hm0
  simp only [← hMX, ← hAF] at hstep
  simp only [← hAF] at hget ⊢
  simp only [← hMX] at hmix hmlen
  clear hMX hAF
  have HST := Lib.hid hstep
  have HGET := Lib.hid hget
  have HMIX := Lib.hid hmix
  have HML := Lib.hid hmlen
  have HM0 := Lib.hid hm0
  have HMA := Lib.hid hma
  have HTB := Lib.hid hts.2
  have HLEN := Lib.hid hts.1
  have hpass := fun (X : World) (vv : Value) (hX : StkAt X vv s) (hY : TabAt 1 numC X sv p.seals) => passes_any s p vv sv X hX hY hf0 hf1 (by omega) (by omega)
  have HPASS := Lib.hid hpass
  have HFEW := Lib.hid hfew
  have HCL := Lib.hid hcls
  have HPC := Lib.hid hpc
  have HD := Lib.hid (And.intro hd0 hd1)
  clear hstep hget hmix hmlen hm0 hma hts hpass hfew hcls hpc hd0 hd1 hf0 hf1
  obtain ⟨x0, x1, x2, x3⟩ := p
  try simp only [] at hpn
  obtain ⟨sa, sc, rfl⟩ := hpn.shape
  have mx : x2.length ≤ 9223372036854775807 := hpn.1
  have HPN := Lib.hid hpn
  have HL := Lib.hid hl
  have HNL := Lib.hid hnl
  have HOK := Lib.hid hok
  clear hpn hl hnl hok
  obtain ⟨cv, rv, pv, bv, rfl, hc, hr, hp, hb⟩ := hs
  obtain ⟨cs, rs, ps, bs⟩ := s
  simp only [] at hc hr hp hb
  obtain ⟨ca, cc, rfl⟩ := hc.shape
  obtain ⟨ra, rc, rfl⟩ := hr.shape
  obtain ⟨pa, pc, rfl⟩ := hp.shape
  obtain ⟨ba, bc, rfl⟩ := hb.shape
  have m1 : cs.length ≤ 9223372036854775807 := hc.1
  have m2 : rs.length ≤ 9223372036854775807 := hr.1
  have m3 : ps.length ≤ 9223372036854775807 := hp.1
  have m4 : bs.length ≤ 9223372036854775807 := hb.1
  obtain ⟨W0, hW0⟩ : ∃ X, X = w.alloc (.cells #[.slice ca cs.length cc, .slice ra rs.length rc, .slice pa ps.length pc, .slice ba bs.length bc] 27) := ⟨_, rfl⟩
  have hb0 : Below w.heap.size w W0 := by rw [hW0]; exact (Below.refl _ _).alloc (Nat.le_refl _) _
  have hr0 : W0.heap[w.heap.size]? = some (.cells #[.slice ca cs.length cc, .slice ra rs.length rc, .slice pa ps.length pc, .slice ba bs.length bc] 27 (0, 0)) := by rw [hW0]; exact alloc_heap w _
  have hc0 := Lib.hid (hc.below hb0)
  have hq0 := Lib.hid (hr.below hb0)
  have hp0 := Lib.hid (hp.below hb0)
  have hs0 := Lib.hid (hb.below hb0)
  obtain ⟨P, hP⟩ : ∃ P, w.heap.size = P := ⟨_, rfl⟩
  rw [hP] at hr0
  obtain ⟨d0, d1, d2, d3⟩ := four_cells hr0
  have HB := Lib.hid hb0
  have HR0 := Lib.hid hr0
  clear hr0 hb0 hc hr hp hb
  have hz0 : StkAt W0 (.agg #[.slice ca cs.length cc, .slice ra rs.length rc, .slice pa ps.length pc, .slice ba bs.length bc]) ⟨cs, rs, ps, bs⟩ := ⟨_, _, _, _, rfl, hc0.out, hq0.out, hp0.out, hs0.out⟩
  have HZ0 := Lib.hid hz0
  have hsz : W0.heap.size = P + 1 := by rw [hW0, ← hP]; simp
  have HSZ := Lib.hid hsz
  clear hz0 hsz
  go_enter Try.func46, Try.ntmps46
  go_upto_region 1 with fail
  rw [← hW0]
  clear hW0 hP
  obtain ⟨W1, hW1⟩ : ∃ X, W0.alloc (.cells #[.int .i64 x0, .int .i64 x1, .slice sa x2.length sc, .int .i64 x3] 52) = X := ⟨_, rfl⟩
  have hb1 : Below W0.heap.size W0 W1 := by rw [← hW1]; exact (Below.refl _ _).alloc (Nat.le_refl _) _
  have hq1 : W1.heap[P + 1]? = some (.cells #[.int .i64 x0, .int .i64 x1, .slice sa x2.length sc, .int .i64 x3] 52) := by rw [← hW1, ← HSZ.out]; exact alloc_heap W0 _
  have hr1 := box_step (w0 := w) HR0.out hb1
  rw [hW1]
  have H1 := Lib.hid hb1
  have HQ1 := Lib.hid hq1
  have HR1 := Lib.hid hr1
  have HPM := Lib.hid ((HPN.out.below HB.out).below hb1)
  have HLM := Lib.hid ((HL.out.below HB.out).below hb1)
  have HZ1 := Lib.hid (HZ0.out.below hb1)
  clear d0 d1 d2 d3 hW1 hb1 hq1 hr1
  have hlen := HLEN.out
  simp only [] at hlen
  have hfw := HFEW.out
  simp only [] at hfw
  obtain ⟨g, cap, w2, hrun, hown, hgz, hb2⟩ := copy_trm W1 HLM.out HNL.out (by omega)
  rw [hlen] at hrun hown
  have HRUN := Lib.hid hrun
  have HLE := Lib.hid hlen
  have hr2 := box_step (w0 := w) HR1.out hb2
  have hq2 := box_step (w0 := w) HQ1.out hb2
  obtain ⟨d0, d1, d2, d3⟩ := four_cells hr2
  obtain ⟨q0, q1, q2, q3⟩ := four_cells hq2
  replace hc : c < cs.length := hc
  obtain ⟨cb, co, e1, hcb, hcx⟩ := hc0.out.at (show 0 < cs.length by omega)
  subst e1
  have hB02 := H1.out.trans (hb2.mono H1.out.size)
  have u0 := (hB02.cell (p := ⟨cb, co + c * 4 + 0, none⟩) hcb).trans (hcx c hc 0 (by omega))
  have u1 := (hB02.cell (p := ⟨cb, co + c * 4 + 1, none⟩) hcb).trans (hcx c hc 1 (by omega))
  have u2 := (hB02.cell (p := ⟨cb, co + c * 4 + 2, none⟩) hcb).trans (hcx c hc 2 (by omega))
  have u3 := (hB02.cell (p := ⟨cb, co + c * 4 + 3, none⟩) hcb).trans (hcx c hc 3 (by omega))
  rw [getD_bang cs hc] at u0 u1 u2 u3
  have hcl := HCL.out
  simp only [] at hcl
  have hge := HGET.out
  have hpa := HPASS.out
  have hpc := HPC.out
  simp only [] at hge hpa hpc
  subst hpc
  simp only [Int.toNat_natCast, getD_bang cs hc] at hge hpa
  obtain ⟨⟨k0, k1, k2, k3⟩, hk⟩ : ∃ x : Cls, cs[c]! = x := ⟨_, rfl⟩
  rw [hk] at u0 u1 u2 u3 hcl hge
  simp only [hk] at hpa
  simp only [Nat.add_zero, clsC] at u0 u1 u2 u3
  simp only [] at hcl
  have HGE := Lib.hid hge
  have HPA := Lib.hid hpa
  have HCC := Lib.hid hcl
  have HB2 := Lib.hid hb2
  have HR2 := Lib.hid hr2
  have HQ2 := Lib.hid hq2
  have HOW := Lib.hid hown
  have HGZ := Lib.hid hgz
  have ic1 : (c : Int) < (cs.length : Int) := Int.ofNat_lt.2 hc
  have hgl : g < w2.heap.size := by
    rcases hown.2 with ⟨e, _⟩ | ⟨g', cap', cur, e, _, h2, _⟩
    · cases e
    · simp at e; rw [e.1]; exact (Array.getElem?_eq_some_iff.1 h2).1
  have HGL := Lib.hid hgl
  obtain ⟨W3, hW3⟩ : ∃ X, X = w2.alloc (.cells #[.int .i64 k0, .int .i64 k1, .int .i64 k2, .int .i64 k3] 50) := ⟨_, rfl⟩
  clear hrun hlen hcx hB02 hcl hge hpa hk hb2 hr2 hq2 hown hgz hgl HGET HPASS HPC HCL
  go_wp2_with (at_builtin; refine wpList_append_run rfl (.tmp 10) (.tmp 11) 66 rfl rfl rfl HRUN.out ?_)
  rw [← hW3]
  have how3 : W3.ownsRow W1.heap.size 73 2 (.slice (some ⟨g, 0, none⟩) rs.length cap) rs.length (flatK 2 trmC ts) := by rw [hW3]; exact HOW.out.alloc _
  have hcb3 : W3.heap[w2.heap.size]? = some (.cells #[.int .i64 k0, .int .i64 k1, .int .i64 k2, .int .i64 k3] 50 (0, 0)) := by rw [hW3]; exact alloc_heap w2 _
  have hb3 : Below W1.heap.size W1 W3 := by rw [hW3]; exact HB2.out.alloc HB2.out.size _
  have hCW : W1.heap.size ≤ w2.heap.size := HB2.out.size
  have hcg : w2.heap.size ≠ g := by have := HGL.out; omega
  obtain ⟨C, hC⟩ : ∃ C, w2.heap.size = C := ⟨_, rfl⟩
  rw [hC] at hcb3 hCW hcg ⊢
  have HO3 := Lib.hid how3
  have HC3 := Lib.hid hcb3
  have HB3 := Lib.hid hb3
  have HCG := Lib.hid hcg
  have HCW := Lib.hid hCW
  clear how3 hcb3 hb3 hcg hCW hC hW3 d0 d1 d2 d3 q0 q1 q2 q3 u0 u1 u2 u3
  go_loopw [9] (fun i wr => ∃ j : Nat, j ≤ rs.length ∧ i = .int .i64 j ∧ wr.ownsRow W1.heap.size 73 2 (.slice (some ⟨g, 0, none⟩) rs.length cap) rs.length (flatK 2 trmC (MX j)) ∧ wr.heap[C]? = some (.cells #[.int .i64 k0, .int .i64 k1, .int .i64 k2, .int .i64 k3] 50 (0, 0)) ∧ Below W1.heap.size W1 wr) (fun i _ => rs.length - (intOf i).toNat)
  case atStart => exact ⟨0, by omega, rfl, by rw [HM0.out]; exact HO3.out, HC3.out, HB3.out⟩
  case round =>
    obtain ⟨j, hj, rfl, how, hcc, hbw⟩ := hrel
    have HBW := Lib.hid hbw
    have HOW2 := Lib.hid how
    have HCC2 := Lib.hid hcc
    obtain ⟨d0, d1, d2, d3⟩ := four_cells (box_step (w0 := w) HR1.out hbw)
    obtain ⟨q0, q1, q2, q3⟩ := four_cells (box_step (w0 := w) HQ1.out hbw)
    clear how hcc
    by_cases hlt : j < rs.length
    · obtain ⟨rb, ro, e1, hrb, hrx⟩ := (hq0.out.below H1.out).at (show 0 < rs.length by omega)
      subst e1
      have g2 := (hbw.cell (p := ⟨rb, ro + j * 4 + 2, none⟩) hrb).trans (hrx j hlt 2 (by omega))
      obtain ⟨⟨r0, r1, r2, r3⟩, hr⟩ : ∃ x : Row, rs.getD j default = x := ⟨_, rfl⟩
      rw [hr] at g2
      simp only [rowC] at g2
      have hlen := HLE.out
      have hjt : j < ts.length := by omega
      have htb := HTB.out j hlt
      have hge := HGE.out j hlt
      have hst := HST.out j hlt
      have hmx := HMIX.out j hlt
      have hml := HML.out j hj
      rw [← getD_bang rs hlt, hr, ← getD_bang ts hjt] at hge
      rw [← getD_bang ts hjt] at htb
      rw [hge] at hst
      rw [← getD_bang ts hjt, ← getD_bang (MX j) (by omega)] at hmx
      obtain ⟨⟨t0, t1⟩, ht⟩ : ∃ x, ts.getD j default = x := ⟨_, rfl⟩
      rw [ht] at htb hst hmx
      simp only [] at htb
      have kf := fun (X : World) (hX : Below W1.heap.size W1 X) => force_any ⟨cs, rs, ps, bs⟩ ts j x1 _ lv X (HZ1.out.below hX) (HLM.out.below hX) hlt hjt
      simp only [hr, ht] at kf
      obtain ⟨F, hF⟩ : ∃ b, (decide (r3 ≤ x1) && decide (x1 < t0)) = b := ⟨_, rfl⟩
      simp only [hF] at kf
      have hsame := stepF_same ⟨k0, k1, k2, k3⟩ ⟨c, x1, x2, x3⟩ ⟨r0, r1, r2, r3⟩ (t0, t1)
      have hact := stepF_act ⟨k0, k1, k2, k3⟩ ⟨c, x1, x2, x3⟩ ⟨r0, r1, r2, r3⟩ (t0, t1)
      simp only [hF] at hsame hact
      have KF := Lib.hid kf
      have HSA := Lib.hid hsame
      have HAC := Lib.hid hact
      have HST2 := Lib.hid hst
      have HMX := Lib.hid hmx
      have HML2 := Lib.hid hml
      have HTB2 := Lib.hid htb
      have ij1 : (j : Int) < (rs.length : Int) := Int.ofNat_lt.2 hlt
      clear hrx hr hlen hjt htb hge hst hmx hml ht hF hsame hact kf
      obtain ⟨wo, hwo⟩ : ∃ wo : World, wo = wr := ⟨_, rfl⟩
      subst hwo
      have C1 := fun d os => Calls.regrown_of (KF.out _ (HBW.out.trans ((below_regrown wo d os).mono HBW.out.size)))
      have k0' := cell_regrown d0
      have k1' := cell_regrown d1
      have k2' := cell_regrown d2
      have k3' := cell_regrown d3
      have k4' := cell_regrown q0
      have k5' := cell_regrown q1
      have k6' := cell_regrown g2
      clear hbw
      go_upto_region 6 with fail
      go_cut [42] (fun r wc => r = .bool (!(r2 == (c : Int)) || !F) ∧ Below wo.heap.size wo wc)
      case first =>
        by_cases hcl : r2 = (c : Int)
        · have i3 : (r2 != (c : Int)) = false := by rw [hcl]; simp
          cases F
          all_goals
            refine wp_region_quiet_below (by kernel_rfl) (by kernel_rfl) ?_
            repeat (go_big_quiet_step (first | with_reducible exact C1 _ _))
            refine wpQuiet_nil ?_
            intro _ hw'
            obtain ⟨⟨dq, osq⟩, hw''⟩ := hw'
            subst hw''
            go_wp2
            go_meet
            case rel => exact ⟨by rw [hcl]; simp, below_regrown wo dq osq⟩
        · have i3 : (r2 != (c : Int)) = true := bne_iff_ne.2 hcl
          refine wp_region_quiet_below (by kernel_rfl) (by kernel_rfl) ?_
          repeat (go_big_quiet_step (first | with_reducible exact C1 _ _))
          refine wpQuiet_nil ?_
          intro _ hw'
          obtain ⟨⟨dq, osq⟩, hw''⟩ := hw'
          subst hw''
          go_wp2
          go_meet
          case rel => exact ⟨by rw [show (r2 == (c : Int)) = false by simpa using hcl]; rfl, below_regrown wo dq osq⟩
      case rest =>
        obtain ⟨rfl, hbc⟩ := hcut
        have HB4 := Lib.hid (HBW.out.trans (hbc.mono HBW.out.size))
        have HO4 := Lib.hid (row_below HOW2.out hbc)
        have HC4 := Lib.hid (box_step (w0 := w) HCC2.out hbc)
        clear hbc d0 d1 d2 d3 q0 q1 q2 q3 g2 k0' k1' k2' k3' k4' k5' k6' C1
        obtain ⟨Bz, hBz⟩ : ∃ b, (!(r2 == (c : Int)) || !F) = b := ⟨_, rfl⟩
        rw [hBz]
        cases Bz with
        | true =>
          have hsm : MX (j + 1) = MX j := by
            rw [HST2.out, HSA.out (by
              by_cases h : r2 = (c : Int)
              · right; have : (!(r2 == (c : Int)) || !F) = true := hBz; rw [h] at this; simpa using this
              · left; exact h), ← HMX.out]
            have hjm : j < (MX j).length := by have := HML2.out; omega
            rw [List.getD, List.getElem?_eq_getElem hjm]
            exact List.set_getElem_self hjm
          have HSM := Lib.hid hsm
          clear hBz hsm
          go_wp2
          go_roundw
          case rel => exact ⟨j + 1, by omega, by go_num, by rw [HSM.out]; exact HO4.out, HC4.out, HB4.out⟩
          case measure => simp [intOf]; omega
        | false =>
          have hcf : r2 = (c : Int) ∧ F = true := by
            rw [Bool.or_eq_false_iff] at hBz
            simpa using hBz
          have hac := HAC.out hcf.1 hcf.2
          have kp := HPA.out wc _ (HZ1.out.below HB4.out) (HPM.out.below HB4.out)
          obtain ⟨fl, hfl⟩ : ∃ x, failsF ⟨c, x1, x2, x3⟩ = x := ⟨_, rfl⟩
          rw [hfl] at hac kp
          have HAC2 := Lib.hid hac
          have KP := Lib.hid kp
          obtain ⟨d0, d1, d2, d3⟩ := four_cells (box_step (w0 := w) HR1.out HB4.out)
          obtain ⟨q0, q1, q2, q3⟩ := four_cells (box_step (w0 := w) HQ1.out HB4.out)
          clear hac kp hfl hBz hcf
          go_wp2_with fail
          refine KP.out.mono ?_
          rintro e w5 ⟨rfl, hb5⟩
          have HB5 := Lib.hid (HB4.out.trans (hb5.mono HB4.out.size))
          have HO5 := Lib.hid (row_below HO4.out hb5)
          have HC5 := Lib.hid (box_step (w0 := w) HC4.out hb5)
          clear d0 d1 d2 d3 q0 q1 q2 q3 hb5
          obtain ⟨q0, q1, q2, q3⟩ := four_cells (box_step (w0 := w) HQ1.out HB5.out)
          obtain ⟨e0, e1, e2, e3⟩ := four_cells HC5.out
          have hjm : j < (MX j).length := by have := HML2.out; omega
          have hfz := HO5.out.frozenAt
          have hce : ∀ i u, (flatK 2 trmC (MX j))[i]? = some u → w5.cell? ((⟨g, 0, none⟩ : Addr).add i) = some u := HO5.out.cells (g := g) rfl
          have m0 := hce _ _ (flat_get (f := trmC) (k := 2) (L := MX j) (i := j) (j := 0) hjm (by omega))
          have m1 := hce _ _ (flat_get (f := trmC) (k := 2) (L := MX j) (i := j) (j := 1) hjm (by omega))
          rw [HMX.out] at m0 m1
          rw [Addr.add_lit] at m0 m1
          simp only [Nat.zero_add, Nat.add_zero, trmC] at m0 m1
          have f0 := hfz (j * 2)
          have f1 := hfz (j * 2 + 1)
          have tb := HTB2.out
          have cc := HCC.out
          have hdd := HD.out
          try simp only [] at cc hdd
          have w1e : IntKind.i64.wrap (x1 + 1) = x1 + 1 := IntWalk.i64_in _ (by omega)
          have w2e : IntKind.i64.wrap (t0 + k2) = t0 + k2 := IntWalk.i64_in _ (by omega)
          have w3e : IntKind.i64.wrap (t1 + 1) = t1 + 1 := IntWalk.i64_in _ (by omega)
          have hac := HAC2.out
          try simp only [] at hac
          have HAC3 := Lib.hid hac
          clear hac hfz hce tb cc hdd
          by_cases hfl : fl ≤ k3
          · have i5 : decide (fl ≤ k3) = true := decide_eq_true hfl
            rw [i5]
            have hno : ¬ k3 < fl := Int.not_lt.2 hfl
            by_cases htt : t1 < k1
            · have HN1 := Lib.hid (show MX (j + 1) = (MX j).set j (t0 + k2, t1 + 1) by rw [HST2.out, HAC3.out, if_neg hno, if_pos htt])
              clear hno
              go_upto_region 9 with fail
              go_quiet (fail)
              have HB6 := Lib.hid (below_drewn HB5.out nq)
              have HO6 := Lib.hid (row_below HO5.out (below_drewn (Below.refl _ w5) nq))
              have hc6 : (w5.drewN nq).heap[C]? = some (.cells #[.int .i64 k0, .int .i64 k1, .int .i64 k2, .int .i64 k3] 50 (0, 0)) := HC5.out
              have m0' : (w5.drewN nq).cell? ⟨g, j * 2, none⟩ = some (.int .i64 t0) := m0
              have m1' : (w5.drewN nq).cell? ⟨g, j * 2 + 1, none⟩ = some (.int .i64 t1) := m1
              obtain ⟨w6, hw6⟩ : ∃ X, w5.drewN nq = X := ⟨_, rfl⟩
              rw [hw6] at HB6 HO6 hc6 m0' m1' ⊢
              have HC6 := Lib.hid hc6
              clear hw6 m0 m1 e0 e1 e2 e3 f0 f1 q0 q1 q2 q3 hc6
              obtain ⟨e0, e1, e2, e3⟩ := four_cells HC6.out
              have f0 : w6.frozen? ⟨g, j * 2, none⟩ = false := HO6.out.frozenAt (j * 2)
              have f1 : w6.frozen? ⟨g, j * 2 + 1, none⟩ = false := HO6.out.frozenAt (j * 2 + 1)
              go_upto_region 10 with fail
              go_region
              go_upto_region 11 with fail
              have hso := (HO6.out.stored (j * 2) (.int .i64 (t0 + k2))).1
              rw [flat_set0 (t0 + k2) hjm, HMX.out] at hso
              simp only [] at hso
              obtain ⟨W7, hW7⟩ : ∃ X, X = (w6.setCell ⟨g, j * 2, none⟩ (.int .i64 (t0 + k2))).drew := ⟨_, rfl⟩
              have ho7 : W7.ownsRow W1.heap.size 73 2 (.slice (some ⟨g, 0, none⟩) rs.length cap) rs.length (flatK 2 trmC ((MX j).set j (t0 + k2, t1))) := by rw [hW7]; exact row_below hso (Below.refl _ _).drew
              have hc7 : W7.heap[C]? = some (.cells #[.int .i64 k0, .int .i64 k1, .int .i64 k2, .int .i64 k3] 50 (0, 0)) := by rw [hW7]; exact (Below.heap_setCell _ _ _ _ (by simpa using HCG.out)).trans HC6.out
              have hb7 : Below W1.heap.size W1 W7 := by rw [hW7]; exact (HB6.out.setCell HGZ.out _).drew
              rw [← hW7]
              have hjm2 : j < ((MX j).set j (t0 + k2, t1)).length := by simpa using hjm
              have hgs : ((MX j).set j (t0 + k2, t1)).getD j default = (t0 + k2, t1) := by simp [List.getD, hjm]
              have hce7 : ∀ i u, (flatK 2 trmC ((MX j).set j (t0 + k2, t1)))[i]? = some u → W7.cell? ((⟨g, 0, none⟩ : Addr).add i) = some u := ho7.cells (g := g) rfl
              have m1'' := hce7 _ _ (flat_get (f := trmC) (k := 2) (i := j) (j := 1) hjm2 (by omega))
              rw [hgs, Addr.add_lit] at m1''
              simp only [Nat.zero_add, trmC] at m1''
              have f1' : W7.frozen? ⟨g, j * 2 + 1, none⟩ = false := ho7.frozenAt (j * 2 + 1)
              have hso8 := (ho7.stored (j * 2 + 1) (.int .i64 (t1 + 1))).1
              rw [flat_set1 (t1 + 1) hjm2, hgs] at hso8
              simp only [List.set_set] at hso8
              rw [← HN1.out] at hso8
              have HSO := Lib.hid hso8
              have HC8 := Lib.hid (show (W7.setCell ⟨g, j * 2 + 1, none⟩ (.int .i64 (t1 + 1))).heap[C]? = _ from (Below.heap_setCell _ _ _ _ (by simpa using HCG.out)).trans hc7)
              have HB8 := Lib.hid (show Below W1.heap.size W1 (W7.setCell ⟨g, j * 2 + 1, none⟩ (.int .i64 (t1 + 1))) from hb7.setCell HGZ.out _)
              clear hso ho7 hc7 hb7 hjm2 hgs hce7 hso8 hW7 m0' m1' f0 f1 e0 e1 e2 e3
              go_wp2
              go_roundw
              case rel => exact ⟨j + 1, by omega, by go_num, HSO.out, HC8.out, HB8.out⟩
              case measure => simp [intOf]; omega
            · have hsm : MX (j + 1) = MX j := by
                rw [HST2.out, HAC3.out, if_neg hno, if_neg htt, ← HMX.out]
                rw [List.getD, List.getElem?_eq_getElem hjm]
                exact List.set_getElem_self hjm
              have HSM := Lib.hid hsm
              clear hsm hno
              go_upto_region 9 with fail
              go_quiet (fail)
              go_wp2
              go_roundw
              case rel => exact ⟨j + 1, by omega, by go_num, by rw [HSM.out]; exact row_below HO5.out (below_drewn (Below.refl _ w5) _), HC5.out, below_drewn HB5.out _⟩
              case measure => simp [intOf]; omega
          · have i5 : decide (fl ≤ k3) = false := decide_eq_false hfl
            rw [i5]
            have hso := (HO5.out.stored (j * 2) (.int .i64 (x1 + 1))).1
            rw [flat_set0 (x1 + 1) hjm, HMX.out] at hso
            have hn : MX (j + 1) = (MX j).set j (x1 + 1, t1) := by rw [HST2.out, HAC3.out, if_pos (Int.not_le.1 hfl)]
            rw [← hn] at hso
            have HSO := Lib.hid hso
            have HC6 := Lib.hid (show (w5.setCell ⟨g, j * 2, none⟩ (.int .i64 (x1 + 1))).heap[C]? = _ from (Below.heap_setCell _ _ _ _ (by simpa using HCG.out)).trans HC5.out)
            have HB6 := Lib.hid (show Below W1.heap.size W1 (w5.setCell ⟨g, j * 2, none⟩ (.int .i64 (x1 + 1))) from HB5.out.setCell HGZ.out _)
            clear hso hn
            go_wp2
            go_roundw
            case rel => exact ⟨j + 1, by omega, by go_num, HSO.out, HC6.out, HB6.out⟩
            case measure => simp [intOf]; omega
    · have hjl : j = rs.length := by omega
      have hma := HMA.out
      rw [← hjl] at hma
      have hml := HML.out j hj
      have hown := HOW2.out
      rw [hma] at hown hml
      have ht := tab_of_own hown hml.symm (by rw [hml]; have hf9 : rs.length ≤ 24 := HFEW.out; unfold maxLen; omega)
      have HT := Lib.hid ht
      have i1 : ¬ (j : Int) < (rs.length : Int) := by omega
      clear hjl hma hml hown ht hlt hj hbw
      go_wp2
      go_ret
      exact ⟨⟨_, rfl, HT.out, fun n' c' e => by cases e⟩, HB.out.trans ((H1.out.trans (HBW.out.mono H1.out.size)).mono HB.out.size)⟩
end Go.Proofs.Ytcmfplfnpjknlaa
