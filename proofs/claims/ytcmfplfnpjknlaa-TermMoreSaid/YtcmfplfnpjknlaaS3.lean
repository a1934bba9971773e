/- Term: the walk of TermMore. -/
import Derived.Test.YtcmfplfnpjknlaaA29
import Derived.Test.YtcmfplfnpjknlaaA27
import Derived.Test.YtcmfplfnpjknlaaB30
import Derived.Test.YtcmfplfnpjknlaaM6
import Derived.Test.YtcmfplfnpjknlaaG1
namespace Go.Proofs.Ytcmfplfnpjknlaa
set_option linter.unusedSimpArgs false
set_option linter.unusedVariables false
open Go.RowKit Go.Maps

theorem own_below {X Y : World} {base : Nat} {e : TypeId} {k n : Nat} {v : Value} {xs : List Value} (h : X.ownsRow base e k v n xs) (hb : Below X.heap.size X Y) : Y.ownsRow base e k v n xs := by
  refine ⟨h.1, ?_⟩
  rcases h.2 with h | ⟨g, cap, cur, e1, h1, h2, h3⟩
  · exact .inl h
  · exact .inr ⟨g, cap, cur, e1, h1, (hb.block g (Array.getElem?_eq_some_iff.1 h2).1).trans h2, h3⟩
theorem getD_bang' {α : Type} [Inhabited α] (l : List α) {k : Nat} (hk : k < l.length) : l.getD k default = l[k]! := by
  rw [getElem!_pos l k hk, List.getD, List.getElem?_eq_getElem hk]; rfl
set_option maxRecDepth 100000 in
set_option maxHeartbeats 12800000 in
theorem more_law (s : Stk) (p : Prf) (n : Int) (v sv : Value) (w : World) (hs : StkAt w v s) (hpn : TabAt 1 numC w sv p.seals) (hnil : ∀ cv rv pv bv, v = .agg #[cv, rv, pv, bv] → NilOk pv) :
    Calls Try.prog 7 #[v, .agg #[.int .i64 p.cls, .int .i64 p.day, sv, .int .i64 p.failed], .int .i64 n] w fun e w' => e = .returned (.bool true) ∧ Below w.heap.size w w' := by
  obtain ⟨x0, x1, x2, x3⟩ := p
  simp only [] at hpn
  obtain ⟨sa, sc, rfl⟩ := hpn.shape
  obtain ⟨x2n, hx2n⟩ : ∃ k, x2.length = k := ⟨_, rfl⟩
  have mx : x2n ≤ 9223372036854775807 := by rw [← hx2n]; exact hpn.1
  rw [hx2n] at hpn ⊢
  have HPN := Lib.hid hpn
  have HXN := Lib.hid hx2n
  clear hpn hx2n
  obtain ⟨cv, rv, pv, bv, rfl, hc, hr, hp, hb⟩ := hs
  obtain ⟨cs, rs, ps, bs⟩ := s
  simp only [] at hc hr hp hb
  obtain ⟨ca, cc, rfl⟩ := hc.shape
  obtain ⟨ra, rc, rfl⟩ := hr.shape
  obtain ⟨pa, pc, rfl⟩ := hp.shape
  obtain ⟨ba, bc, rfl⟩ := hb.shape
  have m1 : cs.length ≤ 9223372036854775807 := hc.1
  have m2 : rs.length ≤ 9223372036854775807 := hr.1
  have m3 : ps.length ≤ 9223372036854775807 := hp.1
  have m4 : bs.length ≤ 9223372036854775807 := hb.1
  obtain ⟨W0, hW0⟩ : ∃ X, X = w.alloc (.cells #[.slice ca cs.length cc, .slice ra rs.length rc, .slice pa ps.length pc, .slice ba bs.length bc] 27) := ⟨_, rfl⟩
  have hb0 : Below w.heap.size w W0 := by rw [hW0]; exact (Below.refl _ _).alloc (Nat.le_refl _) _
  have hr0 : W0.heap[w.heap.size]? = some (.cells #[.slice ca cs.length cc, .slice ra rs.length rc, .slice pa ps.length pc, .slice ba bs.length bc] 27 (0, 0)) := by rw [hW0]; exact alloc_heap w _
  have hc0 := Lib.hid (hc.below hb0)
  have hq0 := Lib.hid (hr.below hb0)
  have hp0 := Lib.hid (hp.below hb0)
  have hs0 := Lib.hid (hb.below hb0)
  obtain ⟨P, hP⟩ : ∃ P, w.heap.size = P := ⟨_, rfl⟩
  rw [hP] at hr0
  obtain ⟨d0, d1, d2, d3⟩ := four_cells hr0
  have HB := Lib.hid hb0
  have HR0 := Lib.hid hr0
  clear hr0 hb0 hc hr hp hb
  have hnl : NilOk (.slice pa ps.length pc) := hnil _ _ _ _ rfl
  have hz0 : StkAt W0 (.agg #[.slice ca cs.length cc, .slice ra rs.length rc, .slice pa ps.length pc, .slice ba bs.length bc]) ⟨cs, rs, ps, bs⟩ := ⟨_, _, _, _, rfl, hc0.out, hq0.out, hp0.out, hs0.out⟩
  have hsz : W0.heap.size = w.heap.size + 1 := by rw [hW0]; simp
  rw [hP] at hsz
  have HSZ := Lib.hid hsz
  have HNL := Lib.hid hnl
  have KL := Lib.hid (fun (X : World) (hX : Below W0.heap.size W0 X) => large_any ⟨cs, rs, ps, bs⟩ 1099511627776 _ X (hz0.below hX))
  have KA := Lib.hid (fun (X : World) => awake_any X)
  have KE := Lib.hid (fun (X : World) (hX : Below W0.heap.size W0 X) => end_any ⟨cs, rs, ps, bs⟩ _ n X (hz0.below hX))
  have HZ0 := Lib.hid hz0
  clear hz0 hsz hnil hnl
  go_enter Try.func7, Try.ntmps7
  go_upto_region 1 with fail
  rw [← hW0]
  clear hW0 hP
  obtain ⟨W1, hW1⟩ : ∃ X, W0.alloc (.cells #[.int .i64 x0, .int .i64 x1, .slice sa x2n sc, .int .i64 x3] 52) = X := ⟨_, rfl⟩
  have hb1 : Below W0.heap.size W0 W1 := by rw [← hW1]; exact (Below.refl _ _).alloc (Nat.le_refl _) _
  have hq1 : W1.heap[P + 1]? = some (.cells #[.int .i64 x0, .int .i64 x1, .slice sa x2n sc, .int .i64 x3] 52) := by rw [← hW1, ← HSZ.out]; exact alloc_heap W0 _
  rw [hW1]
  have HPM := Lib.hid ((HPN.out.below HB.out).below hb1)
  clear d0 d1 d2 d3 hW1
  obtain ⟨d0, d1, d2, d3⟩ := four_cells (box_step (w0 := w) HR0.out hb1)
  obtain ⟨q0, q1, q2, q3⟩ := four_cells hq1
  have H1 := Lib.hid hb1
  have HQ1 := Lib.hid hq1
  clear hb1 hq1
  go_wp2_with fail
  refine (KL.out _ H1.out).mono ?_
  rintro e W2 ⟨⟨b, rfl⟩, hb2⟩
  have HX2 := Lib.hid hb2
  have H2 := Lib.hid (H1.out.trans (hb2.mono H1.out.size))
  clear d0 d1 d2 d3 q0 q1 q2 q3 KL
  obtain ⟨d0, d1, d2, d3⟩ := four_cells (box_step (w0 := w) HR0.out H2.out)
  obtain ⟨q0, q1, q2, q3⟩ := four_cells (box_step (w0 := w) HQ1.out hb2)
  clear hb2
  cases b with
  | true =>
    go_wp2_with fail
    refine (KA.out _).mono ?_
    rintro e Wz ⟨rfl, hbz⟩
    go_wp2
    go_ret
    exact ⟨rfl, HB.out.trans ((H2.out.trans (hbz.mono H2.out.size)).mono HB.out.size)⟩
  | false =>
    by_cases hl12 : (12 : Int) ≤ (ps.length : Int)
    · go_wp2_with fail
      refine (KA.out _).mono ?_
      rintro e Wz ⟨rfl, hbz⟩
      go_wp2
      go_ret
      exact ⟨rfl, HB.out.trans ((H2.out.trans (hbz.mono H2.out.size)).mono HB.out.size)⟩
    · by_cases hl30 : (30 : Int) < (x2n : Int)
      · go_wp2_with fail
        refine (KA.out _).mono ?_
        rintro e Wz ⟨rfl, hbz⟩
        go_wp2
        go_ret
        exact ⟨rfl, HB.out.trans ((H2.out.trans (hbz.mono H2.out.size)).mono HB.out.size)⟩
      · go_wp2
        clear d0 d1 d2 d3 q0 q1 q2 q3
        go_loopw [7] (fun i wr => ∃ (j : Nat), j ≤ ps.length ∧ i = .int .i64 j ∧ (∀ k, k < j → ps[k]!.day ≤ x1) ∧ Below W2.heap.size W2 wr) (fun i _ => ps.length - (intOf i).toNat)
        case atStart => exact ⟨0, by omega, rfl, fun k hk => absurd hk (Nat.not_lt_zero k), Below.refl _ _⟩
        case round =>
          obtain ⟨j, hj, rfl, hall, hbel⟩ := hrel
          have HX3 := Lib.hid (HX2.out.trans (hbel.mono HX2.out.size))
          have H3 := Lib.hid (H1.out.trans (HX3.out.mono H1.out.size))
          have HBL := Lib.hid hbel
          have HAL := Lib.hid hall
          obtain ⟨d0, d1, d2, d3⟩ := four_cells (box_step (w0 := w) HR0.out H3.out)
          obtain ⟨q0, q1, q2, q3⟩ := four_cells (box_step (w0 := w) HQ1.out HX3.out)
          clear hbel hall
          by_cases hlt : j < ps.length
          · obtain ⟨pb, po, e1, hpb, hpx⟩ := (hp0.out.below H3.out).at (by omega)
            subst e1
            obtain ⟨tv, t0, t1, t2, t3, t4⟩ := hpx j hlt
            have hpj := getD_bang' ps hlt
            obtain ⟨⟨y0, y1, y2, y3⟩, hy⟩ : ∃ p, ps[j]! = p := ⟨_, rfl⟩
            rw [hpj, hy] at t1
            simp only [] at t1
            have HY := Lib.hid hy
            have ij1 : (j : Int) < (ps.length : Int) := by omega
            clear hpx hpj hy t0 t2 t3 t4
            by_cases hd : x1 < y1
            · go_upto_region 6 with fail
              go_quiet (fail)
              go_wp2_with fail
              refine (KA.out _).mono ?_
              rintro e Wz ⟨rfl, hbz⟩
              go_wp2
              go_ret
              have H4 := Lib.hid (below_drewn H3.out nq)
              exact ⟨rfl, HB.out.trans ((H4.out.trans (hbz.mono H4.out.size)).mono HB.out.size)⟩
            · have HN := Lib.hid (show ∀ k, k < j + 1 → ps[k]!.day ≤ x1 from fun k hk => by
                by_cases e : k = j
                · rw [e, HY.out]; show y1 ≤ x1; omega
                · exact HAL.out k (by omega))
              go_upto_region 6 with fail
              go_quiet (fail)
              go_wp2
              go_roundw
              case rel => exact ⟨j + 1, by omega, by go_num, HN.out, below_drewn HBL.out _⟩
              case measure => simp [intOf]; omega
          · have hjl : j = ps.length := by omega
            subst hjl
            have i1 : ¬ (ps.length : Int) < (ps.length : Int) := by omega
            obtain ⟨F, hFv, hFs⟩ := vals_of (hp0.out.below H3.out) HNL.out
            have hP := (Array.getElem?_eq_some_iff.1 (box_step (w0 := w) HR0.out H3.out)).1
            have hM := (Array.getElem?_eq_some_iff.1 (box_step (w0 := w) HQ1.out HX3.out)).1
            obtain ⟨X0, hX0⟩ : ∃ X, X = wr.alloc (.cells #[.slice ca cs.length cc, .slice ra rs.length rc, .slice pa ps.length pc, .slice ba bs.length bc] 27) := ⟨_, rfl⟩
            have hB0 : Below wr.heap.size wr X0 := by rw [hX0]; exact (Below.refl _ _).alloc (Nat.le_refl _) _
            have hRX : X0.heap[wr.heap.size]? = some (.cells #[.slice ca cs.length cc, .slice ra rs.length rc, .slice pa ps.length pc, .slice ba bs.length bc] 27) := by rw [hX0]; exact alloc_heap wr _
            have hzX : X0.heap.size = wr.heap.size + 1 := by rw [hX0]; simp
            have hS1 := box_step (w0 := w) (box_step (w0 := w) HR0.out H3.out) hB0
            have hS2 := box_step (w0 := w) (box_step (w0 := w) HQ1.out HX3.out) hB0
            obtain ⟨Xb, hXb⟩ : ∃ n, wr.heap.size = n := ⟨_, rfl⟩
            have HB0 := Lib.hid hB0
            rw [hXb] at hRX hzX hP hM
            have HXB := Lib.hid hXb
            have HFV := Lib.hid hFv
            have HFS := Lib.hid (hFs.below hB0)
            have HF1 := Lib.hid hFv.one
            have HALL := Lib.hid HAL.out
            clear hFv hFs hB0
            go_upto_region 9 with fail
            rw [← hX0]
            clear hX0 hXb d0 d1 d2 d3 q0 q1 q2 q3
            go_cut [8] (fun x wc => x = .pointer (some ⟨Xb, 0, none⟩) ∧ Below wr.heap.size wr wc ∧ ∃ g cp, wc.heap[Xb]? = some (.cells #[.slice ca cs.length cc, .slice ra rs.length rc, .slice (some ⟨g, 0, none⟩) (ps.length + 1) cp, .slice ba bs.length bc] 27 (0, 0)) ∧ PrfAt wc (.slice (some ⟨g, 0, none⟩) (ps.length + 1) cp) (ps ++ [⟨x0, x1, x2, x3⟩]))
            case first =>
              refine wp_region_last (fun w' => w'.heap[P]? = some (.cells #[.slice ca cs.length cc, .slice ra rs.length rc, .slice pa ps.length pc, .slice ba bs.length bc] 27) ∧ w'.heap[P + 1]? = some (.cells #[.int .i64 x0, .int .i64 x1, .slice sa x2n sc, .int .i64 x3] 52) ∧ w'.heap[Xb]? = some (.cells #[.slice ca cs.length cc, .slice ra rs.length rc, .slice pa ps.length pc, .slice ba bs.length bc] 27)) 8 (by kernel_rfl) ⟨hS1, hS2, hRX⟩ (fun hHeld => ?_)
              obtain ⟨Y0, hY0⟩ : ∃ X, X = X0.drew := ⟨_, rfl⟩
              have hbY : Below X0.heap.size X0 Y0 := by rw [hY0]; exact (Below.refl _ _).drew
              rw [← hY0] at hHeld ⊢
              have hH := Lib.hid hHeld
              have hzY : X0.heap.size ≤ Y0.heap.size := hbY.size
              clear hY0 hHeld hS1 hS2 hRX
              refine wpLast_take (i := 1) (oi := _) (v := ?_) rfl (by kernel_rfl) (by kernel_rfl) (by decide) (by kernel_rfl) (by kernel_rfl) (fun _ _ _ h => h) (Or.inl ⟨by rfl, ?_⟩) hH.out ?_
              rotate_left
              · intro w1 hSw
                obtain ⟨s1, s2, s3⟩ := hSw
                obtain ⟨d0, d1, d2, d3⟩ := four_cells s1
                obtain ⟨q0, q1, q2, q3⟩ := four_cells s2
                clear s1 s2 s3
                go_simp; with_reducible rfl
              simp only [List.getElem_toArray, List.getElem_cons_succ, List.getElem_cons_zero, Act.put, List.setIfInBounds_toArray, List.set_cons_zero, List.set_cons_succ]
              refine wpLast_take (i := 2) (oi := _) (v := ?_) rfl (by kernel_rfl) (by kernel_rfl) (by decide) (by kernel_rfl) (by kernel_rfl) (fun _ _ _ h => h) (Or.inl ⟨by rfl, ?_⟩) hH.out ?_
              rotate_left
              · intro w1 hSw
                obtain ⟨s1, s2, s3⟩ := hSw
                obtain ⟨d0, d1, d2, d3⟩ := four_cells s1
                obtain ⟨q0, q1, q2, q3⟩ := four_cells s2
                clear s1 s2 s3
                go_simp; with_reducible rfl
              simp only [List.getElem_toArray, List.getElem_cons_succ, List.getElem_cons_zero, Act.put, List.setIfInBounds_toArray, List.set_cons_zero, List.set_cons_succ]
              refine wpLast_take (i := 4) (oi := _) (v := ?_) rfl (by kernel_rfl) (by kernel_rfl) (by decide) (by kernel_rfl) (by kernel_rfl) (fun _ _ _ h => h) (Or.inl ⟨by rfl, ?_⟩) hH.out ?_
              rotate_left
              · intro w1 hSw
                obtain ⟨s1, s2, s3⟩ := hSw
                obtain ⟨d0, d1, d2, d3⟩ := four_cells s1
                obtain ⟨q0, q1, q2, q3⟩ := four_cells s2
                clear s1 s2 s3
                go_simp; with_reducible rfl
              simp only [List.getElem_toArray, List.getElem_cons_succ, List.getElem_cons_zero, Act.put, List.setIfInBounds_toArray, List.set_cons_zero, List.set_cons_succ]
              refine wpLast_ready (rs := [0, 5]) (by kernel_rfl) (by simp) ?_
              intro i hi
              rcases (by simpa using hi : i = 0 ∨ i = 5) with rfl | rfl <;> clear hi
              · refine wpOp_step rfl (fun K3 hK3 => ?_)
                have HK3 := Lib.hid hK3
                clear hK3
                rw [if_pos (by rfl)]
                go_simp
                obtain ⟨g1, eg1⟩ : ∃ g, g = Y0.heap.size := ⟨_, rfl⟩
                obtain ⟨Y00, eY⟩ : ∃ Y, Y = Y0.alloc (.cells #[] 52) := ⟨_, rfl⟩
                have hXY : Below Y0.heap.size Y0 Y00 := by rw [eY]; exact (Below.refl _ _).alloc (Nat.le_refl _) _
                have h1 : Y00.ownsRow X0.heap.size 52 4 (.slice (some ⟨g1, 0, none⟩) 0 0) 0 [] := by rw [eY, eg1]; exact World.ownsRow_lit Y0 #[] 0 (by omega) (by decide) rfl
                have hgz : g1 < Y00.heap.size := by rw [eY, eg1]; simp
                have hgl : X0.heap.size ≤ g1 := by omega
                rw [← eY, ← eg1]
                clear eY eg1
                replace hH := Lib.hid (And.intro ((hXY.block P (by omega)).trans hH.out.1) (And.intro ((hXY.block (P + 1) (by omega)).trans hH.out.2.1) ((hXY.block Xb (by omega)).trans hH.out.2.2)))
                replace hbY := hbY.trans (hXY.mono hzY)
                replace hzY := hbY.size
                clear hXY
                refine HK3.out _ _ ⟨fun _ => hH.out, fun _ => ?_⟩
                clear HK3 K3
                try simp only [List.getElem_toArray, List.getElem_cons_succ, List.getElem_cons_zero, Act.put, List.setIfInBounds_toArray, List.set_cons_zero, List.set_cons_succ]
                refine wpLast_ready (rs := [3, 5]) (by kernel_rfl) (by simp) ?_
                intro i hi
                rcases (by simpa using hi : i = 3 ∨ i = 5) with rfl | rfl <;> clear hi
                · refine wpOp_step rfl (fun K3 hK3 => ?_)
                  have HK3 := Lib.hid hK3
                  clear hK3
                  rw [if_pos (by rfl)]
                  simp only [List.getElem_toArray, List.getElem_cons_succ, List.getElem_cons_zero]
                  refine wp_copyP (.tmp 49) (.tmp 51) (by rfl) X0.heap.size g1 (by rfl) h1 (by rfl) (HFS.out.below hbY) HF1.out (by omega) hzY ?_
                  intro v1 Y003 hown1 hXY _
                  replace h1 := hown1
                  clear hown1
                  replace hH := Lib.hid (And.intro ((hXY.block P (by omega) (by simp; omega)).trans hH.out.1) (And.intro ((hXY.block (P + 1) (by omega) (by simp; omega)).trans hH.out.2.1) ((hXY.block Xb (by omega) (by simp; omega)).trans hH.out.2.2)))
                  replace hbY := hbY.grown hXY hzY (fun r hr => by simp at hr; omega)
                  replace hzY := hbY.size
                  clear hXY
                  refine HK3.out _ _ ⟨fun _ => hH.out, fun _ => ?_⟩
                  clear HK3 K3
                  try simp only [List.getElem_toArray, List.getElem_cons_succ, List.getElem_cons_zero, Act.put, List.setIfInBounds_toArray, List.set_cons_zero, List.set_cons_succ]
                  refine wpLast_ready (rs := [5]) (by kernel_rfl) (by simp) ?_
                  intro i hi; obtain rfl := List.mem_singleton.1 hi; clear hi
                  refine wpOp_step rfl (fun K3 hK3 => ?_)
                  have HK3 := Lib.hid hK3
                  clear hK3
                  rw [if_pos (by rfl)]
                  go_simp
                  obtain ⟨q, eq⟩ : ∃ g, g = Y003.heap.size := ⟨_, rfl⟩
                  obtain ⟨Y0035, eY⟩ : ∃ Y, Y = Y003.alloc (.cells #[.int .i64 x0, .int .i64 x1, .slice sa x2n sc, .int .i64 x3] 52) := ⟨_, rfl⟩
                  have hXY : Below Y003.heap.size Y003 Y0035 := by rw [eY]; exact (Below.refl _ _).alloc (Nat.le_refl _) _
                  have hq : Y0035.heap[q]? = some (.cells #[.int .i64 x0, .int .i64 x1, .slice sa x2n sc, .int .i64 x3] 52) := by rw [eY, eq]; exact alloc_heap Y003 _
                  have hqz : q < Y0035.heap.size := by rw [eY, eq]; simp
                  replace h1 := own_below h1 hXY
                  rw [← eY, ← eq]
                  clear eY eq
                  replace hH := Lib.hid (And.intro ((hXY.block P (by omega)).trans hH.out.1) (And.intro ((hXY.block (P + 1) (by omega)).trans hH.out.2.1) ((hXY.block Xb (by omega)).trans hH.out.2.2)))
                  replace hbY := hbY.trans (hXY.mono hzY)
                  replace hzY := hbY.size
                  clear hXY
                  refine HK3.out _ _ ⟨fun _ => hH.out, fun _ => ?_⟩
                  clear HK3 K3
                  try simp only [List.getElem_toArray, List.getElem_cons_succ, List.getElem_cons_zero, Act.put, List.setIfInBounds_toArray, List.set_cons_zero, List.set_cons_succ]
                  refine wpLast_ready (rs := [6]) (by kernel_rfl) (by simp) ?_
                  intro i hi; obtain rfl := List.mem_singleton.1 hi; clear hi
                  refine wpOp_step rfl (fun K3 hK3 => ?_)
                  have HK3 := Lib.hid hK3
                  clear hK3
                  rw [if_pos (by rfl)]
                  have hg1' : ∀ q, v1.ownBlock = some q → X0.heap.size ≤ q := fun q hq => (h1.lt q hq).1
                  simp only [List.getElem_toArray, List.getElem_cons_succ, List.getElem_cons_zero]
                  refine wp_moreP (.tmp 52) (.tmp 54) (by rfl) X0.heap.size q (by rfl) h1 (by rfl) hq (by intro u hu; simp at hu; rcases hu with rfl | rfl | rfl | rfl <;> rfl) (by omega) hzY ?_
                  intro g2 cp2 Y00356 hown2 hg2 hXY
                  replace hH := Lib.hid (And.intro ((hXY.block P (by omega) (fun e => by have := hg1' P e.symm; omega)).trans hH.out.1) (And.intro ((hXY.block (P + 1) (by omega) (fun e => by have := hg1' _ e.symm; omega)).trans hH.out.2.1) ((hXY.block Xb (by omega) (fun e => by have := hg1' Xb e.symm; omega)).trans hH.out.2.2)))
                  replace hbY := hbY.grown hXY hzY (fun r hr => hg1' r hr)
                  replace hzY := hbY.size
                  clear hXY
                  refine HK3.out _ _ ⟨fun _ => hH.out, fun _ => ?_⟩
                  clear HK3 K3
                  try simp only [List.getElem_toArray, List.getElem_cons_succ, List.getElem_cons_zero, Act.put, List.setIfInBounds_toArray, List.set_cons_zero, List.set_cons_succ]
                  refine wpLast_take (i := 7) (oi := _) (v := ?_) rfl (by kernel_rfl) (by kernel_rfl) (by decide) (by kernel_rfl) (by kernel_rfl) (fun _ _ _ h => h) (Or.inl ⟨by rfl, ?_⟩) hH.out ?_
                  rotate_left
                  · intro w1 hSw
                    obtain ⟨s1, s2, s3⟩ := hSw
                    obtain ⟨d0, d1, d2, d3⟩ := four_cells s1
                    obtain ⟨q0, q1, q2, q3⟩ := four_cells s2
                    clear s1 s2 s3
                    go_simp; with_reducible rfl
                  simp only [List.getElem_toArray, List.getElem_cons_succ, List.getElem_cons_zero, Act.put, List.setIfInBounds_toArray, List.set_cons_zero, List.set_cons_succ]
                  have t0 : Y00356.cell? ⟨Xb, 2, none⟩ = some (.slice pa ps.length pc) := (four_cells hH.out.2.2).2.2.1
                  have tf : Y00356.frozen? ⟨Xb, 2, none⟩ = false := by have := hH.out.2.2; simp [World.frozen?, this]
                  refine wpLast_ready (rs := [8]) (by kernel_rfl) (by simp) ?_
                  intro i hi; obtain rfl := List.mem_singleton.1 hi; clear hi
                  refine wpOp_step rfl (fun K3 hK3 => ?_)
                  have HK3 := Lib.hid hK3
                  clear hK3
                  rw [if_pos (by rfl)]
                  go_simp
                  have hg3 := setCell_grown Y00356 ⟨Xb, 2, none⟩ (.slice (some ⟨g2, 0, none⟩) (ps.length + 1) cp2)
                  have r3 := heap_set hH.out.2.2 2 (.slice (some ⟨g2, 0, none⟩) (ps.length + 1) cp2)
                  have hd3 := hown2.kept hg3 (Or.inr (by simp [Value.ownBlock]; omega))
                  have hbZ : Below wr.heap.size wr (Y00356.setCell ⟨Xb, 2, none⟩ (.slice (some ⟨g2, 0, none⟩) (ps.length + 1) cp2)) := (HB0.out.trans (hbY.mono HB0.out.size)).setCell (by rw [HXB.out]; exact Nat.le_refl _) _
                  have hVZ := PrfVals.snoc (p := ⟨x0, x1, x2, x3⟩) (sv := .slice sa x2n sc) (HFV.out.below hbZ) (by rw [← HXN.out]; exact (by rw [HXN.out]; exact (HPM.out.below HX3.out).below hbZ))
                  have hPZ := prf_of_own hd3 (by simp) hVZ (by simp; unfold maxLen; omega)
                  refine HK3.out _ _ ⟨fun h => absurd rfl h, fun _ => ?_⟩
                  clear HK3 K3
                  try simp only [List.getElem_toArray, List.getElem_cons_succ, List.getElem_cons_zero, Act.put, List.setIfInBounds_toArray, List.set_cons_zero, List.set_cons_succ]
                  refine wpLast_done (by kernel_rfl) ?_ _
                  go_wp2_with fail
                  go_meet
                  case rel => exact ⟨rfl, hbZ, g2, cp2, by simpa using r3, hPZ⟩
                · refine wpOp_step rfl (fun K3 hK3 => ?_)
                  have HK3 := Lib.hid hK3
                  clear hK3
                  rw [if_pos (by rfl)]
                  go_simp
                  obtain ⟨q, eq⟩ : ∃ g, g = Y00.heap.size := ⟨_, rfl⟩
                  obtain ⟨Y005, eY⟩ : ∃ Y, Y = Y00.alloc (.cells #[.int .i64 x0, .int .i64 x1, .slice sa x2n sc, .int .i64 x3] 52) := ⟨_, rfl⟩
                  have hXY : Below Y00.heap.size Y00 Y005 := by rw [eY]; exact (Below.refl _ _).alloc (Nat.le_refl _) _
                  have hq : Y005.heap[q]? = some (.cells #[.int .i64 x0, .int .i64 x1, .slice sa x2n sc, .int .i64 x3] 52) := by rw [eY, eq]; exact alloc_heap Y00 _
                  have hqz : q < Y005.heap.size := by rw [eY, eq]; simp
                  replace h1 := own_below h1 hXY
                  have hqg : q ≠ g1 := by omega
                  replace hgz := Nat.lt_of_lt_of_le hgz hXY.size
                  rw [← eY, ← eq]
                  clear eY eq
                  replace hH := Lib.hid (And.intro ((hXY.block P (by omega)).trans hH.out.1) (And.intro ((hXY.block (P + 1) (by omega)).trans hH.out.2.1) ((hXY.block Xb (by omega)).trans hH.out.2.2)))
                  replace hbY := hbY.trans (hXY.mono hzY)
                  replace hzY := hbY.size
                  clear hXY
                  refine HK3.out _ _ ⟨fun _ => hH.out, fun _ => ?_⟩
                  clear HK3 K3
                  try simp only [List.getElem_toArray, List.getElem_cons_succ, List.getElem_cons_zero, Act.put, List.setIfInBounds_toArray, List.set_cons_zero, List.set_cons_succ]
                  refine wpLast_ready (rs := [3]) (by kernel_rfl) (by simp) ?_
                  intro i hi; obtain rfl := List.mem_singleton.1 hi; clear hi
                  refine wpOp_step rfl (fun K3 hK3 => ?_)
                  have HK3 := Lib.hid hK3
                  clear hK3
                  rw [if_pos (by rfl)]
                  simp only [List.getElem_toArray, List.getElem_cons_succ, List.getElem_cons_zero]
                  refine wp_copyP (.tmp 49) (.tmp 51) (by rfl) X0.heap.size g1 (by rfl) h1 (by rfl) (HFS.out.below hbY) HF1.out (by omega) hzY ?_
                  intro v1 Y0053 hown1 hXY _
                  replace h1 := hown1
                  clear hown1
                  replace hH := Lib.hid (And.intro ((hXY.block P (by omega) (by simp; omega)).trans hH.out.1) (And.intro ((hXY.block (P + 1) (by omega) (by simp; omega)).trans hH.out.2.1) ((hXY.block Xb (by omega) (by simp; omega)).trans hH.out.2.2)))
                  replace hbY := hbY.grown hXY hzY (fun r hr => by simp at hr; omega)
                  replace hq := (hXY.block q hqz (by simp; exact hqg)).trans hq
                  replace hqz := Nat.lt_of_lt_of_le hqz hXY.size
                  replace hzY := hbY.size
                  clear hXY
                  refine HK3.out _ _ ⟨fun _ => hH.out, fun _ => ?_⟩
                  clear HK3 K3
                  try simp only [List.getElem_toArray, List.getElem_cons_succ, List.getElem_cons_zero, Act.put, List.setIfInBounds_toArray, List.set_cons_zero, List.set_cons_succ]
                  refine wpLast_ready (rs := [6]) (by kernel_rfl) (by simp) ?_
                  intro i hi; obtain rfl := List.mem_singleton.1 hi; clear hi
                  refine wpOp_step rfl (fun K3 hK3 => ?_)
                  have HK3 := Lib.hid hK3
                  clear hK3
                  rw [if_pos (by rfl)]
                  have hg1' : ∀ q, v1.ownBlock = some q → X0.heap.size ≤ q := fun q hq => (h1.lt q hq).1
                  simp only [List.getElem_toArray, List.getElem_cons_succ, List.getElem_cons_zero]
                  refine wp_moreP (.tmp 52) (.tmp 54) (by rfl) X0.heap.size q (by rfl) h1 (by rfl) hq (by intro u hu; simp at hu; rcases hu with rfl | rfl | rfl | rfl <;> rfl) (by omega) hzY ?_
                  intro g2 cp2 Y00536 hown2 hg2 hXY
                  replace hH := Lib.hid (And.intro ((hXY.block P (by omega) (fun e => by have := hg1' P e.symm; omega)).trans hH.out.1) (And.intro ((hXY.block (P + 1) (by omega) (fun e => by have := hg1' _ e.symm; omega)).trans hH.out.2.1) ((hXY.block Xb (by omega) (fun e => by have := hg1' Xb e.symm; omega)).trans hH.out.2.2)))
                  replace hbY := hbY.grown hXY hzY (fun r hr => hg1' r hr)
                  replace hzY := hbY.size
                  clear hXY
                  refine HK3.out _ _ ⟨fun _ => hH.out, fun _ => ?_⟩
                  clear HK3 K3
                  try simp only [List.getElem_toArray, List.getElem_cons_succ, List.getElem_cons_zero, Act.put, List.setIfInBounds_toArray, List.set_cons_zero, List.set_cons_succ]
                  refine wpLast_take (i := 7) (oi := _) (v := ?_) rfl (by kernel_rfl) (by kernel_rfl) (by decide) (by kernel_rfl) (by kernel_rfl) (fun _ _ _ h => h) (Or.inl ⟨by rfl, ?_⟩) hH.out ?_
                  rotate_left
                  · intro w1 hSw
                    obtain ⟨s1, s2, s3⟩ := hSw
                    obtain ⟨d0, d1, d2, d3⟩ := four_cells s1
                    obtain ⟨q0, q1, q2, q3⟩ := four_cells s2
                    clear s1 s2 s3
                    go_simp; with_reducible rfl
                  simp only [List.getElem_toArray, List.getElem_cons_succ, List.getElem_cons_zero, Act.put, List.setIfInBounds_toArray, List.set_cons_zero, List.set_cons_succ]
                  have t0 : Y00536.cell? ⟨Xb, 2, none⟩ = some (.slice pa ps.length pc) := (four_cells hH.out.2.2).2.2.1
                  have tf : Y00536.frozen? ⟨Xb, 2, none⟩ = false := by have := hH.out.2.2; simp [World.frozen?, this]
                  refine wpLast_ready (rs := [8]) (by kernel_rfl) (by simp) ?_
                  intro i hi; obtain rfl := List.mem_singleton.1 hi; clear hi
                  refine wpOp_step rfl (fun K3 hK3 => ?_)
                  have HK3 := Lib.hid hK3
                  clear hK3
                  rw [if_pos (by rfl)]
                  go_simp
                  have hg3 := setCell_grown Y00536 ⟨Xb, 2, none⟩ (.slice (some ⟨g2, 0, none⟩) (ps.length + 1) cp2)
                  have r3 := heap_set hH.out.2.2 2 (.slice (some ⟨g2, 0, none⟩) (ps.length + 1) cp2)
                  have hd3 := hown2.kept hg3 (Or.inr (by simp [Value.ownBlock]; omega))
                  have hbZ : Below wr.heap.size wr (Y00536.setCell ⟨Xb, 2, none⟩ (.slice (some ⟨g2, 0, none⟩) (ps.length + 1) cp2)) := (HB0.out.trans (hbY.mono HB0.out.size)).setCell (by rw [HXB.out]; exact Nat.le_refl _) _
                  have hVZ := PrfVals.snoc (p := ⟨x0, x1, x2, x3⟩) (sv := .slice sa x2n sc) (HFV.out.below hbZ) (by rw [← HXN.out]; exact (by rw [HXN.out]; exact (HPM.out.below HX3.out).below hbZ))
                  have hPZ := prf_of_own hd3 (by simp) hVZ (by simp; unfold maxLen; omega)
                  refine HK3.out _ _ ⟨fun h => absurd rfl h, fun _ => ?_⟩
                  clear HK3 K3
                  try simp only [List.getElem_toArray, List.getElem_cons_succ, List.getElem_cons_zero, Act.put, List.setIfInBounds_toArray, List.set_cons_zero, List.set_cons_succ]
                  refine wpLast_done (by kernel_rfl) ?_ _
                  go_wp2_with fail
                  go_meet
                  case rel => exact ⟨rfl, hbZ, g2, cp2, by simpa using r3, hPZ⟩
              · refine wpOp_step rfl (fun K3 hK3 => ?_)
                have HK3 := Lib.hid hK3
                clear hK3
                rw [if_pos (by rfl)]
                go_simp
                obtain ⟨q, eq⟩ : ∃ g, g = Y0.heap.size := ⟨_, rfl⟩
                obtain ⟨Y05, eY⟩ : ∃ Y, Y = Y0.alloc (.cells #[.int .i64 x0, .int .i64 x1, .slice sa x2n sc, .int .i64 x3] 52) := ⟨_, rfl⟩
                have hXY : Below Y0.heap.size Y0 Y05 := by rw [eY]; exact (Below.refl _ _).alloc (Nat.le_refl _) _
                have hq : Y05.heap[q]? = some (.cells #[.int .i64 x0, .int .i64 x1, .slice sa x2n sc, .int .i64 x3] 52) := by rw [eY, eq]; exact alloc_heap Y0 _
                have hqz : q < Y05.heap.size := by rw [eY, eq]; simp
                rw [← eY, ← eq]
                clear eY eq
                replace hH := Lib.hid (And.intro ((hXY.block P (by omega)).trans hH.out.1) (And.intro ((hXY.block (P + 1) (by omega)).trans hH.out.2.1) ((hXY.block Xb (by omega)).trans hH.out.2.2)))
                replace hbY := hbY.trans (hXY.mono hzY)
                replace hzY := hbY.size
                clear hXY
                refine HK3.out _ _ ⟨fun _ => hH.out, fun _ => ?_⟩
                clear HK3 K3
                try simp only [List.getElem_toArray, List.getElem_cons_succ, List.getElem_cons_zero, Act.put, List.setIfInBounds_toArray, List.set_cons_zero, List.set_cons_succ]
                refine wpLast_ready (rs := [0]) (by kernel_rfl) (by simp) ?_
                intro i hi; obtain rfl := List.mem_singleton.1 hi; clear hi
                refine wpOp_step rfl (fun K3 hK3 => ?_)
                have HK3 := Lib.hid hK3
                clear hK3
                rw [if_pos (by rfl)]
                go_simp
                obtain ⟨g1, eg1⟩ : ∃ g, g = Y05.heap.size := ⟨_, rfl⟩
                obtain ⟨Y050, eY⟩ : ∃ Y, Y = Y05.alloc (.cells #[] 52) := ⟨_, rfl⟩
                have hXY : Below Y05.heap.size Y05 Y050 := by rw [eY]; exact (Below.refl _ _).alloc (Nat.le_refl _) _
                have h1 : Y050.ownsRow X0.heap.size 52 4 (.slice (some ⟨g1, 0, none⟩) 0 0) 0 [] := by rw [eY, eg1]; exact World.ownsRow_lit Y05 #[] 0 (by omega) (by decide) rfl
                have hgz : g1 < Y050.heap.size := by rw [eY, eg1]; simp
                have hgl : X0.heap.size ≤ g1 := by omega
                have hqg : q ≠ g1 := by omega
                rw [← eY, ← eg1]
                clear eY eg1
                replace hH := Lib.hid (And.intro ((hXY.block P (by omega)).trans hH.out.1) (And.intro ((hXY.block (P + 1) (by omega)).trans hH.out.2.1) ((hXY.block Xb (by omega)).trans hH.out.2.2)))
                replace hbY := hbY.trans (hXY.mono hzY)
                replace hq := (hXY.block q hqz).trans hq
                replace hqz := Nat.lt_of_lt_of_le hqz hXY.size
                replace hzY := hbY.size
                clear hXY
                refine HK3.out _ _ ⟨fun _ => hH.out, fun _ => ?_⟩
                clear HK3 K3
                try simp only [List.getElem_toArray, List.getElem_cons_succ, List.getElem_cons_zero, Act.put, List.setIfInBounds_toArray, List.set_cons_zero, List.set_cons_succ]
                refine wpLast_ready (rs := [3]) (by kernel_rfl) (by simp) ?_
                intro i hi; obtain rfl := List.mem_singleton.1 hi; clear hi
                refine wpOp_step rfl (fun K3 hK3 => ?_)
                have HK3 := Lib.hid hK3
                clear hK3
                rw [if_pos (by rfl)]
                simp only [List.getElem_toArray, List.getElem_cons_succ, List.getElem_cons_zero]
                refine wp_copyP (.tmp 49) (.tmp 51) (by rfl) X0.heap.size g1 (by rfl) h1 (by rfl) (HFS.out.below hbY) HF1.out (by omega) hzY ?_
                intro v1 Y0503 hown1 hXY _
                replace h1 := hown1
                clear hown1
                replace hH := Lib.hid (And.intro ((hXY.block P (by omega) (by simp; omega)).trans hH.out.1) (And.intro ((hXY.block (P + 1) (by omega) (by simp; omega)).trans hH.out.2.1) ((hXY.block Xb (by omega) (by simp; omega)).trans hH.out.2.2)))
                replace hbY := hbY.grown hXY hzY (fun r hr => by simp at hr; omega)
                replace hq := (hXY.block q hqz (by simp; exact hqg)).trans hq
                replace hqz := Nat.lt_of_lt_of_le hqz hXY.size
                replace hzY := hbY.size
                clear hXY
                refine HK3.out _ _ ⟨fun _ => hH.out, fun _ => ?_⟩
                clear HK3 K3
                try simp only [List.getElem_toArray, List.getElem_cons_succ, List.getElem_cons_zero, Act.put, List.setIfInBounds_toArray, List.set_cons_zero, List.set_cons_succ]
                refine wpLast_ready (rs := [6]) (by kernel_rfl) (by simp) ?_
                intro i hi; obtain rfl := List.mem_singleton.1 hi; clear hi
                refine wpOp_step rfl (fun K3 hK3 => ?_)
                have HK3 := Lib.hid hK3
                clear hK3
                rw [if_pos (by rfl)]
                have hg1' : ∀ q, v1.ownBlock = some q → X0.heap.size ≤ q := fun q hq => (h1.lt q hq).1
                simp only [List.getElem_toArray, List.getElem_cons_succ, List.getElem_cons_zero]
                refine wp_moreP (.tmp 52) (.tmp 54) (by rfl) X0.heap.size q (by rfl) h1 (by rfl) hq (by intro u hu; simp at hu; rcases hu with rfl | rfl | rfl | rfl <;> rfl) (by omega) hzY ?_
                intro g2 cp2 Y05036 hown2 hg2 hXY
                replace hH := Lib.hid (And.intro ((hXY.block P (by omega) (fun e => by have := hg1' P e.symm; omega)).trans hH.out.1) (And.intro ((hXY.block (P + 1) (by omega) (fun e => by have := hg1' _ e.symm; omega)).trans hH.out.2.1) ((hXY.block Xb (by omega) (fun e => by have := hg1' Xb e.symm; omega)).trans hH.out.2.2)))
                replace hbY := hbY.grown hXY hzY (fun r hr => hg1' r hr)
                replace hzY := hbY.size
                clear hXY
                refine HK3.out _ _ ⟨fun _ => hH.out, fun _ => ?_⟩
                clear HK3 K3
                try simp only [List.getElem_toArray, List.getElem_cons_succ, List.getElem_cons_zero, Act.put, List.setIfInBounds_toArray, List.set_cons_zero, List.set_cons_succ]
                refine wpLast_take (i := 7) (oi := _) (v := ?_) rfl (by kernel_rfl) (by kernel_rfl) (by decide) (by kernel_rfl) (by kernel_rfl) (fun _ _ _ h => h) (Or.inl ⟨by rfl, ?_⟩) hH.out ?_
                rotate_left
                · intro w1 hSw
                  obtain ⟨s1, s2, s3⟩ := hSw
                  obtain ⟨d0, d1, d2, d3⟩ := four_cells s1
                  obtain ⟨q0, q1, q2, q3⟩ := four_cells s2
                  clear s1 s2 s3
                  go_simp; with_reducible rfl
                simp only [List.getElem_toArray, List.getElem_cons_succ, List.getElem_cons_zero, Act.put, List.setIfInBounds_toArray, List.set_cons_zero, List.set_cons_succ]
                have t0 : Y05036.cell? ⟨Xb, 2, none⟩ = some (.slice pa ps.length pc) := (four_cells hH.out.2.2).2.2.1
                have tf : Y05036.frozen? ⟨Xb, 2, none⟩ = false := by have := hH.out.2.2; simp [World.frozen?, this]
                refine wpLast_ready (rs := [8]) (by kernel_rfl) (by simp) ?_
                intro i hi; obtain rfl := List.mem_singleton.1 hi; clear hi
                refine wpOp_step rfl (fun K3 hK3 => ?_)
                have HK3 := Lib.hid hK3
                clear hK3
                rw [if_pos (by rfl)]
                go_simp
                have hg3 := setCell_grown Y05036 ⟨Xb, 2, none⟩ (.slice (some ⟨g2, 0, none⟩) (ps.length + 1) cp2)
                have r3 := heap_set hH.out.2.2 2 (.slice (some ⟨g2, 0, none⟩) (ps.length + 1) cp2)
                have hd3 := hown2.kept hg3 (Or.inr (by simp [Value.ownBlock]; omega))
                have hbZ : Below wr.heap.size wr (Y05036.setCell ⟨Xb, 2, none⟩ (.slice (some ⟨g2, 0, none⟩) (ps.length + 1) cp2)) := (HB0.out.trans (hbY.mono HB0.out.size)).setCell (by rw [HXB.out]; exact Nat.le_refl _) _
                have hVZ := PrfVals.snoc (p := ⟨x0, x1, x2, x3⟩) (sv := .slice sa x2n sc) (HFV.out.below hbZ) (by rw [← HXN.out]; exact (by rw [HXN.out]; exact (HPM.out.below HX3.out).below hbZ))
                have hPZ := prf_of_own hd3 (by simp) hVZ (by simp; unfold maxLen; omega)
                refine HK3.out _ _ ⟨fun h => absurd rfl h, fun _ => ?_⟩
                clear HK3 K3
                try simp only [List.getElem_toArray, List.getElem_cons_succ, List.getElem_cons_zero, Act.put, List.setIfInBounds_toArray, List.set_cons_zero, List.set_cons_succ]
                refine wpLast_done (by kernel_rfl) ?_ _
                go_wp2_with fail
                go_meet
                case rel => exact ⟨rfl, hbZ, g2, cp2, by simpa using r3, hPZ⟩
            case rest =>
              obtain ⟨rfl, hbc, g, cp, hxb, hpx⟩ := hcut
              have H4 := Lib.hid (H3.out.trans (hbc.mono H3.out.size))
              have HX4 := Lib.hid (HX3.out.trans (hbc.mono HX3.out.size))
              have hlen : (ps ++ [(⟨x0, x1, x2, x3⟩ : Prf)]).length = ps.length + 1 := by simp
              have hzx : StkAt wc (.agg #[.slice ca cs.length cc, .slice ra rs.length rc, .slice (some ⟨g, 0, none⟩) (ps.length + 1) cp, .slice ba bs.length bc]) (moreS ⟨cs, rs, ps, bs⟩ ⟨x0, x1, x2, x3⟩) := ⟨_, _, _, _, rfl, hc0.out.below H4.out, hq0.out.below H4.out, hpx, hs0.out.below H4.out⟩
              have HZX := Lib.hid hzx
              have HXC := Lib.hid hxb
              obtain ⟨⟨ea, eb, ec⟩, hen⟩ : ∃ x, endF ⟨cs, rs, ps, bs⟩ n = x := ⟨_, rfl⟩
              obtain ⟨⟨xa, xm, xf⟩, hex⟩ : ∃ x, endF (moreS ⟨cs, rs, ps, bs⟩ ⟨x0, x1, x2, x3⟩) n = x := ⟨_, rfl⟩
              have ke := KE.out _ H4.out
              have kx := fun (X : World) (hX : Below wc.heap.size wc X) => end_any (moreS ⟨cs, rs, ps, bs⟩ ⟨x0, x1, x2, x3⟩) _ n X (hzx.below hX)
              rw [hen] at ke
              simp only [hex] at kx
              simp only [] at ke
              have KE2 := Lib.hid ke
              have KX := Lib.hid kx
              have HEN := Lib.hid hen
              have HEX := Lib.hid hex
              obtain ⟨wm, hwm⟩ : ∃ wm : World, wm = wc := ⟨_, rfl⟩
              subst hwm
              obtain ⟨d0, d1, d2, d3⟩ := four_cells (box_step (w0 := w) HR0.out H4.out)
              clear hbc hxb hpx hzx ke kx hen hex KE HFV HFS HF1 HB0 hlt hl12 hl30 i1 hzX
              go_wp2_with fail
              refine KE2.out.mono ?_
              rintro e W5 ⟨rfl, hb5⟩
              have H5 := Lib.hid (H4.out.trans (hb5.mono H4.out.size))
              have HM5 := Lib.hid hb5
              clear hb5 d0 d1 d2 d3 KE2
              obtain ⟨e0, e1, e2, e3⟩ := four_cells (box_step (w0 := w) HXC.out HM5.out)
              go_wp2_with fail
              refine (KX.out _ HM5.out).mono ?_
              rintro e W6 ⟨rfl, hb6⟩
              have H6 := Lib.hid (H5.out.trans (hb6.mono H5.out.size))
              have HM6 := Lib.hid (HM5.out.trans (hb6.mono HM5.out.size))
              clear hb6 e0 e1 e2 e3 KX
              by_cases hxf : xf = 0
              · subst hxf
                obtain ⟨k, a, t, hk, hkl, hok, hea, t1, t2, t3, t4, hst⟩ := more_end (s := ⟨cs, rs, ps, bs⟩) (p := ⟨x0, x1, x2, x3⟩) HALL.out HEX.out
                rw [HEN.out] at hea
                simp only [Prod.mk.injEq] at hea
                obtain ⟨rfl, rfl, rfl⟩ := hea
                have kr := fun (X : World) (hX : Below W0.heap.size W0 X) => refRow_any ⟨cs, rs, ps, bs⟩ n _ X (HZ0.out.below hX)
                have hi : ixI rs n = (k : Int) := by unfold ixI; rw [hk]
                simp only [hi] at kr
                have ks := fun (X : World) (hX : Below wm.heap.size wm X) => refStock_any (moreS ⟨cs, rs, ps, bs⟩ ⟨x0, x1, x2, x3⟩) _ X (HZX.out.below hX)
                simp only [hok] at ks
                have hpo := prfOk_of hok (k := ps.length) (by show ps.length < (ps ++ [_]).length; omega)
                have hbl : (moreS ⟨cs, rs, ps, bs⟩ ⟨x0, x1, x2, x3⟩).ps[ps.length]! = ⟨x0, x1, x2, x3⟩ := bang_last
                rw [hbl] at hpo
                obtain ⟨pc0, z1, z2, z3, z4, z5, z6, _⟩ := hpo
                simp only [] at z1 z3 z4 z5 z6
                change pc0 < cs.length at z2
                subst z1
                have kp := fun (X : World) (hX : Below wm.heap.size wm X) (hM : TabAt 1 numC X (.slice sa x2n sc) x2) => passes_any (moreS ⟨cs, rs, ps, bs⟩ ⟨(pc0 : Int), x1, x2, x3⟩) ⟨(pc0 : Int), x1, x2, x3⟩ _ (.slice sa x2n sc) X (HZX.out.below hX) hM z5 z6 (by show (0 : Int) ≤ (pc0 : Int); omega) (by show (pc0 : Int) < (cs.length : Int); omega)
                have hmore : 0 ≤ cs[pc0]!.more := by have := (clsOk_of hok (c := pc0) z2).2.2.1; change 1 ≤ cs[pc0]!.more at this; omega
                have ec' := getD_bang' cs z2
                simp only [Int.toNat_natCast, moreS, ec'] at kp hst
                have er := getD_bang' rs hkl
                obtain ⟨⟨r0, r1, r2, r3⟩, hr⟩ : ∃ r, rs[k]! = r := ⟨_, rfl⟩
                obtain ⟨cl, hcc⟩ : ∃ r, cs[pc0]! = r := ⟨_, rfl⟩
                rw [hr] at hst er
                rw [hcc] at hst hmore
                rw [hcc] at kp
                have KR := Lib.hid kr
                have KS := Lib.hid ks
                have KP := Lib.hid kp
                have HSTP := Lib.hid hst
                have HER := Lib.hid er
                have HMORE := Lib.hid hmore
                have T1 := Lib.hid t1
                have T2 := Lib.hid t2
                have T3 := Lib.hid t3
                have T4 := Lib.hid t4
                clear kr ks kp hst er hmore ec' hr hcc hi hk hok hbl t1 t2 t3 t4 z3 z4 z5 z6 HEN HEX HALL
                have i1 : ¬ (k : Int) < 0 := by omega
                have i2 : (k : Int) < (rs.length : Int) := Int.ofNat_lt.2 hkl
                obtain ⟨d0, d1, d2, d3⟩ := four_cells (box_step (w0 := w) HR0.out H6.out)
                go_wp2_with fail
                refine (KR.out _ H6.out).mono ?_
                rintro e W7 ⟨rfl, hb7⟩
                have H7 := Lib.hid (H6.out.trans (hb7.mono H6.out.size))
                have HM7 := Lib.hid (HM6.out.trans (hb7.mono HM6.out.size))
                clear hb7 d0 d1 d2 d3
                obtain ⟨e0, e1, e2, e3⟩ := four_cells (box_step (w0 := w) HXC.out HM7.out)
                go_wp2_with fail
                refine (KS.out _ HM7.out).mono ?_
                rintro e W8 ⟨rfl, hb8⟩
                have H8 := Lib.hid (H7.out.trans (hb8.mono H7.out.size))
                have HM8 := Lib.hid (HM7.out.trans (hb8.mono HM7.out.size))
                clear hb8 e0 e1 e2 e3
                obtain ⟨rb, ro, e1, hrb, hrx⟩ := (hq0.out.below H8.out).at (by omega)
                subst e1
                have g2 := hrx k hkl 2 (by omega)
                rw [HER.out] at g2
                simp only [Nat.add_zero, rowC] at g2
                obtain ⟨d0, d1, d2, d3⟩ := four_cells (box_step (w0 := w) HR0.out H8.out)
                have hq8 := box_step (w0 := w) (box_step (w0 := w) HQ1.out HX4.out) HM8.out
                obtain ⟨q0, q1, q2, q3⟩ := four_cells hq8
                have HQ8 := Lib.hid hq8
                have HT8 := Lib.hid ((HPM.out.below HX4.out).below HM8.out)
                clear hrx hq8
                go_upto_region 17 with fail
                go_quiet (fail)
                clear d0 d1 d2 d3 q0 q1 q2 q3 g2
                have H9 := Lib.hid (below_drewn H8.out nq)
                have HM9 := Lib.hid (below_drewn HM8.out nq)
                have HT9 := Lib.hid (HT8.out.below (below_drewn (Below.refl W8.heap.size W8) nq))
                have HQ9 := Lib.hid (box_step (w0 := w) HQ8.out (below_drewn (Below.refl W8.heap.size W8) nq))
                obtain ⟨Wq, hWq⟩ : ∃ X, W8.drewN nq = X := ⟨_, rfl⟩
                rw [hWq] at H9 HM9 HT9 HQ9 ⊢
                clear hWq H8 HM8 HT8 HQ8
                by_cases hcl : r2 = (pc0 : Int)
                · subst hcl
                  have kp := KP.out _ HM9.out (by rw [← HXN.out]; rw [HXN.out]; exact HT9.out)
                  obtain ⟨e0, e1, e2, e3⟩ := four_cells (box_step (w0 := w) HXC.out HM9.out)
                  obtain ⟨q0, q1, q2, q3⟩ := four_cells HQ9.out
                  by_cases hpass : failsF ⟨(pc0 : Int), x1, x2, x3⟩ ≤ cl.fail
                  · rw [decide_eq_true hpass] at kp
                    have KP2 := Lib.hid kp
                    obtain ⟨m1, m2, m3⟩ := more_pass HSTP.out HMORE.out hpass
                    have v1 := T2.out
                    have i3 : ea ≤ xa := m1
                    have i4 : eb ≤ xm := m2
                    have w1 : IntKind.i64.wrap (eb + 1) = eb + 1 := IntWalk.i64_in _ (by have := T1.out; omega)
                    have i5 : xm ≤ eb + 1 := m3
                    clear kp hpass m1 m2 m3 v1
                    go_wp2_with fail
                    refine KP2.out.mono ?_
                    rintro e Wa ⟨rfl, hba⟩
                    have Ha := Lib.hid (H9.out.trans (hba.mono H9.out.size))
                    go_wp2_with fail
                    refine (KA.out _).mono ?_
                    rintro e Wz ⟨rfl, hbz⟩
                    go_wp2
                    go_ret
                    exact ⟨rfl, HB.out.trans ((Ha.out.trans (hbz.mono Ha.out.size)).mono HB.out.size)⟩
                  · rw [decide_eq_false hpass] at kp
                    have KP2 := Lib.hid kp
                    obtain ⟨m1, m2⟩ := more_fail HSTP.out hpass
                    have i3 : xa ≤ ea := m1
                    subst m2
                    clear kp hpass m1
                    go_wp2_with fail
                    refine KP2.out.mono ?_
                    rintro e Wa ⟨rfl, hba⟩
                    have Ha := Lib.hid (H9.out.trans (hba.mono H9.out.size))
                    go_wp2_with fail
                    refine (KA.out _).mono ?_
                    rintro e Wz ⟨rfl, hbz⟩
                    go_wp2
                    go_ret
                    exact ⟨rfl, HB.out.trans ((Ha.out.trans (hbz.mono Ha.out.size)).mono HB.out.size)⟩
                · have i3 : (r2 != (pc0 : Int)) = true := bne_iff_ne.2 hcl
                  obtain ⟨m1, m2⟩ := more_other (s := default) HSTP.out hcl
                  subst m1
                  subst m2
                  go_wp2_with fail
                  refine (KA.out _).mono ?_
                  rintro e Wz ⟨rfl, hbz⟩
                  go_wp2
                  go_ret
                  exact ⟨rfl, HB.out.trans ((H9.out.trans (hbz.mono H9.out.size)).mono HB.out.size)⟩
              · have e1 : (xf != 0) = true := by simpa using hxf
                have e2 : (xf == 0) = false := by simpa using hxf
                by_cases hec : ec = 0
                · subst hec
                  go_wp2_with fail
                  refine (KA.out _).mono ?_
                  rintro e Wz ⟨rfl, hbz⟩
                  go_wp2
                  go_ret
                  exact ⟨rfl, HB.out.trans ((H6.out.trans (hbz.mono H6.out.size)).mono HB.out.size)⟩
                · have e3 : (ec != 0) = true := by simpa using hec
                  have e4 : (ec == 0) = false := by simpa using hec
                  go_wp2_with fail
                  refine (KA.out _).mono ?_
                  rintro e Wz ⟨rfl, hbz⟩
                  go_wp2
                  go_ret
                  exact ⟨rfl, HB.out.trans ((H6.out.trans (hbz.mono H6.out.size)).mono HB.out.size)⟩
end Go.Proofs.Ytcmfplfnpjknlaa
