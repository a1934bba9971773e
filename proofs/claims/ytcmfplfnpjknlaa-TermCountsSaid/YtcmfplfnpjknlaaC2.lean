/- Term: the reference's begin. -/
import Derived.Test.YtcmfplfnpjknlaaC1
import Derived.Test.YtcmfplfnpjknlaaB31
import Derived.Deep.RegionHeld3
namespace Go.Proofs.Ytcmfplfnpjknlaa
set_option linter.unusedSimpArgs false
set_option linter.unusedVariables false
open Go.RowKit Go.Maps

theorem Try.info73 : (Try.prog.info? 73).map (fun i => (i.zero, i.size, i.bytes)) = some (some (.agg #[.int .i64 0, .int .i64 0]), 2, 16) := by kernel_rfl
theorem own_below' {X Y : World} {base : Nat} {e : TypeId} {k n : Nat} {v : Value} {xs : List Value} (h : X.ownsRow base e k v n xs) (hb : Below X.heap.size X Y) : Y.ownsRow base e k v n xs := by
  refine ⟨h.1, ?_⟩
  rcases h.2 with h | ⟨g, cap, cur, e1, h1, h2, h3⟩
  · exact .inl h
  · exact .inr ⟨g, cap, cur, e1, h1, (hb.block g (Array.getElem?_eq_some_iff.1 h2).1).trans h2, h3⟩
theorem nil_own {w : World} {base : Nat} {e : TypeId} {k n : Nat} {v : Value} {xs : List Value} (h : w.ownsRow base e k v n xs) : NilOk v := by
  rcases h.2 with ⟨rfl, _⟩ | ⟨g, cap, cur, rfl, _⟩
  · intro n' c' e; simp at e; exact ⟨e.1.symm, e.2.symm⟩
  · intro n' c' e; simp at e
theorem begin_step {s : Stk} {j : Nat} (hj : j < s.rs.length) : (beginF s).take (j + 1) = (beginF s).take j ++ [((s.rs.getD j default).day + (s.cs.getD (s.rs.getD j default).cls.toNat default).term, 0)] := by
  have hl : j < (beginF s).length := by simpa [beginF] using hj
  rw [List.take_succ_eq_append_getElem hl]
  congr 2
  simp [beginF, List.getD, hj]
set_option maxRecDepth 100000 in
set_option maxHeartbeats 12800000 in
theorem begin_any (s : Stk) (v : Value) (w : World) (hs : StkAt w v s) (hok : stkOk s = true) :
    Calls Try.prog 43 #[v] w fun e w' => (∃ v', e = .returned v' ∧ TabAt 2 trmC w' v' (beginF s) ∧ NilOk v') ∧ Below w.heap.size w w' := by
  have hgood := fun j (hj : j < s.rs.length) => row_good hok hj
  have hcls := fun c (hc : c < s.cs.length) => clsOk_of hok hc
  have hfew := rows_few hok
  have hstep := fun j (hj : j < s.rs.length) => begin_step hj
  have hblen : (beginF s).length = s.rs.length := by simp [beginF]
  obtain ⟨BG, hBG⟩ : ∃ L, beginF s = L := ⟨_, rfl⟩
  simp only [hBG] at hstep hblen ⊢
  have HG := Lib.hid hgood
  have HC := Lib.hid hcls
  have HST := Lib.hid hstep
  have HBL := Lib.hid hblen
  clear hgood hcls hstep hblen hBG hok
  obtain ⟨cv, rv, pv, bv, rfl, hc, hr, hp, hb⟩ := hs
  obtain ⟨cs, rs, ps, bs⟩ := s
  simp only [] at hc hr hp hb
  obtain ⟨ca, cc, rfl⟩ := hc.shape
  obtain ⟨ra, rc, rfl⟩ := hr.shape
  obtain ⟨pa, pc, rfl⟩ := hp.shape
  obtain ⟨ba, bc, rfl⟩ := hb.shape
  have m1 : cs.length ≤ 9223372036854775807 := hc.1
  have m2 : rs.length ≤ 9223372036854775807 := hr.1
  have m3 : ps.length ≤ 9223372036854775807 := hp.1
  have m4 : bs.length ≤ 9223372036854775807 := hb.1
  obtain ⟨W0, hW0⟩ : ∃ X, X = w.alloc (.cells #[.slice ca cs.length cc, .slice ra rs.length rc, .slice pa ps.length pc, .slice ba bs.length bc] 27) := ⟨_, rfl⟩
  have hb0 : Below w.heap.size w W0 := by rw [hW0]; exact (Below.refl _ _).alloc (Nat.le_refl _) _
  have hr0 : W0.heap[w.heap.size]? = some (.cells #[.slice ca cs.length cc, .slice ra rs.length rc, .slice pa ps.length pc, .slice ba bs.length bc] 27 (0, 0)) := by rw [hW0]; exact alloc_heap w _
  have hc0 := Lib.hid (hc.below hb0)
  have hq0 := Lib.hid (hr.below hb0)
  have hp0 := Lib.hid (hp.below hb0)
  have hs0 := Lib.hid (hb.below hb0)
  obtain ⟨P, hP⟩ : ∃ P, w.heap.size = P := ⟨_, rfl⟩
  rw [hP] at hr0
  obtain ⟨d0, d1, d2, d3⟩ := four_cells hr0
  have HB := Lib.hid hb0
  have HR0 := Lib.hid hr0
  clear hr0 hb0 hc hr hp hb
  have hsz : W0.heap.size = P + 1 := by rw [hW0, ← hP]; simp
  have HSZ := Lib.hid hsz
  clear hsz
  try simp only [] at hfew
  go_enter Try.func43, Try.ntmps43
  go_upto_region 1 with fail
  rw [← hW0]
  clear hW0 hP
  go_wp2
  clear d0 d1 d2 d3
  go_loopw [3, 4] (fun sv i wr => ∃ j : Nat, j ≤ rs.length ∧ i = .int .i64 j ∧ wr.ownsRow W0.heap.size 73 2 sv j (flatK 2 trmC (BG.take j)) ∧ Below W0.heap.size W0 wr) (fun _ i _ => rs.length - (intOf i).toNat)
  case atStart => exact ⟨0, by omega, rfl, by simpa [flatK] using World.ownsRow_nil W0 W0.heap.size 73 2, Below.refl _ _⟩
  case round =>
    obtain ⟨j, hj, rfl, hv, hbw⟩ := hrel
    have HBW := Lib.hid hbw
    have hS1 := box_step (w0 := w) HR0.out hbw
    obtain ⟨d0, d1, d2, d3⟩ := four_cells hS1
    by_cases hlt : j < rs.length
    · obtain ⟨rb, ro, e1, hrb, hrx⟩ := hq0.out.at (show 0 < rs.length by omega)
      subst e1
      have hg := HG.out j hlt
      have hst := HST.out j hlt
      try simp only [] at hg hst
      have g2 := (hbw.cell (p := ⟨rb, ro + j * 4 + 2, none⟩) hrb).trans (hrx j hlt 2 (by omega))
      have g3 := (hbw.cell (p := ⟨rb, ro + j * 4 + 3, none⟩) hrb).trans (hrx j hlt 3 (by omega))
      obtain ⟨⟨x0, x1, x2, x3⟩, hx⟩ : ∃ x : Row, rs.getD j default = x := ⟨_, rfl⟩
      rw [hx] at g2 g3 hg hst
      simp only [rowC] at g2 g3
      simp only [] at hg hst
      obtain ⟨c, rfl⟩ : ∃ c : Nat, x2 = c := ⟨x2.toNat, by omega⟩
      have hcl : c < cs.length := by omega
      obtain ⟨cb, co, e1, hcb, hcx⟩ := hc0.out.at (show 0 < cs.length by omega)
      subst e1
      have u0 := (hbw.cell (p := ⟨cb, co + c * 4 + 0, none⟩) hcb).trans (hcx c hcl 0 (by omega))
      have hcc := HC.out c hcl
      have hbang : cs.getD c default = cs[c]! := by rw [getElem!_pos cs c hcl, List.getD, List.getElem?_eq_getElem hcl]; rfl
      rw [hbang] at u0
      simp only [Int.toNat_natCast, hbang] at hst
      obtain ⟨⟨k0, k1, k2, k3⟩, hk⟩ : ∃ x : Cls, cs[c]! = x := ⟨_, rfl⟩
      rw [hk] at u0 hcc hst
      simp only [Nat.add_zero, clsC] at u0
      simp only [] at hcc hst
      have w1 : IntKind.i64.wrap (x3 + k0) = x3 + k0 := IntWalk.i64_in _ (by omega)
      have ij1 : (j : Int) < (rs.length : Int) := Int.ofNat_lt.2 hlt
      have ic1 : (c : Int) < (cs.length : Int) := Int.ofNat_lt.2 hcl
      have hfl := flat_snoc 2 trmC (BG.take j) (x3 + k0, 0)
      rw [← hst] at hfl
      have HFL := Lib.hid hfl
      have hPs : P < W0.heap.size := by have := HSZ.out; omega
      have hsz := hbw.size
      clear hrx hcx hg hst hx hk hcc hbang hfl hcl
      go_upto_region 5 with fail
      clear d0 d1 d2 d3
      refine wp_region_held_drew (S := fun w' => w'.heap[P]? = some (.cells #[.slice (some ⟨cb, co, none⟩) cs.length cc, .slice (some ⟨rb, ro, none⟩) rs.length rc, .slice pa ps.length pc, .slice ba bs.length bc] 27) ∧ w'.cell? ⟨rb, ro + j * 4 + 2, none⟩ = some (.int .i64 (c : Int)) ∧ w'.cell? ⟨rb, ro + j * 4 + 3, none⟩ = some (.int .i64 x3) ∧ w'.cell? ⟨cb, co + c * 4, none⟩ = some (.int .i64 k0)) (by kernel_rfl) ⟨hS1, g2, g3, u0⟩ (fun hHeld => ?_)
      obtain ⟨Y0, hY0⟩ : ∃ X, X = wr.drew := ⟨_, rfl⟩
      have hbY : Below wr.heap.size wr Y0 := by rw [hY0]; exact (Below.refl _ _).drew
      rw [← hY0] at hHeld ⊢
      have hH := Lib.hid hHeld
      clear hY0 hHeld hS1 g2 g3 u0
      refine wpAnyH_take (i := 0) (oi := _) (v := ?_) rfl (by kernel_rfl) (by kernel_rfl) (by kernel_rfl) (fun _ _ _ h => h) (Or.inl ⟨by rfl, ?_⟩) hH.out ?_
      rotate_left
      · intro w1 hSw
        obtain ⟨s1, e2, e3, e4⟩ := hSw
        obtain ⟨d0, d1, d2, d3⟩ := four_cells s1
        clear s1
        go_simp; with_reducible rfl
      simp only [List.getElem_toArray, List.getElem_cons_succ, List.getElem_cons_zero, Act.put, List.setIfInBounds_toArray, List.set_cons_zero, List.set_cons_succ]
      refine wpAnyH_take (i := 1) (oi := _) (v := ?_) rfl (by kernel_rfl) (by kernel_rfl) (by kernel_rfl) (fun _ _ _ h => h) (Or.inl ⟨by rfl, ?_⟩) hH.out ?_
      rotate_left
      · intro w1 hSw
        obtain ⟨s1, e2, e3, e4⟩ := hSw
        obtain ⟨d0, d1, d2, d3⟩ := four_cells s1
        clear s1
        go_simp; with_reducible rfl
      simp only [List.getElem_toArray, List.getElem_cons_succ, List.getElem_cons_zero, Act.put, List.setIfInBounds_toArray, List.set_cons_zero, List.set_cons_succ]
      refine wpAnyH_take (i := 2) (oi := _) (v := ?_) rfl (by kernel_rfl) (by kernel_rfl) (by kernel_rfl) (fun _ _ _ h => h) (Or.inl ⟨by rfl, ?_⟩) hH.out ?_
      rotate_left
      · intro w1 hSw
        obtain ⟨s1, e2, e3, e4⟩ := hSw
        obtain ⟨d0, d1, d2, d3⟩ := four_cells s1
        clear s1
        go_simp; with_reducible rfl
      simp only [List.getElem_toArray, List.getElem_cons_succ, List.getElem_cons_zero, Act.put, List.setIfInBounds_toArray, List.set_cons_zero, List.set_cons_succ]
      refine wpAnyH_take (i := 3) (oi := _) (v := ?_) rfl (by kernel_rfl) (by kernel_rfl) (by kernel_rfl) (fun _ _ _ h => h) (Or.inl ⟨by rfl, ?_⟩) hH.out ?_
      rotate_left
      · intro w1 hSw
        obtain ⟨s1, e2, e3, e4⟩ := hSw
        obtain ⟨d0, d1, d2, d3⟩ := four_cells s1
        clear s1
        go_simp; with_reducible rfl
      simp only [List.getElem_toArray, List.getElem_cons_succ, List.getElem_cons_zero, Act.put, List.setIfInBounds_toArray, List.set_cons_zero, List.set_cons_succ]
      refine wpAnyH_take (i := 4) (oi := _) (v := ?_) rfl (by kernel_rfl) (by kernel_rfl) (by kernel_rfl) (fun _ _ _ h => h) (Or.inl ⟨by rfl, ?_⟩) hH.out ?_
      rotate_left
      · intro w1 hSw
        obtain ⟨s1, e2, e3, e4⟩ := hSw
        obtain ⟨d0, d1, d2, d3⟩ := four_cells s1
        clear s1
        go_simp; with_reducible rfl
      simp only [List.getElem_toArray, List.getElem_cons_succ, List.getElem_cons_zero, Act.put, List.setIfInBounds_toArray, List.set_cons_zero, List.set_cons_succ]
      refine wpAnyH_take (i := 5) (oi := _) (v := ?_) rfl (by kernel_rfl) (by kernel_rfl) (by kernel_rfl) (fun _ _ _ h => h) (Or.inl ⟨by rfl, ?_⟩) hH.out ?_
      rotate_left
      · intro w1 hSw
        obtain ⟨s1, e2, e3, e4⟩ := hSw
        obtain ⟨d0, d1, d2, d3⟩ := four_cells s1
        clear s1
        go_simp; with_reducible rfl
      simp only [List.getElem_toArray, List.getElem_cons_succ, List.getElem_cons_zero, Act.put, List.setIfInBounds_toArray, List.set_cons_zero, List.set_cons_succ]
      refine wpAnyH_take (i := 6) (oi := _) (v := ?_) rfl (by kernel_rfl) (by kernel_rfl) (by kernel_rfl) (fun _ _ _ h => h) (Or.inl ⟨by rfl, ?_⟩) hH.out ?_
      rotate_left
      · intro w1 hSw
        obtain ⟨s1, e2, e3, e4⟩ := hSw
        obtain ⟨d0, d1, d2, d3⟩ := four_cells s1
        clear s1
        go_simp; with_reducible rfl
      simp only [List.getElem_toArray, List.getElem_cons_succ, List.getElem_cons_zero, Act.put, List.setIfInBounds_toArray, List.set_cons_zero, List.set_cons_succ]
      refine wpAnyH_take (i := 7) (oi := _) (v := ?_) rfl (by kernel_rfl) (by kernel_rfl) (by kernel_rfl) (fun _ _ _ h => h) (Or.inl ⟨by rfl, ?_⟩) hH.out ?_
      rotate_left
      · intro w1 hSw
        obtain ⟨s1, e2, e3, e4⟩ := hSw
        obtain ⟨d0, d1, d2, d3⟩ := four_cells s1
        clear s1
        go_simp; with_reducible rfl
      simp only [List.getElem_toArray, List.getElem_cons_succ, List.getElem_cons_zero, Act.put, List.setIfInBounds_toArray, List.set_cons_zero, List.set_cons_succ]
      refine wpAnyH_take (i := 8) (oi := _) (v := ?_) rfl (by kernel_rfl) (by kernel_rfl) (by kernel_rfl) (fun _ _ _ h => h) (Or.inl ⟨by rfl, ?_⟩) hH.out ?_
      rotate_left
      · intro w1 hSw
        obtain ⟨s1, e2, e3, e4⟩ := hSw
        obtain ⟨d0, d1, d2, d3⟩ := four_cells s1
        clear s1
        go_simp; with_reducible rfl
      simp only [List.getElem_toArray, List.getElem_cons_succ, List.getElem_cons_zero, Act.put, List.setIfInBounds_toArray, List.set_cons_zero, List.set_cons_succ]
      refine wpAnyH_take (i := 9) (oi := _) (v := ?_) rfl (by kernel_rfl) (by kernel_rfl) (by kernel_rfl) (fun _ _ _ h => h) (Or.inl ⟨by rfl, ?_⟩) hH.out ?_
      rotate_left
      · intro w1 hSw
        obtain ⟨s1, e2, e3, e4⟩ := hSw
        obtain ⟨d0, d1, d2, d3⟩ := four_cells s1
        clear s1
        go_simp; with_reducible rfl
      simp only [List.getElem_toArray, List.getElem_cons_succ, List.getElem_cons_zero, Act.put, List.setIfInBounds_toArray, List.set_cons_zero, List.set_cons_succ]
      refine wpAnyH_take (i := 10) (oi := _) (v := ?_) rfl (by kernel_rfl) (by kernel_rfl) (by kernel_rfl) (fun _ _ _ h => h) (Or.inl ⟨by rfl, ?_⟩) hH.out ?_
      rotate_left
      · intro w1 hSw
        obtain ⟨s1, e2, e3, e4⟩ := hSw
        obtain ⟨d0, d1, d2, d3⟩ := four_cells s1
        clear s1
        go_simp; with_reducible rfl
      simp only [List.getElem_toArray, List.getElem_cons_succ, List.getElem_cons_zero, Act.put, List.setIfInBounds_toArray, List.set_cons_zero, List.set_cons_succ]
      refine wpAnyH_take (i := 11) (oi := _) (v := ?_) rfl (by kernel_rfl) (by kernel_rfl) (by kernel_rfl) (fun _ _ _ h => h) (Or.inl ⟨by rfl, ?_⟩) hH.out ?_
      rotate_left
      · intro w1 hSw
        obtain ⟨s1, e2, e3, e4⟩ := hSw
        obtain ⟨d0, d1, d2, d3⟩ := four_cells s1
        clear s1
        go_simp; with_reducible rfl
      simp only [List.getElem_toArray, List.getElem_cons_succ, List.getElem_cons_zero, Act.put, List.setIfInBounds_toArray, List.set_cons_zero, List.set_cons_succ]
      refine wpAnyH_take (i := 12) (oi := _) (v := ?_) rfl (by kernel_rfl) (by kernel_rfl) (by kernel_rfl) (fun _ _ _ h => h) (Or.inl ⟨by rfl, ?_⟩) hH.out ?_
      rotate_left
      · intro w1 hSw
        obtain ⟨s1, e2, e3, e4⟩ := hSw
        obtain ⟨d0, d1, d2, d3⟩ := four_cells s1
        clear s1
        go_simp; with_reducible rfl
      simp only [List.getElem_toArray, List.getElem_cons_succ, List.getElem_cons_zero, Act.put, List.setIfInBounds_toArray, List.set_cons_zero, List.set_cons_succ]
      refine wpAnyH_take (i := 13) (oi := _) (v := ?_) rfl (by kernel_rfl) (by kernel_rfl) (by kernel_rfl) (fun _ _ _ h => h) (Or.inl ⟨by rfl, ?_⟩) hH.out ?_
      rotate_left
      · intro w1 hSw
        obtain ⟨s1, e2, e3, e4⟩ := hSw
        obtain ⟨d0, d1, d2, d3⟩ := four_cells s1
        clear s1
        go_simp; with_reducible rfl
      simp only [List.getElem_toArray, List.getElem_cons_succ, List.getElem_cons_zero, Act.put, List.setIfInBounds_toArray, List.set_cons_zero, List.set_cons_succ]
      refine wpAnyH_take (i := 14) (oi := _) (v := ?_) rfl (by kernel_rfl) (by kernel_rfl) (by kernel_rfl) (fun _ _ _ h => h) (Or.inl ⟨by rfl, ?_⟩) hH.out ?_
      rotate_left
      · intro w1 hSw
        obtain ⟨s1, e2, e3, e4⟩ := hSw
        obtain ⟨d0, d1, d2, d3⟩ := four_cells s1
        clear s1
        go_simp; with_reducible rfl
      simp only [List.getElem_toArray, List.getElem_cons_succ, List.getElem_cons_zero, Act.put, List.setIfInBounds_toArray, List.set_cons_zero, List.set_cons_succ]
      refine wpAnyH_take (i := 15) (oi := _) (v := ?_) rfl (by kernel_rfl) (by kernel_rfl) (by kernel_rfl) (fun _ _ _ h => h) (Or.inl ⟨by rfl, ?_⟩) hH.out ?_
      rotate_left
      · intro w1 hSw
        obtain ⟨s1, e2, e3, e4⟩ := hSw
        obtain ⟨d0, d1, d2, d3⟩ := four_cells s1
        clear s1
        go_simp; with_reducible rfl
      simp only [List.getElem_toArray, List.getElem_cons_succ, List.getElem_cons_zero, Act.put, List.setIfInBounds_toArray, List.set_cons_zero, List.set_cons_succ]
      refine wpAnyH_take (i := 16) (oi := _) (v := ?_) rfl (by kernel_rfl) (by kernel_rfl) (by kernel_rfl) (fun _ _ _ h => h) (Or.inl ⟨by rfl, ?_⟩) hH.out ?_
      rotate_left
      · intro w1 hSw
        obtain ⟨s1, e2, e3, e4⟩ := hSw
        obtain ⟨d0, d1, d2, d3⟩ := four_cells s1
        clear s1
        go_simp; with_reducible rfl
      simp only [List.getElem_toArray, List.getElem_cons_succ, List.getElem_cons_zero, Act.put, List.setIfInBounds_toArray, List.set_cons_zero, List.set_cons_succ]
      refine wpAnyH_take (i := 17) (oi := _) (v := ?_) rfl (by kernel_rfl) (by kernel_rfl) (by kernel_rfl) (fun _ _ _ h => h) (Or.inl ⟨by rfl, ?_⟩) hH.out ?_
      rotate_left
      · intro w1 hSw
        obtain ⟨s1, e2, e3, e4⟩ := hSw
        obtain ⟨d0, d1, d2, d3⟩ := four_cells s1
        clear s1
        go_simp; with_reducible rfl
      simp only [List.getElem_toArray, List.getElem_cons_succ, List.getElem_cons_zero, Act.put, List.setIfInBounds_toArray, List.set_cons_zero, List.set_cons_succ]
      refine wpAnyH_take (i := 18) (oi := _) (v := ?_) rfl (by kernel_rfl) (by kernel_rfl) (by kernel_rfl) (fun _ _ _ h => h) (Or.inl ⟨by rfl, ?_⟩) hH.out ?_
      rotate_left
      · intro w1 hSw
        obtain ⟨s1, e2, e3, e4⟩ := hSw
        obtain ⟨d0, d1, d2, d3⟩ := four_cells s1
        clear s1
        go_simp; with_reducible rfl
      simp only [List.getElem_toArray, List.getElem_cons_succ, List.getElem_cons_zero, Act.put, List.setIfInBounds_toArray, List.set_cons_zero, List.set_cons_succ]
      refine wpAnyH_take (i := 19) (oi := _) (v := ?_) rfl (by kernel_rfl) (by kernel_rfl) (by kernel_rfl) (fun _ _ _ h => h) (Or.inl ⟨by rfl, ?_⟩) hH.out ?_
      rotate_left
      · intro w1 hSw
        obtain ⟨s1, e2, e3, e4⟩ := hSw
        obtain ⟨d0, d1, d2, d3⟩ := four_cells s1
        clear s1
        go_simp; with_reducible rfl
      simp only [List.getElem_toArray, List.getElem_cons_succ, List.getElem_cons_zero, Act.put, List.setIfInBounds_toArray, List.set_cons_zero, List.set_cons_succ]
      refine wpAnyH_all (rs := [20]) (by kernel_rfl) (by simp) ?_
      intro i hi; obtain rfl := List.mem_singleton.1 hi; clear hi
      refine wpOp_step rfl (fun K3 hK3 => ?_)
      have HK3 := Lib.hid hK3
      clear hK3
      rw [if_pos (by rfl)]
      go_simp
      obtain ⟨q, eq⟩ : ∃ g, g = Y0.heap.size := ⟨_, rfl⟩
      obtain ⟨Y1, eY⟩ : ∃ Y, Y = Y0.alloc (.cells #[.int .i64 (x3 + k0), .int .i64 0] 73) := ⟨_, rfl⟩
      have hXY : Below Y0.heap.size Y0 Y1 := by rw [eY]; exact (Below.refl _ _).alloc (Nat.le_refl _) _
      have hq : Y1.heap[q]? = some (.cells #[.int .i64 (x3 + k0), .int .i64 0] 73) := by rw [eY, eq]; exact alloc_heap Y0 _
      have hz0 : wr.heap.size ≤ Y0.heap.size := hbY.size
      have hz1 : Y0.heap.size ≤ Y1.heap.size := hXY.size
      rw [← eY, ← eq]
      clear eY eq
      have hw1 := own_below' (own_below' hv hbY) hXY
      replace hH := Lib.hid (And.intro ((hXY.block P (by omega)).trans hH.out.1) (And.intro ((hXY.cell (p := ⟨rb, ro + j * 4 + 2, none⟩) (by simp; omega)).trans hH.out.2.1) (And.intro ((hXY.cell (p := ⟨rb, ro + j * 4 + 3, none⟩) (by simp; omega)).trans hH.out.2.2.1) ((hXY.cell (p := ⟨cb, co + c * 4, none⟩) (by simp; omega)).trans hH.out.2.2.2))))
      replace hbY := hbY.trans (hXY.mono hbY.size)
      clear hXY
      refine HK3.out _ _ ⟨hH.out, ?_⟩
      clear HK3 K3
      try simp only [List.getElem_toArray, List.getElem_cons_succ, List.getElem_cons_zero, Act.put, List.setIfInBounds_toArray, List.set_cons_zero, List.set_cons_succ]
      refine wpAnyH_all (rs := [21]) (by kernel_rfl) (by simp) ?_
      intro i hi; obtain rfl := List.mem_singleton.1 hi; clear hi
      refine wpOp_step rfl (fun K3 hK3 => ?_)
      have HK3 := Lib.hid hK3
      clear hK3
      rw [if_pos (by rfl)]
      have hg1' : ∀ q, u3.ownBlock = some q → W0.heap.size ≤ q := fun q hq => (hw1.lt q hq).1
      simp only [List.getElem_toArray, List.getElem_cons_succ, List.getElem_cons_zero]
      refine wp_oneE (.tmp 12) (.tmp 32) 66 73 2 16 (.agg #[.int .i64 0, .int .i64 0]) Try.underlying66 Try.info73 rfl (by decide) (by decide) (by rfl) W0.heap.size q (by rfl) hw1 [.int .i64 (x3 + k0), .int .i64 0] rfl (by rfl) hq (by intro u hu; simp at hu; rcases hu with rfl | rfl <;> rfl) (by omega) (by omega) ?_
      intro g2 cp2 Y2 hown2 hg2 hXY
      replace hH := Lib.hid (And.intro ((hXY.block P (by omega) (fun e => by have := hg1' P e.symm; omega)).trans hH.out.1) (And.intro (hXY.cell hH.out.2.1 (fun e => by have := hg1' _ e.symm; simp at this; omega)) (And.intro (hXY.cell hH.out.2.2.1 (fun e => by have := hg1' _ e.symm; simp at this; omega)) (hXY.cell hH.out.2.2.2 (fun e => by have := hg1' _ e.symm; simp at this; omega)))))
      have hbZ : Below W0.heap.size W0 Y2 := (HBW.out.trans (hbY.mono HBW.out.size)).grown hXY (by omega) (fun r hr => hg1' r hr)
      clear hXY
      refine HK3.out _ _ ⟨hH.out, ?_⟩
      clear HK3 K3
      try simp only [List.getElem_toArray, List.getElem_cons_succ, List.getElem_cons_zero, Act.put, List.setIfInBounds_toArray, List.set_cons_zero, List.set_cons_succ]
      refine wpAnyH_take (i := 22) (oi := _) (v := ?_) rfl (by kernel_rfl) (by kernel_rfl) (by kernel_rfl) (fun _ _ _ h => h) (Or.inl ⟨by rfl, ?_⟩) hH.out ?_
      rotate_left
      · intro w1 hSw
        obtain ⟨s1, e2, e3, e4⟩ := hSw
        obtain ⟨d0, d1, d2, d3⟩ := four_cells s1
        clear s1
        go_simp; with_reducible rfl
      simp only [List.getElem_toArray, List.getElem_cons_succ, List.getElem_cons_zero, Act.put, List.setIfInBounds_toArray, List.set_cons_zero, List.set_cons_succ]
      refine wpAnyH_done (by kernel_rfl) ?_ _
      go_wp2
      go_roundw
      case rel => exact ⟨j + 1, by omega, by go_num, by rw [HFL.out]; exact hown2, hbZ⟩
      case measure => simp [intOf]; omega
    · have hjl : j = rs.length := by omega
      have i1 : ¬ (j : Int) < (rs.length : Int) := by omega
      have htk : BG.take j = BG := List.take_of_length_le (by rw [HBL.out]; exact Nat.le_of_eq hjl.symm)
      rw [htk] at hv
      have ht := tab_of_own hv (by rw [HBL.out]; exact hjl) (by rw [HBL.out]; show rs.length ≤ maxLen; unfold maxLen; omega)
      have HT := Lib.hid (And.intro ht (nil_own hv))
      clear htk hv ht hjl hlt hj hbw hS1
      go_wp2
      go_ret
      exact ⟨⟨_, rfl, HT.out⟩, HB.out.trans (HBW.out.mono HB.out.size)⟩
end Go.Proofs.Ytcmfplfnpjknlaa
