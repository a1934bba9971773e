/- Term: the reference's order (its mathematics). -/
import Derived.Test.YtcmfplfnpjknlaaC1
import Derived.Test.YtcmfplfnpjknlaaA11
import Derived.Test.YtcmfplfnpjknlaaB32
namespace Go.Proofs.Ytcmfplfnpjknlaa
set_option linter.unusedSimpArgs false
set_option linter.unusedVariables false
open Go.RowKit

theorem putF_split (ps : List Prf) (i : Nat) : ∀ (A B : List Nat), (∀ a ∈ A, ps[i]!.day < ps[a]!.day) → (∀ b C, B = b :: C → ¬ ps[i]!.day < ps[b]!.day) → putF ps i (A ++ B) = A ++ i :: B
  | [], [], _, _ => rfl
  | [], b :: B, _, h => by
    rw [List.nil_append, List.nil_append]
    unfold putF
    rw [if_neg (h b B rfl)]
  | a :: A, B, h1, h2 => by
    rw [List.cons_append, List.cons_append]
    unfold putF
    rw [if_pos (h1 a (by simp)), putF_split ps i A B (fun c hc => h1 c (by simp [hc])) h2]
/-- where the next proof is put -/
theorem order_put {ps : List Prf} {n at_ : Nat} (h1 : ∀ a ∈ (orderF ps n).drop at_, ps[n]!.day < ps[a]!.day) (h2 : at_ = 0 ∨ ∃ b, (orderF ps n)[at_ - 1]? = some b ∧ ¬ ps[n]!.day < ps[b]!.day) (hle : at_ ≤ n) :
    orderF ps (n + 1) = (orderF ps n).take at_ ++ n :: (orderF ps n).drop at_ := by
  have hl := orderF_len ps n
  have hR : ordR ps n = ((orderF ps n).drop at_).reverse ++ ((orderF ps n).take at_).reverse := by
    rw [← List.reverse_append, List.take_append_drop]
    unfold orderF; rw [List.reverse_reverse]
  have hp : putF ps n (ordR ps n) = ((orderF ps n).drop at_).reverse ++ n :: ((orderF ps n).take at_).reverse := by
    rw [hR]
    refine putF_split ps n _ _ (fun a ha => h1 a (List.mem_reverse.1 ha)) (fun b C hB => ?_)
    rcases h2 with h0 | ⟨b', hb', hn⟩
    · subst h0; simp at hB
    · have hat : at_ - 1 < (orderF ps n).length := (List.getElem?_eq_some_iff.1 hb').1
      have hpos : 0 < at_ := by
        rcases Nat.eq_zero_or_pos at_ with h | h
        · subst h; simp at hB
        · exact h
      have hlen : ((orderF ps n).take at_).length = at_ := by rw [List.length_take]; omega
      have hb : ((orderF ps n).take at_).reverse[0]? = some b := by rw [hB]; rfl
      rw [List.getElem?_reverse (by omega), hlen, Nat.sub_zero, List.getElem?_take_of_lt (by omega), hb'] at hb
      cases hb
      exact hn
  show (putF ps n (ordR ps n)).reverse = _
  rw [hp]
  simp

def intsL (l : List Nat) : List Int := l.map (fun x : Nat => (x : Int))
/-- the proofs behind a place come later -/
def LateOk (ps : List Prf) (j a : Nat) : Prop := ∀ x ∈ (orderF ps j).drop a, ps[j]!.day < ps[x]!.day
def jumpB (ps : List Prf) (j a : Nat) : Bool := match a with
  | 0 => false
  | a + 1 => match (orderF ps j)[a]? with
    | some b => decide (ps[j]!.day < ps[b]!.day)
    | none => false
theorem jump_at {ps : List Prf} {j a b : Nat} (h : (orderF ps j)[a]? = some b) : jumpB ps j (a + 1) = decide (ps[j]!.day < ps[b]!.day) := by
  unfold jumpB; simp only [h]
theorem jump_false {ps : List Prf} {j a : Nat} (h : jumpB ps j a = false) (ha : a ≤ j) : a = 0 ∨ ∃ b, (orderF ps j)[a - 1]? = some b ∧ ¬ ps[j]!.day < ps[b]!.day := by
  cases a with
  | zero => exact .inl rfl
  | succ a =>
    right
    have hal : a < (orderF ps j).length := by rw [orderF_len]; omega
    have hb : (orderF ps j)[a]? = some (orderF ps j)[a] := List.getElem?_eq_getElem hal
    rw [jump_at hb] at h
    exact ⟨_, hb, of_decide_eq_false h⟩
theorem late_all (ps : List Prf) (j : Nat) : LateOk ps j j := fun x hx => by
  rw [List.drop_eq_nil_of_le (by rw [orderF_len]; exact Nat.le_refl _)] at hx
  cases hx
theorem late_next {ps : List Prf} {j a b : Nat} (h : LateOk ps j (a + 1)) (hb : (orderF ps j)[a]? = some b) (hlt : ps[j]!.day < ps[b]!.day) : LateOk ps j a := by
  intro x hx
  have ha := (List.getElem?_eq_some_iff.1 hb).1
  rw [List.drop_eq_getElem_cons ha] at hx
  rcases List.mem_cons.1 hx with rfl | hx
  · have := (List.getElem?_eq_some_iff.1 hb).2
    rw [this]; exact hlt
  · exact h x hx
theorem own_below4 {X Y : World} {base : Nat} {e : TypeId} {k n : Nat} {v : Value} {xs : List Value} (h : X.ownsRow base e k v n xs) (hb : Below X.heap.size X Y) : Y.ownsRow base e k v n xs := by
  refine ⟨h.1, ?_⟩
  rcases h.2 with h | ⟨g, cap, cur, e1, h1, h2, h3⟩
  · exact .inl h
  · exact .inr ⟨g, cap, cur, e1, h1, (hb.block g (Array.getElem?_eq_some_iff.1 h2).1).trans h2, h3⟩
theorem flat_int (L : List Int) : flatK 1 numC L = intV L := by
  unfold flatK intV
  induction L with
  | nil => rfl
  | cons x l ih => rw [List.flatMap_cons, List.map_cons, ih]; rfl
theorem order_tab {w : World} {base n : Nat} {v : Value} {F : List Value} {L : List Int} (h : w.ownsRow base 3 1 v n F) (hF : F = intV L ∧ n = L.length ∧ L.length ≤ 1000) (hn : 0 < n := by omega) : TabAt 1 numC w v L ∧ NilOk v := by
  obtain ⟨rfl, h2, h3⟩ := hF
  refine ⟨tab_of_own (by rw [flat_int]; exact h) h2 (by unfold maxLen; omega), ?_⟩
  rcases h.2 with ⟨_, h0⟩ | ⟨g, cap, cur, rfl, _⟩
  · omega
  · intro n' c' e; simp at e
theorem fin_ok {ps : List Prf} {j a : Nat} (h : orderF ps (j + 1) = (orderF ps j).take a ++ j :: (orderF ps j).drop a) (ha : a ≤ j) (hj : j < 1000) (hj2 : j < 999) : [] ++ intV (((intsL (orderF ps j)).drop 0).take a) ++ [.int .i64 (j : Int)] ++ intV (((intsL (orderF ps j)).drop a).take (j - a)) = intV (intsL (orderF ps (j + 1))) ∧ 0 + a + 1 + (j - a) = (intsL (orderF ps (j + 1))).length ∧ (intsL (orderF ps (j + 1))).length ≤ 1000 := by
  have hl : (intsL (orderF ps (j + 1))).length = j + 1 := by unfold intsL; rw [List.length_map, orderF_len]
  refine ⟨?_, by omega, by omega⟩
  rw [h]
  have hd : (((intsL (orderF ps j)).drop a).take (j - a)) = (intsL (orderF ps j)).drop a := List.take_of_length_le (by unfold intsL; rw [List.length_drop, List.length_map, orderF_len]; exact Nat.le_refl _)
  rw [hd]
  unfold intV intsL
  simp
theorem tab_cap {w : World} {a : Option Addr} {n c : Nat} {L : List Int} (h : TabAt 1 numC w (.slice a n c) L) (hn : L.length = n) : n ≤ c := by
  obtain ⟨_, ⟨rfl, a', c', e⟩ | ⟨b, off, cap, e, h1, _⟩⟩ := h
  · simp at hn; omega
  · simp only [Value.slice.injEq] at e
    omega
theorem jump_true {ps : List Prf} {j a : Nat} (hl : LateOk ps j a) (h : jumpB ps j a = true) : ∃ a', a = a' + 1 ∧ LateOk ps j a' := by
  cases a with
  | zero => cases h
  | succ a =>
    refine ⟨a, rfl, ?_⟩
    cases hb : (orderF ps j)[a]? with
    | none => unfold jumpB at h; simp only [hb] at h; cases h
    | some b =>
      rw [jump_at hb] at h
      exact late_next hl hb (of_decide_eq_true h)
set_option maxRecDepth 100000 in
set_option maxHeartbeats 12800000 in
theorem order_any (s : Stk) (v : Value) (w : World) (hs : StkAt w v s) (hfew : s.ps.length ≤ 12) :
    Calls Try.prog 44 #[v] w fun e w' => (∃ v', e = .returned v' ∧ TabAt 1 numC w' v' (intsL (orderF s.ps s.ps.length))) ∧ Below w.heap.size w w' := by
  obtain ⟨cv, rv, pv, bv, rfl, hc, hr, hp, hb⟩ := hs
  obtain ⟨cs, rs, ps, bs⟩ := s
  simp only [] at hc hr hp hb
  obtain ⟨ca, cc, rfl⟩ := hc.shape
  obtain ⟨ra, rc, rfl⟩ := hr.shape
  obtain ⟨pa, pc, rfl⟩ := hp.shape
  obtain ⟨ba, bc, rfl⟩ := hb.shape
  have m1 : cs.length ≤ 9223372036854775807 := hc.1
  have m2 : rs.length ≤ 9223372036854775807 := hr.1
  have m3 : ps.length ≤ 9223372036854775807 := hp.1
  have m4 : bs.length ≤ 9223372036854775807 := hb.1
  obtain ⟨W0, hW0⟩ : ∃ X, X = w.alloc (.cells #[.slice ca cs.length cc, .slice ra rs.length rc, .slice pa ps.length pc, .slice ba bs.length bc] 27) := ⟨_, rfl⟩
  have hb0 : Below w.heap.size w W0 := by rw [hW0]; exact (Below.refl _ _).alloc (Nat.le_refl _) _
  have hr0 : W0.heap[w.heap.size]? = some (.cells #[.slice ca cs.length cc, .slice ra rs.length rc, .slice pa ps.length pc, .slice ba bs.length bc] 27 (0, 0)) := by rw [hW0]; exact alloc_heap w _
  have hc0 := Lib.hid (hc.below hb0)
  have hq0 := Lib.hid (hr.below hb0)
  have hp0 := Lib.hid (hp.below hb0)
  have hs0 := Lib.hid (hb.below hb0)
  obtain ⟨P, hP⟩ : ∃ P, w.heap.size = P := ⟨_, rfl⟩
  rw [hP] at hr0
  obtain ⟨d0, d1, d2, d3⟩ := four_cells hr0
  have HB := Lib.hid hb0
  have HR0 := Lib.hid hr0
  clear hr0 hb0 hc hr hp hb
  have hsz : W0.heap.size = P + 1 := by rw [hW0, ← hP]; simp
  have HSZ := Lib.hid hsz
  clear hsz
  try simp only [] at hfew
  go_enter Try.func44, Try.ntmps44
  go_upto_region 1 with fail
  rw [← hW0]
  clear hW0 hP
  go_wp2
  clear d0 d1 d2 d3
  go_loopw [3, 4] (fun sv i wr => ∃ j : Nat, j ≤ ps.length ∧ i = .int .i64 j ∧ TabAt 1 numC wr sv (intsL (orderF ps j)) ∧ NilOk sv ∧ Below W0.heap.size W0 wr) (fun _ i _ => ps.length - (intOf i).toNat)
  case atStart => exact ⟨0, by omega, rfl, ⟨by simp [intsL, orderF, ordR, maxLen], .inl ⟨rfl, none, 0, rfl⟩⟩, fun n c h => by simp at h; exact ⟨h.1.symm, h.2.symm⟩, Below.refl _ _⟩
  case round =>
    obtain ⟨j, hj, rfl, hv, hnil, hbw⟩ := hrel
    obtain ⟨oa, oc, rfl⟩ := hv.shape
    have hol : (intsL (orderF ps j)).length = j := by unfold intsL; rw [List.length_map, orderF_len]
    rw [hol] at hv ⊢
    have HBW := Lib.hid hbw
    have hoc : j ≤ oc := tab_cap hv hol
    have HOC := Lib.hid hoc
    clear hoc
    have HV := Lib.hid hv
    have HNIL := Lib.hid hnil
    rw [hol] at hnil
    have HNIL2 := Lib.hid hnil
    have hS1 := box_step (w0 := w) HR0.out hbw
    obtain ⟨d0, d1, d2, d3⟩ := four_cells hS1
    clear hv hnil
    by_cases hlt : j < ps.length
    · obtain ⟨pb, po, e1, hpb, hpx⟩ := hp0.out.at (show 0 < ps.length by omega)
      subst e1
      have hday := fun m (hm : m < ps.length) => (hbw.cell (p := ⟨pb, po + m * 4 + 1, none⟩) hpb).trans (hpx m hm).choose_spec.2.1
      have HDAY := Lib.hid hday
      have ij1 : (j : Int) < (ps.length : Int) := Int.ofNat_lt.2 hlt
      have HS1 := Lib.hid hS1
      clear hpx hday hbw hS1
      go_wp2
      clear d0 d1 d2 d3
      obtain ⟨wo, hwo⟩ : ∃ wo : World, wo = wr := ⟨_, rfl⟩
      subst hwo
      go_loopw [5] (fun at_ wr2 => ∃ (a : Nat), a ≤ j ∧ at_ = .int .i64 a ∧ LateOk ps j a ∧ Below wo.heap.size wo wr2) (fun at_ _ => (intOf at_).toNat)
      case atStart => exact ⟨j, by omega, by rfl, late_all ps j, Below.refl _ _⟩
      case round =>
        obtain ⟨a, ha, rfl, hlate, hbd⟩ := hrel
        have HBD := Lib.hid hbd
        have HLT := Lib.hid hlate
        have hS2 := box_step (w0 := w) HS1.out hbd
        obtain ⟨d0, d1, d2, d3⟩ := four_cells hS2
        have hpw : pb < wo.heap.size := Nat.lt_of_lt_of_le hpb HBW.out.size
        have p2 := (hbd.cell (p := ⟨pb, po + j * 4 + 1, none⟩) hpw).trans (HDAY.out j hlt)
        have e2 : ps.getD j default = ps[j]! := by rw [getElem!_pos ps j hlt, List.getD, List.getElem?_eq_getElem hlt]; rfl
        rw [e2] at p2
        obtain ⟨dj, hdj⟩ : ∃ d, ps[j]!.day = d := ⟨_, rfl⟩
        rw [hdj] at p2
        have HDJ := Lib.hid hdj
        obtain ⟨wi, hwi⟩ : ∃ wi : World, wi = wr := ⟨_, rfl⟩
        subst hwi
        clear hdj e2 hlate
        go_upto_region 6 with fail
        go_cut [35] (fun x wc => x = .bool (jumpB ps j a) ∧ Below wi.heap.size wi wc)
        case first =>
          by_cases ha0 : a = 0
          · subst ha0
            have i2 : ¬ (0 : Int) < ((0 : Nat) : Int) := by omega
            go_quiet (fail)
            go_wp2
            go_meet
            case rel => exact ⟨rfl, below_drewn (Below.refl _ _) _⟩
          · obtain ⟨a', rfl⟩ : ∃ a', a = a' + 1 := ⟨a - 1, by omega⟩
            obtain ⟨ob, oo, e1, hob, hox⟩ := HV.out.at (by rw [hol]; omega)
            subst e1
            have hal : a' < (orderF ps j).length := by rw [orderF_len]; omega
            obtain ⟨b, hb⟩ : ∃ b, (orderF ps j)[a']? = some b := ⟨_, List.getElem?_eq_getElem hal⟩
            have hbj : b < j := orderF_lt ps j b (List.mem_of_getElem? hb)
            have hbl : b < ps.length := by omega
            have hib : (intsL (orderF ps j)).getD a' default = (b : Int) := by unfold intsL; simp [List.getD, hb]
            have o0 := (hbd.cell (p := ⟨ob, oo + a' * 1 + 0, none⟩) hob).trans (hox a' (by rw [hol]; omega) 0 (by omega))
            rw [hib] at o0
            simp only [Nat.mul_one, Nat.add_zero, numC] at o0
            have p1 := (hbd.cell (p := ⟨pb, po + b * 4 + 1, none⟩) hpw).trans (HDAY.out b hbl)
            have e1 : ps.getD b default = ps[b]! := by rw [getElem!_pos ps b hbl, List.getD, List.getElem?_eq_getElem hbl]; rfl
            rw [e1] at p1
            have hj : jumpB ps j (a' + 1) = decide (dj < ps[b]!.day) := by rw [jump_at hb, HDJ.out]
            obtain ⟨db, hdb⟩ : ∃ d, ps[b]!.day = d := ⟨_, rfl⟩
            rw [hdb] at p1 hj
            have HJ := Lib.hid hj
            have i2 : (0 : Int) < ((a' + 1 : Nat) : Int) := by omega
            have i3 : IntKind.i64.wrap (((a' + 1 : Nat) : Int) - 1) = (a' : Int) := by rw [IntWalk.i64_in _ (by omega)]; omega
            have ib1 : (b : Int) < (ps.length : Int) := Int.ofNat_lt.2 hbl
            have ia1 : (a' : Int) < (j : Int) := by omega
            clear hox hib hal hb hdb e1 hbd hS2 hj
            go_quiet (fail)
            go_wp2
            go_meet
            case rel => exact ⟨by rw [HJ.out], below_drewn (Below.refl _ _) _⟩
        case rest =>
          obtain ⟨rfl, hbc⟩ := hcut
          have HBD2 := Lib.hid (HBD.out.trans (hbc.mono HBD.out.size))
          obtain ⟨cj, hcj⟩ : ∃ c, jumpB ps j a = c := ⟨_, rfl⟩
          rw [hcj]
          clear hbc d0 d1 d2 d3 p2 hS2 hbd
          cases cj with
          | true =>
            obtain ⟨a', rfl, hln⟩ := jump_true HLT.out hcj
            have i3 : IntKind.i64.wrap (((a' + 1 : Nat) : Int) - 1) = (a' : Int) := by rw [IntWalk.i64_in _ (by omega)]; omega
            have HLN := Lib.hid hln
            clear hcj hln
            go_wp2
            go_roundw
            case rel => exact ⟨a', by omega, by go_num, HLN.out, HBD2.out⟩
            case measure => simp [intOf]
          | false =>
            have hput := order_put (n := j) HLT.out (jump_false hcj ha) ha
            have HPUT := Lib.hid hput
            clear hcj hput
            go_upto_region 8 with fail
            obtain ⟨wm, hwm⟩ : ∃ wm : World, wm = wc := ⟨_, rfl⟩
            subst hwm
            have c1 : (0 : Int) ≤ (a : Int) := by omega
            have c2 : (a : Int) ≤ (j : Int) := by omega
            have c3 : (a : Int) ≤ (oc : Int) := by have := HOC.out; omega
            have hvm := (HV.out.below HBD2.out)
            by_cases hca : oc = a
            · have hja : j = a := by have := HOC.out; omega
              subst hja
              subst hca
              have hsa := src_tab hvm HNIL2.out hol (l := 0) (m := oc) (a' := oa) (c' := oc) (by omega) ⟨fun h => ⟨h, (HNIL2.out _ _ (by rw [h])).2⟩, fun b off h _ => by rw [h]; rfl⟩ (fun h => h)
              have hsb := src_tab hvm HNIL2.out hol (l := oc) (m := 0) (a' := oa) (c' := 0) (by omega) ⟨fun h => ⟨h, rfl⟩, fun b off h hm => absurd hm (Nat.lt_irrefl 0)⟩ (fun h => h)
              have HSA := Lib.hid hsa
              have HSB := Lib.hid hsb
              have HFIN := Lib.hid (show [] ++ intV (((intsL (orderF ps oc)).drop 0).take oc) ++ [.int .i64 (oc : Int)] ++ intV (((intsL (orderF ps oc)).drop oc).take 0) = intV (intsL (orderF ps (oc + 1))) ∧ 0 + oc + 1 + 0 = (intsL (orderF ps (oc + 1))).length ∧ (intsL (orderF ps (oc + 1))).length ≤ 1000 from by have := fin_ok HPUT.out (Nat.le_refl _) (by omega) (by omega); rwa [Nat.sub_self] at this)
              clear hsa hsb hvm
              refine wp_region_held_drew (S := fun w' => Below wm.heap.size wm w') (by kernel_rfl) (Below.refl _ _).drew (fun hHeld => ?_)
              obtain ⟨Y0, hY0⟩ : ∃ X, X = wm.drew := ⟨_, rfl⟩
              rw [← hY0] at hHeld ⊢
              have hbY := hHeld
              have hzY : wm.heap.size ≤ Y0.heap.size := hbY.size
              clear hY0 hHeld
              refine wpAnyH_take (i := 1) (oi := _) (v := ?_) rfl (by kernel_rfl) (by kernel_rfl) (by kernel_rfl) (fun _ _ _ h => h) (Or.inl ⟨by rfl, ?_⟩) hbY ?_
              rotate_left
              · intro w1 hSw

                go_simp; with_reducible rfl
              simp only [List.getElem_toArray, List.getElem_cons_succ, List.getElem_cons_zero, Act.put, List.setIfInBounds_toArray, List.set_cons_zero, List.set_cons_succ]
              refine wpAnyH_take (i := 2) (oi := _) (v := ?_) rfl (by kernel_rfl) (by kernel_rfl) (by kernel_rfl) (fun _ _ _ h => h) (Or.inl ⟨by rfl, ?_⟩) hbY ?_
              rotate_left
              · intro w1 hSw

                go_simp; with_reducible rfl
              simp only [List.getElem_toArray, List.getElem_cons_succ, List.getElem_cons_zero, Act.put, List.setIfInBounds_toArray, List.set_cons_zero, List.set_cons_succ]
              refine wpAnyH_take (i := 3) (oi := _) (v := ?_) rfl (by kernel_rfl) (by kernel_rfl) (by kernel_rfl) (fun _ _ _ h => h) (Or.inl ⟨by rfl, ?_⟩) hbY ?_
              rotate_left
              · intro w1 hSw

                go_simp; with_reducible rfl
              simp only [List.getElem_toArray, List.getElem_cons_succ, List.getElem_cons_zero, Act.put, List.setIfInBounds_toArray, List.set_cons_zero, List.set_cons_succ]
              refine wpAnyH_take (i := 5) (oi := _) (v := ?_) rfl (by kernel_rfl) (by kernel_rfl) (by kernel_rfl) (fun _ _ _ h => h) (Or.inl ⟨by rfl, ?_⟩) hbY ?_
              rotate_left
              · intro w1 hSw

                go_simp; with_reducible rfl
              simp only [List.getElem_toArray, List.getElem_cons_succ, List.getElem_cons_zero, Act.put, List.setIfInBounds_toArray, List.set_cons_zero, List.set_cons_succ]
              refine wpAnyH_take (i := 8) (oi := _) (v := ?_) rfl (by kernel_rfl) (by kernel_rfl) (by kernel_rfl) (fun _ _ _ h => h) (Or.inl ⟨by rfl, ?_⟩) hbY ?_
              rotate_left
              · intro w1 hSw

                go_simp; with_reducible rfl
              simp only [List.getElem_toArray, List.getElem_cons_succ, List.getElem_cons_zero, Act.put, List.setIfInBounds_toArray, List.set_cons_zero, List.set_cons_succ]
              refine wpAnyH_take (i := 9) (oi := _) (v := ?_) rfl (by kernel_rfl) (by kernel_rfl) (by kernel_rfl) (fun _ _ _ h => h) (Or.inl ⟨by rfl, ?_⟩) hbY ?_
              rotate_left
              · intro w1 hSw

                go_simp; with_reducible rfl
              simp only [List.getElem_toArray, List.getElem_cons_succ, List.getElem_cons_zero, Act.put, List.setIfInBounds_toArray, List.set_cons_zero, List.set_cons_succ]
              refine wpAnyH_take (i := 10) (oi := _) (v := ?_) rfl (by kernel_rfl) (by kernel_rfl) (by kernel_rfl) (fun _ _ _ h => h) (Or.inl ⟨by rfl, ?_⟩) hbY ?_
              rotate_left
              · intro w1 hSw

                go_simp; with_reducible rfl
              simp only [List.getElem_toArray, List.getElem_cons_succ, List.getElem_cons_zero, Act.put, List.setIfInBounds_toArray, List.set_cons_zero, List.set_cons_succ]
              refine wpAnyH_all (rs := [0, 6]) (by kernel_rfl) (by simp) ?_
              intro i hi
              rcases (by simpa using hi : i = 0 ∨ i = 6) with rfl | rfl <;> clear hi
              · refine wpOp_step rfl (fun K3 hK3 => ?_)
                have HK3 := Lib.hid hK3
                clear hK3
                rw [if_pos (by rfl)]
                go_simp
                obtain ⟨g1, eg1⟩ : ∃ g, g = Y0.heap.size := ⟨_, rfl⟩
                obtain ⟨Y00, eY⟩ : ∃ Y, Y = Y0.alloc (.cells #[] 3) := ⟨_, rfl⟩
                have hXY : Below Y0.heap.size Y0 Y00 := by rw [eY]; exact (Below.refl _ _).alloc (Nat.le_refl _) _
                have h1 : Y00.ownsRow wm.heap.size 3 1 (.slice (some ⟨g1, 0, none⟩) 0 0) 0 [] := by rw [eY, eg1]; exact World.ownsRow_lit Y0 #[] 0 (by omega) (by decide) rfl
                have hgz : g1 < Y00.heap.size := by rw [eY, eg1]; simp
                have hgl : wm.heap.size ≤ g1 := by omega
                rw [← eY, ← eg1]
                clear eY eg1
                replace hbY := hbY.trans (hXY.mono hzY)
                replace hzY := hbY.size
                clear hXY
                refine HK3.out _ _ ⟨hbY, ?_⟩
                clear HK3 K3
                try simp only [List.getElem_toArray, List.getElem_cons_succ, List.getElem_cons_zero, Act.put, List.setIfInBounds_toArray, List.set_cons_zero, List.set_cons_succ]
                refine wpAnyH_all (rs := [4, 6]) (by kernel_rfl) (by simp) ?_
                intro i hi
                rcases (by simpa using hi : i = 4 ∨ i = 6) with rfl | rfl <;> clear hi
                · refine wpOp_step rfl (fun K3 hK3 => ?_)
                  have HK3 := Lib.hid hK3
                  clear hK3
                  rw [if_pos (by rfl)]
                  simp only [List.getElem_toArray, List.getElem_cons_succ, List.getElem_cons_zero]
                  refine wp_manyI (.tmp 38) (.tmp 41) (by rfl) wm.heap.size (by rfl) h1 (by rfl) (HSA.out.below hbY) (by omega) hzY ?_
                  intro v1 Y004 hown1 hXY
                  replace h1 := hown1
                  clear hown1
                  replace hbY := hbY.grown hXY hzY (fun r hr => by simp [Value.ownBlock] at hr; omega)
                  replace hzY := hbY.size
                  clear hXY
                  refine HK3.out _ _ ⟨hbY, ?_⟩
                  clear HK3 K3
                  try simp only [List.getElem_toArray, List.getElem_cons_succ, List.getElem_cons_zero, Act.put, List.setIfInBounds_toArray, List.set_cons_zero, List.set_cons_succ]
                  refine wpAnyH_all (rs := [6]) (by kernel_rfl) (by simp) ?_
                  intro i hi; obtain rfl := List.mem_singleton.1 hi; clear hi
                  refine wpOp_step rfl (fun K3 hK3 => ?_)
                  have HK3 := Lib.hid hK3
                  clear hK3
                  rw [if_pos (by rfl)]
                  go_simp
                  obtain ⟨q, eq⟩ : ∃ g, g = Y004.heap.size := ⟨_, rfl⟩
                  obtain ⟨Y0046, eY⟩ : ∃ Y, Y = Y004.alloc (.cells #[.int .i64 (oc : Int)] 3) := ⟨_, rfl⟩
                  have hXY : Below Y004.heap.size Y004 Y0046 := by rw [eY]; exact (Below.refl _ _).alloc (Nat.le_refl _) _
                  have hq : Y0046.heap[q]? = some (.cells #[.int .i64 (oc : Int)] 3) := by rw [eY, eq]; exact alloc_heap Y004 _
                  have hqz : q < Y0046.heap.size := by rw [eY, eq]; simp
                  replace h1 := own_below4 h1 hXY
                  rw [← eY, ← eq]
                  clear eY eq
                  replace hbY := hbY.trans (hXY.mono hzY)
                  replace hzY := hbY.size
                  clear hXY
                  refine HK3.out _ _ ⟨hbY, ?_⟩
                  clear HK3 K3
                  try simp only [List.getElem_toArray, List.getElem_cons_succ, List.getElem_cons_zero, Act.put, List.setIfInBounds_toArray, List.set_cons_zero, List.set_cons_succ]
                  refine wpAnyH_all (rs := [7]) (by kernel_rfl) (by simp) ?_
                  intro i hi; obtain rfl := List.mem_singleton.1 hi; clear hi
                  refine wpOp_step rfl (fun K3 hK3 => ?_)
                  have HK3 := Lib.hid hK3
                  clear hK3
                  rw [if_pos (by rfl)]
                  have hg1' : ∀ q, v1.ownBlock = some q → wm.heap.size ≤ q := fun q hq => (h1.lt q hq).1
                  simp only [List.getElem_toArray, List.getElem_cons_succ, List.getElem_cons_zero]
                  refine wp_oneE (.tmp 42) (.tmp 44) 32 3 1 8 (.int .i64 0) Try.underlying32 Try.info3' rfl (by decide) (by decide) (by rfl) wm.heap.size q (by rfl) h1 [.int .i64 (oc : Int)] rfl (by rfl) hq (by intro u hu; simp at hu; rcases hu with rfl; rfl) (by omega) hzY ?_
                  intro g2 cp2 Y00467 hown2 hg2 hXY
                  replace hbY := hbY.grown hXY hzY (fun r hr => hg1' r hr)
                  replace hzY := hbY.size
                  clear hXY
                  refine HK3.out _ _ ⟨hbY, ?_⟩
                  clear HK3 K3
                  try simp only [List.getElem_toArray, List.getElem_cons_succ, List.getElem_cons_zero, Act.put, List.setIfInBounds_toArray, List.set_cons_zero, List.set_cons_succ]
                  refine wpAnyH_all (rs := [11]) (by kernel_rfl) (by simp) ?_
                  intro i hi; obtain rfl := List.mem_singleton.1 hi; clear hi
                  refine wpOp_step rfl (fun K3 hK3 => ?_)
                  have HK3 := Lib.hid hK3
                  clear hK3
                  rw [if_pos (by rfl)]
                  have hg2' : ∀ q, (Value.slice (some ⟨g2, 0, none⟩) (0 + oc + 1) cp2).ownBlock = some q → wm.heap.size ≤ q := fun q hq => (hown2.lt q hq).1
                  simp only [List.getElem_toArray, List.getElem_cons_succ, List.getElem_cons_zero]
                  refine wp_manyI (.tmp 45) (.tmp 48) (by rfl) wm.heap.size (by rfl) hown2 (by rfl) (HSB.out.below hbY) (by omega) hzY ?_
                  intro v3 Y0046711 hown3 hXY
                  replace hbY := hbY.grown hXY hzY (fun r hr => hg2' r hr)
                  replace hzY := hbY.size
                  clear hXY
                  refine HK3.out _ _ ⟨hbY, ?_⟩
                  clear HK3 K3
                  try simp only [List.getElem_toArray, List.getElem_cons_succ, List.getElem_cons_zero, Act.put, List.setIfInBounds_toArray, List.set_cons_zero, List.set_cons_succ]
                  refine wpAnyH_take (i := 12) (oi := _) (v := ?_) rfl (by kernel_rfl) (by kernel_rfl) (by kernel_rfl) (fun _ _ _ h => h) (Or.inl ⟨by rfl, ?_⟩) hbY ?_
                  rotate_left
                  · intro w1 hSw

                    go_simp; with_reducible rfl
                  simp only [List.getElem_toArray, List.getElem_cons_succ, List.getElem_cons_zero, Act.put, List.setIfInBounds_toArray, List.set_cons_zero, List.set_cons_succ]
                  refine wpAnyH_done (by kernel_rfl) ?_ _
                  have hfin := order_tab hown3 HFIN.out
                  go_wp2
                  go_roundw
                  case rel => exact ⟨oc + 1, by omega, by go_num, hfin.1, hfin.2, (HBW.out.trans (HBD2.out.mono HBW.out.size)).trans (hbY.mono (HBW.out.trans (HBD2.out.mono HBW.out.size)).size)⟩
                  case measure => simp [intOf]; omega
                · refine wpOp_step rfl (fun K3 hK3 => ?_)
                  have HK3 := Lib.hid hK3
                  clear hK3
                  rw [if_pos (by rfl)]
                  go_simp
                  obtain ⟨q, eq⟩ : ∃ g, g = Y00.heap.size := ⟨_, rfl⟩
                  obtain ⟨Y006, eY⟩ : ∃ Y, Y = Y00.alloc (.cells #[.int .i64 (oc : Int)] 3) := ⟨_, rfl⟩
                  have hXY : Below Y00.heap.size Y00 Y006 := by rw [eY]; exact (Below.refl _ _).alloc (Nat.le_refl _) _
                  have hq : Y006.heap[q]? = some (.cells #[.int .i64 (oc : Int)] 3) := by rw [eY, eq]; exact alloc_heap Y00 _
                  have hqz : q < Y006.heap.size := by rw [eY, eq]; simp
                  replace h1 := own_below4 h1 hXY
                  have hqg : q ≠ g1 := by omega
                  replace hgz := Nat.lt_of_lt_of_le hgz hXY.size
                  rw [← eY, ← eq]
                  clear eY eq
                  replace hbY := hbY.trans (hXY.mono hzY)
                  replace hzY := hbY.size
                  clear hXY
                  refine HK3.out _ _ ⟨hbY, ?_⟩
                  clear HK3 K3
                  try simp only [List.getElem_toArray, List.getElem_cons_succ, List.getElem_cons_zero, Act.put, List.setIfInBounds_toArray, List.set_cons_zero, List.set_cons_succ]
                  refine wpAnyH_all (rs := [4]) (by kernel_rfl) (by simp) ?_
                  intro i hi; obtain rfl := List.mem_singleton.1 hi; clear hi
                  refine wpOp_step rfl (fun K3 hK3 => ?_)
                  have HK3 := Lib.hid hK3
                  clear hK3
                  rw [if_pos (by rfl)]
                  simp only [List.getElem_toArray, List.getElem_cons_succ, List.getElem_cons_zero]
                  refine wp_manyI (.tmp 38) (.tmp 41) (by rfl) wm.heap.size (by rfl) h1 (by rfl) (HSA.out.below hbY) (by omega) hzY ?_
                  intro v1 Y0064 hown1 hXY
                  replace h1 := hown1
                  clear hown1
                  replace hbY := hbY.grown hXY hzY (fun r hr => by simp [Value.ownBlock] at hr; omega)
                  replace hq := (hXY.block q hqz (by simp [Value.ownBlock]; exact hqg)).trans hq
                  replace hqz := Nat.lt_of_lt_of_le hqz hXY.size
                  replace hzY := hbY.size
                  clear hXY
                  refine HK3.out _ _ ⟨hbY, ?_⟩
                  clear HK3 K3
                  try simp only [List.getElem_toArray, List.getElem_cons_succ, List.getElem_cons_zero, Act.put, List.setIfInBounds_toArray, List.set_cons_zero, List.set_cons_succ]
                  refine wpAnyH_all (rs := [7]) (by kernel_rfl) (by simp) ?_
                  intro i hi; obtain rfl := List.mem_singleton.1 hi; clear hi
                  refine wpOp_step rfl (fun K3 hK3 => ?_)
                  have HK3 := Lib.hid hK3
                  clear hK3
                  rw [if_pos (by rfl)]
                  have hg1' : ∀ q, v1.ownBlock = some q → wm.heap.size ≤ q := fun q hq => (h1.lt q hq).1
                  simp only [List.getElem_toArray, List.getElem_cons_succ, List.getElem_cons_zero]
                  refine wp_oneE (.tmp 42) (.tmp 44) 32 3 1 8 (.int .i64 0) Try.underlying32 Try.info3' rfl (by decide) (by decide) (by rfl) wm.heap.size q (by rfl) h1 [.int .i64 (oc : Int)] rfl (by rfl) hq (by intro u hu; simp at hu; rcases hu with rfl; rfl) (by omega) hzY ?_
                  intro g2 cp2 Y00647 hown2 hg2 hXY
                  replace hbY := hbY.grown hXY hzY (fun r hr => hg1' r hr)
                  replace hzY := hbY.size
                  clear hXY
                  refine HK3.out _ _ ⟨hbY, ?_⟩
                  clear HK3 K3
                  try simp only [List.getElem_toArray, List.getElem_cons_succ, List.getElem_cons_zero, Act.put, List.setIfInBounds_toArray, List.set_cons_zero, List.set_cons_succ]
                  refine wpAnyH_all (rs := [11]) (by kernel_rfl) (by simp) ?_
                  intro i hi; obtain rfl := List.mem_singleton.1 hi; clear hi
                  refine wpOp_step rfl (fun K3 hK3 => ?_)
                  have HK3 := Lib.hid hK3
                  clear hK3
                  rw [if_pos (by rfl)]
                  have hg2' : ∀ q, (Value.slice (some ⟨g2, 0, none⟩) (0 + oc + 1) cp2).ownBlock = some q → wm.heap.size ≤ q := fun q hq => (hown2.lt q hq).1
                  simp only [List.getElem_toArray, List.getElem_cons_succ, List.getElem_cons_zero]
                  refine wp_manyI (.tmp 45) (.tmp 48) (by rfl) wm.heap.size (by rfl) hown2 (by rfl) (HSB.out.below hbY) (by omega) hzY ?_
                  intro v3 Y0064711 hown3 hXY
                  replace hbY := hbY.grown hXY hzY (fun r hr => hg2' r hr)
                  replace hzY := hbY.size
                  clear hXY
                  refine HK3.out _ _ ⟨hbY, ?_⟩
                  clear HK3 K3
                  try simp only [List.getElem_toArray, List.getElem_cons_succ, List.getElem_cons_zero, Act.put, List.setIfInBounds_toArray, List.set_cons_zero, List.set_cons_succ]
                  refine wpAnyH_take (i := 12) (oi := _) (v := ?_) rfl (by kernel_rfl) (by kernel_rfl) (by kernel_rfl) (fun _ _ _ h => h) (Or.inl ⟨by rfl, ?_⟩) hbY ?_
                  rotate_left
                  · intro w1 hSw

                    go_simp; with_reducible rfl
                  simp only [List.getElem_toArray, List.getElem_cons_succ, List.getElem_cons_zero, Act.put, List.setIfInBounds_toArray, List.set_cons_zero, List.set_cons_succ]
                  refine wpAnyH_done (by kernel_rfl) ?_ _
                  have hfin := order_tab hown3 HFIN.out
                  go_wp2
                  go_roundw
                  case rel => exact ⟨oc + 1, by omega, by go_num, hfin.1, hfin.2, (HBW.out.trans (HBD2.out.mono HBW.out.size)).trans (hbY.mono (HBW.out.trans (HBD2.out.mono HBW.out.size)).size)⟩
                  case measure => simp [intOf]; omega
              · refine wpOp_step rfl (fun K3 hK3 => ?_)
                have HK3 := Lib.hid hK3
                clear hK3
                rw [if_pos (by rfl)]
                go_simp
                obtain ⟨q, eq⟩ : ∃ g, g = Y0.heap.size := ⟨_, rfl⟩
                obtain ⟨Y06, eY⟩ : ∃ Y, Y = Y0.alloc (.cells #[.int .i64 (oc : Int)] 3) := ⟨_, rfl⟩
                have hXY : Below Y0.heap.size Y0 Y06 := by rw [eY]; exact (Below.refl _ _).alloc (Nat.le_refl _) _
                have hq : Y06.heap[q]? = some (.cells #[.int .i64 (oc : Int)] 3) := by rw [eY, eq]; exact alloc_heap Y0 _
                have hqz : q < Y06.heap.size := by rw [eY, eq]; simp
                rw [← eY, ← eq]
                clear eY eq
                replace hbY := hbY.trans (hXY.mono hzY)
                replace hzY := hbY.size
                clear hXY
                refine HK3.out _ _ ⟨hbY, ?_⟩
                clear HK3 K3
                try simp only [List.getElem_toArray, List.getElem_cons_succ, List.getElem_cons_zero, Act.put, List.setIfInBounds_toArray, List.set_cons_zero, List.set_cons_succ]
                refine wpAnyH_all (rs := [0]) (by kernel_rfl) (by simp) ?_
                intro i hi; obtain rfl := List.mem_singleton.1 hi; clear hi
                refine wpOp_step rfl (fun K3 hK3 => ?_)
                have HK3 := Lib.hid hK3
                clear hK3
                rw [if_pos (by rfl)]
                go_simp
                obtain ⟨g1, eg1⟩ : ∃ g, g = Y06.heap.size := ⟨_, rfl⟩
                obtain ⟨Y060, eY⟩ : ∃ Y, Y = Y06.alloc (.cells #[] 3) := ⟨_, rfl⟩
                have hXY : Below Y06.heap.size Y06 Y060 := by rw [eY]; exact (Below.refl _ _).alloc (Nat.le_refl _) _
                have h1 : Y060.ownsRow wm.heap.size 3 1 (.slice (some ⟨g1, 0, none⟩) 0 0) 0 [] := by rw [eY, eg1]; exact World.ownsRow_lit Y06 #[] 0 (by omega) (by decide) rfl
                have hgz : g1 < Y060.heap.size := by rw [eY, eg1]; simp
                have hgl : wm.heap.size ≤ g1 := by omega
                have hqg : q ≠ g1 := by omega
                rw [← eY, ← eg1]
                clear eY eg1
                replace hbY := hbY.trans (hXY.mono hzY)
                replace hq := (hXY.block q hqz).trans hq
                replace hqz := Nat.lt_of_lt_of_le hqz hXY.size
                replace hzY := hbY.size
                clear hXY
                refine HK3.out _ _ ⟨hbY, ?_⟩
                clear HK3 K3
                try simp only [List.getElem_toArray, List.getElem_cons_succ, List.getElem_cons_zero, Act.put, List.setIfInBounds_toArray, List.set_cons_zero, List.set_cons_succ]
                refine wpAnyH_all (rs := [4]) (by kernel_rfl) (by simp) ?_
                intro i hi; obtain rfl := List.mem_singleton.1 hi; clear hi
                refine wpOp_step rfl (fun K3 hK3 => ?_)
                have HK3 := Lib.hid hK3
                clear hK3
                rw [if_pos (by rfl)]
                simp only [List.getElem_toArray, List.getElem_cons_succ, List.getElem_cons_zero]
                refine wp_manyI (.tmp 38) (.tmp 41) (by rfl) wm.heap.size (by rfl) h1 (by rfl) (HSA.out.below hbY) (by omega) hzY ?_
                intro v1 Y0604 hown1 hXY
                replace h1 := hown1
                clear hown1
                replace hbY := hbY.grown hXY hzY (fun r hr => by simp [Value.ownBlock] at hr; omega)
                replace hq := (hXY.block q hqz (by simp [Value.ownBlock]; exact hqg)).trans hq
                replace hqz := Nat.lt_of_lt_of_le hqz hXY.size
                replace hzY := hbY.size
                clear hXY
                refine HK3.out _ _ ⟨hbY, ?_⟩
                clear HK3 K3
                try simp only [List.getElem_toArray, List.getElem_cons_succ, List.getElem_cons_zero, Act.put, List.setIfInBounds_toArray, List.set_cons_zero, List.set_cons_succ]
                refine wpAnyH_all (rs := [7]) (by kernel_rfl) (by simp) ?_
                intro i hi; obtain rfl := List.mem_singleton.1 hi; clear hi
                refine wpOp_step rfl (fun K3 hK3 => ?_)
                have HK3 := Lib.hid hK3
                clear hK3
                rw [if_pos (by rfl)]
                have hg1' : ∀ q, v1.ownBlock = some q → wm.heap.size ≤ q := fun q hq => (h1.lt q hq).1
                simp only [List.getElem_toArray, List.getElem_cons_succ, List.getElem_cons_zero]
                refine wp_oneE (.tmp 42) (.tmp 44) 32 3 1 8 (.int .i64 0) Try.underlying32 Try.info3' rfl (by decide) (by decide) (by rfl) wm.heap.size q (by rfl) h1 [.int .i64 (oc : Int)] rfl (by rfl) hq (by intro u hu; simp at hu; rcases hu with rfl; rfl) (by omega) hzY ?_
                intro g2 cp2 Y06047 hown2 hg2 hXY
                replace hbY := hbY.grown hXY hzY (fun r hr => hg1' r hr)
                replace hzY := hbY.size
                clear hXY
                refine HK3.out _ _ ⟨hbY, ?_⟩
                clear HK3 K3
                try simp only [List.getElem_toArray, List.getElem_cons_succ, List.getElem_cons_zero, Act.put, List.setIfInBounds_toArray, List.set_cons_zero, List.set_cons_succ]
                refine wpAnyH_all (rs := [11]) (by kernel_rfl) (by simp) ?_
                intro i hi; obtain rfl := List.mem_singleton.1 hi; clear hi
                refine wpOp_step rfl (fun K3 hK3 => ?_)
                have HK3 := Lib.hid hK3
                clear hK3
                rw [if_pos (by rfl)]
                have hg2' : ∀ q, (Value.slice (some ⟨g2, 0, none⟩) (0 + oc + 1) cp2).ownBlock = some q → wm.heap.size ≤ q := fun q hq => (hown2.lt q hq).1
                simp only [List.getElem_toArray, List.getElem_cons_succ, List.getElem_cons_zero]
                refine wp_manyI (.tmp 45) (.tmp 48) (by rfl) wm.heap.size (by rfl) hown2 (by rfl) (HSB.out.below hbY) (by omega) hzY ?_
                intro v3 Y0604711 hown3 hXY
                replace hbY := hbY.grown hXY hzY (fun r hr => hg2' r hr)
                replace hzY := hbY.size
                clear hXY
                refine HK3.out _ _ ⟨hbY, ?_⟩
                clear HK3 K3
                try simp only [List.getElem_toArray, List.getElem_cons_succ, List.getElem_cons_zero, Act.put, List.setIfInBounds_toArray, List.set_cons_zero, List.set_cons_succ]
                refine wpAnyH_take (i := 12) (oi := _) (v := ?_) rfl (by kernel_rfl) (by kernel_rfl) (by kernel_rfl) (fun _ _ _ h => h) (Or.inl ⟨by rfl, ?_⟩) hbY ?_
                rotate_left
                · intro w1 hSw

                  go_simp; with_reducible rfl
                simp only [List.getElem_toArray, List.getElem_cons_succ, List.getElem_cons_zero, Act.put, List.setIfInBounds_toArray, List.set_cons_zero, List.set_cons_succ]
                refine wpAnyH_done (by kernel_rfl) ?_ _
                have hfin := order_tab hown3 HFIN.out
                go_wp2
                go_roundw
                case rel => exact ⟨oc + 1, by omega, by go_num, hfin.1, hfin.2, (HBW.out.trans (HBD2.out.mono HBW.out.size)).trans (hbY.mono (HBW.out.trans (HBD2.out.mono HBW.out.size)).size)⟩
                case measure => simp [intOf]; omega
            · have hoa : oa ≠ none := fun h => hca (by have := (HNIL2.out _ _ (by rw [h])).2; omega)
              obtain ⟨ad, rfl⟩ := Option.ne_none_iff_exists'.1 hoa
              have hsa := src_tab hvm HNIL2.out hol (l := 0) (m := a) (a' := some ad) (c' := oc) (by omega) ⟨fun h => by simp at h, fun b off h _ => by rw [h]; rfl⟩ (fun _ => by simp)
              have hsb := src_tab hvm HNIL2.out hol (l := a) (m := j - a) (a' := some (ad.add a)) (c' := oc - a) (by omega) ⟨fun h => by simp at h, fun b off h _ => by rw [Option.some.inj h, Addr.add_lit]⟩ (fun _ => by simp)
              have HSA := Lib.hid hsa
              have HSB := Lib.hid hsb
              have HFIN := Lib.hid (show [] ++ intV (((intsL (orderF ps j)).drop 0).take a) ++ [.int .i64 (j : Int)] ++ intV (((intsL (orderF ps j)).drop a).take (j - a)) = intV (intsL (orderF ps (j + 1))) ∧ 0 + a + 1 + (j - a) = (intsL (orderF ps (j + 1))).length ∧ (intsL (orderF ps (j + 1))).length ≤ 1000 from fin_ok HPUT.out ha (by omega) (by omega))
              clear hsa hsb hvm
              refine wp_region_held_drew (S := fun w' => Below wm.heap.size wm w') (by kernel_rfl) (Below.refl _ _).drew (fun hHeld => ?_)
              obtain ⟨Y0, hY0⟩ : ∃ X, X = wm.drew := ⟨_, rfl⟩
              rw [← hY0] at hHeld ⊢
              have hbY := hHeld
              have hzY : wm.heap.size ≤ Y0.heap.size := hbY.size
              clear hY0 hHeld
              refine wpAnyH_take (i := 1) (oi := _) (v := ?_) rfl (by kernel_rfl) (by kernel_rfl) (by kernel_rfl) (fun _ _ _ h => h) (Or.inl ⟨by rfl, ?_⟩) hbY ?_
              rotate_left
              · intro w1 hSw

                go_simp; with_reducible rfl
              simp only [List.getElem_toArray, List.getElem_cons_succ, List.getElem_cons_zero, Act.put, List.setIfInBounds_toArray, List.set_cons_zero, List.set_cons_succ]
              refine wpAnyH_take (i := 2) (oi := _) (v := ?_) rfl (by kernel_rfl) (by kernel_rfl) (by kernel_rfl) (fun _ _ _ h => h) (Or.inl ⟨by rfl, ?_⟩) hbY ?_
              rotate_left
              · intro w1 hSw

                go_simp; with_reducible rfl
              simp only [List.getElem_toArray, List.getElem_cons_succ, List.getElem_cons_zero, Act.put, List.setIfInBounds_toArray, List.set_cons_zero, List.set_cons_succ]
              refine wpAnyH_take (i := 3) (oi := _) (v := ?_) rfl (by kernel_rfl) (by kernel_rfl) (by kernel_rfl) (fun _ _ _ h => h) (Or.inl ⟨by rfl, ?_⟩) hbY ?_
              rotate_left
              · intro w1 hSw

                go_simp; with_reducible rfl
              simp only [List.getElem_toArray, List.getElem_cons_succ, List.getElem_cons_zero, Act.put, List.setIfInBounds_toArray, List.set_cons_zero, List.set_cons_succ]
              refine wpAnyH_take (i := 5) (oi := _) (v := ?_) rfl (by kernel_rfl) (by kernel_rfl) (by kernel_rfl) (fun _ _ _ h => h) (Or.inl ⟨by rfl, ?_⟩) hbY ?_
              rotate_left
              · intro w1 hSw

                go_simp; with_reducible rfl
              simp only [List.getElem_toArray, List.getElem_cons_succ, List.getElem_cons_zero, Act.put, List.setIfInBounds_toArray, List.set_cons_zero, List.set_cons_succ]
              refine wpAnyH_take (i := 8) (oi := _) (v := ?_) rfl (by kernel_rfl) (by kernel_rfl) (by kernel_rfl) (fun _ _ _ h => h) (Or.inl ⟨by rfl, ?_⟩) hbY ?_
              rotate_left
              · intro w1 hSw

                go_simp; with_reducible rfl
              simp only [List.getElem_toArray, List.getElem_cons_succ, List.getElem_cons_zero, Act.put, List.setIfInBounds_toArray, List.set_cons_zero, List.set_cons_succ]
              refine wpAnyH_take (i := 9) (oi := _) (v := ?_) rfl (by kernel_rfl) (by kernel_rfl) (by kernel_rfl) (fun _ _ _ h => h) (Or.inl ⟨by rfl, ?_⟩) hbY ?_
              rotate_left
              · intro w1 hSw

                go_simp; with_reducible rfl
              simp only [List.getElem_toArray, List.getElem_cons_succ, List.getElem_cons_zero, Act.put, List.setIfInBounds_toArray, List.set_cons_zero, List.set_cons_succ]
              refine wpAnyH_take (i := 10) (oi := _) (v := ?_) rfl (by kernel_rfl) (by kernel_rfl) (by kernel_rfl) (fun _ _ _ h => h) (Or.inl ⟨by rfl, ?_⟩) hbY ?_
              rotate_left
              · intro w1 hSw

                go_simp; with_reducible rfl
              simp only [List.getElem_toArray, List.getElem_cons_succ, List.getElem_cons_zero, Act.put, List.setIfInBounds_toArray, List.set_cons_zero, List.set_cons_succ]
              refine wpAnyH_all (rs := [0, 6]) (by kernel_rfl) (by simp) ?_
              intro i hi
              rcases (by simpa using hi : i = 0 ∨ i = 6) with rfl | rfl <;> clear hi
              · refine wpOp_step rfl (fun K3 hK3 => ?_)
                have HK3 := Lib.hid hK3
                clear hK3
                rw [if_pos (by rfl)]
                go_simp
                obtain ⟨g1, eg1⟩ : ∃ g, g = Y0.heap.size := ⟨_, rfl⟩
                obtain ⟨Y00, eY⟩ : ∃ Y, Y = Y0.alloc (.cells #[] 3) := ⟨_, rfl⟩
                have hXY : Below Y0.heap.size Y0 Y00 := by rw [eY]; exact (Below.refl _ _).alloc (Nat.le_refl _) _
                have h1 : Y00.ownsRow wm.heap.size 3 1 (.slice (some ⟨g1, 0, none⟩) 0 0) 0 [] := by rw [eY, eg1]; exact World.ownsRow_lit Y0 #[] 0 (by omega) (by decide) rfl
                have hgz : g1 < Y00.heap.size := by rw [eY, eg1]; simp
                have hgl : wm.heap.size ≤ g1 := by omega
                rw [← eY, ← eg1]
                clear eY eg1
                replace hbY := hbY.trans (hXY.mono hzY)
                replace hzY := hbY.size
                clear hXY
                refine HK3.out _ _ ⟨hbY, ?_⟩
                clear HK3 K3
                try simp only [List.getElem_toArray, List.getElem_cons_succ, List.getElem_cons_zero, Act.put, List.setIfInBounds_toArray, List.set_cons_zero, List.set_cons_succ]
                refine wpAnyH_all (rs := [4, 6]) (by kernel_rfl) (by simp) ?_
                intro i hi
                rcases (by simpa using hi : i = 4 ∨ i = 6) with rfl | rfl <;> clear hi
                · refine wpOp_step rfl (fun K3 hK3 => ?_)
                  have HK3 := Lib.hid hK3
                  clear hK3
                  rw [if_pos (by rfl)]
                  simp only [List.getElem_toArray, List.getElem_cons_succ, List.getElem_cons_zero]
                  refine wp_manyI (.tmp 38) (.tmp 41) (by rfl) wm.heap.size (by rfl) h1 (by rfl) (HSA.out.below hbY) (by omega) hzY ?_
                  intro v1 Y004 hown1 hXY
                  replace h1 := hown1
                  clear hown1
                  replace hbY := hbY.grown hXY hzY (fun r hr => by simp [Value.ownBlock] at hr; omega)
                  replace hzY := hbY.size
                  clear hXY
                  refine HK3.out _ _ ⟨hbY, ?_⟩
                  clear HK3 K3
                  try simp only [List.getElem_toArray, List.getElem_cons_succ, List.getElem_cons_zero, Act.put, List.setIfInBounds_toArray, List.set_cons_zero, List.set_cons_succ]
                  refine wpAnyH_all (rs := [6]) (by kernel_rfl) (by simp) ?_
                  intro i hi; obtain rfl := List.mem_singleton.1 hi; clear hi
                  refine wpOp_step rfl (fun K3 hK3 => ?_)
                  have HK3 := Lib.hid hK3
                  clear hK3
                  rw [if_pos (by rfl)]
                  go_simp
                  obtain ⟨q, eq⟩ : ∃ g, g = Y004.heap.size := ⟨_, rfl⟩
                  obtain ⟨Y0046, eY⟩ : ∃ Y, Y = Y004.alloc (.cells #[.int .i64 (j : Int)] 3) := ⟨_, rfl⟩
                  have hXY : Below Y004.heap.size Y004 Y0046 := by rw [eY]; exact (Below.refl _ _).alloc (Nat.le_refl _) _
                  have hq : Y0046.heap[q]? = some (.cells #[.int .i64 (j : Int)] 3) := by rw [eY, eq]; exact alloc_heap Y004 _
                  have hqz : q < Y0046.heap.size := by rw [eY, eq]; simp
                  replace h1 := own_below4 h1 hXY
                  rw [← eY, ← eq]
                  clear eY eq
                  replace hbY := hbY.trans (hXY.mono hzY)
                  replace hzY := hbY.size
                  clear hXY
                  refine HK3.out _ _ ⟨hbY, ?_⟩
                  clear HK3 K3
                  try simp only [List.getElem_toArray, List.getElem_cons_succ, List.getElem_cons_zero, Act.put, List.setIfInBounds_toArray, List.set_cons_zero, List.set_cons_succ]
                  refine wpAnyH_all (rs := [7]) (by kernel_rfl) (by simp) ?_
                  intro i hi; obtain rfl := List.mem_singleton.1 hi; clear hi
                  refine wpOp_step rfl (fun K3 hK3 => ?_)
                  have HK3 := Lib.hid hK3
                  clear hK3
                  rw [if_pos (by rfl)]
                  have hg1' : ∀ q, v1.ownBlock = some q → wm.heap.size ≤ q := fun q hq => (h1.lt q hq).1
                  simp only [List.getElem_toArray, List.getElem_cons_succ, List.getElem_cons_zero]
                  refine wp_oneE (.tmp 42) (.tmp 44) 32 3 1 8 (.int .i64 0) Try.underlying32 Try.info3' rfl (by decide) (by decide) (by rfl) wm.heap.size q (by rfl) h1 [.int .i64 (j : Int)] rfl (by rfl) hq (by intro u hu; simp at hu; rcases hu with rfl; rfl) (by omega) hzY ?_
                  intro g2 cp2 Y00467 hown2 hg2 hXY
                  replace hbY := hbY.grown hXY hzY (fun r hr => hg1' r hr)
                  replace hzY := hbY.size
                  clear hXY
                  refine HK3.out _ _ ⟨hbY, ?_⟩
                  clear HK3 K3
                  try simp only [List.getElem_toArray, List.getElem_cons_succ, List.getElem_cons_zero, Act.put, List.setIfInBounds_toArray, List.set_cons_zero, List.set_cons_succ]
                  refine wpAnyH_all (rs := [11]) (by kernel_rfl) (by simp) ?_
                  intro i hi; obtain rfl := List.mem_singleton.1 hi; clear hi
                  refine wpOp_step rfl (fun K3 hK3 => ?_)
                  have HK3 := Lib.hid hK3
                  clear hK3
                  rw [if_pos (by rfl)]
                  have hg2' : ∀ q, (Value.slice (some ⟨g2, 0, none⟩) (0 + a + 1) cp2).ownBlock = some q → wm.heap.size ≤ q := fun q hq => (hown2.lt q hq).1
                  simp only [List.getElem_toArray, List.getElem_cons_succ, List.getElem_cons_zero]
                  refine wp_manyI (.tmp 45) (.tmp 48) (by rfl) wm.heap.size (by rfl) hown2 (by rfl) (HSB.out.below hbY) (by omega) hzY ?_
                  intro v3 Y0046711 hown3 hXY
                  replace hbY := hbY.grown hXY hzY (fun r hr => hg2' r hr)
                  replace hzY := hbY.size
                  clear hXY
                  refine HK3.out _ _ ⟨hbY, ?_⟩
                  clear HK3 K3
                  try simp only [List.getElem_toArray, List.getElem_cons_succ, List.getElem_cons_zero, Act.put, List.setIfInBounds_toArray, List.set_cons_zero, List.set_cons_succ]
                  refine wpAnyH_take (i := 12) (oi := _) (v := ?_) rfl (by kernel_rfl) (by kernel_rfl) (by kernel_rfl) (fun _ _ _ h => h) (Or.inl ⟨by rfl, ?_⟩) hbY ?_
                  rotate_left
                  · intro w1 hSw

                    go_simp; with_reducible rfl
                  simp only [List.getElem_toArray, List.getElem_cons_succ, List.getElem_cons_zero, Act.put, List.setIfInBounds_toArray, List.set_cons_zero, List.set_cons_succ]
                  refine wpAnyH_done (by kernel_rfl) ?_ _
                  have hfin := order_tab hown3 HFIN.out
                  go_wp2
                  go_roundw
                  case rel => exact ⟨j + 1, by omega, by go_num, hfin.1, hfin.2, (HBW.out.trans (HBD2.out.mono HBW.out.size)).trans (hbY.mono (HBW.out.trans (HBD2.out.mono HBW.out.size)).size)⟩
                  case measure => simp [intOf]; omega
                · refine wpOp_step rfl (fun K3 hK3 => ?_)
                  have HK3 := Lib.hid hK3
                  clear hK3
                  rw [if_pos (by rfl)]
                  go_simp
                  obtain ⟨q, eq⟩ : ∃ g, g = Y00.heap.size := ⟨_, rfl⟩
                  obtain ⟨Y006, eY⟩ : ∃ Y, Y = Y00.alloc (.cells #[.int .i64 (j : Int)] 3) := ⟨_, rfl⟩
                  have hXY : Below Y00.heap.size Y00 Y006 := by rw [eY]; exact (Below.refl _ _).alloc (Nat.le_refl _) _
                  have hq : Y006.heap[q]? = some (.cells #[.int .i64 (j : Int)] 3) := by rw [eY, eq]; exact alloc_heap Y00 _
                  have hqz : q < Y006.heap.size := by rw [eY, eq]; simp
                  replace h1 := own_below4 h1 hXY
                  have hqg : q ≠ g1 := by omega
                  replace hgz := Nat.lt_of_lt_of_le hgz hXY.size
                  rw [← eY, ← eq]
                  clear eY eq
                  replace hbY := hbY.trans (hXY.mono hzY)
                  replace hzY := hbY.size
                  clear hXY
                  refine HK3.out _ _ ⟨hbY, ?_⟩
                  clear HK3 K3
                  try simp only [List.getElem_toArray, List.getElem_cons_succ, List.getElem_cons_zero, Act.put, List.setIfInBounds_toArray, List.set_cons_zero, List.set_cons_succ]
                  refine wpAnyH_all (rs := [4]) (by kernel_rfl) (by simp) ?_
                  intro i hi; obtain rfl := List.mem_singleton.1 hi; clear hi
                  refine wpOp_step rfl (fun K3 hK3 => ?_)
                  have HK3 := Lib.hid hK3
                  clear hK3
                  rw [if_pos (by rfl)]
                  simp only [List.getElem_toArray, List.getElem_cons_succ, List.getElem_cons_zero]
                  refine wp_manyI (.tmp 38) (.tmp 41) (by rfl) wm.heap.size (by rfl) h1 (by rfl) (HSA.out.below hbY) (by omega) hzY ?_
                  intro v1 Y0064 hown1 hXY
                  replace h1 := hown1
                  clear hown1
                  replace hbY := hbY.grown hXY hzY (fun r hr => by simp [Value.ownBlock] at hr; omega)
                  replace hq := (hXY.block q hqz (by simp [Value.ownBlock]; exact hqg)).trans hq
                  replace hqz := Nat.lt_of_lt_of_le hqz hXY.size
                  replace hzY := hbY.size
                  clear hXY
                  refine HK3.out _ _ ⟨hbY, ?_⟩
                  clear HK3 K3
                  try simp only [List.getElem_toArray, List.getElem_cons_succ, List.getElem_cons_zero, Act.put, List.setIfInBounds_toArray, List.set_cons_zero, List.set_cons_succ]
                  refine wpAnyH_all (rs := [7]) (by kernel_rfl) (by simp) ?_
                  intro i hi; obtain rfl := List.mem_singleton.1 hi; clear hi
                  refine wpOp_step rfl (fun K3 hK3 => ?_)
                  have HK3 := Lib.hid hK3
                  clear hK3
                  rw [if_pos (by rfl)]
                  have hg1' : ∀ q, v1.ownBlock = some q → wm.heap.size ≤ q := fun q hq => (h1.lt q hq).1
                  simp only [List.getElem_toArray, List.getElem_cons_succ, List.getElem_cons_zero]
                  refine wp_oneE (.tmp 42) (.tmp 44) 32 3 1 8 (.int .i64 0) Try.underlying32 Try.info3' rfl (by decide) (by decide) (by rfl) wm.heap.size q (by rfl) h1 [.int .i64 (j : Int)] rfl (by rfl) hq (by intro u hu; simp at hu; rcases hu with rfl; rfl) (by omega) hzY ?_
                  intro g2 cp2 Y00647 hown2 hg2 hXY
                  replace hbY := hbY.grown hXY hzY (fun r hr => hg1' r hr)
                  replace hzY := hbY.size
                  clear hXY
                  refine HK3.out _ _ ⟨hbY, ?_⟩
                  clear HK3 K3
                  try simp only [List.getElem_toArray, List.getElem_cons_succ, List.getElem_cons_zero, Act.put, List.setIfInBounds_toArray, List.set_cons_zero, List.set_cons_succ]
                  refine wpAnyH_all (rs := [11]) (by kernel_rfl) (by simp) ?_
                  intro i hi; obtain rfl := List.mem_singleton.1 hi; clear hi
                  refine wpOp_step rfl (fun K3 hK3 => ?_)
                  have HK3 := Lib.hid hK3
                  clear hK3
                  rw [if_pos (by rfl)]
                  have hg2' : ∀ q, (Value.slice (some ⟨g2, 0, none⟩) (0 + a + 1) cp2).ownBlock = some q → wm.heap.size ≤ q := fun q hq => (hown2.lt q hq).1
                  simp only [List.getElem_toArray, List.getElem_cons_succ, List.getElem_cons_zero]
                  refine wp_manyI (.tmp 45) (.tmp 48) (by rfl) wm.heap.size (by rfl) hown2 (by rfl) (HSB.out.below hbY) (by omega) hzY ?_
                  intro v3 Y0064711 hown3 hXY
                  replace hbY := hbY.grown hXY hzY (fun r hr => hg2' r hr)
                  replace hzY := hbY.size
                  clear hXY
                  refine HK3.out _ _ ⟨hbY, ?_⟩
                  clear HK3 K3
                  try simp only [List.getElem_toArray, List.getElem_cons_succ, List.getElem_cons_zero, Act.put, List.setIfInBounds_toArray, List.set_cons_zero, List.set_cons_succ]
                  refine wpAnyH_take (i := 12) (oi := _) (v := ?_) rfl (by kernel_rfl) (by kernel_rfl) (by kernel_rfl) (fun _ _ _ h => h) (Or.inl ⟨by rfl, ?_⟩) hbY ?_
                  rotate_left
                  · intro w1 hSw

                    go_simp; with_reducible rfl
                  simp only [List.getElem_toArray, List.getElem_cons_succ, List.getElem_cons_zero, Act.put, List.setIfInBounds_toArray, List.set_cons_zero, List.set_cons_succ]
                  refine wpAnyH_done (by kernel_rfl) ?_ _
                  have hfin := order_tab hown3 HFIN.out
                  go_wp2
                  go_roundw
                  case rel => exact ⟨j + 1, by omega, by go_num, hfin.1, hfin.2, (HBW.out.trans (HBD2.out.mono HBW.out.size)).trans (hbY.mono (HBW.out.trans (HBD2.out.mono HBW.out.size)).size)⟩
                  case measure => simp [intOf]; omega
              · refine wpOp_step rfl (fun K3 hK3 => ?_)
                have HK3 := Lib.hid hK3
                clear hK3
                rw [if_pos (by rfl)]
                go_simp
                obtain ⟨q, eq⟩ : ∃ g, g = Y0.heap.size := ⟨_, rfl⟩
                obtain ⟨Y06, eY⟩ : ∃ Y, Y = Y0.alloc (.cells #[.int .i64 (j : Int)] 3) := ⟨_, rfl⟩
                have hXY : Below Y0.heap.size Y0 Y06 := by rw [eY]; exact (Below.refl _ _).alloc (Nat.le_refl _) _
                have hq : Y06.heap[q]? = some (.cells #[.int .i64 (j : Int)] 3) := by rw [eY, eq]; exact alloc_heap Y0 _
                have hqz : q < Y06.heap.size := by rw [eY, eq]; simp
                rw [← eY, ← eq]
                clear eY eq
                replace hbY := hbY.trans (hXY.mono hzY)
                replace hzY := hbY.size
                clear hXY
                refine HK3.out _ _ ⟨hbY, ?_⟩
                clear HK3 K3
                try simp only [List.getElem_toArray, List.getElem_cons_succ, List.getElem_cons_zero, Act.put, List.setIfInBounds_toArray, List.set_cons_zero, List.set_cons_succ]
                refine wpAnyH_all (rs := [0]) (by kernel_rfl) (by simp) ?_
                intro i hi; obtain rfl := List.mem_singleton.1 hi; clear hi
                refine wpOp_step rfl (fun K3 hK3 => ?_)
                have HK3 := Lib.hid hK3
                clear hK3
                rw [if_pos (by rfl)]
                go_simp
                obtain ⟨g1, eg1⟩ : ∃ g, g = Y06.heap.size := ⟨_, rfl⟩
                obtain ⟨Y060, eY⟩ : ∃ Y, Y = Y06.alloc (.cells #[] 3) := ⟨_, rfl⟩
                have hXY : Below Y06.heap.size Y06 Y060 := by rw [eY]; exact (Below.refl _ _).alloc (Nat.le_refl _) _
                have h1 : Y060.ownsRow wm.heap.size 3 1 (.slice (some ⟨g1, 0, none⟩) 0 0) 0 [] := by rw [eY, eg1]; exact World.ownsRow_lit Y06 #[] 0 (by omega) (by decide) rfl
                have hgz : g1 < Y060.heap.size := by rw [eY, eg1]; simp
                have hgl : wm.heap.size ≤ g1 := by omega
                have hqg : q ≠ g1 := by omega
                rw [← eY, ← eg1]
                clear eY eg1
                replace hbY := hbY.trans (hXY.mono hzY)
                replace hq := (hXY.block q hqz).trans hq
                replace hqz := Nat.lt_of_lt_of_le hqz hXY.size
                replace hzY := hbY.size
                clear hXY
                refine HK3.out _ _ ⟨hbY, ?_⟩
                clear HK3 K3
                try simp only [List.getElem_toArray, List.getElem_cons_succ, List.getElem_cons_zero, Act.put, List.setIfInBounds_toArray, List.set_cons_zero, List.set_cons_succ]
                refine wpAnyH_all (rs := [4]) (by kernel_rfl) (by simp) ?_
                intro i hi; obtain rfl := List.mem_singleton.1 hi; clear hi
                refine wpOp_step rfl (fun K3 hK3 => ?_)
                have HK3 := Lib.hid hK3
                clear hK3
                rw [if_pos (by rfl)]
                simp only [List.getElem_toArray, List.getElem_cons_succ, List.getElem_cons_zero]
                refine wp_manyI (.tmp 38) (.tmp 41) (by rfl) wm.heap.size (by rfl) h1 (by rfl) (HSA.out.below hbY) (by omega) hzY ?_
                intro v1 Y0604 hown1 hXY
                replace h1 := hown1
                clear hown1
                replace hbY := hbY.grown hXY hzY (fun r hr => by simp [Value.ownBlock] at hr; omega)
                replace hq := (hXY.block q hqz (by simp [Value.ownBlock]; exact hqg)).trans hq
                replace hqz := Nat.lt_of_lt_of_le hqz hXY.size
                replace hzY := hbY.size
                clear hXY
                refine HK3.out _ _ ⟨hbY, ?_⟩
                clear HK3 K3
                try simp only [List.getElem_toArray, List.getElem_cons_succ, List.getElem_cons_zero, Act.put, List.setIfInBounds_toArray, List.set_cons_zero, List.set_cons_succ]
                refine wpAnyH_all (rs := [7]) (by kernel_rfl) (by simp) ?_
                intro i hi; obtain rfl := List.mem_singleton.1 hi; clear hi
                refine wpOp_step rfl (fun K3 hK3 => ?_)
                have HK3 := Lib.hid hK3
                clear hK3
                rw [if_pos (by rfl)]
                have hg1' : ∀ q, v1.ownBlock = some q → wm.heap.size ≤ q := fun q hq => (h1.lt q hq).1
                simp only [List.getElem_toArray, List.getElem_cons_succ, List.getElem_cons_zero]
                refine wp_oneE (.tmp 42) (.tmp 44) 32 3 1 8 (.int .i64 0) Try.underlying32 Try.info3' rfl (by decide) (by decide) (by rfl) wm.heap.size q (by rfl) h1 [.int .i64 (j : Int)] rfl (by rfl) hq (by intro u hu; simp at hu; rcases hu with rfl; rfl) (by omega) hzY ?_
                intro g2 cp2 Y06047 hown2 hg2 hXY
                replace hbY := hbY.grown hXY hzY (fun r hr => hg1' r hr)
                replace hzY := hbY.size
                clear hXY
                refine HK3.out _ _ ⟨hbY, ?_⟩
                clear HK3 K3
                try simp only [List.getElem_toArray, List.getElem_cons_succ, List.getElem_cons_zero, Act.put, List.setIfInBounds_toArray, List.set_cons_zero, List.set_cons_succ]
                refine wpAnyH_all (rs := [11]) (by kernel_rfl) (by simp) ?_
                intro i hi; obtain rfl := List.mem_singleton.1 hi; clear hi
                refine wpOp_step rfl (fun K3 hK3 => ?_)
                have HK3 := Lib.hid hK3
                clear hK3
                rw [if_pos (by rfl)]
                have hg2' : ∀ q, (Value.slice (some ⟨g2, 0, none⟩) (0 + a + 1) cp2).ownBlock = some q → wm.heap.size ≤ q := fun q hq => (hown2.lt q hq).1
                simp only [List.getElem_toArray, List.getElem_cons_succ, List.getElem_cons_zero]
                refine wp_manyI (.tmp 45) (.tmp 48) (by rfl) wm.heap.size (by rfl) hown2 (by rfl) (HSB.out.below hbY) (by omega) hzY ?_
                intro v3 Y0604711 hown3 hXY
                replace hbY := hbY.grown hXY hzY (fun r hr => hg2' r hr)
                replace hzY := hbY.size
                clear hXY
                refine HK3.out _ _ ⟨hbY, ?_⟩
                clear HK3 K3
                try simp only [List.getElem_toArray, List.getElem_cons_succ, List.getElem_cons_zero, Act.put, List.setIfInBounds_toArray, List.set_cons_zero, List.set_cons_succ]
                refine wpAnyH_take (i := 12) (oi := _) (v := ?_) rfl (by kernel_rfl) (by kernel_rfl) (by kernel_rfl) (fun _ _ _ h => h) (Or.inl ⟨by rfl, ?_⟩) hbY ?_
                rotate_left
                · intro w1 hSw

                  go_simp; with_reducible rfl
                simp only [List.getElem_toArray, List.getElem_cons_succ, List.getElem_cons_zero, Act.put, List.setIfInBounds_toArray, List.set_cons_zero, List.set_cons_succ]
                refine wpAnyH_done (by kernel_rfl) ?_ _
                have hfin := order_tab hown3 HFIN.out
                go_wp2
                go_roundw
                case rel => exact ⟨j + 1, by omega, by go_num, hfin.1, hfin.2, (HBW.out.trans (HBD2.out.mono HBW.out.size)).trans (hbY.mono (HBW.out.trans (HBD2.out.mono HBW.out.size)).size)⟩
                case measure => simp [intOf]; omega
    · have hjl : j = ps.length := by omega
      have i1 : ¬ (j : Int) < (ps.length : Int) := by omega
      subst hjl
      clear hlt hj hbw hS1
      go_wp2
      go_ret
      exact ⟨⟨_, rfl, HV.out⟩, HB.out.trans (HBW.out.mono HB.out.size)⟩
end Go.Proofs.Ytcmfplfnpjknlaa
