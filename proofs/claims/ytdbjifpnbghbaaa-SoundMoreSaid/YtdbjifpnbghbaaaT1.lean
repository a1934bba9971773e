/- Sound: the true numbers of the pipes, by remainders. -/
import Derived.Test.YtdbjifpnbghbaaaL8
import Derived.Laws.AppendOwn
namespace Go.Proofs.Ytdbjifpnbghbaaa
set_option linter.unusedSimpArgs false
set_option linter.unusedVariables false
open Go.RowKit Go.Maps Go.BigFrame Go.ChangeShapes Go.WideShapes Go.ChangeAt

/-- ints of two bytes in memory -/
def U16At (w : World) (v : Value) (L : List Nat) : Prop := L.length ≤ maxLen ∧ ((L = [] ∧ ∃ a c, v = .slice a 0 c) ∨ ∃ b off cap, v = .slice (some ⟨b, off, none⟩) L.length cap ∧ b < w.heap.size ∧ ∀ i, i < L.length → w.cell? ⟨b, off + i, none⟩ = some (.int .u16 (L.getD i 0 : Nat)) ∧ L.getD i 0 < 65536)
theorem U16At.shape {w : World} {v : Value} {L : List Nat} (h : U16At w v L) : ∃ a c, v = .slice a L.length c := by
  obtain ⟨_, ⟨rfl, a, c, rfl⟩ | ⟨b, off, cap, rfl, _⟩⟩ := h
  · exact ⟨a, c, rfl⟩
  · exact ⟨_, _, rfl⟩
theorem U16At.below {w w' : World} {v : Value} {L : List Nat} (h : U16At w v L) (hb : Below w.heap.size w w') : U16At w' v L := by
  obtain ⟨h1, h2 | ⟨b, off, cap, h2, h3, h4⟩⟩ := h
  · exact ⟨h1, .inl h2⟩
  · exact ⟨h1, .inr ⟨b, off, cap, h2, Nat.lt_of_lt_of_le h3 hb.size, fun i hi => ⟨(hb.cell (p := ⟨b, off + i, none⟩) h3).trans (h4 i hi).1, (h4 i hi).2⟩⟩⟩
theorem U16At.at {w : World} {a : Option Addr} {n c : Nat} {L : List Nat} (h : U16At w (.slice a n c) L) (hl : 0 < L.length) : ∃ b off, a = some ⟨b, off, none⟩ ∧ b < w.heap.size ∧ ∀ i, i < L.length → w.cell? ⟨b, off + i, none⟩ = some (.int .u16 (L.getD i 0 : Nat)) ∧ L.getD i 0 < 65536 := by
  obtain ⟨_, ⟨rfl, _⟩ | ⟨b, off, cap, e, h1, h2⟩⟩ := h
  · simp at hl
  · simp only [Value.slice.injEq] at e
    exact ⟨b, off, e.1, h1, h2⟩
/-- the true number of pipe i -/
def slowT (l : List Pi) (by' : List Nat) (i : Nat) : Int := (l.getD i default).lo + ((by'.getD (i % by'.length) 0 : Nat) : Int) % ((l.getD i default).hi - (l.getD i default).lo + 1)
def slowsT (l : List Pi) (by' : List Nat) (k : Nat) : List Int := (List.range k).map (slowT l by')
theorem slowsT_len (l : List Pi) (by' : List Nat) (k : Nat) : (slowsT l by' k).length = k := by simp [slowsT]
theorem slowsT_snoc (l : List Pi) (by' : List Nat) (k : Nat) : slowsT l by' (k + 1) = slowsT l by' k ++ [slowT l by' k] := by simp [slowsT, List.range_succ]
theorem slowsT_at (l : List Pi) (by' : List Nat) {i k : Nat} (h : i < k) : (slowsT l by' k).getD i default = slowT l by' i := by
  simp [slowsT, List.getD, h]
theorem slowT_in {l : List Pi} (hok : lineOk l = true) (by' : List Nat) {i : Nat} (hi : i < l.length) : (l.getD i default).lo ≤ slowT l by' i ∧ slowT l by' i ≤ (l.getD i default).hi := by
  have hp := pipe_in hok hi
  have h0 := Int.emod_nonneg ((by'.getD (i % by'.length) 0 : Nat) : Int) (b := (l.getD i default).hi - (l.getD i default).lo + 1) (by omega)
  have h1 := Int.emod_lt_of_pos ((by'.getD (i % by'.length) 0 : Nat) : Int) (b := (l.getD i default).hi - (l.getD i default).lo + 1) (by omega)
  unfold slowT
  omega
theorem cell_three {X : World} {b : Nat} {x y z : Value} {t : TypeId} (h : X.heap[b]? = some (.cells #[x, y, z] t (0, 0))) : X.cell? ⟨b, 1, none⟩ = some y ∧ X.cell? ⟨b, 2, none⟩ = some z := by
  simp [World.cell?, h]
set_option maxRecDepth 100000 in
set_option maxHeartbeats 6400000 in
theorem truth_any (l : List Pi) (hok : lineOk l = true) (v : Value) (tk : List Nat) (hk0 : 0 < tk.length) (v2 : Value) (w : World) (hl : TabAt 3 piC w v l) (ht : U16At w v2 tk) : Calls Try.prog 26 #[v, v2] w fun e w' => ∃ v', e = .returned v' ∧ w'.ownsRow w.heap.size 3 1 v' l.length (flatK 1 inC (slowsT l tk l.length)) ∧ Below w.heap.size w w' := by
  obtain ⟨a0, c, rfl⟩ := hl.shape
  obtain ⟨ta, tc, rfl⟩ := ht.shape
  have h8 := line_few hok
  have mk : tk.length ≤ 9223372036854775807 := ht.1
  obtain ⟨i0, hi, hz0, hz1, hz2⟩ := info_parts Try.info3
  obtain ⟨tb, tq, e1, htb, htx⟩ := ht.at hk0
  subst e1
  have HL := Lib.hid hl
  have HO := Lib.hid hok
  clear hl ht hok
  go_enter Try.func26, Try.ntmps26
  go_wp2_with fail
  go_loopw [5, 6, 7, 10] (fun o _ _ i wr => ∃ k : Nat, k ≤ l.length ∧ i = .int .i64 k ∧ Below w.heap.size w wr ∧ wr.ownsRow w.heap.size 3 1 o k (flatK 1 inC (slowsT l tk k))) (fun _ _ _ i _ => l.length - (intOf i).toNat)
  case atStart => exact ⟨0, by omega, rfl, Below.refl _ _, World.ownsRow_nil _ _ _ _⟩
  case round =>
    obtain ⟨k, hk, rfl, hbw, hd⟩ := hrel
    by_cases hlt : k < l.length
    · obtain ⟨lb, lof, e2, hlb, hlx⟩ := HL.out.at (by omega)
      subst e2
      have x0 := (hbw.cell (p := ⟨lb, lof + k * 3 + 0, none⟩) hlb).trans (hlx k hlt 0 (by omega))
      have x1 := (hbw.cell (p := ⟨lb, lof + k * 3 + 1, none⟩) hlb).trans (hlx k hlt 1 (by omega))
      have x2 := (hbw.cell (p := ⟨lb, lof + k * 3 + 2, none⟩) hlb).trans (hlx k hlt 2 (by omega))
      have hpi := pipe_in HO.out hlt
      have hsn := slowsT_snoc l tk k
      have hst : slowT l tk k = (l.getD k default).lo + ((tk.getD (k % tk.length) 0 : Nat) : Int) % ((l.getD k default).hi - (l.getD k default).lo + 1) := rfl
      obtain ⟨⟨t0, t1, t2⟩, hrow⟩ : ∃ x : Pi, l.getD k default = x := ⟨_, rfl⟩
      rw [hrow] at x0 x1 x2 hpi hst
      simp only [Nat.add_zero, piC] at x0 x1 x2 hpi hst
      obtain ⟨jm, hjm⟩ : ∃ m, k % tk.length = m := ⟨_, rfl⟩
      have hjl : jm < tk.length := by rw [← hjm]; exact Nat.mod_lt _ (by omega)
      have htm : Int.tmod (k : Int) (tk.length : Int) = (jm : Int) := by rw [Int.tmod_eq_emod_of_nonneg (by omega), ← hjm]; rfl
      obtain ⟨xt, xv⟩ := htx jm hjl
      have xt' := (hbw.cell (p := ⟨tb, tq + jm, none⟩) htb).trans xt
      rw [hjm] at hst
      obtain ⟨vv, hvv⟩ : ∃ x, tk.getD jm 0 = x := ⟨_, rfl⟩
      rw [hvv] at xt xt' xv hst
      have XT0 := Lib.hid xt
      obtain ⟨r, hr⟩ : ∃ r, (vv : Int) % (t2 - t1 + 1) = r := ⟨_, rfl⟩
      have hr0 : 0 ≤ r := by rw [← hr]; exact Int.emod_nonneg _ (by omega)
      have hr1 : r < t2 - t1 + 1 := by rw [← hr]; exact Int.emod_lt_of_pos _ (by omega)
      have htr : Int.tmod (vv : Int) (t2 - t1 + 1) = r := by rw [Int.tmod_eq_emod_of_nonneg (by omega), hr]
      rw [hr] at hst
      rw [hst] at hsn
      have ij0 : (0 : Int) ≤ (k : Int) := by omega
      have ij1 : (k : Int) < (l.length : Int) := Int.ofNat_lt.2 hlt
      have im0 : (0 : Int) ≤ (jm : Int) := by omega
      have im1 : (jm : Int) < (tk.length : Int) := Int.ofNat_lt.2 hjl
      have v1 : IntKind.i64.wrap (jm : Int) = (jm : Int) := IntWalk.i64_in _ (by omega)
      have v2 : IntKind.i64.wrap (vv : Int) = (vv : Int) := IntWalk.i64_in _ (by omega)
      have v3 : IntKind.i64.wrap (t2 - t1) = t2 - t1 := IntWalk.i64_in _ (by omega)
      have v4 : IntKind.i64.wrap (t2 - t1 + 1) = t2 - t1 + 1 := IntWalk.i64_in _ (by omega)
      have v5 : IntKind.i64.wrap r = r := IntWalk.i64_in _ (by omega)
      have v6 : IntKind.i64.wrap (t1 + r) = t1 + r := IntWalk.i64_in _ (by omega)
      have v7 : IntKind.i64.wrap ((k : Int) + 1) = (k : Int) + 1 := IntWalk.i64_in _ (by omega)
      have v8 : ¬ t2 - t1 + 1 = 0 := by omega
      have v9 : ¬ (tk.length : Int) = 0 := by omega
      have v9b : ¬ tk = [] := fun e => by rw [e] at hk0; simp at hk0
      obtain ⟨W1, hW1⟩ : ∃ X, X = wr.alloc (.cells #[.int .i64 t0, .int .i64 t1, .int .i64 t2] 59) := ⟨_, rfl⟩
      have hbB : Below wr.heap.size wr W1 := by rw [hW1]; exact (Below.refl _ _).alloc (Nat.le_refl _) _
      have hrB : W1.heap[wr.heap.size]? = some (.cells #[.int .i64 t0, .int .i64 t1, .int .i64 t2] 59 (0, 0)) := by rw [hW1]; exact alloc_heap wr _
      have xt1 := (hbB.cell (p := ⟨tb, tq + jm, none⟩) (Nat.lt_of_lt_of_le htb hbw.size)).trans xt'
      have hd1 := row_below hd hbB
      have hws1 := Nat.le_trans hbw.size hbB.size
      have hbb := hbw.trans (hbB.mono hbw.size)
      obtain ⟨B, hB⟩ : ∃ x, wr.heap.size = x := ⟨_, rfl⟩
      rw [hB] at hrB
      have G1 := Lib.hid (show flatK 1 inC (slowsT l tk k) ++ [.int .i64 (t1 + r)] = flatK 1 inC (slowsT l tk (k + 1)) by rw [hsn, flat_snoc]; rfl)
      generalize flatK 1 inC (slowsT l tk k) = L1 at *
      have HBB := Lib.hid hbb
      have HD1 := Lib.hid hd1
      have HRB := Lib.hid hrB
      have HXT := Lib.hid xt1
      have HTB := Lib.hid (show tb < w.heap.size from htb)
      have HWS := Lib.hid hws1
      clear hlx hrow hpi hst hsn hjm xt xv xt' hvv hr hr0 hr1 hbB hrB hd1 hbb hlb hbw hd hws1
      clear xt1
      go_upto_region 5 with fail
      rw [← hW1]
      try rw [hB]
      clear hW1 hB x0 x1 x2
      obtain ⟨W2, hW2⟩ : ∃ X, X = W1.drew := ⟨_, rfl⟩
      have hbD : Below W1.heap.size W1 W2 := by rw [hW2]; exact (Below.refl _ _).drew
      have hT : W2.heap[B]? = some (.cells #[.int .i64 t0, .int .i64 t1, .int .i64 t2] 59 (0, 0)) ∧ W2.cell? ⟨tb, tq + jm, none⟩ = some (.int .u16 (vv : Nat)) := ⟨box_step (w0 := w) HRB.out hbD, (hbD.cell (p := ⟨tb, tq + jm, none⟩) (Nat.lt_of_lt_of_le HTB.out HWS.out)).trans HXT.out⟩
      have HT := Lib.hid hT
      have HD2 := Lib.hid (row_below HD1.out hbD)
      have HB2 := Lib.hid (HBB.out.trans (hbD.mono HBB.out.size))
      clear hbD hT HD1
      refine wp_region_held_drew (S := fun w' => w'.heap[B]? = some (.cells #[.int .i64 t0, .int .i64 t1, .int .i64 t2] 59 (0, 0)) ∧ w'.cell? ⟨tb, tq + jm, none⟩ = some (.int .u16 (vv : Nat))) (by kernel_rfl) (by rw [← hW2]; exact HT.out) (fun hHeld => ?_)
      rw [← hW2]
      clear hW2 hHeld
      refine wpAnyH_take (i := 0) (oi := _) (v := ?_) rfl (by kernel_rfl) (by kernel_rfl) (by kernel_rfl) (fun _ _ _ h => h) (Or.inl ⟨by rfl, ?_⟩) HT.out ?_
      rotate_left
      · intro w1 hSw
        obtain ⟨s1, s2⟩ := hSw
        obtain ⟨z1, z2⟩ := cell_three s1
        go_simp; with_reducible rfl
      simp only [List.getElem_toArray, List.getElem_cons_succ, List.getElem_cons_zero, Act.put, List.setIfInBounds_toArray, List.set_cons_zero, List.set_cons_succ]
      refine wpAnyH_take (i := 1) (oi := _) (v := ?_) rfl (by kernel_rfl) (by kernel_rfl) (by kernel_rfl) (fun _ _ _ h => h) (Or.inl ⟨by rfl, ?_⟩) HT.out ?_
      rotate_left
      · intro w1 hSw
        obtain ⟨s1, s2⟩ := hSw
        obtain ⟨z1, z2⟩ := cell_three s1
        go_simp; with_reducible rfl
      simp only [List.getElem_toArray, List.getElem_cons_succ, List.getElem_cons_zero, Act.put, List.setIfInBounds_toArray, List.set_cons_zero, List.set_cons_succ]
      refine wpAnyH_take (i := 2) (oi := _) (v := ?_) rfl (by kernel_rfl) (by kernel_rfl) (by kernel_rfl) (fun _ _ _ h => h) (Or.inl ⟨by rfl, ?_⟩) HT.out ?_
      rotate_left
      · intro w1 hSw
        obtain ⟨s1, s2⟩ := hSw
        obtain ⟨z1, z2⟩ := cell_three s1
        go_simp; with_reducible rfl
      simp only [List.getElem_toArray, List.getElem_cons_succ, List.getElem_cons_zero, Act.put, List.setIfInBounds_toArray, List.set_cons_zero, List.set_cons_succ]
      refine wpAnyH_take (i := 3) (oi := _) (v := ?_) rfl (by kernel_rfl) (by kernel_rfl) (by kernel_rfl) (fun _ _ _ h => h) (Or.inl ⟨by rfl, ?_⟩) HT.out ?_
      rotate_left
      · intro w1 hSw
        obtain ⟨s1, s2⟩ := hSw
        obtain ⟨z1, z2⟩ := cell_three s1
        go_simp; with_reducible rfl
      simp only [List.getElem_toArray, List.getElem_cons_succ, List.getElem_cons_zero, Act.put, List.setIfInBounds_toArray, List.set_cons_zero, List.set_cons_succ]
      refine wpAnyH_take (i := 4) (oi := _) (v := ?_) rfl (by kernel_rfl) (by kernel_rfl) (by kernel_rfl) (fun _ _ _ h => h) (Or.inl ⟨by rfl, ?_⟩) HT.out ?_
      rotate_left
      · intro w1 hSw
        obtain ⟨s1, s2⟩ := hSw
        obtain ⟨z1, z2⟩ := cell_three s1
        go_simp; with_reducible rfl
      simp only [List.getElem_toArray, List.getElem_cons_succ, List.getElem_cons_zero, Act.put, List.setIfInBounds_toArray, List.set_cons_zero, List.set_cons_succ]
      refine wpAnyH_take (i := 5) (oi := _) (v := ?_) rfl (by kernel_rfl) (by kernel_rfl) (by kernel_rfl) (fun _ _ _ h => h) (Or.inl ⟨by rfl, ?_⟩) HT.out ?_
      rotate_left
      · intro w1 hSw
        obtain ⟨s1, s2⟩ := hSw
        obtain ⟨z1, z2⟩ := cell_three s1
        go_simp; with_reducible rfl
      simp only [List.getElem_toArray, List.getElem_cons_succ, List.getElem_cons_zero, Act.put, List.setIfInBounds_toArray, List.set_cons_zero, List.set_cons_succ]
      refine wpAnyH_take (i := 6) (oi := _) (v := ?_) rfl (by kernel_rfl) (by kernel_rfl) (by kernel_rfl) (fun _ _ _ h => h) (Or.inl ⟨by rfl, ?_⟩) HT.out ?_
      rotate_left
      · intro w1 hSw
        obtain ⟨s1, s2⟩ := hSw
        obtain ⟨z1, z2⟩ := cell_three s1
        go_simp; with_reducible rfl
      simp only [List.getElem_toArray, List.getElem_cons_succ, List.getElem_cons_zero, Act.put, List.setIfInBounds_toArray, List.set_cons_zero, List.set_cons_succ]
      refine wpAnyH_take (i := 7) (oi := _) (v := ?_) rfl (by kernel_rfl) (by kernel_rfl) (by kernel_rfl) (fun _ _ _ h => h) (Or.inl ⟨by rfl, ?_⟩) HT.out ?_
      rotate_left
      · intro w1 hSw
        obtain ⟨s1, s2⟩ := hSw
        obtain ⟨z1, z2⟩ := cell_three s1
        go_simp; with_reducible rfl
      simp only [List.getElem_toArray, List.getElem_cons_succ, List.getElem_cons_zero, Act.put, List.setIfInBounds_toArray, List.set_cons_zero, List.set_cons_succ]
      refine wpAnyH_take (i := 8) (oi := _) (v := ?_) rfl (by kernel_rfl) (by kernel_rfl) (by kernel_rfl) (fun _ _ _ h => h) (Or.inl ⟨by rfl, ?_⟩) HT.out ?_
      rotate_left
      · intro w1 hSw
        obtain ⟨s1, s2⟩ := hSw
        obtain ⟨z1, z2⟩ := cell_three s1
        go_simp; with_reducible rfl
      simp only [List.getElem_toArray, List.getElem_cons_succ, List.getElem_cons_zero, Act.put, List.setIfInBounds_toArray, List.set_cons_zero, List.set_cons_succ]
      refine wpAnyH_take (i := 9) (oi := _) (v := ?_) rfl (by kernel_rfl) (by kernel_rfl) (by kernel_rfl) (fun _ _ _ h => h) (Or.inl ⟨by rfl, ?_⟩) HT.out ?_
      rotate_left
      · intro w1 hSw
        obtain ⟨s1, s2⟩ := hSw
        obtain ⟨z1, z2⟩ := cell_three s1
        go_simp; with_reducible rfl
      simp only [List.getElem_toArray, List.getElem_cons_succ, List.getElem_cons_zero, Act.put, List.setIfInBounds_toArray, List.set_cons_zero, List.set_cons_succ]
      refine wpAnyH_take (i := 10) (oi := _) (v := ?_) rfl (by kernel_rfl) (by kernel_rfl) (by kernel_rfl) (fun _ _ _ h => h) (Or.inl ⟨by rfl, ?_⟩) HT.out ?_
      rotate_left
      · intro w1 hSw
        obtain ⟨s1, s2⟩ := hSw
        obtain ⟨z1, z2⟩ := cell_three s1
        go_simp; with_reducible rfl
      simp only [List.getElem_toArray, List.getElem_cons_succ, List.getElem_cons_zero, Act.put, List.setIfInBounds_toArray, List.set_cons_zero, List.set_cons_succ]
      refine wpAnyH_take (i := 11) (oi := _) (v := ?_) rfl (by kernel_rfl) (by kernel_rfl) (by kernel_rfl) (fun _ _ _ h => h) (Or.inl ⟨by rfl, ?_⟩) HT.out ?_
      rotate_left
      · intro w1 hSw
        obtain ⟨s1, s2⟩ := hSw
        obtain ⟨z1, z2⟩ := cell_three s1
        go_simp; with_reducible rfl
      simp only [List.getElem_toArray, List.getElem_cons_succ, List.getElem_cons_zero, Act.put, List.setIfInBounds_toArray, List.set_cons_zero, List.set_cons_succ]
      refine wpAnyH_take (i := 12) (oi := _) (v := ?_) rfl (by kernel_rfl) (by kernel_rfl) (by kernel_rfl) (fun _ _ _ h => h) (Or.inl ⟨by rfl, ?_⟩) HT.out ?_
      rotate_left
      · intro w1 hSw
        obtain ⟨s1, s2⟩ := hSw
        obtain ⟨z1, z2⟩ := cell_three s1
        go_simp; with_reducible rfl
      simp only [List.getElem_toArray, List.getElem_cons_succ, List.getElem_cons_zero, Act.put, List.setIfInBounds_toArray, List.set_cons_zero, List.set_cons_succ]
      refine wpAnyH_take (i := 13) (oi := _) (v := ?_) rfl (by kernel_rfl) (by kernel_rfl) (by kernel_rfl) (fun _ _ _ h => h) (Or.inl ⟨by rfl, ?_⟩) HT.out ?_
      rotate_left
      · intro w1 hSw
        obtain ⟨s1, s2⟩ := hSw
        obtain ⟨z1, z2⟩ := cell_three s1
        go_simp; with_reducible rfl
      simp only [List.getElem_toArray, List.getElem_cons_succ, List.getElem_cons_zero, Act.put, List.setIfInBounds_toArray, List.set_cons_zero, List.set_cons_succ]
      refine wpAnyH_take (i := 14) (oi := _) (v := ?_) rfl (by kernel_rfl) (by kernel_rfl) (by kernel_rfl) (fun _ _ _ h => h) (Or.inl ⟨by rfl, ?_⟩) HT.out ?_
      rotate_left
      · intro w1 hSw
        obtain ⟨s1, s2⟩ := hSw
        obtain ⟨z1, z2⟩ := cell_three s1
        go_simp; with_reducible rfl
      simp only [List.getElem_toArray, List.getElem_cons_succ, List.getElem_cons_zero, Act.put, List.setIfInBounds_toArray, List.set_cons_zero, List.set_cons_succ]
      refine wpAnyH_take (i := 15) (oi := _) (v := ?_) rfl (by kernel_rfl) (by kernel_rfl) (by kernel_rfl) (fun _ _ _ h => h) (Or.inl ⟨by rfl, ?_⟩) HT.out ?_
      rotate_left
      · intro w1 hSw
        obtain ⟨s1, s2⟩ := hSw
        obtain ⟨z1, z2⟩ := cell_three s1
        go_simp; with_reducible rfl
      simp only [List.getElem_toArray, List.getElem_cons_succ, List.getElem_cons_zero, Act.put, List.setIfInBounds_toArray, List.set_cons_zero, List.set_cons_succ]
      refine wpAnyH_take (i := 16) (oi := _) (v := ?_) rfl (by kernel_rfl) (by kernel_rfl) (by kernel_rfl) (fun _ _ _ h => h) (Or.inl ⟨by rfl, ?_⟩) HT.out ?_
      rotate_left
      · intro w1 hSw
        obtain ⟨s1, s2⟩ := hSw
        obtain ⟨z1, z2⟩ := cell_three s1
        go_simp; with_reducible rfl
      simp only [List.getElem_toArray, List.getElem_cons_succ, List.getElem_cons_zero, Act.put, List.setIfInBounds_toArray, List.set_cons_zero, List.set_cons_succ]
      refine wpAnyH_take (i := 17) (oi := _) (v := ?_) rfl (by kernel_rfl) (by kernel_rfl) (by kernel_rfl) (fun _ _ _ h => h) (Or.inl ⟨by rfl, ?_⟩) HT.out ?_
      rotate_left
      · intro w1 hSw
        obtain ⟨s1, s2⟩ := hSw
        obtain ⟨z1, z2⟩ := cell_three s1
        go_simp; with_reducible rfl
      simp only [List.getElem_toArray, List.getElem_cons_succ, List.getElem_cons_zero, Act.put, List.setIfInBounds_toArray, List.set_cons_zero, List.set_cons_succ]
      refine wpAnyH_take (i := 18) (oi := _) (v := ?_) rfl (by kernel_rfl) (by kernel_rfl) (by kernel_rfl) (fun _ _ _ h => h) (Or.inl ⟨by rfl, ?_⟩) HT.out ?_
      rotate_left
      · intro w1 hSw
        obtain ⟨s1, s2⟩ := hSw
        obtain ⟨z1, z2⟩ := cell_three s1
        go_simp; with_reducible rfl
      simp only [List.getElem_toArray, List.getElem_cons_succ, List.getElem_cons_zero, Act.put, List.setIfInBounds_toArray, List.set_cons_zero, List.set_cons_succ]
      refine wpAnyH_take (i := 19) (oi := _) (v := ?_) rfl (by kernel_rfl) (by kernel_rfl) (by kernel_rfl) (fun _ _ _ h => h) (Or.inl ⟨by rfl, ?_⟩) HT.out ?_
      rotate_left
      · intro w1 hSw
        obtain ⟨s1, s2⟩ := hSw
        obtain ⟨z1, z2⟩ := cell_three s1
        go_simp; with_reducible rfl
      simp only [List.getElem_toArray, List.getElem_cons_succ, List.getElem_cons_zero, Act.put, List.setIfInBounds_toArray, List.set_cons_zero, List.set_cons_succ]
      refine wpAnyH_take (i := 20) (oi := _) (v := ?_) rfl (by kernel_rfl) (by kernel_rfl) (by kernel_rfl) (fun _ _ _ h => h) (Or.inl ⟨by rfl, ?_⟩) HT.out ?_
      rotate_left
      · intro w1 hSw
        obtain ⟨s1, s2⟩ := hSw
        obtain ⟨z1, z2⟩ := cell_three s1
        go_simp; with_reducible rfl
      simp only [List.getElem_toArray, List.getElem_cons_succ, List.getElem_cons_zero, Act.put, List.setIfInBounds_toArray, List.set_cons_zero, List.set_cons_succ]
      refine wpAnyH_take (i := 21) (oi := _) (v := ?_) rfl (by kernel_rfl) (by kernel_rfl) (by kernel_rfl) (fun _ _ _ h => h) (Or.inl ⟨by rfl, ?_⟩) HT.out ?_
      rotate_left
      · intro w1 hSw
        obtain ⟨s1, s2⟩ := hSw
        obtain ⟨z1, z2⟩ := cell_three s1
        go_simp; with_reducible rfl
      simp only [List.getElem_toArray, List.getElem_cons_succ, List.getElem_cons_zero, Act.put, List.setIfInBounds_toArray, List.set_cons_zero, List.set_cons_succ]
      refine wpAnyH_all (rs := [22]) (by kernel_rfl) (by simp) ?_
      intro i hi; obtain rfl := List.mem_singleton.1 hi; clear hi
      refine wpOp_step rfl (fun K3 hK3 => ?_)
      have HK3 := Lib.hid hK3
      clear hK3
      rw [if_pos (by rfl)]
      go_simp
      have hbC : Below W2.heap.size W2 (W2.alloc (.cells #[.int .i64 (t1 + r)] 3)) := (Below.refl _ _).alloc (Nat.le_refl _) _
      have hnew := cell_one_new W2 (.int .i64 (t1 + r)) 3
      obtain ⟨C, hC⟩ : ∃ x, W2.heap.size = x := ⟨_, rfl⟩
      obtain ⟨W3, hW3⟩ : ∃ X, X = W2.alloc (.cells #[.int .i64 (t1 + r)] 3) := ⟨_, rfl⟩
      rw [← hW3] at hbC hnew
      rw [hC] at hnew
      rw [← hW3]
      try rw [hC]
      have hT3 : W3.heap[B]? = some (.cells #[.int .i64 t0, .int .i64 t1, .int .i64 t2] 59 (0, 0)) ∧ W3.cell? ⟨tb, tq + jm, none⟩ = some (.int .u16 (vv : Nat)) := ⟨box_step (w0 := w) HT.out.1 hbC, (hbC.cell (p := ⟨tb, tq + jm, none⟩) (Nat.lt_of_lt_of_le HTB.out HB2.out.size)).trans HT.out.2⟩
      have hd3 := row_below HD2.out hbC
      have hb3 := HB2.out.trans (hbC.mono HB2.out.size)
      clear hW3 hC hbC
      refine HK3.out _ _ ⟨hT3, ?_⟩
      clear HK3 K3
      try simp only [List.getElem_toArray, List.getElem_cons_succ, List.getElem_cons_zero, Act.put, List.setIfInBounds_toArray, List.set_cons_zero, List.set_cons_succ]
      refine wpAnyH_all (rs := [23]) (by kernel_rfl) (by simp) ?_
      intro i hi; obtain rfl := List.mem_singleton.1 hi; clear hi
      refine wpOp_step rfl (fun K3 hK3 => ?_)
      have HK3 := Lib.hid hK3
      clear hK3
      rw [if_pos (by rfl)]
      simp only [List.getElem_toArray, List.getElem_cons_succ, List.getElem_cons_zero]
      refine wp_append_own (P := Try.prog) W3 (.tmp 15) (.tmp 37) 54 (by rfl) w.heap.size 3 i0 (.int .i64 0) 1 8 und54 hi hz0 hz1 hz2 rfl (by decide) _ k L1 (by rfl) hd3 ⟨C, 0, none⟩ 1 1 [.int .i64 (t1 + r)] (by rfl) rfl hnew (ints_oneCell .i64 [t1 + r]) (by unfold maxLen; omega) (by omega) hb3.size ?_
      intro v' w4 hown hg _
      have hT4 : w4.heap[B]? = some (.cells #[.int .i64 t0, .int .i64 t1, .int .i64 t2] 59 (0, 0)) ∧ w4.cell? ⟨tb, tq + jm, none⟩ = some (.int .u16 (vv : Nat)) := by
        have hb4 := hb3.grown hg hb3.size (fun k hk => (hd3.lt k hk).1)
        refine ⟨(hg.block B (Array.getElem?_eq_some_iff.1 hT3.1).1 (fun e => ?_)).trans hT3.1, (hb4.cell (p := ⟨tb, tq + jm, none⟩) HTB.out).trans XT0.out⟩
        obtain ⟨_, cs, h⟩ := own_ty hd3 e.symm
        rw [hT3.1] at h
        simp at h
      have hb4 := hb3.grown hg hb3.size (fun k hk => (hd3.lt k hk).1)
      have HOWN := Lib.hid hown
      have HB4 := Lib.hid hb4
      clear hown hg hb4 hd3 hb3 hnew hT3
      refine HK3.out _ _ ⟨hT4, ?_⟩
      clear HK3 K3
      try simp only [List.getElem_toArray, List.getElem_cons_succ, List.getElem_cons_zero, Act.put, List.setIfInBounds_toArray, List.set_cons_zero, List.set_cons_succ]
      refine wpAnyH_take (i := 24) (oi := _) (v := ?_) rfl (by kernel_rfl) (by kernel_rfl) (by kernel_rfl) (fun _ _ _ h => h) (Or.inl ⟨by rfl, ?_⟩) hT4 ?_
      rotate_left
      · intro w1 hSw
        obtain ⟨s1, s2⟩ := hSw
        obtain ⟨z1, z2⟩ := cell_three s1
        go_simp; with_reducible rfl
      simp only [List.getElem_toArray, List.getElem_cons_succ, List.getElem_cons_zero, Act.put, List.setIfInBounds_toArray, List.set_cons_zero, List.set_cons_succ]
      refine wpAnyH_done (by kernel_rfl) ?_ _
      clear hT4
      go_wp2
      go_roundw
      case rel =>
        refine ⟨k + 1, by omega, by go_num, HB4.out, ?_⟩
        rw [← G1.out]
        exact HOWN.out
      case measure => simp [intOf]; omega
    · have i1 : ¬ (k : Int) < (l.length : Int) := by omega
      have hkl : k = l.length := by omega
      subst hkl
      have HD := Lib.hid hd
      have HBW := Lib.hid hbw
      clear hd hbw
      go_wp2
      go_ret
      exact ⟨_, rfl, HD.out, HBW.out⟩
end Go.Proofs.Ytdbjifpnbghbaaa
