/- GearMore: the walk. -/
import Derived.Test.YtoiapnokgpeipaaM2
import Derived.BigRegion
import Derived.Outline
namespace Go.Proofs.Ytoiapnokgpeipaa
set_option linter.unusedSimpArgs false
open Go.RowKit Go.Maps

theorem two_boxes (Y : World) (o : Obj) : ((Y.alloc o).alloc o).drew.heap[Y.heap.size]? = some o ∧ ((Y.alloc o).alloc o).drew.heap[Y.heap.size + 1]? = some o ∧ ((Y.alloc o).alloc o).drew.heap.size = Y.heap.size + 2 ∧ Below Y.heap.size Y ((Y.alloc o).alloc o).drew := by
  have h1 := (MapKept.heap_alloc Y o).1
  have h2 := (MapKept.heap_alloc (Y.alloc o) o).1
  have h3 : (Y.alloc o).heap.size = Y.heap.size + 1 := by simp
  rw [h3] at h2
  refine ⟨(Below.heap_alloc _ _ _ (by simp)).trans h1, h2, by simp, (((Below.refl _ _).alloc (Nat.le_refl _) _).alloc (by simp) _).drew⟩

theorem two_stores {X Y : World} {n D1 D2 : Nat} {t r p o o' p' : Int} {same : Bool} (h1 : X.heap[D1]? = some (.cells #[.int .i64 t, .int .i64 r, .bool same, .int .i64 p, .int .i64 o] 24)) (h2 : X.heap[D2]? = some (.cells #[.int .i64 t, .int .i64 r, .bool same, .int .i64 p, .int .i64 o] 24))
    (hne : D1 ≠ D2) (hb : Below n Y X) (hn1 : n ≤ D1) (hn2 : n ≤ D2) : ∃ Z, Z = ((X.setCell ⟨D1, 4, none⟩ (.int .i64 o')).setCell ⟨D2, 3, none⟩ (.int .i64 p')).drew ∧
    Z.heap[D1]? = some (.cells #[.int .i64 t, .int .i64 r, .bool same, .int .i64 p, .int .i64 o'] 24) ∧ Z.heap[D2]? = some (.cells #[.int .i64 t, .int .i64 r, .bool same, .int .i64 p', .int .i64 o] 24) ∧ Below n Y Z ∧ Z.heap.size = X.heap.size := by
  refine ⟨_, rfl, ?_, ?_, ((hb.setCell hn1 _).setCell hn2 _).drew, by simp⟩
  · have h3 := heap_set h1 4 (.int .i64 o')
    exact (Below.heap_setCell _ _ _ _ hne).trans h3
  · have h3 := (Below.heap_setCell X ⟨D1, 4, none⟩ (.int .i64 o') D2 (Ne.symm hne)).trans h2
    exact heap_set h3 3 (.int .i64 p')

def RowM (S : List (Int × Int)) (t r p o : Int) (same : Bool) (T : Nat) (k : Nat) (X : World) : Prop :=
  ∃ (xa : Option Addr) (xc : Nat) (S' : List (Int × Int)) (p2 o2 : Int), X.cell? ⟨T, k * 6, none⟩ = some (.slice xa S'.length xc) ∧ X.cell? ⟨T, k * 6 + 1, none⟩ = some (.int .i64 t) ∧ X.cell? ⟨T, k * 6 + 2, none⟩ = some (.int .i64 r) ∧ X.cell? ⟨T, k * 6 + 3, none⟩ = some (.bool same) ∧
    X.cell? ⟨T, k * 6 + 4, none⟩ = some (.int .i64 p2) ∧ X.cell? ⟨T, k * 6 + 5, none⟩ = some (.int .i64 o2) ∧ WheelsAt X (.slice xa S'.length xc) S' ∧ (∀ b off, xa = some ⟨b, off, none⟩ → b < X.heap.size) ∧ stockB S' = true ∧ gearB t r p2 o2 = true ∧ p ≤ p2 ∧ o ≤ o2 ∧ ∀ x, heldI S x ≤ heldI S' x
theorem RowM.below {S : List (Int × Int)} {t r p o : Int} {same : Bool} {T k : Nat} {X X' : World} (h : RowM S t r p o same T k X) (hT : T < X.heap.size) (hb : Below X.heap.size X X') : RowM S t r p o same T k X' := by
  obtain ⟨xa, xc, S', p2, o2, c0, c1, c2, c3, c4, c5, hW, hx, hr⟩ := h
  exact ⟨xa, xc, S', p2, o2, (hb.cell (p := ⟨T, _, none⟩) hT).trans c0, (hb.cell (p := ⟨T, _, none⟩) hT).trans c1, (hb.cell (p := ⟨T, _, none⟩) hT).trans c2, (hb.cell (p := ⟨T, _, none⟩) hT).trans c3, (hb.cell (p := ⟨T, _, none⟩) hT).trans c4, (hb.cell (p := ⟨T, _, none⟩) hT).trans c5, hW.below hb, fun b off e => Nat.lt_of_lt_of_le (hx b off e) hb.size, hr⟩
theorem rcellsM {X : World} {b n c : Nat} {a : Option Addr} {t r p o : Int} {same : Bool} (h : X.heap[b]? = some (.cells #[.slice a n c, .int .i64 t, .int .i64 r, .bool same, .int .i64 p, .int .i64 o] 59)) :
    X.cell? ⟨b, 0, none⟩ = some (.slice a n c) ∧ X.cell? ⟨b, 1, none⟩ = some (.int .i64 t) ∧ X.cell? ⟨b, 2, none⟩ = some (.int .i64 r) ∧ X.cell? ⟨b, 3, none⟩ = some (.bool same) ∧ X.cell? ⟨b, 4, none⟩ = some (.int .i64 p) ∧ X.cell? ⟨b, 5, none⟩ = some (.int .i64 o) := by
  refine ⟨?_, ?_, ?_, ?_, ?_, ?_⟩ <;> simp [World.cell?, h]
theorem gearB_wide {t r p o bu o' : Int} (h : gearB t r p o = true) (hb : 0 ≤ bu) (ho : (if o + bu < 200 then o + bu else 200) = o') : gearB t r p o' = true ∧ o ≤ o' := by
  have h := gearB_iff.1 h
  rw [gearB_iff]
  split at ho <;> omega
theorem gearB_long {t r p o p' : Int} (h : gearB t r p o = true) (ho : (if p + 1 < 3 then p + 1 else 3) = p') : gearB t r p' o = true ∧ p ≤ p' := by
  have h := gearB_iff.1 h
  rw [gearB_iff]
  split at ho <;> omega

theorem ne_cases {S : List (Int × Int)} {t r p o : Int} {same : Bool} {P : List (Int × Int)} {i x ne : Int} {P' : List (Int × Int)} {i' nw ne' : Int} (h : Facts S t r p o same P i x ne P' i' nw ne') : (ne = 0 ∧ ne' = 0) ∨ (ne = 0 ∧ ne' = 4) ∨ (ne = 4 ∧ ne' = 4) := by
  rcases h with ⟨⟨_, _, _, h1⟩, ⟨_, _, _, h2⟩, _⟩ | ⟨h1, _, ⟨_, _, _, _, h2⟩ | ⟨_, _, _, _, h2⟩⟩
  · exact .inr (.inr ⟨h1, h2⟩)
  · exact .inl ⟨h1, h2⟩
  · exact .inr (.inl ⟨h1, h2⟩)

theorem twice_stores {X Y : World} {n N : Nat} {t r p o a b : Int} {same : Bool} (h1 : X.heap[N]? = some (.cells #[.int .i64 t, .int .i64 r, .bool same, .int .i64 p, .int .i64 o] 24)) (hb : Below n Y X) (hn1 : n ≤ N) :
    ∃ Z, Z = ((X.setCell ⟨N, 0, none⟩ (.int .i64 a)).setCell ⟨N, 1, none⟩ (.int .i64 b)).drew ∧ Z.heap[N]? = some (.cells #[.int .i64 a, .int .i64 b, .bool same, .int .i64 p, .int .i64 o] 24) ∧ Below n Y Z ∧ Z.heap.size = X.heap.size :=
  ⟨_, rfl, heap_set (heap_set h1 0 (.int .i64 a)) 1 (.int .i64 b), ((hb.setCell hn1 _).setCell hn1 _).drew, by simp⟩

theorem wpList_copy {ops : Array Oper} {rest : List Oper} {o : Oper} {a : Act} {w : World} {Q : Exit → Act → World → Prop} (hgd : o.guard = none) (s x : Operand) (t e : TypeId) (ho : o.op = .call { callee := .builtin .append, args := #[s, x], argTypes := #[t, t] })
    (ht : Try.prog.underlying t = some (.slice e)) (hinfo : (Try.prog.info? e).map (fun i => (i.zero, i.size, i.bytes)) = some (some (.agg #[.int .i64 0, .int .i64 0]), 2, 16))
    (base g : Nat) (hs : a.eval s = .slice (some ⟨g, 0, none⟩) 0 0) (hown : w.ownsRow base e 2 (.slice (some ⟨g, 0, none⟩) 0 0) 0 []) {v : Value} {S : List (Int × Int)} (hx : a.eval x = v) (hv : WheelsAt w v S) (hn : NilOk v) (hl : S.length ≤ 1000) (hbase : base ≤ w.heap.size)
    (h : ∀ v' w', w'.ownsRow base e 2 v' S.length ((usedP S).map (Value.int .i64)) → w.grownBy w' (some g) → wpList Try.prog ops Q rest (a.put o.dst v') w') : wpList Try.prog ops Q (o :: rest) a w :=
  wpList_plain hgd fun _ hK => wp_copy s x t e ho ht hinfo base g hs hown hx hv hn hl hbase fun v' w' h1 h2 _ => hK _ _ (h v' w' h1 h2)

set_option maxRecDepth 100000 in
set_option maxHeartbeats 25600000 in
theorem moreLaw_any (S : List (Int × Int)) (sv : Value) (t r p o : Int) (same : Bool) (wh bu : Int) (w : World) (hS : WheelsAt w sv S) (hsn : NilOk sv) (hss : ∀ b off n c, sv = .slice (some ⟨b, off, none⟩) n c → b < w.heap.size) (hwh : 0 ≤ wh ∧ wh ≤ 255) (hbu : 0 ≤ bu ∧ bu ≤ 255) :
    Calls Try.prog 9 #[sv, .agg #[.int .i64 t, .int .i64 r, .bool same, .int .i64 p, .int .i64 o], .int .u8 wh, .int .u8 bu] w
      fun e w' => e = .returned (.bool true) ∧ Below w.heap.size w w' := by
  obtain ⟨sa, sc, rfl⟩ := hS.shape
  have hsl : S.length ≤ 9223372036854775807 := hS.1
  obtain ⟨W0, hW0, hbw, hG, hz0⟩ := boxG w t r p o same
  have hzz : w.heap.size + 1 ≤ W0.heap.size := by omega
  clear hz0
  have hgr := great_any sa S.length sc 5 W0 hsl
  obtain ⟨gr, hgre⟩ : ∃ gr, greatB S.length 5 = gr := ⟨_, rfl⟩
  rw [hgre] at hgr
  clear hgre
  have ha := fun X => alive_any X
  have HA := Lib.hid ha
  have hd : 0 < S.length ∨ S.length = 0 := by omega
  clear ha
  go_enter Try.func9, Try.ntmps9
  go_wp2_with fail
  rw [← hW0]
  clear hW0
  refine hgr.mono ?_
  rintro e w1 ⟨rfl, rfl⟩
  clear hgr
  cases gr with
  | true =>
    clear hG hd
    go_wp2_with fail
    refine (HA.out _).mono ?_
    rintro e wq ⟨rfl, hbq⟩
    go_wp2
    go_ret
    exact ⟨rfl, hbw.trans (hbq.mono hbw.size)⟩
  | false =>
  rcases hd with hS0 | hS0
  rotate_left
  · have d0 : ((S.length : Int) == 0) = true := by rw [beq_iff_eq]; omega
    clear hG hS0
    go_wp2_with fail
    refine (HA.out _).mono ?_
    rintro e wq ⟨rfl, hbq⟩
    go_wp2
    go_ret
    exact ⟨rfl, hbw.trans (hbq.mono hbw.size)⟩
  have d0 : ((S.length : Int) == 0) = false := by rw [beq_eq_false_iff_ne]; omega
  have hrs := refStock_any S (.slice sa S.length sc) W0 (hS.below hbw)
  obtain ⟨st, hst⟩ : ∃ st, stockB S = st := ⟨_, rfl⟩
  rw [hst] at hrs
  have HRS := Lib.hid hrs
  have HST := Lib.hid hst
  clear hrs hst
  go_wp2_with fail
  refine HRS.out.mono ?_
  rintro e w2 ⟨rfl, hb2⟩
  clear HRS
  replace hG := (hb2.block w.heap.size (by omega)).trans hG
  replace hbw := hbw.trans (hb2.mono (by omega))
  replace hzz := Nat.le_trans hzz hb2.size
  clear hb2
  cases st with
  | false =>
    clear hG
    go_wp2_with fail
    refine (HA.out _).mono ?_
    rintro e wq ⟨rfl, hbq⟩
    go_wp2
    go_ret
    exact ⟨rfl, hbw.trans (hbq.mono hbw.size)⟩
  | true =>
  have hrg := refGearing_any t r p o same w2
  obtain ⟨ge, hge⟩ : ∃ ge, gearB t r p o = ge := ⟨_, rfl⟩
  rw [hge] at hrg
  have HRG := Lib.hid hrg
  have HGE := Lib.hid hge
  clear hrg hge
  obtain ⟨g0, g1, g2, g3, g4⟩ := gcells hG
  go_wp2_with fail
  refine HRG.out.mono ?_
  rintro e w3 ⟨rfl, hb3⟩
  clear HRG g0 g1 g2 g3 g4
  replace hG := (hb3.block w.heap.size (by omega)).trans hG
  replace hbw := hbw.trans (hb3.mono (by omega))
  replace hzz := Nat.le_trans hzz hb3.size
  clear hb3
  cases ge with
  | false =>
    clear hG
    go_wp2_with fail
    refine (HA.out _).mono ?_
    rintro e wq ⟨rfl, hbq⟩
    go_wp2
    go_ret
    exact ⟨rfl, hbw.trans (hbq.mono hbw.size)⟩
  | true =>
  have hgi := gearB_iff.1 HGE.out
  have ht2 : 1 ≤ t ∧ t ≤ 1000 := ⟨hgi.1, hgi.2.1⟩
  have hr2 : 1 ≤ r ∧ r ≤ 1000 := ⟨hgi.2.2.1, hgi.2.2.2.1⟩
  have hp2 : 0 ≤ p ∧ p ≤ 3 := ⟨hgi.2.2.2.2.1, hgi.2.2.2.2.2.1⟩
  have ho2 : 0 ≤ o ∧ o ≤ 200 := hgi.2.2.2.2.2.2
  have hs8 : S.length ≤ 8 := by have := HST.out; unfold stockB at this; exact (of_decide_eq_true this).1
  clear hgi
  obtain ⟨P1, i1, x1, ne1, hnear⟩ := nearOf_any t r (nearC S t r p o same)
  obtain ⟨P2, i2, nw, ne2, hrow⟩ := rowOf_any (chooseC S t r p o same)
  have hl1 : P1.length ≤ 3 := near_len hnear
  have hl2 : P2.length ≤ 3 := chosen_len hrow
  have HF : Hid (Facts S t r p o same P1 i1 x1 ne1 P2 i2 nw ne2) := Lib.hid (show Facts S t r p o same P1 i1 x1 ne1 P2 i2 nw ne2 from near_choose HST.out HGE.out hnear hrow)
  have HROW := Lib.hid hrow
  have HNEAR := Lib.hid hnear
  clear hnear hrow
  have hch := chose_gen HROW.out (hS.below hbw) (fun b off e => Nat.lt_of_lt_of_le (hss b off S.length sc (by rw [e])) hbw.size)
  have HCH := Lib.hid hch
  clear hch
  obtain ⟨g0, g1, g2, g3, g4⟩ := gcells hG
  go_wp2_with fail
  refine HCH.out.mono ?_
  rintro e w4 ⟨a2, c2, rfl, hown2, hb4⟩
  clear HCH g0 g1 g2 g3 g4
  replace hG := (hb4.block w.heap.size (by omega)).trans hG
  replace hbw := hbw.trans (hb4.mono (by omega))
  replace hzz := Nat.le_trans hzz hb4.size
  clear hb4
  have hP2 : WheelsAt w4 (.slice a2 P2.length c2) P2 := wheels_own hown2 (by omega)
  clear hown2
  obtain ⟨W5, hW5, hb5, hT, hz5⟩ := box27 w4 (.slice a2 P2.length c2) i2
  obtain ⟨B1, hB1⟩ : ∃ B, B = w4.heap.size := ⟨_, rfl⟩
  rw [← hB1] at hT hz5
  have hTz : B1 < W5.heap.size := by omega
  have hnr := near_gen HNEAR.out (hS.below (hbw.trans (hb5.mono (by omega)))) (fun b off e => Nat.lt_of_lt_of_le (hss b off S.length sc (by rw [e])) (Nat.le_trans hbw.size hb5.size))
  have HNR := Lib.hid hnr
  have HB1 := Lib.hid hB1
  have HB1' : w.heap.size < B1 := by omega
  obtain ⟨g0, g1, g2, g3, g4⟩ := gcells ((hb5.block w.heap.size (by omega)).trans hG)
  rw [hW5] at g0 g1 g2 g3 g4
  clear hnr hB1 hz5
  go_wp2_with fail
  rw [← hW5, ← HB1.out]
  clear hW5 g0 g1 g2 g3 g4
  refine HNR.out.mono ?_
  rintro e w6 ⟨a1, c1, rfl, hown1, hb6⟩
  clear HNR
  replace hG := (hb5.block w.heap.size (by omega)).trans hG
  replace hP2 := hP2.below hb5
  replace hbw := hbw.trans (hb5.mono (by omega))
  replace hzz := Nat.le_trans hzz hb5.size
  clear hb5 HB1
  replace hG := (hb6.block w.heap.size (by omega)).trans hG
  replace hT := (hb6.block B1 (by omega)).trans hT
  replace hP2 := hP2.below hb6
  replace hbw := hbw.trans (hb6.mono (by omega))
  replace hzz := Nat.le_trans hzz hb6.size
  replace hTz := Nat.lt_of_lt_of_le hTz hb6.size
  clear hb6
  have hP1 : WheelsAt w6 (.slice a1 P1.length c1) P1 := wheels_own hown1 (by omega)
  have hlt1 := fun b off h1 h2 => hP1.lt (b := b) (off := off) h1 h2
  have hlt2 := fun b off h1 h2 => hP2.lt (b := b) (off := off) h1 h2
  clear hown1
  obtain ⟨W7, hW7, hb7, hC, hz7⟩ := box27 w6 (.slice a1 P1.length c1) i1
  obtain ⟨B2, hB2⟩ : ∃ B, B = w6.heap.size := ⟨_, rfl⟩
  rw [← hB2] at hC hz7
  have hCz : B2 < W7.heap.size := by omega
  have HB2 := Lib.hid hB2
  have HB2' : B1 < B2 := by omega
  replace hG := (hb7.block w.heap.size (by omega)).trans hG
  replace hT := (hb7.block B1 (by omega)).trans hT
  replace hP2 := hP2.below hb7
  replace hP1 := hP1.below hb7
  replace hbw := hbw.trans (hb7.mono (by omega))
  replace hzz := Nat.le_trans hzz hb7.size
  replace hTz := Nat.lt_of_lt_of_le hTz hb7.size
  clear hb7 hB2 hz7
  have hog : (W7.alloc (.cells #[] 58)).ownsRow W7.heap.size 58 2 (.slice (some ⟨w6.heap.size + 1, 0, none⟩) 0 0) 0 [] := by
    have := World.ownsRow_lit W7 (base := W7.heap.size) (e := 58) (size := 2) #[] 0 (by omega) (by decide) rfl
    have e : W7.heap.size = w6.heap.size + 1 := by rw [hW7]; simp
    rw [e] at this ⊢
    exact this
  have hbg : Below W7.heap.size W7 (W7.alloc (.cells #[] 58)) := (Below.refl _ _).alloc (Nat.le_refl _) _
  have hSg := hS.below (hbw.trans (hbg.mono (by omega)))
  have HB2'' : W7.heap.size = w6.heap.size + 1 := by rw [hW7]; simp
  have hgz : W7.heap.size ≤ (W7.alloc (.cells #[] 58)).heap.size := by simp
  have HG := Lib.hid (And.intro hog (And.intro hbg (And.intro hSg (And.intro HB2'' hgz))))
  clear hog hbg hSg HB2'' hgz
  have HW7 := Lib.hid hW7
  clear hW7
  go_upto_region 6 with (at_builtin; rw [← HW7.out]; refine wpList_copy rfl (.tmp 76) (.tmp 77) 22 58 rfl Try.underlying22 Try.info58 W7.heap.size (w6.heap.size + 1) rfl HG.out.1 rfl HG.out.2.2.1 hsn (by omega) HG.out.2.2.2.2 ?_; intro rv W8 hown8 hgrow)
  rw [← HB2.out]
  have hb8 : Below W7.heap.size W7 W8 := HG.out.2.1.grown hgrow HG.out.2.2.2.2 (fun q hq => by have := HG.out.2.2.2.1; simp at hq; omega)
  obtain ⟨rb, rc, cs, rfl, hrb1, hrb2, hrcs⟩ := own_at hown8 hS0
  have hV8 := wheels_own58 hown8 (by omega)
  have hg2 : B2 < rb := by omega
  have hne1 : ∀ b off, P1 ≠ [] → a1 = some ⟨b, off, none⟩ → b ≠ rb := fun b off h1 h2 => by have := hlt1 b off h1 h2; have := HG.out.2.2.2.1; omega
  have hne2 : ∀ b off, P2 ≠ [] → a2 = some ⟨b, off, none⟩ → b ≠ rb := fun b off h1 h2 => by have := hlt2 b off h1 h2; have := HG.out.2.2.2.1; omega
  clear hown8 hgrow hrb1 HW7 hlt1 hlt2
  replace hG := (hb8.block w.heap.size (by omega)).trans hG
  replace hT := (hb8.block B1 (by omega)).trans hT
  replace hC := (hb8.block B2 (by omega)).trans hC
  replace hP2 := hP2.below hb8
  replace hP1 := hP1.below hb8
  replace hbw := hbw.trans (hb8.mono (by omega))
  replace hzz := Nat.le_trans hzz hb8.size
  replace hTz := Nat.lt_of_lt_of_le hTz hb8.size
  replace hCz := Nat.lt_of_lt_of_le hCz hb8.size
  clear hb8 HG
  obtain ⟨k, hk⟩ : ∃ k : Nat, wh % (S.length : Int) = (k : Int) := Int.eq_ofNat_of_zero_le (Int.emod_nonneg _ (by omega))
  have hks : k < S.length := by have := Int.emod_lt_of_pos wh (show (0 : Int) < S.length by omega); omega
  have hk0 : (0 : Int) ≤ (k : Int) := by omega
  have hk1 : (k : Int) < (S.length : Int) := by omega
  obtain ⟨m, hm⟩ : ∃ m, m = (S.getD k (0, 0)).2 := ⟨_, rfl⟩
  have hrow := stockB_row HST.out hks
  have hmb : 0 ≤ m ∧ m ≤ 4 := by rw [hm]; omega
  obtain ⟨b0, o0, e0, _, _, _, _, hvc⟩ := hV8.at rfl hS0
  simp only [Option.some.injEq, Addr.mk.injEq, and_true] at e0
  obtain ⟨rfl, rfl⟩ := e0
  have c0 := (hvc k hks).2
  rw [← hm, Nat.zero_add] at c0
  have fz : W8.frozen? ⟨rb, k * 2 + 1, none⟩ = false := by simp [World.frozen?, hrcs]
  clear hvc hrow
  have HMM := Lib.hid hm
  have z0 : ¬ (S.length : Int) = 0 := by omega
  have z1 : ((S.length : Int) == 0) = false := d0
  clear hm
  go_upto_region 8 with fail
  obtain ⟨mm, hmm⟩ : ∃ mm, (if m + 1 < 4 then m + 1 else 4) = mm := ⟨_, rfl⟩
  rw [hmm]
  obtain ⟨Y, hY, s1, s2, s3, s5⟩ := set_world58 (m := mm) hrcs hV8 hks
  rw [Nat.zero_add] at hY
  rw [← hY]
  have hR : WheelsAt Y (.slice (some ⟨rb, 0, none⟩) S.length rc) (richL S k) := by
    have e : richL S k = S.set k ((S.getD k (0, 0)).1, mm) := by unfold richL; rw [← HMM.out, hmm]
    rw [e]; exact s3
  have hBw : w.heap.size ≤ rb := by omega
  replace hG := (s1 w.heap.size (by omega)).trans hG
  replace hT := (s1 B1 (by omega)).trans hT
  replace hC := (s1 B2 (by omega)).trans hC
  replace hP1 := wheels_same hP1 s2 s1 (fun b o h1 h2 => hne1 b o h1 h2)
  replace hP2 := wheels_same hP2 s2 s1 (fun b o h1 h2 => hne2 b o h1 h2)
  replace hbw := s5 w hBw hbw
  rw [← s2] at hzz hTz hCz hrb2
  clear s1 s2 s3 s5 hY hrcs hV8 c0 fz hmb hmm HMM hk hk0 hk1 z0 z1
  go_cut [17, 18] (fun v1 v2 wx => ∃ D1 D2 : Nat, v1 = .pointer (some ⟨D1, 0, none⟩) ∧ v2 = .pointer (some ⟨D2, 0, none⟩) ∧ D1 ≠ D2 ∧ Y.heap.size ≤ D1 ∧ Y.heap.size ≤ D2 ∧ D1 < wx.heap.size ∧ D2 < wx.heap.size ∧ wx.heap[D1]? = some (.cells #[.int .i64 t, .int .i64 r, .bool same, .int .i64 p, .int .i64 o] 24) ∧ wx.heap[D2]? = some (.cells #[.int .i64 t, .int .i64 r, .bool same, .int .i64 p, .int .i64 o] 24) ∧ Below Y.heap.size Y wx)
  case first =>
    obtain ⟨g0, g1, g2, g3, g4⟩ := gcells hG
    have hu : ∀ A : Obj, (Y.alloc A).cell? ⟨w.heap.size, 0, none⟩ = some (.int .i64 t) ∧ (Y.alloc A).cell? ⟨w.heap.size, 1, none⟩ = some (.int .i64 r) ∧ (Y.alloc A).cell? ⟨w.heap.size, 2, none⟩ = some (.bool same) ∧ (Y.alloc A).cell? ⟨w.heap.size, 3, none⟩ = some (.int .i64 p) ∧ (Y.alloc A).cell? ⟨w.heap.size, 4, none⟩ = some (.int .i64 o) := fun A => gcells (by rw [Below.heap_alloc _ _ _ (by omega)]; exact hG)
    have hv : ∀ A B : Obj, ((Y.alloc A).alloc B).cell? ⟨w.heap.size, 0, none⟩ = some (.int .i64 t) ∧ ((Y.alloc A).alloc B).cell? ⟨w.heap.size, 1, none⟩ = some (.int .i64 r) ∧ ((Y.alloc A).alloc B).cell? ⟨w.heap.size, 2, none⟩ = some (.bool same) ∧ ((Y.alloc A).alloc B).cell? ⟨w.heap.size, 3, none⟩ = some (.int .i64 p) ∧ ((Y.alloc A).alloc B).cell? ⟨w.heap.size, 4, none⟩ = some (.int .i64 o) := fun A B => gcells (by rw [Below.heap_alloc _ _ _ (by simp; omega), Below.heap_alloc _ _ _ (by omega)]; exact hG)
    have u0 := fun A => (hu A).1
    have v0 := fun A B => (hv A B).1
    have u1 := fun A => (hu A).2.1
    have v1 := fun A B => (hv A B).2.1
    have u2 := fun A => (hu A).2.2.1
    have v2 := fun A B => (hv A B).2.2.1
    have u3 := fun A => (hu A).2.2.2.1
    have v3 := fun A B => (hv A B).2.2.2.1
    have u4 := fun A => (hu A).2.2.2.2
    have v4 := fun A B => (hv A B).2.2.2.2
    clear hu hv
    go_region
    · go_wp2_with fail
      go_meet
      obtain ⟨q1, q2, q3, q4⟩ := two_boxes Y (.cells #[.int .i64 t, .int .i64 r, .bool same, .int .i64 p, .int .i64 o] 24)
      exact ⟨Y.heap.size, Y.heap.size + 1, rfl, rfl, by omega, by omega, by omega, by rw [q3]; omega, by rw [q3]; omega, q1, q2, q4⟩
    · go_wp2_with fail
      go_meet
      obtain ⟨q1, q2, q3, q4⟩ := two_boxes Y (.cells #[.int .i64 t, .int .i64 r, .bool same, .int .i64 p, .int .i64 o] 24)
      exact ⟨Y.heap.size + 1, Y.heap.size, rfl, rfl, by omega, by omega, by omega, by rw [q3]; omega, by rw [q3]; omega, q2, q1, q4⟩
  case rest =>
  obtain ⟨D1, D2, rfl, rfl, hD12, hD1, hD2, hD1z, hD2z, hW1, hW2, hbY⟩ := hcut
  go_wp2_with fail
  have hgs : w.heap.size < Y.heap.size := by omega
  have n1 : w.heap.size ≠ D1 := by omega
  have n2 : w.heap.size ≠ D2 := by omega
  have n3 : D1 ≠ w.heap.size := by omega
  have n4 : D2 ≠ w.heap.size := by omega
  have n5 : D2 ≠ D1 := Ne.symm hD12
  obtain ⟨g0, g1, g2, g3, g4⟩ := gcells ((hbY.block w.heap.size (by omega)).trans hG)
  obtain ⟨_, _, _, _, f4⟩ := gcells hW1
  obtain ⟨_, _, _, k3, _⟩ := gcells hW2
  have fz1 : wc.frozen? ⟨D1, 4, none⟩ = false := by simp [World.frozen?, hW1]
  have fz2 : wc.frozen? ⟨D2, 3, none⟩ = false := by simp [World.frozen?, hW2]
  have HWW := Lib.hid (And.intro hW1 hW2)
  clear hW1 hW2 g0 g1 g2
  obtain ⟨o', ho'⟩ : ∃ x, (if o + bu < 200 then o + bu else 200) = x := ⟨_, rfl⟩
  obtain ⟨p', hp'⟩ : ∃ x, (if p + 1 < 3 then p + 1 else 3) = x := ⟨_, rfl⟩
  go_region
  go_upto_region 10 with fail
  clear g3 g4 f4 k3 fz1 fz2
  obtain ⟨Z, hZ, hW1, hW2, hbZ, hsZ⟩ := two_stores (o' := o') (p' := p') HWW.out.1 HWW.out.2 hD12 hbY hD1 hD2
  rw [← hZ]
  rw [← hsZ] at hD1z hD2z
  clear HWW hbY hZ hsZ n1 n2 n3 n4 n5
  obtain ⟨g0, g1, g2, g3, g4⟩ := gcells ((hbZ.block w.heap.size (by omega)).trans hG)
  obtain ⟨f0, f1, f2, f3, f4⟩ := gcells hW1
  obtain ⟨k0, k1, k2, k3, k4⟩ := gcells hW2
  have HO := Lib.hid ho'
  have HP := Lib.hid hp'
  clear ho' hp'
  obtain ⟨Z1, hZ1⟩ : ∃ X, X = Z.alloc (.cells #[.slice (some ⟨rb, 0, none⟩) S.length rc, .int .i64 t, .int .i64 r, .bool same, .int .i64 p, .int .i64 o, .slice sa S.length sc, .int .i64 t, .int .i64 r, .bool same, .int .i64 p, .int .i64 o', .slice sa S.length sc, .int .i64 t, .int .i64 r, .bool same, .int .i64 p', .int .i64 o] 59) := ⟨_, rfl⟩
  obtain ⟨T, hTe⟩ : ∃ T, T = Z.heap.size := ⟨_, rfl⟩
  have hbZ1 : Below Z.heap.size Z Z1 := by rw [hZ1]; exact (Below.refl _ _).alloc (Nat.le_refl _) _
  have hTT : Z1.heap[T]? = some (.cells #[.slice (some ⟨rb, 0, none⟩) S.length rc, .int .i64 t, .int .i64 r, .bool same, .int .i64 p, .int .i64 o, .slice sa S.length sc, .int .i64 t, .int .i64 r, .bool same, .int .i64 p, .int .i64 o', .slice sa S.length sc, .int .i64 t, .int .i64 r, .bool same, .int .i64 p', .int .i64 o] 59) := by rw [hZ1, hTe]; exact (MapKept.heap_alloc Z _).1
  have hzT : Z1.heap.size = T + 1 := by rw [hZ1, hTe]; simp
  have hbYZ : Below Y.heap.size Y Z1 := hbZ.trans (hbZ1.mono hbZ.size)
  have hbwZ : Below w.heap.size w Z1 := hbw.trans (hbYZ.mono hbw.size)
  have hSZ := hS.below hbwZ
  have hssZ : ∀ b off, sa = some ⟨b, off, none⟩ → b < Z1.heap.size := fun b off e => Nat.lt_of_lt_of_le (hss b off S.length sc (by rw [e])) hbwZ.size
  have hrl : (richL S k).length = S.length := by unfold richL; simp
  have hRZ := hR.below hbYZ
  have hrows : ∀ j, j < 3 → RowM S t r p o same T j Z1 := by
    intro j hj
    match j, hj with
    | 0, _ => exact ⟨some ⟨rb, 0, none⟩, rc, richL S k, p, o, by rw [hrl]; simp [World.cell?, hTT], by simp [World.cell?, hTT], by simp [World.cell?, hTT], by simp [World.cell?, hTT], by simp [World.cell?, hTT], by simp [World.cell?, hTT], by rw [hrl]; exact hRZ, fun b off e => by obtain ⟨rfl, _⟩ := (by simpa using e : rb = b ∧ 0 = off); exact Nat.lt_of_lt_of_le hrb2 hbYZ.size, rich_stock HST.out hks, HGE.out, Int.le_refl _, Int.le_refl _, fun x => rich_held HST.out hks x⟩
    | 1, _ => exact ⟨sa, sc, S, p, o', by simp [World.cell?, hTT], by simp [World.cell?, hTT], by simp [World.cell?, hTT], by simp [World.cell?, hTT], by simp [World.cell?, hTT], by simp [World.cell?, hTT], hSZ, hssZ, HST.out, (gearB_wide HGE.out hbu.1 HO.out).1, Int.le_refl _, (gearB_wide HGE.out hbu.1 HO.out).2, fun x => Int.le_refl _⟩
    | 2, _ => exact ⟨sa, sc, S, p', o, by simp [World.cell?, hTT], by simp [World.cell?, hTT], by simp [World.cell?, hTT], by simp [World.cell?, hTT], by simp [World.cell?, hTT], by simp [World.cell?, hTT], hSZ, hssZ, HST.out, (gearB_long HGE.out HP.out).1, (gearB_long HGE.out HP.out).2, Int.le_refl _, fun x => Int.le_refl _⟩
  go_wp2_with fail
  rw [← hZ1, ← hTe]
  replace hG := (hbYZ.block w.heap.size (by omega)).trans hG
  replace hC := (hbYZ.block B2 (by omega)).trans hC
  replace hP1 := hP1.below hbYZ
  replace hP2 := hP2.below hbYZ
  have hYz := hbYZ.size
  have HROWS := Lib.hid hrows
  have HZ := Lib.hid (And.intro hG (And.intro hC (And.intro hSZ hssZ)))
  clear g0 g1 g2 g3 g4 f0 f1 f2 f3 f4 k0 k1 k2 k3 k4 hrows hTT hZ1 hTe hbZ1 hW1 hW2 hR hRZ hrl hG hC hT hSZ hssZ hbZ hbw HO HP
  go_loopw [120] (fun c wr => ∃ k : Nat, k ≤ 3 ∧ c = .int .i64 k ∧ Below Z1.heap.size Z1 wr) (fun c _ => 3 - (intOf c).toNat)
  case atStart => exact ⟨0, by omega, rfl, Below.refl _ _⟩
  case round =>
    obtain ⟨k, hk, rfl, hbel⟩ := hrel
    have hws := hbel.size
    by_cases hlt : k < 3
    · obtain ⟨xa, xc, S', p2, o2, c0, c1, c2, c3, c4, c5, hWS, hxa, hst', hge', hpp, hoo, hhh⟩ := (HROWS.out k hlt).below (by omega) hbel
      have ik1 : (0 : Int) ≤ (k : Int) := by omega
      have ik2 : (k : Int) < 3 := by omega
      obtain ⟨R, hRe⟩ : ∃ R, R = wr.heap.size := ⟨_, rfl⟩
      obtain ⟨V1, hV1⟩ : ∃ X, X = wr.alloc (.cells #[.slice xa S'.length xc, .int .i64 t, .int .i64 r, .bool same, .int .i64 p2, .int .i64 o2] 59) := ⟨_, rfl⟩
      have hbV1 : Below wr.heap.size wr V1 := by rw [hV1]; exact (Below.refl _ _).alloc (Nat.le_refl _) _
      have hRR : V1.heap[R]? = some (.cells #[.slice xa S'.length xc, .int .i64 t, .int .i64 r, .bool same, .int .i64 p2, .int .i64 o2] 59) := by rw [hV1, hRe]; exact (MapKept.heap_alloc wr _).1
      have hz1 : V1.heap.size = R + 1 := by rw [hV1, hRe]; simp
      obtain ⟨Q, j, y, g, hnear⟩ := nearOf_any t r (nearC S' t r p2 o2 same)
      obtain ⟨Q1, j1, m2, h2, hrow⟩ := rowOf_any (chooseC S' t r p2 o2 same)
      have hq : Q.length ≤ 3 := near_len hnear
      have hq1 : Q1.length ≤ 3 := chosen_len hrow
      have hgi := gearB_iff.1 hge'
      have HM := Lib.hid (more_facts (hs := HST.out) (hs' := hst') (hr := hr2.1) (hp3 := hgi.2.2.2.2.2.1) (hp := hpp) (ho := hoo) (hh := hhh) HF.out (show Facts S' t r p2 o2 same Q j y g Q1 j1 m2 h2 from near_choose hst' hge' hnear hrow) hrow)
      have hgp : p2 ≤ 3 := hgi.2.2.2.2.2.1
      have hch := chose_gen hrow (hWS.below hbV1) (fun b off e => Nat.lt_of_lt_of_le (hxa b off e) hbV1.size)
      have HCH := Lib.hid hch
      have HNEAR2 := Lib.hid hnear
      obtain ⟨q0, q1, q2, q3, q4, q5⟩ := rcellsM hRR
      rw [hV1, hRe] at q0 q1 q2 q3 q4 q5
      have HRe := Lib.hid hRe
      clear hch hnear hrow hgi hpp hoo hhh hst' hge' hRe
      go_wp2_with fail
      rw [← hV1, ← HRe.out]
      clear hV1 q0 q1 q2 q3 q4 q5 c0 c1 c2 c3 c4 c5
      refine HCH.out.mono ?_
      rintro e V2 ⟨aq, cq, rfl, hownq, hb2⟩
      clear HCH
      replace hbel := hbel.trans (hbV1.mono hws)
      replace hws := hbel.size
      replace hWS := hWS.below hbV1
      replace hxa := fun b off e => Nat.lt_of_lt_of_le (hxa b off e) hbV1.size
      clear hbV1
      replace hRR := (hb2.block R (by omega)).trans hRR
      replace hbel := hbel.trans (hb2.mono hws)
      replace hws := hbel.size
      replace hWS := hWS.below hb2
      replace hxa := fun b off e => Nat.lt_of_lt_of_le (hxa b off e) hb2.size
      have hz2 : R < V2.heap.size := by have := hb2.size; omega
      clear hb2 hownq hz1
      obtain ⟨V3, hV3, hb3, hB3, hz3⟩ := box27 V2 (.slice aq Q1.length cq) j1
      have hnr := near_gen HNEAR2.out (hWS.below hb3) (fun b off e => Nat.lt_of_lt_of_le (hxa b off e) hb3.size)
      have HNR := Lib.hid hnr
      obtain ⟨q0, q1, q2, q3, q4, q5⟩ := rcellsM ((hb3.block R hz2).trans hRR)
      rw [hV3] at q0 q1 q2 q3 q4 q5
      clear hnr hz3 hB3
      go_wp2_with fail
      rw [← hV3]
      clear hV3 q0 q1 q2 q3 q4 q5
      refine HNR.out.mono ?_
      rintro e V4 ⟨ar, cr, rfl, hownr, hb4⟩
      clear HNR HNEAR2
      replace hbel := (hbel.trans (hb3.mono hws)).trans (hb4.mono (Nat.le_trans hws hb3.size))
      replace hws := hbel.size
      clear hb3 hb4 hWS hxa hRR hz2
      have hPQ : WheelsAt V4 (.slice ar Q.length cr) Q := wheels_own hownr (by omega)
      clear hownr
      obtain ⟨V5, hV5, hb5, hB5, hz5⟩ := box27 V4 (.slice ar Q.length cr) j
      obtain ⟨E, hEe⟩ : ∃ E, E = V4.heap.size := ⟨_, rfl⟩
      rw [← hEe] at hB5 hz5
      have HE := Lib.hid hEe
      clear hEe
      have hm1 := HM.out.1
      have hm2 := HM.out.2
      rcases ne_cases HF.out with ⟨rfl, rfl⟩ | ⟨rfl, rfl⟩ | ⟨rfl, rfl⟩
      · obtain ⟨rfl, hmn⟩ := hm1 rfl
        obtain ⟨rfl, hab1, hab2, hnt⟩ := hm2 rfl
        have y1 : decide (nw < m2) = false := decide_eq_false (by omega)
        clear hm1 hm2
        have hbd1 := able_bd hp2.2 hab1
        have hbd2 := able_bd hgp hab2
        have hbe1 := ex_bd (t := t) (r := r) ht2 hr2 hbd1.1 hbd1.2
        have hbe2 := ex_bd (t := t) (r := r) ht2 hr2 hbd2.1 hbd2.2
        have hbel5 := hbel.trans (hb5.mono hws)
        have hws5 := hbel5.size
        have hex := excess_gen t r p o same P1 (.slice a1 P1.length c1) i1 V5 (hP1.below hbel5) ht2 hr2 hbd1.1 hbd1.2
        have hno := max_prod (A := exA t r P1) (E := exB r P1) (X := exA t r Q) (Y := exB r Q) hbe1 hbe2 (by first | exact hnt | exact Int.not_lt.2 hnt)
        have HBD2 := Lib.hid hbd2
        obtain ⟨A1, hA1⟩ : ∃ A, exA t r P1 = A := ⟨_, rfl⟩
        obtain ⟨E1, hE1⟩ : ∃ A, exB r P1 = A := ⟨_, rfl⟩
        obtain ⟨A2, hA2⟩ : ∃ A, exA t r Q = A := ⟨_, rfl⟩
        obtain ⟨E2, hE2⟩ : ∃ A, exB r Q = A := ⟨_, rfl⟩
        rw [hA1, hE1] at hex hno hbe1
        rw [hA2, hE2] at hno hbe2
        have HEX := Lib.hid hex
        have HNO := Lib.hid hno
        have HA2 := Lib.hid (And.intro hA2 hE2)
        obtain ⟨g0, g1, g2, g3, g4⟩ := gcells ((hbel5.block w.heap.size (by omega)).trans HZ.out.1)
        obtain ⟨f0, f1⟩ := tcells ((hbel5.block B2 (by omega)).trans HZ.out.2.1)
        rw [hV5] at g0 g1 g2 g3 g4 f0 f1
        clear hex hno hA1 hE1 hA2 hE2 hbd1 hbd2 hnt hab1 hab2
        go_wp2_with fail
        rw [← hV5, ← HE.out]
        clear hV5 g0 g1 g2 g3 g4 f0 f1
        refine HEX.out.mono ?_
        rintro e V6 ⟨rfl, hb6⟩
        clear HEX
        have hPQ6 := (hPQ.below hb5).below hb6
        have hB6 := (hb6.block E (by omega)).trans hB5
        have hbel6 := hbel5.trans (hb6.mono hws5)
        have hws6 := hbel6.size
        have hex := excess_gen t r p o same Q (.slice ar Q.length cr) j V6 hPQ6 ht2 hr2 HBD2.out.1 HBD2.out.2
        rw [HA2.out.1, HA2.out.2] at hex
        have HEX := Lib.hid hex
        obtain ⟨g0, g1, g2, g3, g4⟩ := gcells ((hbel6.block w.heap.size (by omega)).trans HZ.out.1)
        obtain ⟨f0, f1⟩ := tcells hB6
        clear hex hb5 hb6 hB6 hB5 hPQ hPQ6 hbel hbel5 hws hws5 hz5
        go_wp2_with fail
        refine HEX.out.mono ?_
        rintro e V7 ⟨rfl, hb7⟩
        have hbel7 := hbel6.trans (hb7.mono hws6)
        clear HEX g0 g1 g2 g3 g4 f0 f1 hb7 hbel6 hws6
        have hno := HNO.out
        obtain ⟨M1, hM1⟩ : ∃ M, (if A1 < -A1 then -A1 else A1) = M := ⟨_, rfl⟩
        obtain ⟨M2, hM2⟩ : ∃ M, (if A2 < -A2 then -A2 else A2) = M := ⟨_, rfl⟩
        rw [hM1, hM2] at hno
        have y2 : decide (wrap64 (M1 * E2) < wrap64 (M2 * E1)) = false := decide_eq_false (by first | exact hno | exact Int.not_lt.2 hno)
        clear HNO hno
        go_wp2_with fail
        go_roundw
        case rel => exact ⟨k + 1, by omega, by go_num, hbel7⟩
        case measure => simp [intOf]; omega
      · clear hm1
        obtain ⟨rfl, hab1, hab2, hnt⟩ := hm2 rfl
        clear hm2
        have hbd1 := able_bd hp2.2 hab1
        have hbd2 := able_bd hgp hab2
        have hbe1 := ex_bd (t := t) (r := r) ht2 hr2 hbd1.1 hbd1.2
        have hbe2 := ex_bd (t := t) (r := r) ht2 hr2 hbd2.1 hbd2.2
        have hbel5 := hbel.trans (hb5.mono hws)
        have hws5 := hbel5.size
        have hex := excess_gen t r p o same P1 (.slice a1 P1.length c1) i1 V5 (hP1.below hbel5) ht2 hr2 hbd1.1 hbd1.2
        have hno := max_prod (A := exA t r P1) (E := exB r P1) (X := exA t r Q) (Y := exB r Q) hbe1 hbe2 (by first | exact hnt | exact Int.not_lt.2 hnt)
        have HBD2 := Lib.hid hbd2
        obtain ⟨A1, hA1⟩ : ∃ A, exA t r P1 = A := ⟨_, rfl⟩
        obtain ⟨E1, hE1⟩ : ∃ A, exB r P1 = A := ⟨_, rfl⟩
        obtain ⟨A2, hA2⟩ : ∃ A, exA t r Q = A := ⟨_, rfl⟩
        obtain ⟨E2, hE2⟩ : ∃ A, exB r Q = A := ⟨_, rfl⟩
        rw [hA1, hE1] at hex hno hbe1
        rw [hA2, hE2] at hno hbe2
        have HEX := Lib.hid hex
        have HNO := Lib.hid hno
        have HA2 := Lib.hid (And.intro hA2 hE2)
        obtain ⟨g0, g1, g2, g3, g4⟩ := gcells ((hbel5.block w.heap.size (by omega)).trans HZ.out.1)
        obtain ⟨f0, f1⟩ := tcells ((hbel5.block B2 (by omega)).trans HZ.out.2.1)
        rw [hV5] at g0 g1 g2 g3 g4 f0 f1
        clear hex hno hA1 hE1 hA2 hE2 hbd1 hbd2 hnt hab1 hab2
        go_wp2_with fail
        rw [← hV5, ← HE.out]
        clear hV5 g0 g1 g2 g3 g4 f0 f1
        refine HEX.out.mono ?_
        rintro e V6 ⟨rfl, hb6⟩
        clear HEX
        have hPQ6 := (hPQ.below hb5).below hb6
        have hB6 := (hb6.block E (by omega)).trans hB5
        have hbel6 := hbel5.trans (hb6.mono hws5)
        have hws6 := hbel6.size
        have hex := excess_gen t r p o same Q (.slice ar Q.length cr) j V6 hPQ6 ht2 hr2 HBD2.out.1 HBD2.out.2
        rw [HA2.out.1, HA2.out.2] at hex
        have HEX := Lib.hid hex
        obtain ⟨g0, g1, g2, g3, g4⟩ := gcells ((hbel6.block w.heap.size (by omega)).trans HZ.out.1)
        obtain ⟨f0, f1⟩ := tcells hB6
        clear hex hb5 hb6 hB6 hB5 hPQ hPQ6 hbel hbel5 hws hws5 hz5
        go_wp2_with fail
        refine HEX.out.mono ?_
        rintro e V7 ⟨rfl, hb7⟩
        have hbel7 := hbel6.trans (hb7.mono hws6)
        clear HEX g0 g1 g2 g3 g4 f0 f1 hb7 hbel6 hws6
        have hno := HNO.out
        obtain ⟨M1, hM1⟩ : ∃ M, (if A1 < -A1 then -A1 else A1) = M := ⟨_, rfl⟩
        obtain ⟨M2, hM2⟩ : ∃ M, (if A2 < -A2 then -A2 else A2) = M := ⟨_, rfl⟩
        rw [hM1, hM2] at hno
        have y2 : decide (wrap64 (M1 * E2) < wrap64 (M2 * E1)) = false := decide_eq_false (by first | exact hno | exact Int.not_lt.2 hno)
        clear HNO hno
        go_wp2_with fail
        go_roundw
        case rel => exact ⟨k + 1, by omega, by go_num, hbel7⟩
        case measure => simp [intOf]; omega
      · clear hm1 hm2
        have hbel7 := hbel.trans (hb5.mono hws)
        clear hbel hws hb5 hB5 hz5
        go_wp2_with fail
        rw [← hV5]
        clear hV5
        go_roundw
        case rel => exact ⟨k + 1, by omega, by go_num, hbel7⟩
        case measure => simp [intOf]; omega
    · have hd3 : decide ((k : Int) < 3) = false := decide_eq_false (by omega)
      obtain ⟨g0, g1, g2, g3, g4⟩ := gcells ((hbel.block w.heap.size (by omega)).trans HZ.out.1)
      go_upto_region 24 with fail
      obtain ⟨X0, hX0⟩ : ∃ X, X = wr.alloc (.cells #[.int .i64 t, .int .i64 r, .bool same, .int .i64 p, .int .i64 o] 24) := ⟨_, rfl⟩
      obtain ⟨N, hN⟩ : ∃ N, N = wr.heap.size := ⟨_, rfl⟩
      have hbX0 : Below wr.heap.size wr X0 := by rw [hX0]; exact (Below.refl _ _).alloc (Nat.le_refl _) _
      have hNN : X0.heap[N]? = some (.cells #[.int .i64 t, .int .i64 r, .bool same, .int .i64 p, .int .i64 o] 24) := by rw [hX0, hN]; exact (MapKept.heap_alloc wr _).1
      have hzN : X0.heap.size = N + 1 := by rw [hX0, hN]; simp
      rw [← hX0, ← hN]
      replace hbel := hbel.trans (hbX0.mono hws)
      have HN : w.heap.size < N := by omega
      have HNz : Z1.heap.size ≤ N := by omega
      clear hX0 hbX0 g0 g1 g2 g3 g4 hd3 hN
      have n1 : w.heap.size ≠ N := by omega
      have n2 : N ≠ w.heap.size := by omega
      obtain ⟨g0, g1, _, _, _⟩ := gcells ((hbel.block w.heap.size (by omega)).trans HZ.out.1)
      obtain ⟨f0, f1, _, _, _⟩ := gcells hNN
      have fz0 : X0.frozen? ⟨N, 0, none⟩ = false := by simp [World.frozen?, hNN]
      have fz1 : X0.frozen? ⟨N, 1, none⟩ = false := by simp [World.frozen?, hNN]
      have ht3 : 1 ≤ t := ht2.1
      have ht4 : t ≤ 1000 := ht2.2
      have hr3 : 1 ≤ r := hr2.1
      have hr4 : r ≤ 1000 := hr2.2
      have HNN := Lib.hid hNN
      clear hNN
      go_region
      obtain ⟨X1, hX1, hNN, hbel1, hzX⟩ := twice_stores (a := 2 * t) (b := 2 * r) HNN.out hbel HNz
      go_upto_region 25 with fail
      rw [← hX1]
      have hNNz : N < X1.heap.size := by omega
      clear hX1 g0 g1 f0 f1 fz0 fz1 hbel HNN hzN hzX n1 n2
      have hrg := refGearing_any (2 * t) (2 * r) p o same X1
      obtain ⟨ge, hge⟩ : ∃ ge, gearB (2 * t) (2 * r) p o = ge := ⟨_, rfl⟩
      rw [hge] at hrg
      have HRG := Lib.hid hrg
      have HGE2 := Lib.hid hge
      obtain ⟨f0, f1, f2, f3, f4⟩ := gcells hNN
      clear hrg hge
      go_wp2_with fail
      refine HRG.out.mono ?_
      rintro e X2 ⟨rfl, hb⟩
      replace hNN := (hb.block N hNNz).trans hNN
      replace hNNz := Nat.lt_of_lt_of_le hNNz hb.size
      have hcur := hbel1.trans (hb.mono hbel1.size)
      clear HRG f0 f1 f2 f3 f4 hb hbel1
      have hbwc := hbwZ.trans (hcur.mono hbwZ.size)
      cases ge with
      | false =>
        go_wp2_with fail
        refine (HA.out _).mono ?_
        rintro e wq ⟨rfl, hbq⟩
        go_wp2
        go_ret
        exact ⟨rfl, hbwc.trans (hbq.mono hbwc.size)⟩
      | true =>
      clear hbwc
      have HR2 : Hid (RowOf (chooseC S (2 * t) (2 * r) p o same) P2 i2 nw ne2) := Lib.hid (by rw [chooseC_two HGE.out HGE2.out]; exact HROW.out)
      have HN2 : Hid (NearOf (2 * t) (2 * r) (nearC S (2 * t) (2 * r) p o same) P1 i1 x1 ne1) := Lib.hid (nearOf_two HGE.out HGE2.out HNEAR.out)
      have hcall := chose_gen HR2.out (HZ.out.2.2.1.below hcur) (fun b off e => Nat.lt_of_lt_of_le (HZ.out.2.2.2 b off e) hcur.size)
      have HCALL := Lib.hid hcall
      clear hcall
      obtain ⟨g0, g1, g2, g3, g4⟩ := gcells hNN
      go_wp2_with fail
      clear g0 g1 g2 g3 g4
      refine HCALL.out.mono ?_
      rintro e U1 ⟨ca1, cc1, rfl, hown, hb⟩
      clear HCALL
      replace hNN := (hb.block N hNNz).trans hNN
      replace hNNz := Nat.lt_of_lt_of_le hNNz hb.size
      replace hcur := hcur.trans (hb.mono hcur.size)
      clear hb
      have hW1 : WheelsAt U1 (.slice ca1 P2.length cc1) P2 := wheels_own hown (by omega)
      clear hown
      obtain ⟨V1, hbox, hb, hK1, hz⟩ := box27 U1 (.slice ca1 P2.length cc1) i2
      obtain ⟨E1, hE⟩ : ∃ E, E = U1.heap.size := ⟨_, rfl⟩
      rw [← hE] at hK1 hz
      have hK1z : E1 < V1.heap.size := by omega
      have HE := Lib.hid hE
      clear hE hz
      replace hNN := (hb.block N hNNz).trans hNN
      replace hNNz := Nat.lt_of_lt_of_le hNNz hb.size
      replace hW1 := hW1.below hb
      replace hcur := hcur.trans (hb.mono hcur.size)
      clear hb
      have hcall := near_gen HN2.out (HZ.out.2.2.1.below hcur) (fun b off e => Nat.lt_of_lt_of_le (HZ.out.2.2.2 b off e) hcur.size)
      have HCALL := Lib.hid hcall
      clear hcall
      obtain ⟨g0, g1, g2, g3, g4⟩ := gcells hNN
      rw [hbox] at g0 g1 g2 g3 g4
      go_wp2_with fail
      rw [← hbox, ← HE.out]
      clear hbox HE
      clear g0 g1 g2 g3 g4
      refine HCALL.out.mono ?_
      rintro e U2 ⟨ca2, cc2, rfl, hown, hb⟩
      clear HCALL
      replace hNN := (hb.block N hNNz).trans hNN
      replace hNNz := Nat.lt_of_lt_of_le hNNz hb.size
      replace hK1 := (hb.block E1 hK1z).trans hK1
      replace hK1z := Nat.lt_of_lt_of_le hK1z hb.size
      replace hW1 := hW1.below hb
      replace hcur := hcur.trans (hb.mono hcur.size)
      clear hb
      have hW2 : WheelsAt U2 (.slice ca2 P1.length cc2) P1 := wheels_own hown (by omega)
      clear hown
      obtain ⟨V2, hbox, hb, hK2, hz⟩ := box27 U2 (.slice ca2 P1.length cc2) i1
      obtain ⟨E2, hE⟩ : ∃ E, E = U2.heap.size := ⟨_, rfl⟩
      rw [← hE] at hK2 hz
      have hK2z : E2 < V2.heap.size := by omega
      have HE := Lib.hid hE
      clear hE hz
      replace hNN := (hb.block N hNNz).trans hNN
      replace hNNz := Nat.lt_of_lt_of_le hNNz hb.size
      replace hK1 := (hb.block E1 hK1z).trans hK1
      replace hK1z := Nat.lt_of_lt_of_le hK1z hb.size
      replace hW1 := hW1.below hb
      replace hW2 := hW2.below hb
      replace hcur := hcur.trans (hb.mono hcur.size)
      clear hb
      have hcall := chose_gen HROW.out (HZ.out.2.2.1.below hcur) (fun b off e => Nat.lt_of_lt_of_le (HZ.out.2.2.2 b off e) hcur.size)
      have HCALL := Lib.hid hcall
      clear hcall
      obtain ⟨g0, g1, g2, g3, g4⟩ := gcells ((hcur.block w.heap.size (by omega)).trans HZ.out.1)
      rw [hbox] at g0 g1 g2 g3 g4
      go_wp2_with fail
      rw [← hbox, ← HE.out]
      clear hbox HE
      clear g0 g1 g2 g3 g4
      refine HCALL.out.mono ?_
      rintro e U3 ⟨ca3, cc3, rfl, hown, hb⟩
      clear HCALL
      replace hNN := (hb.block N hNNz).trans hNN
      replace hNNz := Nat.lt_of_lt_of_le hNNz hb.size
      replace hK1 := (hb.block E1 hK1z).trans hK1
      replace hK1z := Nat.lt_of_lt_of_le hK1z hb.size
      replace hK2 := (hb.block E2 hK2z).trans hK2
      replace hK2z := Nat.lt_of_lt_of_le hK2z hb.size
      replace hW1 := hW1.below hb
      replace hW2 := hW2.below hb
      replace hcur := hcur.trans (hb.mono hcur.size)
      clear hb
      have hW3 : WheelsAt U3 (.slice ca3 P2.length cc3) P2 := wheels_own hown (by omega)
      clear hown
      obtain ⟨V3, hbox, hb, hK3, hz⟩ := box27 U3 (.slice ca3 P2.length cc3) i2
      obtain ⟨E3, hE⟩ : ∃ E, E = U3.heap.size := ⟨_, rfl⟩
      rw [← hE] at hK3 hz
      have hK3z : E3 < V3.heap.size := by omega
      have HE := Lib.hid hE
      clear hE hz
      replace hNN := (hb.block N hNNz).trans hNN
      replace hNNz := Nat.lt_of_lt_of_le hNNz hb.size
      replace hK1 := (hb.block E1 hK1z).trans hK1
      replace hK1z := Nat.lt_of_lt_of_le hK1z hb.size
      replace hK2 := (hb.block E2 hK2z).trans hK2
      replace hK2z := Nat.lt_of_lt_of_le hK2z hb.size
      replace hW1 := hW1.below hb
      replace hW2 := hW2.below hb
      replace hW3 := hW3.below hb
      replace hcur := hcur.trans (hb.mono hcur.size)
      clear hb
      have hcall := near_gen HNEAR.out (HZ.out.2.2.1.below hcur) (fun b off e => Nat.lt_of_lt_of_le (HZ.out.2.2.2 b off e) hcur.size)
      have HCALL := Lib.hid hcall
      clear hcall
      obtain ⟨g0, g1, g2, g3, g4⟩ := gcells ((hcur.block w.heap.size (by omega)).trans HZ.out.1)
      rw [hbox] at g0 g1 g2 g3 g4
      go_wp2_with fail
      rw [← hbox, ← HE.out]
      clear hbox HE
      clear g0 g1 g2 g3 g4
      refine HCALL.out.mono ?_
      rintro e U4 ⟨ca4, cc4, rfl, hown, hb⟩
      clear HCALL
      replace hNN := (hb.block N hNNz).trans hNN
      replace hNNz := Nat.lt_of_lt_of_le hNNz hb.size
      replace hK1 := (hb.block E1 hK1z).trans hK1
      replace hK1z := Nat.lt_of_lt_of_le hK1z hb.size
      replace hK2 := (hb.block E2 hK2z).trans hK2
      replace hK2z := Nat.lt_of_lt_of_le hK2z hb.size
      replace hK3 := (hb.block E3 hK3z).trans hK3
      replace hK3z := Nat.lt_of_lt_of_le hK3z hb.size
      replace hW1 := hW1.below hb
      replace hW2 := hW2.below hb
      replace hW3 := hW3.below hb
      replace hcur := hcur.trans (hb.mono hcur.size)
      clear hb
      have hW4 : WheelsAt U4 (.slice ca4 P1.length cc4) P1 := wheels_own hown (by omega)
      clear hown
      obtain ⟨V4, hbox, hb, hK4, hz⟩ := box27 U4 (.slice ca4 P1.length cc4) i1
      obtain ⟨E4, hE⟩ : ∃ E, E = U4.heap.size := ⟨_, rfl⟩
      rw [← hE] at hK4 hz
      have hK4z : E4 < V4.heap.size := by omega
      have HE := Lib.hid hE
      clear hE hz
      replace hNN := (hb.block N hNNz).trans hNN
      replace hNNz := Nat.lt_of_lt_of_le hNNz hb.size
      replace hK1 := (hb.block E1 hK1z).trans hK1
      replace hK1z := Nat.lt_of_lt_of_le hK1z hb.size
      replace hK2 := (hb.block E2 hK2z).trans hK2
      replace hK2z := Nat.lt_of_lt_of_le hK2z hb.size
      replace hK3 := (hb.block E3 hK3z).trans hK3
      replace hK3z := Nat.lt_of_lt_of_le hK3z hb.size
      replace hW1 := hW1.below hb
      replace hW2 := hW2.below hb
      replace hW3 := hW3.below hb
      replace hW4 := hW4.below hb
      replace hcur := hcur.trans (hb.mono hcur.size)
      clear hb
      obtain ⟨f0, f1⟩ := tcells hK1
      obtain ⟨k0, k1⟩ := tcells hK3
      rw [hbox] at f0 f1 k0 k1
      go_wp2_with fail
      rw [← hbox, ← HE.out]
      clear hbox HE f0 f1 k0 k1
      refine (same_self P2 ca1 ca3 cc1 cc3 i2 V4 hW1 hW3).mono ?_
      rintro e V5 ⟨rfl, hb⟩
      replace hK2 := (hb.block E2 hK2z).trans hK2
      replace hW2 := hW2.below hb
      have hP1c := hP1.below hcur
      replace hP1c := hP1c.below hb
      replace hcur := hcur.trans (hb.mono hcur.size)
      obtain ⟨f0, f1⟩ := tcells hK2
      obtain ⟨k0, k1⟩ := tcells ((hcur.block B2 (by omega)).trans HZ.out.2.1)
      clear hb
      go_wp2_with fail
      refine (same_self P1 ca2 a1 cc2 c1 i1 V5 hW2 hP1c).mono ?_
      rintro e V6 ⟨rfl, hb⟩
      replace hcur := hcur.trans (hb.mono hcur.size)
      clear hb f0 f1 k0 k1
      have hbwc := hbwZ.trans (hcur.mono hbwZ.size)
      go_wp2_with fail
      refine (HA.out _).mono ?_
      rintro e wq ⟨rfl, hbq⟩
      go_wp2
      go_ret
      exact ⟨rfl, hbwc.trans (hbq.mono hbwc.size)⟩
end Go.Proofs.Ytoiapnokgpeipaa
