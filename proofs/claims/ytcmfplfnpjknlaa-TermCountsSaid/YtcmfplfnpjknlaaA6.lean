/- Term: how many seals of a row are not broken. -/
import Derived.Test.YtcmfplfnpjknlaaA5
namespace Go.Proofs.Ytcmfplfnpjknlaa
set_option linter.unusedSimpArgs false
set_option linter.unusedVariables false
open Go.RowKit Go.Maps

/-- how many seals of the row were met so far -/
def metF (bs : List (Int × Int)) (r : Row) (day : Int) (left : Lit → Bool) : Nat := bs.countP (fun b => (hasF r b.1 && decide (b.2 ≤ day)) && !left (.int .i64 b.1))
theorem met_start {D : DataW Unit} {bs : List (Int × Int)} {r : Row} {day : Int} (h : ∀ x, Maps.has D (.int .i64 x) = (brkDay bs x).isSome) : metF bs r day (Maps.has D) = 0 := by
  unfold metF
  rw [List.countP_eq_zero]
  intro b hb
  rw [h, brkDay_isSome, List.any_eq_true.2 ⟨b, hb, by simp⟩]
  simp
theorem met_end {bs : List (Int × Int)} {r : Row} {day : Int} {left : Lit → Bool} (h : ∀ kl, left kl = false) : metF bs r day left = goneF bs r day := by
  unfold metF goneF
  congr 1
  funext b
  simp [h]
theorem met_le (bs : List (Int × Int)) (r : Row) (day : Int) (left : Lit → Bool) : metF bs r day left ≤ bs.length := List.countP_le_length
theorem met_step {bs : List (Int × Int)} {r : Row} {day x c : Int} {left : Lit → Bool} (hnd : (bs.map (·.1)).Nodup) (hl : left (.int .i64 x) = true) (hb : brkDay bs x = some c) :
    metF bs r day (fun z => left z && !z.sameKey (.int .i64 x)) = metF bs r day left + if (hasF r x && decide (c ≤ day)) then 1 else 0 := by
  unfold metF
  induction bs with
  | nil => simp [brkDay] at hb
  | cons b bs ih =>
    rw [List.map_cons, List.nodup_cons] at hnd
    rw [List.countP_cons, List.countP_cons]
    have key : ∀ y : Int, (Lit.int .i64 y).sameKey (.int .i64 x) = decide (y = x) := fun y => by
      by_cases e : y = x <;> simp [Lit.sameKey, e]
    by_cases e : b.1 = x
    · have hc : b.2 = c := by
        unfold brkDay at hb
        simp [e] at hb
        exact hb
      have hno : ∀ b' ∈ bs, b'.1 ≠ x := fun b' hb' h => hnd.1 (List.mem_map.2 ⟨b', hb', by rw [h, e]⟩)
      have h1 : bs.countP (fun b => (hasF r b.1 && decide (b.2 ≤ day)) && !((left (.int .i64 b.1)) && !(Lit.int .i64 b.1).sameKey (.int .i64 x))) = bs.countP (fun b => (hasF r b.1 && decide (b.2 ≤ day)) && !left (.int .i64 b.1)) := by
        refine List.countP_congr fun b' hb' => ?_
        rw [key, show decide (b'.1 = x) = false from decide_eq_false (hno b' hb')]
        simp
      simp only [key] at h1 ⊢
      rw [h1]
      simp [e, hc, hl]
    · have hb2 : brkDay bs x = some c := by
        unfold brkDay at hb ⊢
        simpa [e] using hb
      have h1 := ih hnd.2 hb2
      simp only [key] at h1 ⊢
      rw [h1]
      simp [e]
      omega
section
variable {B : Nat} {cv rv pv bv : Value} {R M : Nat} {w : World} {G : Value} {ps : List Nat} {L : List (Row × (Int × Int))} {bs : List (Int × Int)}
set_option maxRecDepth 100000 in
set_option maxHeartbeats 1600000 in
theorem unbroken_any (p : Nat) (r : Row) (t : Int × Int) (day : Int) (h : RecAt B cv rv pv bv R M w G ps L bs) (hs : SeenAt w p r t) (g0 : 0 ≤ r.lo) (g1 : r.hi ≤ 1000000) (g2 : 0 ≤ r.hi) (g3 : r.lo ≤ 1000000) (hb : bs.length ≤ 24) (hnd : (bs.map (·.1)).Nodup) :
    Calls Try.prog 40 #[.pointer (some ⟨R, 0, none⟩), .pointer (some ⟨p, 0, none⟩), .int .i64 day] w fun e w' => e = .returned (.int .i64 (wholeF bs r day)) ∧ Below w.heap.size w w' := by
  obtain ⟨c0, c1, c2, c3, c4, c5⟩ := six_cells h.box
  obtain ⟨D, hown, hh1, hh2, hh3⟩ := h.map
  have k1 := size_any p r t w hs g0 g1 g2 g3
  have K1 := Lib.hid k1
  have HH1 := Lib.hid hh1
  have HH2 := Lib.hid hh2
  have HS := Lib.hid hs
  have sz : -1000000 ≤ sizeF r ∧ sizeF r ≤ 1000001 := by unfold sizeF; omega
  obtain ⟨sz0, sz1⟩ := sz
  obtain ⟨X, hX⟩ : ∃ X, wholeF bs r day = X := ⟨_, rfl⟩
  rw [hX]
  have HX := Lib.hid (show sizeF r - (goneF bs r day : Nat) = X by rw [← hX]; rfl)
  obtain ⟨sz, hsz⟩ : ∃ z, sizeF r = z := ⟨_, rfl⟩
  rw [hsz] at HX sz0 sz1 K1
  clear c0 c1 c2 c3 c4 k1 hh1 hh2 hh3 h hX hs hsz
  go_enter Try.func40, Try.ntmps40
  go_wp2_with (first
    | (go_at_call 42; (with_reducible refine K1.out.mono ?_); rintro e w2 ⟨rfl, q, rfl⟩)
    | (at_range; refine wpList_range_own _ rfl _ 83 rfl 3 3 key_law Try.underlying83 _ M _ _ rfl (show (w.drewN q).ownsMap _ _ _ _ _ _ from hown) ?_; intro w0 hrg0 hg0 hs0)
    | go_in)
  go_frame
  simp only [World.heap_drewN] at hrg0 hs0 ⊢
  have hbel0 : Below w.heap.size w w0 := (below_drewn (Below.refl _ _) q).grown hg0 (Nat.le_refl _) (fun k hk => by cases hk)
  have hst := met_start (r := r) (day := day) HH1.out
  have HB := Lib.hid hbel0
  have HR := Lib.hid hrg0
  have HST := Lib.hid hst
  clear hst hbel0 hrg0 hg0
  go_loopw [7] (fun u wr => ∃ (left : Lit → Bool) (cnt : Nat), u = .int .i64 (sz - (metF bs r day left : Nat)) ∧ wr.ranges Try.prog 3 (plainElem Try.prog 3) M w.heap.size bs.length D left cnt ∧ Below w.heap.size w wr)
    (fun _ wr => wr.rangeLeft M w.heap.size)
  case atStart => exact ⟨_, _, by rw [HST.out]; simp, HR.out, HB.out⟩
  case round =>
    obtain ⟨left, cnt, rfl, hrg, hgw⟩ := hrel
    have ml := met_le bs r day left
    obtain ⟨m, hm⟩ : ∃ m, metF bs r day left = m := ⟨_, rfl⟩
    rw [hm] at ml ⊢
    have HM := Lib.hid hm
    have HGW := Lib.hid hgw
    clear hm hgw
    go_wp2_with (first
      | (at_next; refine wpList_next_ranges_ii _ rfl _ rfl 3 3 .i64 .i64 key_law Try.underlying3 Try.underlying3 M w.heap.size bs.length _ _ _ rfl hrg ?_ ?_)
      | go_in)
    · intro _ hl0
      have hx := HX.out
      rw [← met_end (left := left) hl0, HM.out] at hx
      have HXX := Lib.hid hx
      clear hx hl0
      go_wp2
      go_ret
      exact ⟨by rw [← HXX.out]; rfl, HGW.out⟩
    · intro x c w1 cnt1 hwx hwc hlx hat hrg1 hlt hg1 hs1 hen
      have hbx : brkDay bs x = some c := by
        have hsome := HH1.out x
        have hhas : Maps.has D (.int .i64 x) = true := has_true_of_atKey hat
        rw [hhas] at hsome
        cases hq : brkDay bs x with
        | none => rw [hq] at hsome; simp at hsome
        | some d =>
          have h1 := HH2.out x d hq (.lit (.int .i64 0))
          rw [hat] at h1
          cases h1
          rfl
      have hms := met_step (r := r) (day := day) hnd hlx hbx
      rw [HM.out] at hms
      have hgw1 : Below w.heap.size w w1 := HGW.out.grown hg1 (HGW.out.size) (fun k hk => by cases hk; exact Nat.le_refl _)
      have k2 := has_any p r t x w1 (HS.out.below (B := 0) hgw1)
      have mez : (fun q => (w1.drewN q).rangeLeft M w.heap.size) = fun _ => cnt1 := by funext q; exact hrg1.left_eq
      have HML := Lib.hid (show cnt1 < cnt from hlt)
      have HL := Lib.hid hrg.left_eq
      have HG1 := Lib.hid hgw1
      have HRG1 := Lib.hid hrg1
      have HME := Lib.hid (show ∀ q, (w1.drewN q).rangeLeft M w.heap.size = cnt1 from fun q => hrg1.left_eq)
      cases hhas : hasF r x with
      | false =>
        rw [hhas] at k2 hms
        simp only [Bool.false_and] at hms
        have K2 := Lib.hid k2
        have HMS := Lib.hid hms
        clear k2 hms hhas mez hgw1 hrg1 hat hbx hlx hlt hrg hg1 HM
        go_wp2_with (go_at_call 47; (with_reducible refine K2.out.mono ?_); rintro e w2 ⟨rfl, q2, rfl⟩)
        go_roundw
        case rel => exact ⟨(fun z => left z && !z.sameKey (.int .i64 x)), cnt1, by rw [HMS.out]; simp, HRG1.out, below_drewn HG1.out _⟩
        case measure => rw [HME.out, HL.out]; exact HML.out
      | true =>
        rw [hhas] at k2 hms
        simp only [Bool.true_and] at hms
        have K2 := Lib.hid k2
        by_cases hcd : c ≤ day
        · rw [if_pos (by simpa using hcd)] at hms
          have HMS := Lib.hid hms
          clear k2 hms hhas mez hgw1 hrg1 hat hbx hlx hlt hrg hg1 HM
          go_wp2_with (go_at_call 47; (with_reducible refine K2.out.mono ?_); rintro e w2 ⟨rfl, q2, rfl⟩)
          go_roundw
          case rel => exact ⟨(fun z => left z && !z.sameKey (.int .i64 x)), cnt1, by rw [HMS.out]; simp; omega, HRG1.out, below_drewn HG1.out _⟩
          case measure => rw [HME.out, HL.out]; exact HML.out
        · rw [if_neg (by simpa using hcd)] at hms
          have HMS := Lib.hid hms
          clear k2 hms hhas mez hgw1 hrg1 hat hbx hlx hlt hrg hg1 HM
          go_wp2_with (go_at_call 47; (with_reducible refine K2.out.mono ?_); rintro e w2 ⟨rfl, q2, rfl⟩)
          go_roundw
          case rel => exact ⟨(fun z => left z && !z.sameKey (.int .i64 x)), cnt1, by rw [HMS.out]; simp, HRG1.out, below_drewn HG1.out _⟩
          case measure => rw [HME.out, HL.out]; exact HML.out
end
end Go.Proofs.Ytcmfplfnpjknlaa
