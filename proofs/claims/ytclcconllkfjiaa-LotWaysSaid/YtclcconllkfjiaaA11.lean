/- Contracts: isPlan, isLot, isDouble, and the document's own Plan and Two. -/
import Derived.Test.YtclcconllkfjiaaA5
namespace Go.Proofs.Ytclcconllkfjiaa
set_option linter.unusedSimpArgs false
set_option linter.unusedVariables false
open Go.RowKit

def isPlanB (c a n : Int) : Bool := inB c 0 n && inB a 0 c
def isLotB (n g b m u : Int) : Bool := inB n 1 50 && inB b 0 n && inB g 0 (b - 1) && inB m 0 1000 && inB u 0 1000
def isDoubleB (fi ac re se tot n : Int) : Bool := inB n 1 30 && inB fi 0 n && inB se 0 (n - fi) && inB ac 0 fi && inB re (ac + 1) (fi + 1) && inB tot ac (fi + se)
set_option maxHeartbeats 1600000 in
theorem isPlan_any (c a n : Int) (w : World) : Calls Try.prog 23 #[planV c a, .int .i64 n] w fun e w' => e = .returned (.bool (isPlanB c a n)) ∧ Below w.heap.size w w' := by
  have hr : isPlanB c a n = (inB c 0 n && inB a 0 c) := rfl
  have h0 := fun W => isFrom_any c 0 n W
  obtain ⟨z0, y0⟩ : ∃ z, inB c 0 n = z := ⟨_, rfl⟩
  rw [y0] at h0 hr
  have h1 := fun W => isFrom_any a 0 c W
  obtain ⟨z1, y1⟩ : ∃ z, inB a 0 c = z := ⟨_, rfl⟩
  rw [y1] at h1 hr
  have HR := Lib.hid hr
  have H0 := Lib.hid h0
  have Y0 := Lib.hid y0
  have H1 := Lib.hid h1
  have Y1 := Lib.hid y1
  clear hr h0 y0 h1 y1
  unfold planV
  cases z0 with
  | false =>
    go_enter Try.func23, Try.ntmps23
    go_wp2_with fail
    refine (H0.out _).mono ?_
    rintro e w1 ⟨rfl, rfl⟩
    go_wp2
    go_ret
    exact ⟨by rw [HR.out]; rfl, (Below.refl _ _).alloc (Nat.le_refl _) _⟩
  | true =>
    obtain ⟨q0, r0⟩ := inB_iff.1 Y0.out
    cases z1 with
    | false =>
      go_enter Try.func23, Try.ntmps23
      go_wp2_with fail
      refine (H0.out _).mono ?_
      rintro e w1 ⟨rfl, rfl⟩
      go_wp2_with fail
      refine (H1.out _).mono ?_
      rintro e w1 ⟨rfl, rfl⟩
      go_wp2
      go_ret
      exact ⟨by rw [HR.out]; rfl, (Below.refl _ _).alloc (Nat.le_refl _) _⟩
    | true =>
      obtain ⟨q1, r1⟩ := inB_iff.1 Y1.out
      go_enter Try.func23, Try.ntmps23
      go_wp2_with fail
      refine (H0.out _).mono ?_
      rintro e w1 ⟨rfl, rfl⟩
      go_wp2_with fail
      refine (H1.out _).mono ?_
      rintro e w1 ⟨rfl, rfl⟩
      go_wp2
      go_ret
      exact ⟨by rw [HR.out]; rfl, (Below.refl _ _).alloc (Nat.le_refl _) _⟩
set_option maxHeartbeats 1600000 in
theorem refPlan_any (c a n : Int) (w : World) : Calls Try.prog 18 #[.int .i64 n, planV c a] w fun e w' => e = .returned (.bool (isPlanB c a n)) ∧ Below w.heap.size w w' := by
  have hr : isPlanB c a n = (inB c 0 n && inB a 0 c) := rfl
  have h0 := fun W => in_any c 0 n W
  obtain ⟨z0, y0⟩ : ∃ z, inB c 0 n = z := ⟨_, rfl⟩
  rw [y0] at h0 hr
  have h1 := fun W => in_any a 0 c W
  obtain ⟨z1, y1⟩ : ∃ z, inB a 0 c = z := ⟨_, rfl⟩
  rw [y1] at h1 hr
  have HR := Lib.hid hr
  have H0 := Lib.hid h0
  have Y0 := Lib.hid y0
  have H1 := Lib.hid h1
  have Y1 := Lib.hid y1
  clear hr h0 y0 h1 y1
  unfold planV
  cases z0 with
  | false =>
    go_enter Try.func18, Try.ntmps18
    go_wp2_with fail
    refine (H0.out _).mono ?_
    rintro e w1 ⟨rfl, rfl⟩
    go_wp2
    go_ret
    exact ⟨by rw [HR.out]; rfl, (Below.refl _ _).alloc (Nat.le_refl _) _⟩
  | true =>
    obtain ⟨q0, r0⟩ := inB_iff.1 Y0.out
    cases z1 with
    | false =>
      go_enter Try.func18, Try.ntmps18
      go_wp2_with fail
      refine (H0.out _).mono ?_
      rintro e w1 ⟨rfl, rfl⟩
      go_wp2_with fail
      refine (H1.out _).mono ?_
      rintro e w1 ⟨rfl, rfl⟩
      go_wp2
      go_ret
      exact ⟨by rw [HR.out]; rfl, (Below.refl _ _).alloc (Nat.le_refl _) _⟩
    | true =>
      obtain ⟨q1, r1⟩ := inB_iff.1 Y1.out
      go_enter Try.func18, Try.ntmps18
      go_wp2_with fail
      refine (H0.out _).mono ?_
      rintro e w1 ⟨rfl, rfl⟩
      go_wp2_with fail
      refine (H1.out _).mono ?_
      rintro e w1 ⟨rfl, rfl⟩
      go_wp2
      go_ret
      exact ⟨by rw [HR.out]; rfl, (Below.refl _ _).alloc (Nat.le_refl _) _⟩
set_option maxHeartbeats 1600000 in
theorem isLot_any (n g b m u : Int) (w : World) : Calls Try.prog 40 #[.agg #[.int .i64 n, .int .i64 g, .int .i64 b, .int .i64 m, .int .i64 u]] w fun e w' => e = .returned (.bool (isLotB n g b m u)) ∧ Below w.heap.size w w' := by
  have hr : isLotB n g b m u = (inB n 1 50 && inB b 0 n && inB g 0 (b - 1) && inB m 0 1000 && inB u 0 1000) := rfl
  have h0 := fun W => isFrom_any n 1 50 W
  obtain ⟨z0, y0⟩ : ∃ z, inB n 1 50 = z := ⟨_, rfl⟩
  rw [y0] at h0 hr
  have h1 := fun W => isFrom_any b 0 n W
  obtain ⟨z1, y1⟩ : ∃ z, inB b 0 n = z := ⟨_, rfl⟩
  rw [y1] at h1 hr
  have h2 := fun W => isFrom_any g 0 (b - 1) W
  obtain ⟨z2, y2⟩ : ∃ z, inB g 0 (b - 1) = z := ⟨_, rfl⟩
  rw [y2] at h2 hr
  have h3 := fun W => isFrom_any m 0 1000 W
  obtain ⟨z3, y3⟩ : ∃ z, inB m 0 1000 = z := ⟨_, rfl⟩
  rw [y3] at h3 hr
  have h4 := fun W => isFrom_any u 0 1000 W
  obtain ⟨z4, y4⟩ : ∃ z, inB u 0 1000 = z := ⟨_, rfl⟩
  rw [y4] at h4 hr
  have HR := Lib.hid hr
  have H0 := Lib.hid h0
  have Y0 := Lib.hid y0
  have H1 := Lib.hid h1
  have Y1 := Lib.hid y1
  have H2 := Lib.hid h2
  have Y2 := Lib.hid y2
  have H3 := Lib.hid h3
  have Y3 := Lib.hid y3
  have H4 := Lib.hid h4
  have Y4 := Lib.hid y4
  clear hr h0 y0 h1 y1 h2 y2 h3 y3 h4 y4
  cases z0 with
  | false =>
    go_enter Try.func40, Try.ntmps40
    go_wp2_with fail
    refine (H0.out _).mono ?_
    rintro e w1 ⟨rfl, rfl⟩
    go_wp2
    go_ret
    exact ⟨by rw [HR.out]; rfl, (Below.refl _ _).alloc (Nat.le_refl _) _⟩
  | true =>
    obtain ⟨q0, r0⟩ := inB_iff.1 Y0.out
    cases z1 with
    | false =>
      go_enter Try.func40, Try.ntmps40
      go_wp2_with fail
      refine (H0.out _).mono ?_
      rintro e w1 ⟨rfl, rfl⟩
      go_wp2_with fail
      refine (H1.out _).mono ?_
      rintro e w1 ⟨rfl, rfl⟩
      go_wp2
      go_ret
      exact ⟨by rw [HR.out]; rfl, (Below.refl _ _).alloc (Nat.le_refl _) _⟩
    | true =>
      obtain ⟨q1, r1⟩ := inB_iff.1 Y1.out
      cases z2 with
      | false =>
        go_enter Try.func40, Try.ntmps40
        go_wp2_with fail
        refine (H0.out _).mono ?_
        rintro e w1 ⟨rfl, rfl⟩
        go_wp2_with fail
        refine (H1.out _).mono ?_
        rintro e w1 ⟨rfl, rfl⟩
        go_wp2_with fail
        refine (H2.out _).mono ?_
        rintro e w1 ⟨rfl, rfl⟩
        go_wp2
        go_ret
        exact ⟨by rw [HR.out]; rfl, (Below.refl _ _).alloc (Nat.le_refl _) _⟩
      | true =>
        obtain ⟨q2, r2⟩ := inB_iff.1 Y2.out
        cases z3 with
        | false =>
          go_enter Try.func40, Try.ntmps40
          go_wp2_with fail
          refine (H0.out _).mono ?_
          rintro e w1 ⟨rfl, rfl⟩
          go_wp2_with fail
          refine (H1.out _).mono ?_
          rintro e w1 ⟨rfl, rfl⟩
          go_wp2_with fail
          refine (H2.out _).mono ?_
          rintro e w1 ⟨rfl, rfl⟩
          go_wp2_with fail
          refine (H3.out _).mono ?_
          rintro e w1 ⟨rfl, rfl⟩
          go_wp2
          go_ret
          exact ⟨by rw [HR.out]; rfl, (Below.refl _ _).alloc (Nat.le_refl _) _⟩
        | true =>
          obtain ⟨q3, r3⟩ := inB_iff.1 Y3.out
          cases z4 with
          | false =>
            go_enter Try.func40, Try.ntmps40
            go_wp2_with fail
            refine (H0.out _).mono ?_
            rintro e w1 ⟨rfl, rfl⟩
            go_wp2_with fail
            refine (H1.out _).mono ?_
            rintro e w1 ⟨rfl, rfl⟩
            go_wp2_with fail
            refine (H2.out _).mono ?_
            rintro e w1 ⟨rfl, rfl⟩
            go_wp2_with fail
            refine (H3.out _).mono ?_
            rintro e w1 ⟨rfl, rfl⟩
            go_wp2_with fail
            refine (H4.out _).mono ?_
            rintro e w1 ⟨rfl, rfl⟩
            go_wp2
            go_ret
            exact ⟨by rw [HR.out]; rfl, (Below.refl _ _).alloc (Nat.le_refl _) _⟩
          | true =>
            obtain ⟨q4, r4⟩ := inB_iff.1 Y4.out
            go_enter Try.func40, Try.ntmps40
            go_wp2_with fail
            refine (H0.out _).mono ?_
            rintro e w1 ⟨rfl, rfl⟩
            go_wp2_with fail
            refine (H1.out _).mono ?_
            rintro e w1 ⟨rfl, rfl⟩
            go_wp2_with fail
            refine (H2.out _).mono ?_
            rintro e w1 ⟨rfl, rfl⟩
            go_wp2_with fail
            refine (H3.out _).mono ?_
            rintro e w1 ⟨rfl, rfl⟩
            go_wp2_with fail
            refine (H4.out _).mono ?_
            rintro e w1 ⟨rfl, rfl⟩
            go_wp2
            go_ret
            exact ⟨by rw [HR.out]; rfl, (Below.refl _ _).alloc (Nat.le_refl _) _⟩
set_option maxHeartbeats 1600000 in
theorem isDouble_any (fi ac re se tot n : Int) (w : World) : Calls Try.prog 30 #[doubleV fi ac re se tot, .int .i64 n] w fun e w' => e = .returned (.bool (isDoubleB fi ac re se tot n)) ∧ Below w.heap.size w w' := by
  have hr : isDoubleB fi ac re se tot n = (inB n 1 30 && inB fi 0 n && inB se 0 (n - fi) && inB ac 0 fi && inB re (ac + 1) (fi + 1) && inB tot ac (fi + se)) := rfl
  have h0 := fun W => isFrom_any n 1 30 W
  obtain ⟨z0, y0⟩ : ∃ z, inB n 1 30 = z := ⟨_, rfl⟩
  rw [y0] at h0 hr
  have h1 := fun W => isFrom_any fi 0 n W
  obtain ⟨z1, y1⟩ : ∃ z, inB fi 0 n = z := ⟨_, rfl⟩
  rw [y1] at h1 hr
  have h2 := fun W => isFrom_any se 0 (n - fi) W
  obtain ⟨z2, y2⟩ : ∃ z, inB se 0 (n - fi) = z := ⟨_, rfl⟩
  rw [y2] at h2 hr
  have h3 := fun W => isFrom_any ac 0 fi W
  obtain ⟨z3, y3⟩ : ∃ z, inB ac 0 fi = z := ⟨_, rfl⟩
  rw [y3] at h3 hr
  have h4 := fun W => isFrom_any re (ac + 1) (fi + 1) W
  obtain ⟨z4, y4⟩ : ∃ z, inB re (ac + 1) (fi + 1) = z := ⟨_, rfl⟩
  rw [y4] at h4 hr
  have h5 := fun W => isFrom_any tot ac (fi + se) W
  obtain ⟨z5, y5⟩ : ∃ z, inB tot ac (fi + se) = z := ⟨_, rfl⟩
  rw [y5] at h5 hr
  have HR := Lib.hid hr
  have H0 := Lib.hid h0
  have Y0 := Lib.hid y0
  have H1 := Lib.hid h1
  have Y1 := Lib.hid y1
  have H2 := Lib.hid h2
  have Y2 := Lib.hid y2
  have H3 := Lib.hid h3
  have Y3 := Lib.hid y3
  have H4 := Lib.hid h4
  have Y4 := Lib.hid y4
  have H5 := Lib.hid h5
  have Y5 := Lib.hid y5
  clear hr h0 y0 h1 y1 h2 y2 h3 y3 h4 y4 h5 y5
  unfold doubleV
  cases z0 with
  | false =>
    go_enter Try.func30, Try.ntmps30
    go_wp2_with fail
    refine (H0.out _).mono ?_
    rintro e w1 ⟨rfl, rfl⟩
    go_wp2
    go_ret
    exact ⟨by rw [HR.out]; rfl, (Below.refl _ _).alloc (Nat.le_refl _) _⟩
  | true =>
    obtain ⟨q0, r0⟩ := inB_iff.1 Y0.out
    cases z1 with
    | false =>
      go_enter Try.func30, Try.ntmps30
      go_wp2_with fail
      refine (H0.out _).mono ?_
      rintro e w1 ⟨rfl, rfl⟩
      go_wp2_with fail
      refine (H1.out _).mono ?_
      rintro e w1 ⟨rfl, rfl⟩
      go_wp2
      go_ret
      exact ⟨by rw [HR.out]; rfl, (Below.refl _ _).alloc (Nat.le_refl _) _⟩
    | true =>
      obtain ⟨q1, r1⟩ := inB_iff.1 Y1.out
      cases z2 with
      | false =>
        go_enter Try.func30, Try.ntmps30
        go_wp2_with fail
        refine (H0.out _).mono ?_
        rintro e w1 ⟨rfl, rfl⟩
        go_wp2_with fail
        refine (H1.out _).mono ?_
        rintro e w1 ⟨rfl, rfl⟩
        go_wp2_with fail
        refine (H2.out _).mono ?_
        rintro e w1 ⟨rfl, rfl⟩
        go_wp2
        go_ret
        exact ⟨by rw [HR.out]; rfl, (Below.refl _ _).alloc (Nat.le_refl _) _⟩
      | true =>
        obtain ⟨q2, r2⟩ := inB_iff.1 Y2.out
        cases z3 with
        | false =>
          go_enter Try.func30, Try.ntmps30
          go_wp2_with fail
          refine (H0.out _).mono ?_
          rintro e w1 ⟨rfl, rfl⟩
          go_wp2_with fail
          refine (H1.out _).mono ?_
          rintro e w1 ⟨rfl, rfl⟩
          go_wp2_with fail
          refine (H2.out _).mono ?_
          rintro e w1 ⟨rfl, rfl⟩
          go_wp2_with fail
          refine (H3.out _).mono ?_
          rintro e w1 ⟨rfl, rfl⟩
          go_wp2
          go_ret
          exact ⟨by rw [HR.out]; rfl, (Below.refl _ _).alloc (Nat.le_refl _) _⟩
        | true =>
          obtain ⟨q3, r3⟩ := inB_iff.1 Y3.out
          cases z4 with
          | false =>
            go_enter Try.func30, Try.ntmps30
            go_wp2_with fail
            refine (H0.out _).mono ?_
            rintro e w1 ⟨rfl, rfl⟩
            go_wp2_with fail
            refine (H1.out _).mono ?_
            rintro e w1 ⟨rfl, rfl⟩
            go_wp2_with fail
            refine (H2.out _).mono ?_
            rintro e w1 ⟨rfl, rfl⟩
            go_wp2_with fail
            refine (H3.out _).mono ?_
            rintro e w1 ⟨rfl, rfl⟩
            go_wp2_with fail
            refine (H4.out _).mono ?_
            rintro e w1 ⟨rfl, rfl⟩
            go_wp2
            go_ret
            exact ⟨by rw [HR.out]; rfl, (Below.refl _ _).alloc (Nat.le_refl _) _⟩
          | true =>
            obtain ⟨q4, r4⟩ := inB_iff.1 Y4.out
            cases z5 with
            | false =>
              go_enter Try.func30, Try.ntmps30
              go_wp2_with fail
              refine (H0.out _).mono ?_
              rintro e w1 ⟨rfl, rfl⟩
              go_wp2_with fail
              refine (H1.out _).mono ?_
              rintro e w1 ⟨rfl, rfl⟩
              go_wp2_with fail
              refine (H2.out _).mono ?_
              rintro e w1 ⟨rfl, rfl⟩
              go_wp2_with fail
              refine (H3.out _).mono ?_
              rintro e w1 ⟨rfl, rfl⟩
              go_wp2_with fail
              refine (H4.out _).mono ?_
              rintro e w1 ⟨rfl, rfl⟩
              go_wp2_with fail
              refine (H5.out _).mono ?_
              rintro e w1 ⟨rfl, rfl⟩
              go_wp2
              go_ret
              exact ⟨by rw [HR.out]; rfl, (Below.refl _ _).alloc (Nat.le_refl _) _⟩
            | true =>
              obtain ⟨q5, r5⟩ := inB_iff.1 Y5.out
              go_enter Try.func30, Try.ntmps30
              go_wp2_with fail
              refine (H0.out _).mono ?_
              rintro e w1 ⟨rfl, rfl⟩
              go_wp2_with fail
              refine (H1.out _).mono ?_
              rintro e w1 ⟨rfl, rfl⟩
              go_wp2_with fail
              refine (H2.out _).mono ?_
              rintro e w1 ⟨rfl, rfl⟩
              go_wp2_with fail
              refine (H3.out _).mono ?_
              rintro e w1 ⟨rfl, rfl⟩
              go_wp2_with fail
              refine (H4.out _).mono ?_
              rintro e w1 ⟨rfl, rfl⟩
              go_wp2_with fail
              refine (H5.out _).mono ?_
              rintro e w1 ⟨rfl, rfl⟩
              go_wp2
              go_ret
              exact ⟨by rw [HR.out]; rfl, (Below.refl _ _).alloc (Nat.le_refl _) _⟩
set_option maxHeartbeats 1600000 in
theorem refTwo_any (fi ac re se tot n : Int) (w : World) : Calls Try.prog 19 #[.int .i64 n, doubleV fi ac re se tot] w fun e w' => e = .returned (.bool (isDoubleB fi ac re se tot n)) ∧ Below w.heap.size w w' := by
  have hr : isDoubleB fi ac re se tot n = (inB n 1 30 && inB fi 0 n && inB se 0 (n - fi) && inB ac 0 fi && inB re (ac + 1) (fi + 1) && inB tot ac (fi + se)) := rfl
  have h0 := fun W => in_any n 1 30 W
  obtain ⟨z0, y0⟩ : ∃ z, inB n 1 30 = z := ⟨_, rfl⟩
  rw [y0] at h0 hr
  have h1 := fun W => in_any fi 0 n W
  obtain ⟨z1, y1⟩ : ∃ z, inB fi 0 n = z := ⟨_, rfl⟩
  rw [y1] at h1 hr
  have h2 := fun W => in_any se 0 (n - fi) W
  obtain ⟨z2, y2⟩ : ∃ z, inB se 0 (n - fi) = z := ⟨_, rfl⟩
  rw [y2] at h2 hr
  have h3 := fun W => in_any ac 0 fi W
  obtain ⟨z3, y3⟩ : ∃ z, inB ac 0 fi = z := ⟨_, rfl⟩
  rw [y3] at h3 hr
  have h4 := fun W => in_any re (ac + 1) (fi + 1) W
  obtain ⟨z4, y4⟩ : ∃ z, inB re (ac + 1) (fi + 1) = z := ⟨_, rfl⟩
  rw [y4] at h4 hr
  have h5 := fun W => in_any tot ac (fi + se) W
  obtain ⟨z5, y5⟩ : ∃ z, inB tot ac (fi + se) = z := ⟨_, rfl⟩
  rw [y5] at h5 hr
  have HR := Lib.hid hr
  have H0 := Lib.hid h0
  have Y0 := Lib.hid y0
  have H1 := Lib.hid h1
  have Y1 := Lib.hid y1
  have H2 := Lib.hid h2
  have Y2 := Lib.hid y2
  have H3 := Lib.hid h3
  have Y3 := Lib.hid y3
  have H4 := Lib.hid h4
  have Y4 := Lib.hid y4
  have H5 := Lib.hid h5
  have Y5 := Lib.hid y5
  clear hr h0 y0 h1 y1 h2 y2 h3 y3 h4 y4 h5 y5
  unfold doubleV
  cases z0 with
  | false =>
    go_enter Try.func19, Try.ntmps19
    go_wp2_with fail
    refine (H0.out _).mono ?_
    rintro e w1 ⟨rfl, rfl⟩
    go_wp2
    go_ret
    exact ⟨by rw [HR.out]; rfl, (Below.refl _ _).alloc (Nat.le_refl _) _⟩
  | true =>
    obtain ⟨q0, r0⟩ := inB_iff.1 Y0.out
    cases z1 with
    | false =>
      go_enter Try.func19, Try.ntmps19
      go_wp2_with fail
      refine (H0.out _).mono ?_
      rintro e w1 ⟨rfl, rfl⟩
      go_wp2_with fail
      refine (H1.out _).mono ?_
      rintro e w1 ⟨rfl, rfl⟩
      go_wp2
      go_ret
      exact ⟨by rw [HR.out]; rfl, (Below.refl _ _).alloc (Nat.le_refl _) _⟩
    | true =>
      obtain ⟨q1, r1⟩ := inB_iff.1 Y1.out
      cases z2 with
      | false =>
        go_enter Try.func19, Try.ntmps19
        go_wp2_with fail
        refine (H0.out _).mono ?_
        rintro e w1 ⟨rfl, rfl⟩
        go_wp2_with fail
        refine (H1.out _).mono ?_
        rintro e w1 ⟨rfl, rfl⟩
        go_wp2_with fail
        refine (H2.out _).mono ?_
        rintro e w1 ⟨rfl, rfl⟩
        go_wp2
        go_ret
        exact ⟨by rw [HR.out]; rfl, (Below.refl _ _).alloc (Nat.le_refl _) _⟩
      | true =>
        obtain ⟨q2, r2⟩ := inB_iff.1 Y2.out
        cases z3 with
        | false =>
          go_enter Try.func19, Try.ntmps19
          go_wp2_with fail
          refine (H0.out _).mono ?_
          rintro e w1 ⟨rfl, rfl⟩
          go_wp2_with fail
          refine (H1.out _).mono ?_
          rintro e w1 ⟨rfl, rfl⟩
          go_wp2_with fail
          refine (H2.out _).mono ?_
          rintro e w1 ⟨rfl, rfl⟩
          go_wp2_with fail
          refine (H3.out _).mono ?_
          rintro e w1 ⟨rfl, rfl⟩
          go_wp2
          go_ret
          exact ⟨by rw [HR.out]; rfl, (Below.refl _ _).alloc (Nat.le_refl _) _⟩
        | true =>
          obtain ⟨q3, r3⟩ := inB_iff.1 Y3.out
          cases z4 with
          | false =>
            go_enter Try.func19, Try.ntmps19
            go_wp2_with fail
            refine (H0.out _).mono ?_
            rintro e w1 ⟨rfl, rfl⟩
            go_wp2_with fail
            refine (H1.out _).mono ?_
            rintro e w1 ⟨rfl, rfl⟩
            go_wp2_with fail
            refine (H2.out _).mono ?_
            rintro e w1 ⟨rfl, rfl⟩
            go_wp2_with fail
            refine (H3.out _).mono ?_
            rintro e w1 ⟨rfl, rfl⟩
            go_wp2_with fail
            refine (H4.out _).mono ?_
            rintro e w1 ⟨rfl, rfl⟩
            go_wp2
            go_ret
            exact ⟨by rw [HR.out]; rfl, (Below.refl _ _).alloc (Nat.le_refl _) _⟩
          | true =>
            obtain ⟨q4, r4⟩ := inB_iff.1 Y4.out
            cases z5 with
            | false =>
              go_enter Try.func19, Try.ntmps19
              go_wp2_with fail
              refine (H0.out _).mono ?_
              rintro e w1 ⟨rfl, rfl⟩
              go_wp2_with fail
              refine (H1.out _).mono ?_
              rintro e w1 ⟨rfl, rfl⟩
              go_wp2_with fail
              refine (H2.out _).mono ?_
              rintro e w1 ⟨rfl, rfl⟩
              go_wp2_with fail
              refine (H3.out _).mono ?_
              rintro e w1 ⟨rfl, rfl⟩
              go_wp2_with fail
              refine (H4.out _).mono ?_
              rintro e w1 ⟨rfl, rfl⟩
              go_wp2_with fail
              refine (H5.out _).mono ?_
              rintro e w1 ⟨rfl, rfl⟩
              go_wp2
              go_ret
              exact ⟨by rw [HR.out]; rfl, (Below.refl _ _).alloc (Nat.le_refl _) _⟩
            | true =>
              obtain ⟨q5, r5⟩ := inB_iff.1 Y5.out
              go_enter Try.func19, Try.ntmps19
              go_wp2_with fail
              refine (H0.out _).mono ?_
              rintro e w1 ⟨rfl, rfl⟩
              go_wp2_with fail
              refine (H1.out _).mono ?_
              rintro e w1 ⟨rfl, rfl⟩
              go_wp2_with fail
              refine (H2.out _).mono ?_
              rintro e w1 ⟨rfl, rfl⟩
              go_wp2_with fail
              refine (H3.out _).mono ?_
              rintro e w1 ⟨rfl, rfl⟩
              go_wp2_with fail
              refine (H4.out _).mono ?_
              rintro e w1 ⟨rfl, rfl⟩
              go_wp2_with fail
              refine (H5.out _).mono ?_
              rintro e w1 ⟨rfl, rfl⟩
              go_wp2
              go_ret
              exact ⟨by rw [HR.out]; rfl, (Below.refl _ _).alloc (Nat.le_refl _) _⟩
end Go.Proofs.Ytclcconllkfjiaa
