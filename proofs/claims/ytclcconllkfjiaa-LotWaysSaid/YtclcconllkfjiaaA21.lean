/- Contract: Proof at any lot; what a law's lot reads as. -/
import Derived.Test.YtclcconllkfjiaaA20
import Derived.Test.YtclcconllkfjiaaE1
import Derived.Deep.Slices
namespace Go.Proofs.Ytclcconllkfjiaa
set_option linter.unusedSimpArgs false
set_option linter.unusedVariables false
open Go.RowKit

/-- the rows of the proof, or none -/
def proofL (n g b m u : Int) : List (Int × Int × Int) := if isLotB n g b m u = true then proofRows n.toNat g b m u else []
def proofE (n g b m u : Int) : Int := if isLotB n g b m u = true then 0 else 1
set_option maxHeartbeats 800000 in
theorem proof_any (n g b m u : Int) (w : World) : Calls Try.prog 20 #[lotV n g b m u] w (RowsRes w (proofE n g b m u) (proofL n g b m u)) := by
  cases hv : isLotB n g b m u with
  | true =>
    obtain ⟨⟨n1, n2⟩, _⟩ := isLotB_spec hv
    have e : ((n.toNat : Nat) : Int) = n := by omega
    have := proof_ok n.toNat g b m u w (by rw [e]; exact hv)
    rw [e] at this
    unfold proofE proofL
    rw [if_pos hv, if_pos hv]
    exact this
  | false =>
    have hlo := fun W => isLot_any n g b m u W
    rw [hv] at hlo
    have HLO := Lib.hid hlo
    have HE := Lib.hid (show proofE n g b m u = 1 by unfold proofE; rw [if_neg (by rw [hv]; decide)])
    have HL := Lib.hid (show proofL n g b m u = [] by unfold proofL; rw [if_neg (by rw [hv]; decide)])
    clear hlo hv
    unfold lotV
    go_enter Try.func20, Try.ntmps20
    go_wp2_with fail
    refine (HLO.out _).mono ?_
    rintro e W1 ⟨rfl, hb1⟩
    go_wp2
    go_ret2
    exact ⟨.slice none 0 0, by rw [HE.out]; rfl, by rw [HL.out]; exact World.ownsRow_nil _ _ _ _, ((Below.refl _ _).alloc (Nat.le_refl _) _).trans (hb1.mono (by simp))⟩
section
open Go.ChangeShapes Go.WideShapes Go.ChangeAt
variable {H : Type} {enc : TypeId × Value → H} {W : World}
set_option maxRecDepth 100000 in
theorem one_field {cs : List Value} {f : Field} {k : Nat} {c : Value} (hk : cs[k]? = some c) (ho : f.offset = k) (hc : Try.prog.cellsOf f.type = 1) : (cs.drop f.offset).take (Try.prog.cellsOf f.type) = [c] := by
  rw [ho, hc]
  obtain ⟨hl, rfl⟩ := List.getElem?_eq_some_iff.1 hk
  rw [List.drop_eq_getElem_cons hl]; rfl
set_option maxRecDepth 100000 in
theorem five_at {T : TypeId} {fs : Array Field} (hT : Try.prog.underlying T = some (.struct fs)) (h5 : fs.size = 5) (hc5 : Try.prog.cellsOf T = 5) (hf : ∀ i, i < 5 → ∃ f, fs[i]? = some f ∧ f.type = 3 ∧ f.offset = i) {v : Value} {d : DataW H} {p : List MemPlace} (hok : Value.okWide Try.prog W .any 0 T v) (h : DataW.Trod enc Try.prog W 0 (fun _ => true) true T v d p) :
    ∃ (x0 x1 x2 x3 x4 : Int), v = .agg #[.int .i64 x0, .int .i64 x1, .int .i64 x2, .int .i64 x3, .int .i64 x4] := by
  obtain ⟨cs, rfl, hsz⟩ := okWide_struct hT hok
  have c3 : Try.prog.cellsOf 3 = 1 := by kernel_rfl
  obtain ⟨n, hn⟩ := h
  obtain ⟨xs, m, _, _, _, hxl, hg⟩ := DataW.trod_struct hT hn
  have hx : xs.length = 5 := by rw [hxl]; exact h5
  obtain ⟨l⟩ := cs
  have get : ∀ i a, i < 5 → l[i]? = some a → ∃ z : Int, a = .int .i64 z := fun i a hi ha => by
    obtain ⟨f, f1, f2, f3⟩ := hf i hi
    have g : DataW.trod enc Try.prog W 0 (fun _ => true) true m f.type ((l.drop f.offset).take (Try.prog.cellsOf f.type)) = xs[i]? := hg i f f1
    rw [one_field (c := a) ha f3 (by rw [f2]; exact c3), List.getElem?_eq_getElem (by omega), f2] at g
    obtain ⟨z, hz, _⟩ := DataW.trod_int Try.underlying3 g
    simp only [List.cons.injEq, and_true] at hz
    exact ⟨z, hz⟩
  match l, hsz.trans hc5, get with
  | [a0, a1, a2, a3, a4], _, get =>
    obtain ⟨x0, e0⟩ := get 0 a0 (by omega) rfl
    obtain ⟨x1, e1⟩ := get 1 a1 (by omega) rfl
    obtain ⟨x2, e2⟩ := get 2 a2 (by omega) rfl
    obtain ⟨x3, e3⟩ := get 3 a3 (by omega) rfl
    obtain ⟨x4, e4⟩ := get 4 a4 (by omega) rfl
    exact ⟨x0, x1, x2, x3, x4, by rw [e0, e1, e2, e3, e4]⟩
theorem lot_at {v : Value} {d : DataW H} {p : List MemPlace} (hok : Value.okWide Try.prog W .any 0 40 v) (h : DataW.Trod enc Try.prog W 0 (fun _ => true) true 40 v d p) : ∃ (x0 x1 x2 x3 x4 : Int), v = lotV x0 x1 x2 x3 x4 :=
  five_at Try.underlying40 rfl (by kernel_rfl) (fun i hi => by
    match i, hi with
    | 0, _ => exact ⟨_, rfl, rfl, rfl⟩
    | 1, _ => exact ⟨_, rfl, rfl, rfl⟩
    | 2, _ => exact ⟨_, rfl, rfl, rfl⟩
    | 3, _ => exact ⟨_, rfl, rfl, rfl⟩
    | 4, _ => exact ⟨_, rfl, rfl, rfl⟩) hok h
theorem double_at {v : Value} {d : DataW H} {p : List MemPlace} (hok : Value.okWide Try.prog W .any 0 25 v) (h : DataW.Trod enc Try.prog W 0 (fun _ => true) true 25 v d p) : ∃ (x0 x1 x2 x3 x4 : Int), v = doubleV x0 x1 x2 x3 x4 :=
  five_at Try.underlying25 rfl (by kernel_rfl) (fun i hi => by
    match i, hi with
    | 0, _ => exact ⟨_, rfl, rfl, rfl⟩
    | 1, _ => exact ⟨_, rfl, rfl, rfl⟩
    | 2, _ => exact ⟨_, rfl, rfl, rfl⟩
    | 3, _ => exact ⟨_, rfl, rfl, rfl⟩
    | 4, _ => exact ⟨_, rfl, rfl, rfl⟩) hok h
end
end Go.Proofs.Ytclcconllkfjiaa
