/- spare, idlerFor, turnsSame, and the checks of arguments. -/
import Derived.Test.YtoiapnokgpeipaaA2
namespace Go.Proofs.Ytoiapnokgpeipaa
open Go.RowKit Go.Maps Go.Sort

def spareI (S : List (Int × Int)) (f : Int → Int) : Int := ((S.find? (fun x => decide (f x.1 < x.2))).map (·.1)).getD 0
theorem spareI_hit {S : List (Int × Int)} {f : Int → Int} {k : Nat} (hk : k < S.length) (hno : (S.take k).find? (fun x => decide (f x.1 < x.2)) = none) (he : f S[k].1 < S[k].2) : spareI S f = S[k].1 := by
  unfold spareI; rw [find_hit hk hno (by simpa using he)]; rfl

theorem cell_al {w : World} {a : Addr} {v : Value} (h : w.cell? a = some v) (o : Obj) : (w.alloc o).cell? a = some v := (World.grownBy_alloc w o none).cell h (by simp)
set_option maxRecDepth 100000 in
set_option maxHeartbeats 800000 in
theorem spare_any (S : List (Int × Int)) (st : Value) (m : Nat) (f : Int → Int) (w : World) (hS : WheelsAt w st S) (hm : TakenIs w m f) (ht : ∀ x ∈ S, 6 ≤ x.1 ∧ x.1 ≤ 100) :
    Calls Try.prog 72 #[.agg #[st, .map (some m)]] w fun e w' => e = .returned (.int .i64 (spareI S f)) ∧ Below w.heap.size w w' := by
  have hml := hm.lt
  obtain ⟨hq, ⟨rfl, a, cap, rfl⟩ | ⟨b, off, cap, rfl, hlc, hcm, hb, hc⟩⟩ := hS
  · clear hq
    go_enter Try.func72, Try.ntmps72
    go_wp2
    go_loop [4, 8] (fun _ i => i = .int .i64 0) (fun _ _ => 0)
    case atStart => rfl
    case round =>
      subst hrel
      go_wp2
      go_ret
      exact ⟨rfl, (Below.refl _ _).alloc (Nat.le_refl _) _⟩
  · replace hcm : cap ≤ 9223372036854775807 := hcm
    clear hq
    have hSl : S.length ≤ 9223372036854775807 := by omega
    obtain ⟨W0, hW0⟩ : ∃ W0, W0 = w.alloc (.cells #[.slice (some ⟨b, off, none⟩) S.length cap, .map (some m)] 69) := ⟨_, rfl⟩
    have hg0 : Below w.heap.size w W0 := by rw [hW0]; exact (Below.refl _ _).alloc (Nat.le_refl _) _
    have hbx : W0.cell? ⟨w.heap.size, 1, none⟩ = some (.map (some m)) := by rw [hW0]; go_simp
    have hsz : w.heap.size < W0.heap.size := by rw [hW0]; simp
    go_enter Try.func72, Try.ntmps72
    go_wp2
    rw [← hW0]
    clear hW0
    go_loopw [4, 8] (fun _ i wr => ∃ k : Nat, k ≤ S.length ∧ i = .int .i64 k ∧ Below W0.heap.size W0 wr ∧ (S.take k).find? (fun x => decide (f x.1 < x.2)) = none) (fun _ i _ => S.length - (intOf i).toNat)
    case atStart => exact ⟨0, by omega, rfl, Below.refl _ _, rfl⟩
    case round =>
      obtain ⟨k, hk, rfl, hbel, hno⟩ := hrel
      have hbx' : wr.cell? ⟨w.heap.size, 1, none⟩ = some (.map (some m)) := (hbel.cell (p := ⟨_, _, none⟩) hsz).trans hbx
      have hb2 : Below w.heap.size w wr := hg0.trans (hbel.mono (by omega))
      by_cases hlt : k < S.length
      · obtain ⟨c0, c1⟩ := hc k hlt
        rw [← hb2.cell (p := ⟨b, _, none⟩) hb] at c0 c1
        obtain ⟨x, hx⟩ : ∃ x, x = S[k].1 := ⟨_, rfl⟩
        obtain ⟨y, hy⟩ : ∃ y, y = S[k].2 := ⟨_, rfl⟩
        have hgd : S.getD k (0, 0) = S[k] := by simp [hlt]
        rw [hgd, ← hx] at c0
        rw [hgd, ← hy] at c1
        have htt := ht S[k] (List.getElem_mem hlt)
        rw [← hx] at htt
        have htk : TakenIs wr m f := hm.below hb2 hml
        have hbx2 := cell_al hbx' (.cells #[.int .i64 x, .int .i64 y] 58)
        have hlook := (htk.alloc (.cells #[.int .i64 x, .int .i64 y] 58)).look htt.1 htt.2
        obtain ⟨z, hz⟩ : ∃ z, z = f x := ⟨_, rfl⟩
        rw [← hz] at hlook
        have hs := hbel.size
        by_cases he : z < y
        · have H := Lib.hid (spareI_hit hlt hno (by rw [← hx, ← hy, ← hz]; exact he))
          have Hx := Lib.hid hx
          clear hx hy hz hgd ht hc hno htt htk hbx
          go_wp2
          go_ret
          exact ⟨ret_int (by rw [H.out, Hx.out]), hb2.alloc (by omega) _⟩
        · have H := Lib.hid (find_miss hlt hno (by simpa [← hx, ← hy, ← hz] using he))
          clear hx hy hz hgd ht hc hno htt htk hbx
          go_wp2
          go_roundw
          case rel => exact ⟨k + 1, by omega, by go_num, hbel.alloc hbel.size _, H.out⟩
          case measure => simp [intOf]; omega
      · go_wp2
        go_ret
        rw [List.take_of_length_le (by omega)] at hno
        exact ⟨ret_int (by simp [spareI, hno]), hb2⟩

/-- does the drum turn the same way? (by the number of pairs and the idler) -/
def turnsB (p i : Int) : Bool := (p + if i = 0 then 0 else 1).tmod 2 == 0
theorem turnsSame_any (p i : Int) (w : World) (h0 : 0 ≤ p) (h1 : p ≤ 1000000) :
    Calls Try.prog 39 #[.int .i64 p, .int .i64 i] w fun e w' => e = .returned (.bool (turnsB p i)) ∧ w = w' := by
  by_cases h : i = 0
  · have e : turnsB p i = (p % 2 == 0) := by
      unfold turnsB; rw [if_pos h, Int.add_zero, Int.tmod_eq_emod_of_nonneg h0]
    have hd : (i != 0) = false := by simp [h]
    have E := Lib.hid e
    clear h e
    go_enter Try.func39, Try.ntmps39
    go_wp2
    go_ret
    exact ⟨by rw [E.out]; rfl, rfl⟩
  · have e : turnsB p i = ((p + 1) % 2 == 0) := by
      unfold turnsB; rw [if_neg h, Int.tmod_eq_emod_of_nonneg (by omega)]
    have hd : (i != 0) = true := by simp [h]
    have E := Lib.hid e
    clear h e
    go_enter Try.func39, Try.ntmps39
    go_wp2
    go_ret
    exact ⟨by rw [E.out]; rfl, rfl⟩


/-- the idler that a train needs, and whether it can be had -/
def idlerI (S : List (Int × Int)) (f : Int → Int) (p : Int) (same : Bool) : Int × Bool :=
  if turnsB p 0 = same then (0, true) else if p = 0 then (0, false) else (spareI S f, spareI S f != 0)
theorem idlerI_same {S : List (Int × Int)} {f : Int → Int} {p : Int} {same : Bool} (h : turnsB p 0 = same) : idlerI S f p same = (0, true) := by unfold idlerI; rw [if_pos h]
theorem idlerI_none {S : List (Int × Int)} {f : Int → Int} {p : Int} {same : Bool} (h : ¬ turnsB p 0 = same) (h2 : p = 0) : idlerI S f p same = (0, false) := by unfold idlerI; rw [if_neg h, if_pos h2]
theorem idlerI_spare {S : List (Int × Int)} {f : Int → Int} {p : Int} {same : Bool} (h : ¬ turnsB p 0 = same) (h2 : ¬ p = 0) : idlerI S f p same = (spareI S f, spareI S f != 0) := by unfold idlerI; rw [if_neg h, if_neg h2]

set_option maxRecDepth 100000 in
set_option maxHeartbeats 800000 in
theorem idlerFor_any (S : List (Int × Int)) (st : Value) (m : Nat) (f : Int → Int) (p : Int) (same : Bool) (w : World) (hS : WheelsAt w st S) (hm : TakenIs w m f) (ht : ∀ x ∈ S, 6 ≤ x.1 ∧ x.1 ≤ 100)
    (h0 : 0 ≤ p) (h1 : p ≤ 1000000) :
    Calls Try.prog 63 #[.agg #[st, .map (some m)], .int .i64 p, .bool same] w fun e w' => e = .returned (.tuple #[.int .i64 (idlerI S f p same).1, .bool (idlerI S f p same).2]) ∧ Below w.heap.size w w' := by
  have hb1 : Below w.heap.size w (w.alloc (.cells #[st, .map (some m)] 69)) := (Below.refl _ _).alloc (Nat.le_refl _) _
  have hsp := spare_any S st m f (w.alloc (.cells #[st, .map (some m)] 69)) (hS.below hb1) (hm.alloc _) ht
  by_cases hs : turnsB p 0 = same
  · have hd : (turnsB p 0 == same) = true := by simp [hs]
    have R := Lib.hid (idlerI_same (S := S) (f := f) hs)
    clear hs hsp
    go_enter Try.func63, Try.ntmps63
    go_wp2_with (go_at_call 39; refine (turnsSame_any p 0 _ h0 h1).mono ?_; rintro e w' ⟨rfl, rfl⟩)
    go_ret2
    exact ⟨by rw [R.out]; rfl, hb1⟩
  · have hd : (turnsB p 0 == same) = false := by simp [hs]
    by_cases hp : p = 0
    · have R := Lib.hid (idlerI_none (S := S) (f := f) hs hp)
      have hpd : (p == 0) = true := by simp [hp]
      clear hs hsp hp
      go_enter Try.func63, Try.ntmps63
      go_wp2_with (go_at_call 39; refine (turnsSame_any p 0 _ h0 h1).mono ?_; rintro e w' ⟨rfl, rfl⟩)
      go_ret2
      exact ⟨by rw [R.out]; rfl, hb1⟩
    · have R := Lib.hid (idlerI_spare (S := S) (f := f) hs hp)
      have hpd : (p == 0) = false := by simp [hp]
      generalize spareI S f = z at hsp R
      clear hs hp
      go_enter Try.func63, Try.ntmps63
      go_wp2_with (first | (go_at_call 39; refine (turnsSame_any p 0 _ h0 h1).mono ?_; rintro e w' ⟨rfl, rfl⟩) | (go_at_call 72; refine hsp.mono ?_; rintro e w' ⟨rfl, hb2⟩))
      go_ret2
      exact ⟨by rw [R.out]; rfl, hb1.trans (hb2.mono (by simp))⟩

theorem ret_bool {a b : Bool} (h : a = b) : Ending.returned (.bool a) = .returned (.bool b) := by rw [h]

/-- is a gearing valid? -/
def gearB (t r p o : Int) : Bool := decide (1 ≤ t ∧ t ≤ 1000 ∧ 1 ≤ r ∧ r ≤ 1000 ∧ 0 ≤ p ∧ p ≤ 3 ∧ 0 ≤ o ∧ o ≤ 200)
theorem gearB_iff {t r p o : Int} : gearB t r p o = true ↔ (1 ≤ t ∧ t ≤ 1000 ∧ 1 ≤ r ∧ r ≤ 1000 ∧ 0 ≤ p ∧ p ≤ 3 ∧ 0 ≤ o ∧ o ≤ 200) := by unfold gearB; simp
set_option maxRecDepth 100000 in
set_option maxHeartbeats 800000 in
theorem isGearing_any (t r p o : Int) (same : Bool) (w : World) :
    Calls Try.prog 33 #[.agg #[.int .i64 t, .int .i64 r, .bool same, .int .i64 p, .int .i64 o]] w fun e w' => e = .returned (.bool (gearB t r p o)) ∧ Below w.heap.size w w' := by
  by_cases c1 : 1 ≤ t
  case neg =>
    have H := Lib.hid (show gearB t r p o = false by unfold gearB; simp; omega)
    go_enter Try.func33, Try.ntmps33
    go_wp2
    go_ret
    exact ⟨by rw [H.out]; rfl, (Below.refl _ _).alloc (Nat.le_refl _) _⟩
  case pos =>
  by_cases c2 : t ≤ 1000
  case neg =>
    have H := Lib.hid (show gearB t r p o = false by unfold gearB; simp; omega)
    go_enter Try.func33, Try.ntmps33
    go_wp2
    go_ret
    exact ⟨by rw [H.out]; rfl, (Below.refl _ _).alloc (Nat.le_refl _) _⟩
  case pos =>
  by_cases c3 : 1 ≤ r
  case neg =>
    have H := Lib.hid (show gearB t r p o = false by unfold gearB; simp; omega)
    go_enter Try.func33, Try.ntmps33
    go_wp2
    go_ret
    exact ⟨by rw [H.out]; rfl, (Below.refl _ _).alloc (Nat.le_refl _) _⟩
  case pos =>
  by_cases c4 : r ≤ 1000
  case neg =>
    have H := Lib.hid (show gearB t r p o = false by unfold gearB; simp; omega)
    go_enter Try.func33, Try.ntmps33
    go_wp2
    go_ret
    exact ⟨by rw [H.out]; rfl, (Below.refl _ _).alloc (Nat.le_refl _) _⟩
  case pos =>
  by_cases c5 : 0 ≤ p
  case neg =>
    have H := Lib.hid (show gearB t r p o = false by unfold gearB; simp; omega)
    go_enter Try.func33, Try.ntmps33
    go_wp2
    go_ret
    exact ⟨by rw [H.out]; rfl, (Below.refl _ _).alloc (Nat.le_refl _) _⟩
  case pos =>
  by_cases c6 : p ≤ 3
  case neg =>
    have H := Lib.hid (show gearB t r p o = false by unfold gearB; simp; omega)
    go_enter Try.func33, Try.ntmps33
    go_wp2
    go_ret
    exact ⟨by rw [H.out]; rfl, (Below.refl _ _).alloc (Nat.le_refl _) _⟩
  case pos =>
  by_cases c7 : 0 ≤ o
  case neg =>
    have H := Lib.hid (show gearB t r p o = false by unfold gearB; simp; omega)
    go_enter Try.func33, Try.ntmps33
    go_wp2
    go_ret
    exact ⟨by rw [H.out]; rfl, (Below.refl _ _).alloc (Nat.le_refl _) _⟩
  case pos =>
    have H := Lib.hid (show gearB t r p o = decide (o ≤ 200) by unfold gearB; simp [c1, c2, c3, c4, c5, c6, c7])
    go_enter Try.func33, Try.ntmps33
    go_wp2
    go_ret
    exact ⟨by rw [H.out]; rfl, (Below.refl _ _).alloc (Nat.le_refl _) _⟩

end Go.Proofs.Ytoiapnokgpeipaa
