/- The whole search. -/
import Derived.Test.YtoiapnokgpeipaaB4
import Derived.Laws.EntriesVeiled
namespace Go.Proofs.Ytoiapnokgpeipaa
set_option linter.unusedSimpArgs false
open Go.RowKit Go.Maps Go.Sort

theorem try_any (bs hg B hs hx bt m nb : Nat) (sv : Value) (S : List (Int × Int)) (tl : List T6) (t r p o : Int) (same : Bool) (ht : 1 ≤ t ∧ t ≤ 1000) (hr : 1 ≤ r ∧ r ≤ 1000) (hS : ∀ x ∈ S, 6 ≤ x.1 ∧ x.1 ≤ 100)
    (hlen : tl.length = S.length) (hteeth : ∀ i, i < S.length → (S.getD i (0, 0)).1 = (tl.getD i default).1) (k : Nat) :
    ∀ (u : Tri) (c : Nat) (f : Int → Int) (best : Option Tri) (w : World), Env w bs hg B hs hx bt m nb sv S t r p o same → TakenIs w m f → BestIs w B nb best → BestOk best → TriOk u c → c + k ≤ 3 → (∀ x, 0 ≤ f x ∧ f x ≤ 2 * c) →
      Calls Try.prog 62 #[u.val, .int .i64 (k : Nat), .pointer (some ⟨bs, 0, none⟩), .pointer (some ⟨hg, 0, none⟩), .pointer (some ⟨B, 0, none⟩), .pointer (some ⟨hs, 0, none⟩), .pointer (some ⟨hx, 0, none⟩), .pointer (some ⟨bt, 0, none⟩)] w
        fun e w' => e = .returned (.tuple #[]) ∧ TakenIs w' m f ∧ BestIs w' B nb (tryP S tl t r o same k u f best) ∧ Only2 B m w w' := by
  induction k with
  | zero =>
    intro u c f best w E hm hB hbo hu _ _
    exact try_zero bs hg B hs hx bt m nb sv S tl t r p o same u c f best w E hm hB hbo hu ht hr hS
  | succ k ih =>
    intro u c f best w E hm hB hbo hu hck hf
    exact try_succ bs hg B hs hx bt m nb sv S tl t r p o same k u c f best w E hm hB hbo hu hck hf ht hr hlen hteeth ih

theorem TakenIs.setCell {w : World} {m : Nat} {f : Int → Int} (h : TakenIs w m f) {b : Nat} (hb : b ≠ m) (o : Nat) (v : Value) : TakenIs (w.setCell ⟨b, o, none⟩ v) m f :=
  h.kept (row := some b) (Lib.grownBy_setB (World.grownBy.refl w (some b)) o v) (fun e => hb (by cases e; rfl))

set_option maxRecDepth 100000 in
theorem newShelf_any (a : Option Addr) (n cap : Nat) (w : World) :
    Calls Try.prog 37 #[.slice a n cap] w fun e w' => e = .returned (.agg #[.slice a n cap, .map (some (w.heap.size + 1))]) ∧ TakenIs w' (w.heap.size + 1) (fun _ => 0) ∧ Below w.heap.size w w' := by
  have hmm := @run_makeMap Try.prog
  go_enter Try.func37, Try.ntmps37
  go_wp2
  refine bodyPost_ret (v := .agg #[.slice a n cap, .map (some (w.heap.size + 1))]) (by simp [results, Try.results37, go_sem]) rfl ⟨rfl, ?_, ?_⟩
  · have := takenIs_made (w.alloc (.cells #[.slice a n cap, .map (some (w.heap.size + 1))] 69))
    simpa using this
  · repeat (first | exact Below.refl _ _ | refine Below.setCell ?_ (by simp) _ | refine Below.alloc ?_ (by simp; try omega) _)


def tri0 : Tri := ⟨0, 0, 0, 0, 0, 0, 0, 0, 1, 1⟩
def searchP (S : List (Int × Int)) (tl : List T6) (t r o : Int) (same : Bool) (k : Nat) : Option Tri :=
  (List.range k).foldl (fun best k => tryP S tl t r o same k tri0 (fun _ => 0) best) none
theorem searchP_succ (S : List (Int × Int)) (tl : List T6) (t r o : Int) (same : Bool) (k : Nat) : searchP S tl t r o same (k + 1) = tryP S tl t r o same k tri0 (fun _ => 0) (searchP S tl t r o same k) := by
  unfold searchP; rw [List.range_succ, List.foldl_append]; rfl
theorem tri0_ok : TriOk tri0 0 := ⟨rfl, by omega, by decide, by decide, by decide, by decide⟩
theorem searchP_ok (S : List (Int × Int)) (tl : List T6) (t r o : Int) (same : Bool) : ∀ k, k ≤ 4 → BestOk (searchP S tl t r o same k)
  | 0, _ => fun u h => by cases h
  | k + 1, hk => by rw [searchP_succ]; exact tryP_ok k _ 0 _ _ tri0_ok (by omega) (searchP_ok S tl t r o same k (by omega))

/-- what the search returns -/
def SearchIs (b : Option Tri) (w : World) (e : Ending) (w' : World) : Prop :=
  ∃ u : Tri, ∃ fd : Bool, e = .returned (.tuple #[u.val, .bool fd]) ∧ Below w.heap.size w w' ∧ (match b with | none => fd = false | some v => fd = true ∧ u = v)

set_option maxRecDepth 100000 in
set_option maxHeartbeats 3200000 in
theorem search_any (S : List (Int × Int)) (tl : List T6) (sa : Option Addr) (scap : Nat) (t r p o : Int) (same : Bool) (w : World) (hW : WheelsAt w (.slice sa S.length scap) S) (ht : 1 ≤ t ∧ t ≤ 1000) (hr : 1 ≤ r ∧ r ≤ 1000) (hp : 0 ≤ p ∧ p ≤ 3)
    (hS : ∀ x ∈ S, 6 ≤ x.1 ∧ x.1 ≤ 100) (hlen : tl.length = S.length) (hteeth : ∀ i, i < S.length → (S.getD i (0, 0)).1 = (tl.getD i default).1) (hsa : ∀ b off, sa = some ⟨b, off, none⟩ → b < w.heap.size) :
    Calls Try.prog 48 #[.slice sa S.length scap, .agg #[.int .i64 t, .int .i64 r, .bool same, .int .i64 p, .int .i64 o], exactF t r, nearF t r] w (SearchIs (searchP S tl t r o same (p + 1).toNat) w) := by
  unfold exactF nearF
  go_enter Try.func48, Try.ntmps48
  go_wp2_with fail
  obtain ⟨W5, hW5⟩ : ∃ W5, W5 = (((((w.alloc (.cells #[.slice sa S.length scap] 22)).alloc (.cells #[.int .i64 t, .int .i64 r, .bool same, .int .i64 p, .int .i64 o] 24)).alloc (.cells #[.func (.func 41) #[.agg #[.int .i64 t, .int .i64 r]] #[]] 76)).alloc (.cells #[.func (.func 49) #[.agg #[.int .i64 t, .int .i64 r]] #[]] 90)).alloc (.cells #[.int .i64 0, .int .i64 0, .int .i64 0, .int .i64 0, .int .i64 0, .int .i64 0, .int .i64 0, .int .i64 0, .int .i64 0, .int .i64 0] 87)).alloc
      (.cells #[.int .i64 0, .int .i64 0, .int .i64 0, .int .i64 0, .int .i64 0, .int .i64 0, .int .i64 0, .int .i64 0, .int .i64 0, .int .i64 0, .bool false, .func (.func 61) #[] #[.pointer (some ⟨w.heap.size + 1 + 1 + 1, 0, none⟩)]] 104) := ⟨_, rfl⟩
  have hb5 : Below w.heap.size w W5 := by rw [hW5]; repeat (first | exact Below.refl _ _ | refine Below.alloc ?_ (by simp; try omega) _)
  have hz5 : W5.heap.size = w.heap.size + 6 := by rw [hW5]; simp
  have a0 : W5.cell? ⟨w.heap.size, 0, none⟩ = some (.slice sa S.length scap) := by rw [hW5]; go_simp
  have g0 : W5.cell? ⟨w.heap.size + 1, 0, none⟩ = some (.int .i64 t) := by rw [hW5]; go_simp
  have g1 : W5.cell? ⟨w.heap.size + 1, 1, none⟩ = some (.int .i64 r) := by rw [hW5]; go_simp
  have g2 : W5.cell? ⟨w.heap.size + 1, 2, none⟩ = some (.bool same) := by rw [hW5]; go_simp
  have g3 : W5.cell? ⟨w.heap.size + 1, 3, none⟩ = some (.int .i64 p) := by rw [hW5]; go_simp
  have g4 : W5.cell? ⟨w.heap.size + 1, 4, none⟩ = some (.int .i64 o) := by rw [hW5]; go_simp
  have ex : W5.cell? ⟨w.heap.size + 1 + 1, 0, none⟩ = some (.func (.func 41) #[.agg #[.int .i64 t, .int .i64 r]] #[]) := by rw [hW5]; go_simp
  have nr : W5.cell? ⟨w.heap.size + 1 + 1 + 1, 0, none⟩ = some (.func (.func 49) #[.agg #[.int .i64 t, .int .i64 r]] #[]) := by rw [hW5]; go_simp
  have rs : W5.heap[w.heap.size + 4]? = some (.cells #[.int .i64 0, .int .i64 0, .int .i64 0, .int .i64 0, .int .i64 0, .int .i64 0, .int .i64 0, .int .i64 0, .int .i64 0, .int .i64 0] 87 (0, 0)) := by
    rw [hW5, Below.heap_alloc _ _ _ (by simp)]
    have := (MapKept.heap_alloc ((((w.alloc (.cells #[.slice sa S.length scap] 22)).alloc (.cells #[.int .i64 t, .int .i64 r, .bool same, .int .i64 p, .int .i64 o] 24)).alloc (.cells #[.func (.func 41) #[.agg #[.int .i64 t, .int .i64 r]] #[]] 76)).alloc (.cells #[.func (.func 49) #[.agg #[.int .i64 t, .int .i64 r]] #[]] 90)) (.cells #[.int .i64 0, .int .i64 0, .int .i64 0, .int .i64 0, .int .i64 0, .int .i64 0, .int .i64 0, .int .i64 0, .int .i64 0, .int .i64 0] 87)).1
    simpa using this
  have bo : W5.heap[w.heap.size + 5]? = some (bestObj ⟨0, 0, 0, 0, 0, 0, 0, 0, 0, 0⟩ false (w.heap.size + 3)) := by
    rw [hW5]
    have := (MapKept.heap_alloc (((((w.alloc (.cells #[.slice sa S.length scap] 22)).alloc (.cells #[.int .i64 t, .int .i64 r, .bool same, .int .i64 p, .int .i64 o] 24)).alloc (.cells #[.func (.func 41) #[.agg #[.int .i64 t, .int .i64 r]] #[]] 76)).alloc (.cells #[.func (.func 49) #[.agg #[.int .i64 t, .int .i64 r]] #[]] 90)).alloc (.cells #[.int .i64 0, .int .i64 0, .int .i64 0, .int .i64 0, .int .i64 0, .int .i64 0, .int .i64 0, .int .i64 0, .int .i64 0, .int .i64 0] 87)) (.cells #[.int .i64 0, .int .i64 0, .int .i64 0, .int .i64 0, .int .i64 0, .int .i64 0, .int .i64 0, .int .i64 0, .int .i64 0, .int .i64 0, .bool false, .func (.func 61) #[] #[.pointer (some ⟨w.heap.size + 1 + 1 + 1, 0, none⟩)]] 104)).1
    simpa [bestObj, bestF] using this
  rw [← hW5]
  clear hW5
  refine (newShelf_any _ _ _ _).mono ?_
  rintro e w1 ⟨rfl, hm1, hb1⟩
  rw [hz5] at hm1
  have hz1 := hb1.size
  rw [hz5] at hz1
  replace a0 := (hb1.cell (p := ⟨_, _, none⟩) (by rw [hz5]; simp; try omega)).trans a0
  replace g0 := (hb1.cell (p := ⟨_, _, none⟩) (by rw [hz5]; simp; try omega)).trans g0
  replace g1 := (hb1.cell (p := ⟨_, _, none⟩) (by rw [hz5]; simp; try omega)).trans g1
  replace g2 := (hb1.cell (p := ⟨_, _, none⟩) (by rw [hz5]; simp; try omega)).trans g2
  replace g3 := (hb1.cell (p := ⟨_, _, none⟩) (by rw [hz5]; simp; try omega)).trans g3
  replace g4 := (hb1.cell (p := ⟨_, _, none⟩) (by rw [hz5]; simp; try omega)).trans g4
  replace ex := (hb1.cell (p := ⟨_, _, none⟩) (by rw [hz5]; simp; try omega)).trans ex
  replace nr := (hb1.cell (p := ⟨_, _, none⟩) (by rw [hz5]; simp; try omega)).trans nr
  replace rs := (hb1.block _ (by rw [hz5]; omega)).trans rs
  replace bo := (hb1.block _ (by rw [hz5]; omega)).trans bo
  have l1 : w.heap.size + 1 < w1.heap.size := by omega
  have l0 : w.heap.size < w1.heap.size := by omega
  go_wp2_with fail
  obtain ⟨W9, hW9⟩ : ∃ W9, W9 = (w1.alloc (.cells #[.slice sa S.length scap, .map (some (w.heap.size + 6 + 1))] 69)).alloc (.cells #[.func (.func 62) #[] #[.pointer (some ⟨w1.heap.size, 0, none⟩), .pointer (some ⟨w.heap.size + 1, 0, none⟩), .pointer (some ⟨w.heap.size + 1 + 1 + 1 + 1 + 1, 0, none⟩), .pointer (some ⟨w.heap.size, 0, none⟩), .pointer (some ⟨w.heap.size + 1 + 1, 0, none⟩), .pointer (some ⟨w1.heap.size + 1, 0, none⟩)]] 105) := ⟨_, rfl⟩
  have hb9 : Below w1.heap.size w1 W9 := by rw [hW9]; exact ((Below.refl _ _).alloc (Nat.le_refl _) _).alloc (by simp) _
  have hbw9 : Below w.heap.size w W9 := hb5.trans ((hb1.mono (by omega)).trans (hb9.mono (by omega)))
  have hm9 : TakenIs W9 (w.heap.size + 6 + 1) (fun _ => 0) := by rw [hW9]; exact (hm1.alloc _).alloc _
  have hz9 : W9.heap.size = w1.heap.size + 2 := by rw [hW9]; simp
  have hB9 : BestIs W9 (w.heap.size + 1 + 1 + 1 + 1 + 1) (w.heap.size + 1 + 1 + 1) none := ⟨_, (hb9.block _ (by omega)).trans bo⟩
  have hml := hm1.lt
  have E9 : Env W9 w1.heap.size (w.heap.size + 1) (w.heap.size + 1 + 1 + 1 + 1 + 1) w.heap.size (w.heap.size + 1 + 1) (w1.heap.size + 1) (w.heap.size + 6 + 1) (w.heap.size + 1 + 1 + 1) (.slice sa S.length scap) S t r p o same := by
    refine ⟨?_, ?_, (hb9.cell (p := ⟨_, _, none⟩) (by simp; omega)).trans g0, (hb9.cell (p := ⟨_, _, none⟩) (by simp; omega)).trans g1, (hb9.cell (p := ⟨_, _, none⟩) (by simp; omega)).trans g2, (hb9.cell (p := ⟨_, _, none⟩) (by simp; omega)).trans g3, (hb9.cell (p := ⟨_, _, none⟩) (by simp; omega)).trans g4,
      (hb9.cell (p := ⟨_, _, none⟩) (by simp; omega)).trans a0, (hb9.cell (p := ⟨_, _, none⟩) (by simp; omega)).trans ex, ?_, (hb9.cell (p := ⟨_, _, none⟩) (by simp; omega)).trans nr, hW.below hbw9, by omega, by omega, by omega, by omega, by omega, by omega, by omega, ?_⟩
    · rw [hW9]; go_simp
    · rw [hW9]; go_simp
    · rw [hW9]; unfold tryF; go_simp
    · intro b off n cap e
      simp only [Value.slice.injEq] at e
      have := hsa b off e.1
      omega
  have rs9 : W9.heap[w.heap.size + 4]? = some (.cells #[.int .i64 0, .int .i64 0, .int .i64 0, .int .i64 0, .int .i64 0, .int .i64 0, .int .i64 0, .int .i64 0, .int .i64 0, .int .i64 0] 87 (0, 0)) := (hb9.block _ (by omega)).trans rs
  have l4 : w.heap.size + 4 < W9.heap.size := by omega
  rw [← hW9]
  clear hW9 g0 g1 g2 g3 g4 a0 ex nr rs bo hb1 hb5 hm1 l1 l0 hz5
  have TRY := fun k => try_any w1.heap.size (w.heap.size + 1) (w.heap.size + 1 + 1 + 1 + 1 + 1) w.heap.size (w.heap.size + 1 + 1) (w1.heap.size + 1) (w.heap.size + 6 + 1) (w.heap.size + 1 + 1 + 1) (.slice sa S.length scap) S tl t r p o same ht hr hS hlen hteeth k
  have HT := Lib.hid TRY
  clear TRY
  go_loopw [13, 22] (fun _ i wr => ∃ k : Nat, (k : Int) ≤ p + 1 ∧ i = .int .i64 k ∧ TakenIs wr (w.heap.size + 6 + 1) (fun _ => 0) ∧ BestIs wr (w.heap.size + 1 + 1 + 1 + 1 + 1) (w.heap.size + 1 + 1 + 1) (searchP S tl t r o same k) ∧ Only2 (w.heap.size + 1 + 1 + 1 + 1 + 1) (w.heap.size + 6 + 1) W9 wr) (fun _ i _ => 4 - (intOf i).toNat)
  case atStart => exact ⟨0, by omega, rfl, hm9, hB9, Only2.refl _ _ _⟩
  case round =>
    obtain ⟨k, hk, rfl, hmk, hBk, hok⟩ := hrel
    have Ek := E9.keep (hok.keepC hm9)
    by_cases hlt : (k : Int) < p + 1
    · have hT := HT.out k tri0 0 (fun _ => 0) _ wr Ek hmk hBk (searchP_ok S tl t r o same k (by omega)) tri0_ok (by omega) (fun x => by omega)
      rw [← searchP_succ] at hT
      have etr := Ek.tr
      unfold tryF at etr
      unfold Tri.val tri0 at hT
      have hbR : BestOk (searchP S tl t r o same (k + 1)) := searchP_ok _ _ _ _ _ _ _ (by omega)
      go_wp2_with (go_at_call 62; refine hT.mono ?_; rintro e w3 ⟨rfl, hm3, hB3, ho3⟩)
      go_roundw
      case rel => exact ⟨k + 1, by omega, by go_num, hm3, hB3, hok.trans ho3⟩
      case measure => simp [intOf]; omega
    · have hkp : k = (p + 1).toNat := by omega
      subst hkp
      obtain ⟨u, fd, hBO, hpost⟩ : ∃ u fd, wr.heap[w.heap.size + 1 + 1 + 1 + 1 + 1]? = some (bestObj u fd (w.heap.size + 1 + 1 + 1)) ∧ (match searchP S tl t r o same (p + 1).toNat with | none => fd = false | some v => fd = true ∧ u = v) := by
        cases hsp : searchP S tl t r o same (p + 1).toNat with
        | none => rw [hsp] at hBk; obtain ⟨u, hu⟩ := hBk; exact ⟨u, false, hu, rfl⟩
        | some v => rw [hsp] at hBk; exact ⟨v, true, hBk, rfl, rfl⟩
      have rsr : wr.heap[w.heap.size + 4]? = some (.cells #[.int .i64 0, .int .i64 0, .int .i64 0, .int .i64 0, .int .i64 0, .int .i64 0, .int .i64 0, .int .i64 0, .int .i64 0, .int .i64 0] 87 (0, 0)) := (hok.block _ l4 (by omega) (by omega)).trans rs9
      have z0 : wr.cell? ⟨w.heap.size + 1 + 1 + 1 + 1, 0, none⟩ = some (.int .i64 0) := by simp [World.cell?, show w.heap.size + 1 + 1 + 1 + 1 = w.heap.size + 4 from rfl, rsr]
      have z1 : wr.cell? ⟨w.heap.size + 1 + 1 + 1 + 1, 1, none⟩ = some (.int .i64 0) := by simp [World.cell?, show w.heap.size + 1 + 1 + 1 + 1 = w.heap.size + 4 from rfl, rsr]
      have z2 : wr.cell? ⟨w.heap.size + 1 + 1 + 1 + 1, 2, none⟩ = some (.int .i64 0) := by simp [World.cell?, show w.heap.size + 1 + 1 + 1 + 1 = w.heap.size + 4 from rfl, rsr]
      have z3 : wr.cell? ⟨w.heap.size + 1 + 1 + 1 + 1, 3, none⟩ = some (.int .i64 0) := by simp [World.cell?, show w.heap.size + 1 + 1 + 1 + 1 = w.heap.size + 4 from rfl, rsr]
      have z4 : wr.cell? ⟨w.heap.size + 1 + 1 + 1 + 1, 4, none⟩ = some (.int .i64 0) := by simp [World.cell?, show w.heap.size + 1 + 1 + 1 + 1 = w.heap.size + 4 from rfl, rsr]
      have z5 : wr.cell? ⟨w.heap.size + 1 + 1 + 1 + 1, 5, none⟩ = some (.int .i64 0) := by simp [World.cell?, show w.heap.size + 1 + 1 + 1 + 1 = w.heap.size + 4 from rfl, rsr]
      have z6 : wr.cell? ⟨w.heap.size + 1 + 1 + 1 + 1, 6, none⟩ = some (.int .i64 0) := by simp [World.cell?, show w.heap.size + 1 + 1 + 1 + 1 = w.heap.size + 4 from rfl, rsr]
      have z7 : wr.cell? ⟨w.heap.size + 1 + 1 + 1 + 1, 7, none⟩ = some (.int .i64 0) := by simp [World.cell?, show w.heap.size + 1 + 1 + 1 + 1 = w.heap.size + 4 from rfl, rsr]
      have z8 : wr.cell? ⟨w.heap.size + 1 + 1 + 1 + 1, 8, none⟩ = some (.int .i64 0) := by simp [World.cell?, show w.heap.size + 1 + 1 + 1 + 1 = w.heap.size + 4 from rfl, rsr]
      have z9 : wr.cell? ⟨w.heap.size + 1 + 1 + 1 + 1, 9, none⟩ = some (.int .i64 0) := by simp [World.cell?, show w.heap.size + 1 + 1 + 1 + 1 = w.heap.size + 4 from rfl, rsr]
      have zf : ∀ o, wr.frozen? ⟨w.heap.size + 1 + 1 + 1 + 1, o, none⟩ = false := fun o => by simp [World.frozen?, show w.heap.size + 1 + 1 + 1 + 1 = w.heap.size + 4 from rfl, rsr]
      have hbwr : Below w.heap.size w wr := hbw9.trans ⟨hok.os, hok.tape, hok.output, hok.size, fun q hq => hok.block q (by omega) (by omega) (by omega)⟩
      clear hbw9 E9 hm9 hB9 rs9 HT hBk rsr
      have HB := Lib.hid hBO
      go_wp2_with fail
      refine wp_region_held_drew (S := fun w' => w'.heap[w.heap.size + 1 + 1 + 1 + 1 + 1]? = some (bestObj u fd (w.heap.size + 1 + 1 + 1))) (by kernel_rfl) hBO (fun hHeld => ?_)
      clear hBO
      refine wpAnyH_take (i := 0) (oi := _) (v := ?_) rfl (by kernel_rfl) (by kernel_rfl) (by kernel_rfl) (fun _ _ _ h => h) (Or.inl ⟨by rfl, ?_⟩) hHeld ?_
      rotate_left
      · intro w1 hSw
        replace hSw : w1.heap[w.heap.size + 1 + 1 + 1 + 1 + 1]? = some (bestObj u fd (w.heap.size + 1 + 1 + 1)) := hSw
        have c0 : w1.cell? ⟨w.heap.size + 1 + 1 + 1 + 1 + 1, 0, none⟩ = some (.int .i64 u.a0) := by simp [World.cell?, hSw, bestObj]
        have c1 : w1.cell? ⟨w.heap.size + 1 + 1 + 1 + 1 + 1, 1, none⟩ = some (.int .i64 u.a1) := by simp [World.cell?, hSw, bestObj]
        have c2 : w1.cell? ⟨w.heap.size + 1 + 1 + 1 + 1 + 1, 2, none⟩ = some (.int .i64 u.a2) := by simp [World.cell?, hSw, bestObj]
        have c3 : w1.cell? ⟨w.heap.size + 1 + 1 + 1 + 1 + 1, 3, none⟩ = some (.int .i64 u.a3) := by simp [World.cell?, hSw, bestObj]
        have c4 : w1.cell? ⟨w.heap.size + 1 + 1 + 1 + 1 + 1, 4, none⟩ = some (.int .i64 u.a4) := by simp [World.cell?, hSw, bestObj]
        have c5 : w1.cell? ⟨w.heap.size + 1 + 1 + 1 + 1 + 1, 5, none⟩ = some (.int .i64 u.a5) := by simp [World.cell?, hSw, bestObj]
        have c6 : w1.cell? ⟨w.heap.size + 1 + 1 + 1 + 1 + 1, 6, none⟩ = some (.int .i64 u.c) := by simp [World.cell?, hSw, bestObj]
        have c7 : w1.cell? ⟨w.heap.size + 1 + 1 + 1 + 1 + 1, 7, none⟩ = some (.int .i64 u.i) := by simp [World.cell?, hSw, bestObj]
        have c8 : w1.cell? ⟨w.heap.size + 1 + 1 + 1 + 1 + 1, 8, none⟩ = some (.int .i64 u.d) := by simp [World.cell?, hSw, bestObj]
        have c9 : w1.cell? ⟨w.heap.size + 1 + 1 + 1 + 1 + 1, 9, none⟩ = some (.int .i64 u.n) := by simp [World.cell?, hSw, bestObj]
        have c10 : w1.cell? ⟨w.heap.size + 1 + 1 + 1 + 1 + 1, 10, none⟩ = some (.bool fd) := by simp [World.cell?, hSw, bestObj]
        clear hSw
        go_simp; with_reducible rfl
      simp only [Act.put, List.setIfInBounds_toArray, List.set_cons_zero, List.set_cons_succ]
      refine wpAnyH_take (i := 1) (oi := _) (v := ?_) rfl (by kernel_rfl) (by kernel_rfl) (by kernel_rfl) (fun _ _ _ h => h) (Or.inl ⟨by rfl, ?_⟩) hHeld ?_
      rotate_left
      · intro w1 hSw
        replace hSw : w1.heap[w.heap.size + 1 + 1 + 1 + 1 + 1]? = some (bestObj u fd (w.heap.size + 1 + 1 + 1)) := hSw
        have c0 : w1.cell? ⟨w.heap.size + 1 + 1 + 1 + 1 + 1, 0, none⟩ = some (.int .i64 u.a0) := by simp [World.cell?, hSw, bestObj]
        have c1 : w1.cell? ⟨w.heap.size + 1 + 1 + 1 + 1 + 1, 1, none⟩ = some (.int .i64 u.a1) := by simp [World.cell?, hSw, bestObj]
        have c2 : w1.cell? ⟨w.heap.size + 1 + 1 + 1 + 1 + 1, 2, none⟩ = some (.int .i64 u.a2) := by simp [World.cell?, hSw, bestObj]
        have c3 : w1.cell? ⟨w.heap.size + 1 + 1 + 1 + 1 + 1, 3, none⟩ = some (.int .i64 u.a3) := by simp [World.cell?, hSw, bestObj]
        have c4 : w1.cell? ⟨w.heap.size + 1 + 1 + 1 + 1 + 1, 4, none⟩ = some (.int .i64 u.a4) := by simp [World.cell?, hSw, bestObj]
        have c5 : w1.cell? ⟨w.heap.size + 1 + 1 + 1 + 1 + 1, 5, none⟩ = some (.int .i64 u.a5) := by simp [World.cell?, hSw, bestObj]
        have c6 : w1.cell? ⟨w.heap.size + 1 + 1 + 1 + 1 + 1, 6, none⟩ = some (.int .i64 u.c) := by simp [World.cell?, hSw, bestObj]
        have c7 : w1.cell? ⟨w.heap.size + 1 + 1 + 1 + 1 + 1, 7, none⟩ = some (.int .i64 u.i) := by simp [World.cell?, hSw, bestObj]
        have c8 : w1.cell? ⟨w.heap.size + 1 + 1 + 1 + 1 + 1, 8, none⟩ = some (.int .i64 u.d) := by simp [World.cell?, hSw, bestObj]
        have c9 : w1.cell? ⟨w.heap.size + 1 + 1 + 1 + 1 + 1, 9, none⟩ = some (.int .i64 u.n) := by simp [World.cell?, hSw, bestObj]
        have c10 : w1.cell? ⟨w.heap.size + 1 + 1 + 1 + 1 + 1, 10, none⟩ = some (.bool fd) := by simp [World.cell?, hSw, bestObj]
        clear hSw
        go_simp; with_reducible rfl
      simp only [Act.put, List.setIfInBounds_toArray, List.set_cons_zero, List.set_cons_succ]
      refine wpAnyH_take (i := 2) (oi := _) (v := ?_) rfl (by kernel_rfl) (by kernel_rfl) (by kernel_rfl) (fun _ _ _ h => h) (Or.inl ⟨by rfl, ?_⟩) hHeld ?_
      rotate_left
      · intro w1 hSw
        replace hSw : w1.heap[w.heap.size + 1 + 1 + 1 + 1 + 1]? = some (bestObj u fd (w.heap.size + 1 + 1 + 1)) := hSw
        have c0 : w1.cell? ⟨w.heap.size + 1 + 1 + 1 + 1 + 1, 0, none⟩ = some (.int .i64 u.a0) := by simp [World.cell?, hSw, bestObj]
        have c1 : w1.cell? ⟨w.heap.size + 1 + 1 + 1 + 1 + 1, 1, none⟩ = some (.int .i64 u.a1) := by simp [World.cell?, hSw, bestObj]
        have c2 : w1.cell? ⟨w.heap.size + 1 + 1 + 1 + 1 + 1, 2, none⟩ = some (.int .i64 u.a2) := by simp [World.cell?, hSw, bestObj]
        have c3 : w1.cell? ⟨w.heap.size + 1 + 1 + 1 + 1 + 1, 3, none⟩ = some (.int .i64 u.a3) := by simp [World.cell?, hSw, bestObj]
        have c4 : w1.cell? ⟨w.heap.size + 1 + 1 + 1 + 1 + 1, 4, none⟩ = some (.int .i64 u.a4) := by simp [World.cell?, hSw, bestObj]
        have c5 : w1.cell? ⟨w.heap.size + 1 + 1 + 1 + 1 + 1, 5, none⟩ = some (.int .i64 u.a5) := by simp [World.cell?, hSw, bestObj]
        have c6 : w1.cell? ⟨w.heap.size + 1 + 1 + 1 + 1 + 1, 6, none⟩ = some (.int .i64 u.c) := by simp [World.cell?, hSw, bestObj]
        have c7 : w1.cell? ⟨w.heap.size + 1 + 1 + 1 + 1 + 1, 7, none⟩ = some (.int .i64 u.i) := by simp [World.cell?, hSw, bestObj]
        have c8 : w1.cell? ⟨w.heap.size + 1 + 1 + 1 + 1 + 1, 8, none⟩ = some (.int .i64 u.d) := by simp [World.cell?, hSw, bestObj]
        have c9 : w1.cell? ⟨w.heap.size + 1 + 1 + 1 + 1 + 1, 9, none⟩ = some (.int .i64 u.n) := by simp [World.cell?, hSw, bestObj]
        have c10 : w1.cell? ⟨w.heap.size + 1 + 1 + 1 + 1 + 1, 10, none⟩ = some (.bool fd) := by simp [World.cell?, hSw, bestObj]
        clear hSw
        go_simp; with_reducible rfl
      simp only [Act.put, List.setIfInBounds_toArray, List.set_cons_zero, List.set_cons_succ]
      refine wpAnyH_take (i := 3) (oi := _) (v := ?_) rfl (by kernel_rfl) (by kernel_rfl) (by kernel_rfl) (fun _ _ _ h => h) (Or.inl ⟨by rfl, ?_⟩) hHeld ?_
      rotate_left
      · intro w1 hSw
        replace hSw : w1.heap[w.heap.size + 1 + 1 + 1 + 1 + 1]? = some (bestObj u fd (w.heap.size + 1 + 1 + 1)) := hSw
        have c0 : w1.cell? ⟨w.heap.size + 1 + 1 + 1 + 1 + 1, 0, none⟩ = some (.int .i64 u.a0) := by simp [World.cell?, hSw, bestObj]
        have c1 : w1.cell? ⟨w.heap.size + 1 + 1 + 1 + 1 + 1, 1, none⟩ = some (.int .i64 u.a1) := by simp [World.cell?, hSw, bestObj]
        have c2 : w1.cell? ⟨w.heap.size + 1 + 1 + 1 + 1 + 1, 2, none⟩ = some (.int .i64 u.a2) := by simp [World.cell?, hSw, bestObj]
        have c3 : w1.cell? ⟨w.heap.size + 1 + 1 + 1 + 1 + 1, 3, none⟩ = some (.int .i64 u.a3) := by simp [World.cell?, hSw, bestObj]
        have c4 : w1.cell? ⟨w.heap.size + 1 + 1 + 1 + 1 + 1, 4, none⟩ = some (.int .i64 u.a4) := by simp [World.cell?, hSw, bestObj]
        have c5 : w1.cell? ⟨w.heap.size + 1 + 1 + 1 + 1 + 1, 5, none⟩ = some (.int .i64 u.a5) := by simp [World.cell?, hSw, bestObj]
        have c6 : w1.cell? ⟨w.heap.size + 1 + 1 + 1 + 1 + 1, 6, none⟩ = some (.int .i64 u.c) := by simp [World.cell?, hSw, bestObj]
        have c7 : w1.cell? ⟨w.heap.size + 1 + 1 + 1 + 1 + 1, 7, none⟩ = some (.int .i64 u.i) := by simp [World.cell?, hSw, bestObj]
        have c8 : w1.cell? ⟨w.heap.size + 1 + 1 + 1 + 1 + 1, 8, none⟩ = some (.int .i64 u.d) := by simp [World.cell?, hSw, bestObj]
        have c9 : w1.cell? ⟨w.heap.size + 1 + 1 + 1 + 1 + 1, 9, none⟩ = some (.int .i64 u.n) := by simp [World.cell?, hSw, bestObj]
        have c10 : w1.cell? ⟨w.heap.size + 1 + 1 + 1 + 1 + 1, 10, none⟩ = some (.bool fd) := by simp [World.cell?, hSw, bestObj]
        clear hSw
        go_simp; with_reducible rfl
      simp only [Act.put, List.setIfInBounds_toArray, List.set_cons_zero, List.set_cons_succ]
      refine wpAnyH_all (rs := [4]) (by kernel_rfl) (by simp) ?_
      intro i hi; obtain rfl := List.mem_singleton.1 hi; clear hi hHeld
      refine wpOp_step rfl (fun K3 hK3 => ?_)
      have HK3 := Lib.hid hK3
      clear hK3
      rw [if_pos (by rfl)]
      go_simp
      have hh : ∀ (X : World) (ob : Obj), X.heap[w.heap.size + 1 + 1 + 1 + 1 + 1]? = some ob → ∀ o v, (X.setCell ⟨w.heap.size + 1 + 1 + 1 + 1, o, none⟩ v).heap[w.heap.size + 1 + 1 + 1 + 1 + 1]? = some ob := fun X ob h o v => (Below.heap_setCell X _ v _ (by simp)).trans h
      have hdr : ∀ (X : World) (ob : Obj), X.heap[w.heap.size + 1 + 1 + 1 + 1 + 1]? = some ob → X.drew.heap[w.heap.size + 1 + 1 + 1 + 1 + 1]? = some ob := fun X ob h => h
      refine HK3.out _ _ ⟨?_, ?_⟩
      · refine hdr _ _ ?_
        iterate 10 refine hh _ _ ?_ _ _
        exact HB.out
      clear HK3 K3
      try simp only [Act.put, List.setIfInBounds_toArray, List.set_cons_zero, List.set_cons_succ]
      refine wpAnyH_all (rs := [5]) (by kernel_rfl) (by simp) ?_
      intro i hi; obtain rfl := List.mem_singleton.1 hi; clear hi
      refine wpOp_step rfl (fun K3 hK3 => ?_)
      have HK3 := Lib.hid hK3
      clear hK3
      rw [if_pos (by rfl)]
      go_simp
      refine HK3.out _ _ ⟨?_, wpAnyH_done (by kernel_rfl) ?_ _⟩
      · repeat with_reducible refine hdr _ _ ?_
        iterate 10 with_reducible refine hh _ _ ?_ _ _
        exact HB.out
      clear HK3 K3 hh hdr
      try simp only [Act.put, List.setIfInBounds_toArray, List.set_cons_zero, List.set_cons_succ]
      go_wp2
      refine bodyPost_ret (v := .tuple #[u.val, .bool fd]) (by unfold Tri.val; simp [results, Try.results48, go_sem, z0, z1, z2, z3, z4, z5, z6, z7, z8, z9]) rfl ⟨u, fd, rfl, ?_, hpost⟩
      have hbs : ∀ (X : World), Below w.heap.size w X → ∀ o v, Below w.heap.size w (X.setCell ⟨w.heap.size + 1 + 1 + 1 + 1, o, none⟩ v) := fun X h o v => h.setCell (by simp; omega) v
      have hbd : ∀ (X : World), Below w.heap.size w X → Below w.heap.size w X.drew := fun X h => h.drew
      with_reducible refine hbd _ ?_
      iterate 10 with_reducible refine hbs _ ?_ _ _
      exact hbwr

end Go.Proofs.Ytoiapnokgpeipaa
