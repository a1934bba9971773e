/- other: a train by remainders; its closure. -/
import Derived.Test.YtoiapnokgpeipaaS4
import Derived.Deep.AppendLies
namespace Go.Proofs.Ytoiapnokgpeipaa
set_option linter.unusedSimpArgs false
open Go.RowKit Go.Maps

/-- a list of bytes, as a slice shows them -/
def BytesAt (w : World) (v : Value) (l : List Nat) : Prop :=
  l.length ≤ maxLen ∧ (∀ x ∈ l, x ≤ 255) ∧ ((l = [] ∧ ∃ a cap, v = .slice a 0 cap) ∨ ∃ b off cap, v = .slice (some ⟨b, off, none⟩) l.length cap ∧ l.length ≤ cap ∧ cap ≤ maxLen ∧ b < w.heap.size ∧
    ∀ i, i < l.length → w.cell? ⟨b, off + i, none⟩ = some (.int .u8 (l.getD i 0 : Nat)))
theorem BytesAt.shape {w : World} {v : Value} {l : List Nat} (h : BytesAt w v l) : ∃ a cap, v = .slice a l.length cap := by
  obtain ⟨_, _, ⟨rfl, a, cap, rfl⟩ | ⟨b, off, cap, rfl, _⟩⟩ := h
  · exact ⟨_, _, rfl⟩
  · exact ⟨_, _, rfl⟩
theorem BytesAt.at {w : World} {v : Value} {S : List Nat} {a : Option Addr} {n c : Nat} (h : BytesAt w v S) (e : v = .slice a n c) (hn : 0 < S.length) :
    ∃ b off, a = some ⟨b, off, none⟩ ∧ n = S.length ∧ n ≤ c ∧ c ≤ 9223372036854775807 ∧ b < w.heap.size ∧ ∀ i, i < S.length → w.cell? ⟨b, off + i, none⟩ = some (.int .u8 (S.getD i 0 : Nat)) := by
  obtain ⟨hl, _, ⟨rfl, _⟩ | ⟨b, off, cap, e2, hlc, hcm, hlt, hc⟩⟩ := h
  · simp at hn
  · rw [e2] at e
    simp only [Value.slice.injEq] at e
    obtain ⟨rfl, rfl, rfl⟩ := e
    exact ⟨b, off, rfl, rfl, hlc, hcm, hlt, hc⟩

theorem one_cell {X : World} {b : Nat} {v : Value} {t : TypeId} (h : X.heap[b]? = some (.cells #[v] t)) : X.cell? ⟨b, 0, none⟩ = some v ∧ X.frozen? ⟨b, 0, none⟩ = false := by
  refine ⟨?_, ?_⟩ <;> simp [World.cell?, World.frozen?, h]

set_option maxRecDepth 100000 in
set_option maxHeartbeats 3200000 in
theorem pick_any (S : List (Int × Int)) (L : List Nat) (sa ba : Option Addr) (sc bc : Nat) (z bz bs bb : Nat) (w : World) (hz : w.heap[bz]? = some (.cells #[.int .i64 z] 3)) (hs : w.heap[bs]? = some (.cells #[.slice sa S.length sc] 22))
    (hb : w.heap[bb]? = some (.cells #[.slice ba L.length bc] 51)) (hS : WheelsAt w (.slice sa S.length sc) S) (hL : BytesAt w (.slice ba L.length bc) L) (hS0 : 0 < S.length) (hL0 : 0 < L.length) (hz1 : z ≤ 100000)
    (hsz : ∀ b off, sa = some ⟨b, off, none⟩ → b ≠ bz) (hbz : ∀ b off, ba = some ⟨b, off, none⟩ → b ≠ bz) (n1 : bs ≠ bz) (n2 : bb ≠ bz) :
    Calls Try.prog 54 #[.pointer (some ⟨bz, 0, none⟩), .pointer (some ⟨bs, 0, none⟩), .pointer (some ⟨bb, 0, none⟩)] w
      fun e w' => ∃ x n : _, e = .returned (.int .i64 x) ∧ w' = (w.setCell ⟨bz, 0, none⟩ (.int .i64 ((z + 1 : Nat) : Int))).drewN n := by
  obtain ⟨b1, o1, rfl, _, hx1, hx2, hx3, hxc⟩ := hS.at rfl hS0
  obtain ⟨b2, o2, rfl, _, hy1, hy2, hy3, hyc⟩ := hL.at rfl hL0
  have hne1 := hsz b1 o1 rfl
  have hne2 := hbz b2 o2 rfl
  obtain ⟨z0, zf⟩ := one_cell hz
  obtain ⟨s0, _⟩ := one_cell hs
  obtain ⟨l0, _⟩ := one_cell hb
  obtain ⟨q, hq⟩ : ∃ q, q = (z + 1) % L.length := ⟨_, rfl⟩
  have hql : q < L.length := by rw [hq]; exact Nat.mod_lt _ hL0
  obtain ⟨c, hc⟩ : ∃ c, L.getD q 0 = c := ⟨_, rfl⟩
  have hcb : c ≤ 255 := by rw [← hc]; simp [List.getD, hql]; exact hL.2.1 _ (List.getElem_mem hql)
  obtain ⟨m, hm⟩ : ∃ m, m = c % S.length := ⟨_, rfl⟩
  have hml : m < S.length := by rw [hm]; exact Nat.mod_lt _ hS0
  have k1 := hyc q hql
  rw [hc] at k1
  obtain ⟨k2, _⟩ := hxc m hml
  obtain ⟨x, hx⟩ : ∃ x, (S.getD m (0, 0)).1 = x := ⟨_, rfl⟩
  rw [hx] at k2
  have e1 : ((z : Int) + 1).tmod (L.length : Int) = (q : Int) := by rw [Int.tmod_eq_emod_of_nonneg (by omega), hq, show ((z : Int) + 1) = ((z + 1 : Nat) : Int) by omega]; exact (Int.natCast_emod _ _).symm
  have e2 : (c : Int).tmod (S.length : Int) = (m : Int) := by rw [Int.tmod_eq_emod_of_nonneg (by omega), hm]; exact (Int.natCast_emod _ _).symm
  obtain ⟨W1, hW1⟩ : ∃ W1, W1 = w.setCell ⟨bz, 0, none⟩ (.int .i64 ((z : Int) + 1)) := ⟨_, rfl⟩
  have g0 : W1.cell? ⟨bz, 0, none⟩ = some (.int .i64 ((z : Int) + 1)) := by
    have := heap_set hz 0 (.int .i64 ((z : Int) + 1)); rw [← hW1] at this; simp [World.cell?, this]
  have far : ∀ b o, b ≠ bz → W1.cell? ⟨b, o, none⟩ = w.cell? ⟨b, o, none⟩ := fun b o h => by rw [hW1]; exact World.cell?_of_block (a := ⟨b, o, none⟩) (Below.heap_setCell w _ _ _ h)
  rw [← far _ _ n1] at s0
  rw [← far _ _ n2] at l0
  rw [← far _ _ hne2] at k1
  rw [← far _ _ hne1] at k2
  have j1 : ¬ (L.length : Int) = 0 := by omega
  have j2 : ¬ (S.length : Int) = 0 := by omega
  have j3 : (0 : Int) ≤ (q : Int) := by omega
  have j4 : (q : Int) < (L.length : Int) := by omega
  have j5 : (0 : Int) ≤ (m : Int) := by omega
  have j6 : (m : Int) < (S.length : Int) := by omega
  have j7 : (0 : Int) ≤ (c : Int) := by omega
  have j8 : (c : Int) ≤ 255 := by omega
  have j9 : IntKind.i64.wrap (c : Int) = c := IntWalk.i64_in _ (by omega)
  have j10 : IntKind.i64.wrap (q : Int) = q := IntWalk.i64_in _ (by omega)
  have j11 : IntKind.i64.wrap (m : Int) = m := IntWalk.i64_in _ (by omega)
  have HW := Lib.hid hW1
  have HX := Lib.hid hx
  clear hW1 hq hc hm hx hxc hyc far hz hs hb hS hL hsz hbz n1 n2 hne1 hne2
  go_enter Try.func54, Try.ntmps54
  go_wp2_with fail
  rw [← HW.out]
  go_quiet (fail)
  go_wp2
  go_ret
  exact ⟨x, nq, rfl, by rw [HW.out, show ((z + 1 : Nat) : Int) = (z : Int) + 1 by omega]⟩
end Go.Proofs.Ytoiapnokgpeipaa
