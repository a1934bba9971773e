/- Sound: the walk of SoundOwns. -/
import Derived.Test.YtdbjifpnbghbaaaL4
import Derived.Test.YtdbjifpnbghbaaaG4
namespace Go.Proofs.Ytdbjifpnbghbaaa
set_option linter.unusedSimpArgs false
set_option linter.unusedVariables false
open Go.RowKit Go.Maps Go.BigFrame

/-- what lives through SoundOwns -/
structure OB (l : List Pi) (hs : List He) (S1 : List St) (a : Option Addr) (c : Nat) (b : Option Addr) (d : Nat) (x7 : Option Addr) (k7 : Nat) (x8 : Option Addr) (k8 : Nat) (x11 : Option Addr) (k11 : Nat) (w wr : World) : Prop where
  fb : Below w.heap.size w wr
  fl : TabAt 3 piC wr (.slice a l.length c) l
  fh : TabAt 4 heC wr (.slice b hs.length d) hs
  f7 : TabAt 3 piC wr (.slice x7 l.length k7) l
  f8 : TabAt 4 heC wr (.slice x8 hs.length k8) hs
  f11 : TabAt 3 stC wr (.slice x11 S1.length k11) S1
theorem OB.next {l : List Pi} {hs : List He} {S1 : List St} {a : Option Addr} {c : Nat} {b : Option Addr} {d : Nat} {x7 : Option Addr} {k7 : Nat} {x8 : Option Addr} {k8 : Nat} {x11 : Option Addr} {k11 : Nat} {w wr w' : World} (k : OB l hs S1 a c b d x7 k7 x8 k8 x11 k11 w wr) (hb : Below wr.heap.size wr w') : OB l hs S1 a c b d x7 k7 x8 k8 x11 k11 w w' :=
  ⟨k.fb.trans (hb.mono k.fb.size), k.fl.below hb, k.fh.below hb, k.f7.below hb, k.f8.below hb, k.f11.below hb⟩
theorem nil_own {w : World} {B e k n : Nat} {v : Value} {xs : List Value} (h : w.ownsRow B e k v n xs) : NilOk v := by
  rcases h.2 with ⟨rfl, _⟩ | ⟨g, cap, cur, rfl, _⟩
  · intro n c e; simp only [Value.slice.injEq, true_and] at e; exact ⟨e.1.symm, e.2.symm⟩
  · intro n c e; simp at e
theorem own_pos {w : World} {B e k n m c : Nat} {a : Option Addr} {xs : List Value} (h : w.ownsRow B e k (.slice a m c) n xs) (hn : 0 < n) : ∃ g, a = some ⟨g, 0, none⟩ := by
  rcases h.2 with ⟨_, h0⟩ | ⟨g, cap, cur, e1, _⟩
  · omega
  · simp only [Value.slice.injEq] at e1; exact ⟨g, e1.1⟩
theorem own_addr {w : World} {B e k n m c : Nat} {a : Option Addr} {xs : List Value} (h : w.ownsRow B e k (.slice a m c) n xs) : ∀ b off, a = some ⟨b, off, none⟩ → B ≤ b := by
  intro b off e
  rcases h.2 with ⟨e1, _⟩ | ⟨g, cap, cur, e1, hb, _⟩
  · simp only [Value.slice.injEq] at e1; rw [e1.1] at e; cases e
  · simp only [Value.slice.injEq] at e1; rw [e1.1] at e; cases e; exact hb
theorem own_room {w : World} {B e k n g : Nat} {v : Value} {xs : List Value} (h : w.ownsRow B e k v n xs) (hv : v.ownBlock = some g) : ∃ cur, w.heap[g]? = some (.cells cur e (0, 0)) ∧ n * k ≤ cur.size := by
  rcases h.2 with ⟨rfl, _⟩ | ⟨g', cap, cur, rfl, _, hg, hc, hm, hs, _⟩
  · cases hv
  · have e1 : g' = g := Option.some.inj hv
    subst e1
    exact ⟨cur, hg, by rw [hs]; exact Nat.mul_le_mul_right _ hc⟩
theorem room_cell {w : World} {g i : Nat} {cur : Array Value} {t : TypeId} (h : w.heap[g]? = some (.cells cur t (0, 0))) (hi : i < cur.size) : ∃ u, w.cell? ⟨g, i, none⟩ = some u := ⟨cur[i], by simp [World.cell?, h, hi]⟩
theorem out_own {w : World} {B : Nat} {L : List (Int × Int)} {v : Value} (h : OutS B L v w) : (∃ a c, v = .slice a L.length c) ∧ (∀ g, v.ownBlock = some g → B ≤ g ∧ ∃ cur, w.heap[g]? = some (.cells cur 24 (0, 0)) ∧ L.length * 2 ≤ cur.size) ∧ (0 < L.length → ∃ g c, v = .slice (some ⟨g, 0, none⟩) L.length c) := by
  rcases h with ⟨rfl, rfl⟩ | ⟨R, rfl, hR, hr⟩
  · exact ⟨⟨_, _, rfl⟩, (fun g e => by cases e), (fun h => by simp at h)⟩
  · refine ⟨⟨_, _, rfl⟩, (fun g e => ?_), (fun _ => ⟨_, _, rfl⟩)⟩
    have e1 : R = g := Option.some.inj e
    subst e1
    exact ⟨hR, _, hr, by simp [flat_len]⟩
set_option maxRecDepth 100000 in
set_option maxHeartbeats 12800000 in
theorem owns_law (l : List Pi) (v : Value) (hs : List He) (v2 : Value) (t : Int) (w : World) (hl : TabAt 3 piC w v l) (hh : TabAt 4 heC w v2 hs) (nl : NilOk v) (nh : NilOk v2) : Calls Try.prog 10 #[v, v2, .int .i64 t] w fun e w' => e = .returned (.bool true) ∧ Below w.heap.size w w' := by
  obtain ⟨a, c, rfl⟩ := hl.shape
  obtain ⟨b, d, rfl⟩ := hh.shape
  have ml : l.length ≤ 9223372036854775807 := hl.1
  have mh : hs.length ≤ 9223372036854775807 := hh.1
  have KG := Lib.hid (great_any l (.slice a l.length c) 1073741824 w hl)
  have KA := Lib.hid alive_any
  obtain ⟨g, hg⟩ : ∃ g, greatB l 1073741824 = g := ⟨_, rfl⟩
  rw [hg] at KG
  have HGB := Lib.hid hg
  have HL := Lib.hid hl
  have HH := Lib.hid hh
  have NL := Lib.hid nl
  have NH := Lib.hid nh
  clear hg hl hh nl nh
  go_enter Try.func10, Try.ntmps10
  go_wp2_with (go_at_call 11; fail)
  refine KG.out.mono ?_
  rintro e w2 ⟨rfl, hb2⟩
  have HB2 := Lib.hid hb2
  cases g with
  | true =>
    clear hb2
    go_wp2_with (go_at_call 12; fail)
    refine (KA.out _).mono ?_
    rintro e9 w3 ⟨rfl, hbz⟩
    go_wp2
    go_ret
    exact ⟨rfl, HB2.out.trans (hbz.mono HB2.out.size)⟩
  | false =>
  by_cases h12 : 12 < hs.length
  · have g1 : (12 : Int) < (hs.length : Int) := by omega
    clear hb2
    go_wp2_with (go_at_call 12; fail)
    refine (KA.out _).mono ?_
    rintro e9 w3 ⟨rfl, hbz⟩
    go_wp2
    go_ret
    exact ⟨rfl, HB2.out.trans (hbz.mono HB2.out.size)⟩
  · have g1 : decide ((12 : Int) < (hs.length : Int)) = false := decide_eq_false (by omega)
    have g1b : decide (12 < hs.length) = false := decide_eq_false h12
    have g1c : ¬ (12 : Int) < (hs.length : Int) := by omega
    have hl12 : l.length ≤ 12 := by
      have := HGB.out
      unfold greatB at this
      simp only [Bool.or_eq_false_iff, decide_eq_false_iff_not] at this
      omega
    have hl2 := HL.out.below hb2
    have hh2 := HH.out.below hb2
    obtain ⟨g7, hg7⟩ : ∃ x, w2.heap.size = x := ⟨_, rfl⟩
    obtain ⟨W1, hW1⟩ : ∃ X, w2.alloc (.cells #[] 59) = X := ⟨_, rfl⟩
    have hb1 : Below w2.heap.size w2 W1 := by rw [← hW1]; exact (Below.refl _ _).alloc (Nat.le_refl _) _
    have h1 : W1.ownsRow w2.heap.size 59 3 (.slice (some ⟨g7, 0, none⟩) 0 0) 0 [] := by rw [← hW1, ← hg7]; exact World.ownsRow_lit w2 #[] 0 (Nat.le_refl _) (by decide) rfl
    obtain ⟨p7, W1', hrun1, ho1, hgr1⟩ := run_copyT 22 22 59 3 24 _ piC Try.underlying22 Try.info59 rfl (by decide) (by decide) w2.heap.size g7 h1 (hl2.below hb1) NL.out (by omega) hb1.size
    have hb1' := hb1.grown hgr1 hb1.size (fun q hq => by cases hq; omega)
    obtain ⟨g8, hg8⟩ : ∃ x, W1'.heap.size = x := ⟨_, rfl⟩
    obtain ⟨W2, hW2⟩ : ∃ X, W1'.alloc (.cells #[] 26) = X := ⟨_, rfl⟩
    have hbg : Below W1'.heap.size W1' W2 := by rw [← hW2]; exact (Below.refl _ _).alloc (Nat.le_refl _) _
    have hbW2 := hb1'.trans (hbg.mono hb1'.size)
    have h2 : W2.ownsRow w2.heap.size 26 4 (.slice (some ⟨g8, 0, none⟩) 0 0) 0 [] := by rw [← hW2, ← hg8]; exact World.ownsRow_lit W1' #[] 0 hb1'.size (by decide) rfl
    obtain ⟨p8, X, hrun2, ho2, hgr2⟩ := run_copyT 37 37 26 4 32 _ heC Try.underlying37 Try.info26 rfl (by decide) (by decide) w2.heap.size g8 h2 (hh2.below hbW2) NH.out (by omega) hbW2.size
    have hbX := hbW2.grown hgr2 hbW2.size (fun q hq => (h2.lt q hq).1)
    have ho1X := (row_below ho1 hbg).kept hgr2 (own_apart (row_below ho1 hbg) h2 (by decide))
    have t7 := tab_of_own ho1X rfl (by unfold maxLen; omega)
    have t8 := tab_of_own ho2 rfl (by unfold maxLen; omega)
    obtain ⟨x7, k7, rfl⟩ := t7.shape
    obtain ⟨x8, k8, rfl⟩ := t8.shape
    have tl := hl2.below hbX
    have th := hh2.below hbX
    have HBX := Lib.hid (HB2.out.trans (hbX.mono HB2.out.size))
    have TX := Lib.hid (And.intro tl (And.intro th (And.intro t7 t8)))
    have KW := Lib.hid (Where_any l (.slice a l.length c) hs (.slice b hs.length d) X tl th)
    have KW2 := Lib.hid (fun Y hY hZ => Where_any l (.slice a l.length c) hs (.slice b hs.length d) Y hY hZ)
    obtain ⟨⟨S1, re⟩, hS⟩ : ∃ r, whereF l hs = r := ⟨_, rfl⟩
    have HFEW := Lib.hid (show S1.length ≤ 1000 by
      have h1 : (whereF l hs).1.length ≤ 12 := by
        unfold whereF
        split
        · split
          · split
            · simp only []
              split
              · simp
              · have := strUp_few l (cutF (0, endF l) (allowedF l hs)) l.length
                simp only []; omega
            · simp
          · simp
        · simp
      rw [hS] at h1
      simp only [] at h1
      omega)
    rw [hS] at KW KW2
    unfold WhereR at KW KW2
    simp only [] at KW KW2
    clear hb2 hl2 hh2 hb1 h1 ho1 hgr1 hb1' hbg hbW2 h2 ho2 hgr2 hbX ho1X t7 t8 tl th hS HGB
    go_wp2_with (first | (at_builtin; refine wpList_append_run rfl _ _ 22 rfl rfl rfl hrun1 ?_) | (at_builtin; refine wpList_append_run rfl _ _ 37 rfl rfl rfl hrun2 ?_) | (go_at_call 18; fail))
    clear hrun1 hrun2 hW1 hW2 hg7 hg8
    refine KW.out.mono ?_
    rintro e w5 ⟨v9, rfl, ho, hb5⟩
    obtain ⟨a9, c9, rfl⟩ := out_len ho
    have ho' : w5.ownsRow X.heap.size 49 3 (.slice a9 S1.length c9) S1.length (flatK 3 stC S1) := ho
    obtain ⟨g11, hg11⟩ : ∃ x, w5.heap.size = x := ⟨_, rfl⟩
    obtain ⟨W3, hW3⟩ : ∃ X, w5.alloc (.cells #[] 49) = X := ⟨_, rfl⟩
    have hb3 : Below w5.heap.size w5 W3 := by rw [← hW3]; exact (Below.refl _ _).alloc (Nat.le_refl _) _
    have h3 : W3.ownsRow w5.heap.size 49 3 (.slice (some ⟨g11, 0, none⟩) 0 0) 0 [] := by rw [← hW3, ← hg11]; exact World.ownsRow_lit w5 #[] 0 (Nat.le_refl _) (by decide) rfl
    obtain ⟨p11, Y, hrun3, ho3, hgr3⟩ := run_copyT 38 38 49 3 24 _ stC Try.underlying38 Try.info49 rfl (by decide) (by decide) w5.heap.size g11 h3 ((outT_tab ho HFEW.out).below hb3) (nil_own ho') HFEW.out hb3.size
    have hb35 := hb3.grown hgr3 hb3.size (fun q hq => by cases hq; omega)
    have ho9 := row_below ho' hb35
    have t11 := tab_of_own ho3 rfl (by have := HFEW.out; unfold maxLen; omega)
    obtain ⟨x11, k11, rfl⟩ := t11.shape
    have hbXY := hb5.trans (hb35.mono hb5.size)
    have HR9 := Lib.hid (fun g (hg : (Value.slice a9 S1.length c9).ownBlock = some g) => And.intro (ho'.lt g hg).1 (And.intro (ho'.lt g hg).2 (own_room ho9 hg)))
    have HP9 := Lib.hid (fun (h : 0 < S1.length) => own_pos ho9 h)
    have H11 := Lib.hid (And.intro t11 (own_addr ho3))
    have HXY := Lib.hid hbXY
    clear ho ho' hb5 hb3 h3 ho3 hgr3 hb35 ho9 t11 hbXY KW
    go_wp2_with (at_builtin; refine wpList_append_run rfl _ _ 38 rfl rfl rfl hrun3 ?_)
    clear hrun3 hW3 hg11
    go_loopw [45] (fun i wr => ∃ j : Nat, j ≤ S1.length ∧ i = .int .i64 j ∧ OnlyE (fun k => (Value.slice a9 S1.length c9).ownBlock = some k) Y wr ∧ (∀ k, (Value.slice a9 S1.length c9).ownBlock = some k → ∃ cur, wr.heap[k]? = some (.cells cur 49 (0, 0)) ∧ S1.length * 3 ≤ cur.size)) (fun i _ => S1.length - (intOf i).toNat)
    case atStart => exact ⟨0, by omega, rfl, OnlyE.refl _ _, fun k hk => (HR9.out k hk).2.2⟩
    case round =>
      obtain ⟨j, hj, rfl, hoe, hrm⟩ := hrel
      by_cases hlt : j < S1.length
      · obtain ⟨R, e1⟩ := HP9.out (by omega)
        subst e1
        obtain ⟨cur, hcur, hsz⟩ := hrm R rfl
        obtain ⟨u, hu⟩ := room_cell hcur (i := j * 3 + 1) (by omega)
        have fz : wr.frozen? ⟨R, j * 3 + 1, none⟩ = false := frozen_of hcur
        have hz := heap_setCell_same wr R (j * 3 + 1) _ 49 (.int .i64 (-1)) hcur
        have HII := Lib.hid (show OnlyE (fun k => (Value.slice (some ⟨R, 0, none⟩) S1.length c9).ownBlock = some k) Y (wr.setCell ⟨R, j * 3 + 1, none⟩ (.int .i64 (-1))) ∧ (∀ k, (Value.slice (some ⟨R, 0, none⟩) S1.length c9).ownBlock = some k → ∃ cur, (wr.setCell ⟨R, j * 3 + 1, none⟩ (.int .i64 (-1))).heap[k]? = some (.cells cur 49 (0, 0)) ∧ S1.length * 3 ≤ cur.size) from
          ⟨hoe.set (b := R) rfl _, fun k hk => by
            have e2 : R = k := Option.some.inj hk
            subst e2
            exact ⟨_, hz, by simpa using hsz⟩⟩)
        have ij0 : (0 : Int) ≤ (j : Int) := by omega
        have ij1 : (j : Int) < (S1.length : Int) := Int.ofNat_lt.2 hlt
        have w1 : IntKind.i64.wrap ((j : Int) + 1) = (j : Int) + 1 := IntWalk.i64_in _ (by have := HFEW.out; omega)
        clear hoe hrm hcur hsz hz
        go_wp2
        go_roundw
        case rel => exact ⟨j + 1, by omega, by go_num, HII.out⟩
        case measure => simp [intOf]; omega
      · have i1 : ¬ (j : Int) < (S1.length : Int) := by omega
        have hbw : Below X.heap.size X wr := HXY.out.trans (hoe.below HXY.out.size (fun k hk => (HR9.out k hk).1))
        have t11 : TabAt 3 stC wr (.slice x11 S1.length k11) S1 := H11.out.1.keep hoe.keep (fun hp b' off e he => by
          have h1 := (HR9.out b' he).2.1
          have := H11.out.2 b' off e
          omega)
        have OC := Lib.hid (show OB l hs S1 a c b d x7 k7 x8 k8 x11 k11 w wr from ⟨HBX.out.trans (hbw.mono HBX.out.size), TX.out.1.below hbw, TX.out.2.1.below hbw, TX.out.2.2.1.below hbw, TX.out.2.2.2.below hbw, t11⟩)
        clear hoe hrm hbw t11 HR9 HP9 H11 HXY TX HBX HL HH NL NH HB2
        go_upto_if 55 with fail
        go_cut [] (fun wx => OB l hs S1 a c b d x7 k7 x8 k8 x11 k11 w wx)
        case first =>
          by_cases hp : 0 < hs.length
          · have hp' : (0 : Int) < (hs.length : Int) := by omega
            obtain ⟨lb, lo', e1, hlb, hlx⟩ := OC.out.fh.at hp
            subst e1
            have x0 := hlx 0 hp 0 (by omega)
            have x1 := hlx 0 hp 1 (by omega)
            have x2 := hlx 0 hp 2 (by omega)
            have x3 := hlx 0 hp 3 (by omega)
            obtain ⟨⟨q0, q1, q2, q3⟩, hz⟩ : ∃ z, hs.getD 0 default = z := ⟨_, rfl⟩
            rw [hz, Nat.zero_mul, Nat.add_zero] at x0 x1 x2 x3
            simp only [heC, Nat.add_zero] at x0 x1 x2 x3
            have KT := Lib.hid (Tune_any l (.slice a l.length c) t ⟨q0, q1, q2, q3⟩ wr OC.out.fl)
            unfold TuneR heV at KT
            simp only [] at KT
            obtain ⟨⟨S2, re2⟩, hT⟩ : ∃ r, tuneR l t ⟨q0, q1, q2, q3⟩ = r := ⟨_, rfl⟩
            rw [hT] at KT
            simp only [] at KT
            have hS2 : S2.length ≤ 1000 := by
              have h1 : (tuneR l t ⟨q0, q1, q2, q3⟩).1.length ≤ 12 := by
                unfold tuneR
                split
                · split
                  · split
                    · simp
                    · simp [slowsF, tunedF_len]; omega
                  · simp
                · simp
              rw [hT] at h1
              simp only [] at h1
              omega
            have HS2 := Lib.hid hS2
            clear hlx hlb hz hT hS2
            go_wp2_with (go_at_call 15; fail)
            refine KT.out.mono ?_
            rintro e w6 ⟨v13, rfl, ho, hb6⟩
            obtain ⟨⟨a13, c13, rfl⟩, hrm0, hpos⟩ := out_own ho
            have HB6 := Lib.hid hb6
            have HR13 := Lib.hid (fun g (hg : (Value.slice a13 S2.length c13).ownBlock = some g) => (hrm0 g hg))
            have HP13 := Lib.hid hpos
            clear ho hb6 hrm0 hpos x0 x1 x2 x3 KT
            go_wp2_with fail
            go_loopw [67] (fun i wr2 => ∃ j : Nat, j ≤ S2.length ∧ i = .int .i64 j ∧ OnlyE (fun k => (Value.slice a13 S2.length c13).ownBlock = some k) w6 wr2 ∧ (∀ k, (Value.slice a13 S2.length c13).ownBlock = some k → ∃ cur, wr2.heap[k]? = some (.cells cur 24 (0, 0)) ∧ S2.length * 2 ≤ cur.size)) (fun i _ => S2.length - (intOf i).toNat)
            case atStart => exact ⟨0, by omega, rfl, OnlyE.refl _ _, fun k hk => (HR13.out k hk).2⟩
            case round =>
              obtain ⟨j, hj, rfl, hoe, hrm⟩ := hrel
              by_cases hlt : j < S2.length
              · obtain ⟨R, c', e1⟩ := HP13.out (by omega)
                simp only [Value.slice.injEq, true_and] at e1
                obtain ⟨rfl, rfl⟩ := e1
                obtain ⟨cur, hcur, hsz⟩ := hrm R rfl
                obtain ⟨u, hu⟩ := room_cell hcur (i := j * 2) (by omega)
                have fz : wr.frozen? ⟨R, j * 2, none⟩ = false := frozen_of hcur
                have hz := heap_setCell_same wr R (j * 2) _ 24 (.int .i64 (-1)) hcur
                have HII := Lib.hid (show OnlyE (fun k => (Value.slice (some ⟨R, 0, none⟩) S2.length c13).ownBlock = some k) w6 (wr.setCell ⟨R, j * 2, none⟩ (.int .i64 (-1))) ∧ (∀ k, (Value.slice (some ⟨R, 0, none⟩) S2.length c13).ownBlock = some k → ∃ cur, (wr.setCell ⟨R, j * 2, none⟩ (.int .i64 (-1))).heap[k]? = some (.cells cur 24 (0, 0)) ∧ S2.length * 2 ≤ cur.size) from
                  ⟨hoe.set (b := R) rfl _, fun k hk => by
                    have e2 : R = k := Option.some.inj hk
                    subst e2
                    exact ⟨_, hz, by simpa using hsz⟩⟩)
                have ij0 : (0 : Int) ≤ (j : Int) := by omega
                have ij1 : (j : Int) < (S2.length : Int) := Int.ofNat_lt.2 hlt
                have w1 : IntKind.i64.wrap ((j : Int) + 1) = (j : Int) + 1 := IntWalk.i64_in _ (by have := HS2.out; omega)
                clear hoe hrm hcur hsz hz
                go_wp2
                go_roundw
                case rel => exact ⟨j + 1, by omega, by go_num, HII.out⟩
                case measure => simp [intOf]; omega
              · have i1 : ¬ (j : Int) < (S2.length : Int) := by omega
                have hbw := HB6.out.trans (hoe.below HB6.out.size (fun k hk => (HR13.out k hk).1))
                have OD := Lib.hid (OC.out.next hbw)
                clear hoe hrm hbw
                go_wp2
                go_meet
                case rel => exact OD.out
          · have hp' : decide ((0 : Int) < (hs.length : Int)) = false := decide_eq_false (by omega)
            have hp'' : ¬ (0 : Int) < (hs.length : Int) := by omega
            go_wp2
            go_meet
            case rel => exact OC.out
        case rest =>
          have OE := Lib.hid hcut
          clear hcut OC
          have K13 := Lib.hid (fun Y hY => Lag_any l (.slice a l.length c) 0 1 0 Y hY)
          obtain ⟨⟨⟨r0, r1⟩, r2⟩, hr⟩ : ∃ r, lagR l 0 1 0 = r := ⟨_, rfl⟩
          rw [hr] at K13
          unfold LagR at K13
          simp only [] at K13
          clear hr
          obtain ⟨wd, hwd⟩ : ∃ X : World, X = wc := ⟨_, rfl⟩
          rw [← hwd] at OE ⊢
          clear hwd
          have Kw := Lib.hid (K13.out wd OE.out.fl)
          go_wp2_with (go_at_call 13; fail)
          refine Kw.out.mono ?_
          rintro e w7 ⟨rfl, hb⟩
          have O7 := Lib.hid (OE.out.next hb)
          clear hb Kw K13 OE
          have Kw := Lib.hid (KW2.out w7 O7.out.fl O7.out.fh)
          go_wp2_with (go_at_call 18; fail)
          refine Kw.out.mono ?_
          rintro e w8 ⟨v16, rfl, ho, hb⟩
          obtain ⟨a16, c16, rfl⟩ := out_len ho
          have O8 := Lib.hid (And.intro (O7.out.next hb) (outT_tab ho HFEW.out))
          clear hb ho Kw KW2 O7
          go_wp2_with fail
          go_loopw [85] (fun i wr => ∃ j : Nat, j ≤ l.length ∧ i = .int .i64 j ∧ OB l hs S1 a c b d x7 k7 x8 k8 x11 k11 w wr ∧ TabAt 3 stC wr (.slice a16 S1.length c16) S1) (fun i _ => l.length - (intOf i).toNat)
          case atStart => exact ⟨0, by omega, rfl, O8.out⟩
          case round =>
            obtain ⟨j, hj, rfl, how⟩ := hrel
            have HO := Lib.hid how
            clear how
            by_cases hlt : j < l.length
            · obtain ⟨lb, lo, e1, hlb, hlx⟩ := HO.out.1.f7.at (by omega)
              subst e1
              obtain ⟨lb2, lo2, e2, hlb2, hlx2⟩ := HO.out.1.fl.at (by omega)
              subst e2
              have x0 := hlx j hlt 0 (by omega)
              have u0 := hlx2 j hlt 0 (by omega)
              have x1 := hlx j hlt 1 (by omega)
              have u1 := hlx2 j hlt 1 (by omega)
              have x2 := hlx j hlt 2 (by omega)
              have u2 := hlx2 j hlt 2 (by omega)
              obtain ⟨⟨t0, t1, t2⟩, hrow⟩ : ∃ x : Pi, l.getD j default = x := ⟨_, rfl⟩
              rw [hrow] at x0 u0 x1 u1 x2 u2
              simp only [Nat.add_zero, piC] at x0 u0 x1 u1 x2 u2
              have ij0 : (0 : Int) ≤ (j : Int) := by omega
              have ij1 : (j : Int) < (l.length : Int) := Int.ofNat_lt.2 hlt
              have w1 : IntKind.i64.wrap ((j : Int) + 1) = (j : Int) + 1 := IntWalk.i64_in _ (by omega)
              clear hrow hlx hlx2 hlb hlb2
              go_upto_region 23 with fail
              have k0 := cell_regrown x0
              have k1 := cell_regrown x1
              have k2 := cell_regrown x2
              have k3 := cell_regrown u0
              have k4 := cell_regrown u1
              have k5 := cell_regrown u2
              clear x0 x1 x2 u0 u1 u2
              refine wp_region_quiet_below (by kernel_rfl) (by kernel_rfl) ?_
              repeat (go_big_quiet_step (fail))
              refine wpQuiet_nil ?_
              intro Y hw'
              have hbr : Below wr.heap.size wr Y := by obtain ⟨⟨dq, osq⟩, hw''⟩ := hw'; rw [hw'']; exact below_regrown wr dq osq
              clear hw' k0 k1 k2 k3 k4 k5
              have HOY := Lib.hid (And.intro (HO.out.1.next hbr) (HO.out.2.below hbr))
              clear hbr
              go_wp2
              go_roundw
              case rel => exact ⟨j + 1, by omega, by go_num, HOY.out⟩
              case measure => simp [intOf]; omega
            · have i1 : ¬ (j : Int) < (l.length : Int) := by omega
              have hjl : j = l.length := by omega
              have HP1 := HO
              go_wp2_with fail
              clear HO hjl i1 hlt hj
              go_loopw [100] (fun i wr => ∃ j : Nat, j ≤ hs.length ∧ i = .int .i64 j ∧ OB l hs S1 a c b d x7 k7 x8 k8 x11 k11 w wr ∧ TabAt 3 stC wr (.slice a16 S1.length c16) S1) (fun i _ => hs.length - (intOf i).toNat)
              case atStart => exact ⟨0, by omega, rfl, HP1.out⟩
              case round =>
                obtain ⟨j, hj, rfl, how⟩ := hrel
                have HO := Lib.hid how
                clear how
                by_cases hlt : j < hs.length
                · obtain ⟨lb, lo, e1, hlb, hlx⟩ := HO.out.1.f8.at (by omega)
                  subst e1
                  obtain ⟨lb2, lo2, e2, hlb2, hlx2⟩ := HO.out.1.fh.at (by omega)
                  subst e2
                  have x0 := hlx j hlt 0 (by omega)
                  have u0 := hlx2 j hlt 0 (by omega)
                  have x1 := hlx j hlt 1 (by omega)
                  have u1 := hlx2 j hlt 1 (by omega)
                  have x2 := hlx j hlt 2 (by omega)
                  have u2 := hlx2 j hlt 2 (by omega)
                  have x3 := hlx j hlt 3 (by omega)
                  have u3 := hlx2 j hlt 3 (by omega)
                  obtain ⟨⟨t0, t1, t2, t3⟩, hrow⟩ : ∃ x : He, hs.getD j default = x := ⟨_, rfl⟩
                  rw [hrow] at x0 u0 x1 u1 x2 u2 x3 u3
                  simp only [Nat.add_zero, heC] at x0 u0 x1 u1 x2 u2 x3 u3
                  have ij0 : (0 : Int) ≤ (j : Int) := by omega
                  have ij1 : (j : Int) < (hs.length : Int) := Int.ofNat_lt.2 hlt
                  have w1 : IntKind.i64.wrap ((j : Int) + 1) = (j : Int) + 1 := IntWalk.i64_in _ (by omega)
                  clear hrow hlx hlx2 hlb hlb2
                  go_upto_region 29 with fail
                  have k0 := cell_regrown x0
                  have k1 := cell_regrown x1
                  have k2 := cell_regrown x2
                  have k3 := cell_regrown x3
                  have k4 := cell_regrown u0
                  have k5 := cell_regrown u1
                  have k6 := cell_regrown u2
                  have k7 := cell_regrown u3
                  clear x0 x1 x2 x3 u0 u1 u2 u3
                  refine wp_region_quiet_below (by kernel_rfl) (by kernel_rfl) ?_
                  repeat (go_big_quiet_step (fail))
                  refine wpQuiet_nil ?_
                  intro Y hw'
                  have hbr : Below wr.heap.size wr Y := by obtain ⟨⟨dq, osq⟩, hw''⟩ := hw'; rw [hw'']; exact below_regrown wr dq osq
                  clear hw' k0 k1 k2 k3 k4 k5 k6 k7
                  have HOY := Lib.hid (And.intro (HO.out.1.next hbr) (HO.out.2.below hbr))
                  clear hbr
                  go_wp2
                  go_roundw
                  case rel => exact ⟨j + 1, by omega, by go_num, HOY.out⟩
                  case measure => simp [intOf]; omega
                · have i1 : ¬ (j : Int) < (hs.length : Int) := by omega
                  have hjl : j = hs.length := by omega
                  have KS := Lib.hid (Stretches_any S1 S1 _ _ wr HO.out.2 HO.out.1.f11)
                  go_wp2_with (go_at_call 20; fail)
                  refine KS.out.mono ?_
                  rintro e w9 ⟨rfl, hb⟩
                  have HB9 := Lib.hid (HO.out.1.fb.trans (hb.mono HO.out.1.fb.size))
                  have hde : decide (S1 = S1) = true := decide_eq_true rfl
                  clear hb KS
                  go_wp2_with (go_at_call 12; fail)
                  refine (KA.out _).mono ?_
                  rintro e w10 ⟨rfl, hbz⟩
                  go_wp2
                  go_ret
                  exact ⟨rfl, HB9.out.trans (hbz.mono HB9.out.size)⟩
end Go.Proofs.Ytdbjifpnbghbaaa
