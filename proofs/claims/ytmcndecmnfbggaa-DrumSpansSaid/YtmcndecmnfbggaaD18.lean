/- Contract: with, whatever moves. -/
import Derived.Test.YtmcndecmnfbggaaD16
import Derived.Test.YtmcndecmnfbggaaD17
namespace Go.Proofs.Ytmcndecmnfbggaa
set_option linter.unusedSimpArgs false
open Go.RowKit

theorem with_any (s : St) (d f wi : Int) (w : World) (Bw b off n c : Nat) (hB : w.cell? ⟨Bw, 0, none⟩ = some (.int .i64 wi)) (hw : 0 ≤ wi ∧ wi ≤ 999) (hf9 : 0 ≤ f ∧ f ≤ 9)
    (hf : w.cell? ⟨b, off + s.drum.toNat, none⟩ = some (.int .i64 f)) (hd : 0 ≤ d ∧ d ≤ 9) (hn : 0 ≤ s.drum ∧ s.drum < n) (hdr : s.drum ≤ 1000) (hlo : 0 ≤ s.lo ∧ s.lo ≤ 999) (hhi : 0 ≤ s.hi ∧ s.hi ≤ 999) (hsz : 0 ≤ s.size ∧ s.size ≤ 100000000000) (hdg : 0 ≤ s.digits ∧ s.digits ≤ 100000000000) :
    Calls Try.prog 66 #[readV (.slice (some ⟨b, off, none⟩) n c) Bw, s.val, .int .i64 d] w fun e w' => e = .returned (withV (withS wi s d f)) ∧ Below w.heap.size w w' := by
  obtain ⟨dr, sz, dg, lo, hi, mv⟩ := s
  cases mv with
  | true => exact with_true dr sz dg lo hi d f wi w Bw b off n c hB hw hf9 hf hd hn hdr hlo hhi hsz hdg
  | false => exact with_false dr sz dg lo hi d f wi w Bw b off n c hB hw hf9 hf hd hn hdr hlo hhi hsz hdg
end Go.Proofs.Ytmcndecmnfbggaa
