/- A slice that came in and is nil has no cells. -/
import Derived.Test.YtmcndecmnfbggaaE2
import Derived.Test.YtmcndecmnfbggaaD32
namespace Go.Proofs.Ytmcndecmnfbggaa
open Go.ChangeShapes Go.WideShapes Go.ChangeAt Go.RowKit
set_option maxRecDepth 100000 in
theorem nilOk_24 {W : World} {v : Value} (hok : Value.okWide Try.prog W .any 0 24 v) : NilOk v := by
  intro n c e
  subst e
  simp only [Value.okWide, Try.underlying24, Cell.okWide, Cell.ok] at hok
  cases n <;> cases c <;> simp_all
end Go.Proofs.Ytmcndecmnfbggaa
