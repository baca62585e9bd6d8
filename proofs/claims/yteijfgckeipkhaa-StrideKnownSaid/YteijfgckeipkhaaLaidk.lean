/- The closed law's walk, as its statement wants it. -/
import Derived.Test.YteijfgckeipkhaaLaid
import Derived.Test.YteijfgckeipkhaaLe
namespace Go.Proofs.Yteijfgckeipkhaa
open Go.RowKit

theorem walkStrideKnown (W : World) : Calls Try.prog 6 #[] W fun e w' => e = .returned (.bool true) ∧ Below W.heap.size W w' := law_known W
end Go.Proofs.Yteijfgckeipkhaa
