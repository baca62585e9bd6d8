/- The closed law's walk, as its card wants it. -/
import Derived.Test.YtpeikhoepbkggaaDoorLaid
import Derived.Test.YtpeikhoepbkggaaDoorLd
namespace Go.Proofs.YtpeikhoepbkggaaDoor
open Go.RowKit

theorem walkWordKnown (W : World) (henv : Env W.heap.size W) : Calls Tryd.prog 6 #[] W fun e w' => e = .returned (.bool true) ∧ Below W.heap.size W w' := law_known W henv
end Go.Proofs.YtpeikhoepbkggaaDoor
