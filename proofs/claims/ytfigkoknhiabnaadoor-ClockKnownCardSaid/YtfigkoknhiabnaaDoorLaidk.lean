/-
  ClockKnown's walk, as its card wants it.
-/
import Derived.Test.YtfigkoknhiabnaaDoorLk
namespace Go.Proofs.YtfigkoknhiabnaaDoor
open Go.ChangeShapes Go.WideShapes Go.ChangeAt Go.RowKit

theorem walkClockKnown (W : World) (henv : Env W.heap.size W) : Calls Tryd.prog 6 #[] W fun e w' => e = .returned (.bool true) ∧ Below W.heap.size W w' := law_known W henv
end Go.Proofs.YtfigkoknhiabnaaDoor
