/- CellKnown's walk, as its statement wants it. -/
import Derived.Test.YtnakaifnalojeaaLaid
import Derived.Test.YtnakaifnalojeaaLr
namespace Go.Proofs.Ytnakaifnalojeaa
open Go.RowKit Go.Ce

theorem walkCellKnown (W : World) : Calls Try.prog 7 #[] W fun e w' => e = .returned (.bool true) ∧ Below W.heap.size W w' := known_any W
end Go.Proofs.Ytnakaifnalojeaa
