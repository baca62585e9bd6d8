/-
  The law ConfKnown's walk of stage 5, as its card wants it.
-/
import Derived.Test.YtkchbnojcfkkhaaDoorLaid
import Derived.Test.YtkchbnojcfkkhaaDoorLe
namespace Go.Proofs.YtkchbnojcfkkhaaDoor
open Go.ChangeShapes Go.WideShapes Go.ChangeAt Go.RowKit Go.Cg

theorem walkConfKnown (W : World) (henv : EnvR W.heap.size W) : Calls Tryd.prog 7 #[] W fun e w' => e = .returned (.bool true) ∧ Below W.heap.size W w' := law_known W henv
end Go.Proofs.YtkchbnojcfkkhaaDoor
