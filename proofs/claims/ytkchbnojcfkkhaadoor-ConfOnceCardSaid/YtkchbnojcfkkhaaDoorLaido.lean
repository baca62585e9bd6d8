/-
  The law ConfOnce's walk of stage 5, as its card wants it.
-/
import Derived.Test.YtkchbnojcfkkhaaDoorLaid
import Derived.Test.YtkchbnojcfkkhaaDoorLd
namespace Go.Proofs.YtkchbnojcfkkhaaDoor
open Go.ChangeShapes Go.WideShapes Go.ChangeAt Go.RowKit Go.Cg

theorem walkConfOnce (c : Cfg) (W : World) (_ : CfgWf c) (henv : EnvC W.heap.size W) : Calls Tryd.prog 6 #[cVal c] W fun e w' => e = .returned (.bool true) ∧ Below W.heap.size W w' := law_once c W henv
end Go.Proofs.YtkchbnojcfkkhaaDoor
