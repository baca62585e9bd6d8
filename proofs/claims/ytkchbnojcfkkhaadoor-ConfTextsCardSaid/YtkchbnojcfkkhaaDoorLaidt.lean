/-
  The law ConfTexts' walk of stage 5, as its card wants it.
-/
import Derived.Test.YtkchbnojcfkkhaaDoorLaid
import Derived.Test.YtkchbnojcfkkhaaDoorLc
namespace Go.Proofs.YtkchbnojcfkkhaaDoor
open Go.ChangeShapes Go.WideShapes Go.ChangeAt Go.RowKit Go.Cg

theorem walkConfTexts (c : Cfg) (s : ByteArray) (W : World) (_ : CfgWf c) (hs : s.size ≤ maxLen) (henv : EnvR W.heap.size W) : Calls Tryd.prog 5 #[cVal c, .string s] W fun e w' => e = .returned (.bool true) ∧ Below W.heap.size W w' := law_texts c s (by unfold maxLen at hs; exact hs) W henv
end Go.Proofs.YtkchbnojcfkkhaaDoor
