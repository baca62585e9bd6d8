/- The laws' walks, as their statements want them. -/
import Derived.Test.YteijfgckeipkhaaLaid
import Derived.Test.YteijfgckeipkhaaLd
namespace Go.Proofs.Yteijfgckeipkhaa
open Go.RowKit

theorem walkStrideOnce (n d st by' : Int) (W : World) (h0 : (Lit.int .i64 n).wf = true) (h1 : (Lit.int .i64 d).wf = true) (_ : (Lit.int .i64 st).wf = true) (_ : (Lit.int .i64 by').wf = true) :
    Calls Try.prog 5 #[.int .i64 n, .int .i64 d, .int .i64 st, .int .i64 by'] W fun e w' => e = .returned (.bool true) ∧ Below W.heap.size W w' :=
  law_once n d st by' (wf_i64 h0).1 (wf_i64 h0).2 (wf_i64 h1).1 (wf_i64 h1).2 W
end Go.Proofs.Yteijfgckeipkhaa
