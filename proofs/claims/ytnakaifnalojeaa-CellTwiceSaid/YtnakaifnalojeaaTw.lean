/- CellTwice's walk, as its statement wants it. -/
import Derived.Test.YtnakaifnalojeaaLaid
import Derived.Test.YtnakaifnalojeaaLb
namespace Go.Proofs.Ytnakaifnalojeaa
open Go.RowKit

theorem walkCellTwice (was old a b : Int) (W : World) (h0 : (Lit.int .u64 was).wf = true) (h1 : (Lit.int .u64 old).wf = true) (h2 : (Lit.int .u64 a).wf = true) (h3 : (Lit.int .u64 b).wf = true) : Calls Try.prog 6 #[.int .u64 was, .int .u64 old, .int .u64 a, .int .u64 b] W fun e w' => e = .returned (.bool true) ∧ Below W.heap.size W w' := twice_any was old a b W
end Go.Proofs.Ytnakaifnalojeaa
