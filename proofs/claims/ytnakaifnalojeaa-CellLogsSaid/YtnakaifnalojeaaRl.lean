/- CellLogs' walk, as its statement wants it. -/
import Derived.Test.YtnakaifnalojeaaLaid
import Derived.Test.YtnakaifnalojeaaIn
import Derived.Test.YtnakaifnalojeaaLg
namespace Go.Proofs.Ytnakaifnalojeaa
open Go.RowKit Go.Ce

theorem walkCellLogs (n : Int) (pa : Option Addr) (la ca : Nat) (xs : List Acc) (cut : Int) (W : World) (_ : (Lit.int .i64 n).wf = true) (h1 : IsAccs W pa la ca xs) (hc : (Lit.int .u8 cut).wf = true) : Calls Try.prog 5 #[.int .i64 n, .slice pa la ca, .int .u8 cut] W fun e w' => e = .returned (.bool true) ∧ Below W.heap.size W w' := by
  rw [h1.len]
  have hb : 0 ≤ cut ∧ cut ≤ 255 := by
    have h : IntKind.u8.min ≤ cut ∧ cut ≤ IntKind.u8.max := by simpa [Lit.wf] using hc
    have e1 : IntKind.u8.min = 0 := by decide
    have e2 : IntKind.u8.max = 255 := by decide
    omega
  exact logs_any n cut hb pa ca xs W h1.lies
end Go.Proofs.Ytnakaifnalojeaa
