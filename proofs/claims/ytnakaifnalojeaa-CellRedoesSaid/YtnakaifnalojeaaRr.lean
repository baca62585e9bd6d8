/- CellRedoes' walk, as its statement wants it. -/
import Derived.Test.YtnakaifnalojeaaLaid
import Derived.Test.YtnakaifnalojeaaIn
import Derived.Test.YtnakaifnalojeaaLe
namespace Go.Proofs.Ytnakaifnalojeaa
open Go.RowKit Go.Ce

theorem walkCellRedoes (n : Int) (pa : Option Addr) (la ca : Nat) (xs : List Acc) (pb : Option Addr) (lb cb : Nat) (ys : List Acc) (W : World) (_ : (Lit.int .i64 n).wf = true) (h1 : IsAccs W pa la ca xs) (h2 : IsAccs W pb lb cb ys) : Calls Try.prog 4 #[.int .i64 n, .slice pa la ca, .slice pb lb cb] W fun e w' => e = .returned (.bool true) ∧ Below W.heap.size W w' := by
  rw [h1.len, h2.len]
  exact redoes_any n pa pb ca cb xs ys W h1.lies h2.lies
end Go.Proofs.Ytnakaifnalojeaa
