/- CellPlays' walk, as its statement wants it. -/
import Derived.Test.YtnakaifnalojeaaLaid
import Derived.Test.YtnakaifnalojeaaIn
import Derived.Test.YtnakaifnalojeaaLp
namespace Go.Proofs.Ytnakaifnalojeaa
open Go.ChangeShapes Go.WideShapes Go.RowKit Go.Ce

/-- calls that came in, and the room behind them -/
theorem act_in2 {H : Type} {enc : TypeId × Value → H} {W : World} {base : Nat} {spare : Nat → Bool} {held : Bool} {p : Option Addr} {l c : Nat} {d : DataW H} {ps : List MemPlace} (h : DataW.Trod enc Try.prog W base spare held 22 (.slice p l c) d ps) : ∃ xs, IsAccs W p l c xs ∧ l ≤ c := by
  obtain ⟨xs, hx⟩ := act_in h
  obtain ⟨fuel, hf⟩ := h
  have hf' : DataW.trod enc Try.prog W base spare held fuel 22 [.slice p l c] = some (d, ps) := by simpa [Value.cells] using hf
  obtain ⟨-, h2, -, -⟩ := slice_elems Try.underlying22 hf' (by rw [cells_act]; decide)
  exact ⟨xs, hx, h2⟩
theorem walkCellPlays (n : Int) (pa : Option Addr) (la ca : Nat) (xs : List Acc) (W : World) (_ : (Lit.int .i64 n).wf = true) (h1 : IsAccs W pa la ca xs ∧ la ≤ ca) : Calls Try.prog 3 #[.int .i64 n, .slice pa la ca] W fun e w' => e = .returned (.bool true) ∧ Below W.heap.size W w' := by
  have h2 := h1.2
  rw [h1.1.len] at h2 ⊢
  exact plays_any n pa ca xs W h1.1.lies h2
end Go.Proofs.Ytnakaifnalojeaa
