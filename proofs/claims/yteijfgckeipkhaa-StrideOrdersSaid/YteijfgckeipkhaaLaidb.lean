/- The laws' walks, as their statements want them. -/
import Derived.Test.YteijfgckeipkhaaLaid
import Derived.Test.YteijfgckeipkhaaLc
namespace Go.Proofs.Yteijfgckeipkhaa
open Go.RowKit

theorem walkStrideOrders (n d : Int) (p : Option Addr) (len cap : Nat) (zs : List Int) (W : World) (_ : (Lit.int .i64 n).wf = true) (_ : (Lit.int .i64 d).wf = true) (h : IsRow .i64 W p len cap zs) :
    Calls Try.prog 4 #[.int .i64 n, .int .i64 d, .slice p len cap] W fun e w' => e = .returned (.bool true) ∧ Below W.heap.size W w' := by
  have hn : p = none → cap = 0 := by
    rcases h with ⟨_, _, h, _⟩ | ⟨x, h, _⟩
    · exact fun _ => h
    · intro e; rw [h] at e; cases e
  obtain ⟨ys, rfl, _, hc⟩ := row_in h
  exact law_orders n d ys p cap hn W hc
end Go.Proofs.Yteijfgckeipkhaa
