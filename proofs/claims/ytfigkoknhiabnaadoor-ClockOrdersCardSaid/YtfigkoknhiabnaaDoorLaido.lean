/-
  The law ClockOrders' walk, as its card wants it.
-/
import Derived.Test.YtfigkoknhiabnaaDoorLaid
import Derived.Test.YtfigkoknhiabnaaDoorLq
namespace Go.Proofs.YtfigkoknhiabnaaDoor
open Go.ChangeShapes Go.WideShapes Go.ChangeAt Go.RowKit

theorem walkClockOrders (p : Option Addr) (len cap : Nat) (zs : List Int) (q : Option Addr) (len2 cap2 : Nat) (os : List Int) (t d : Int) (W : World) (h : IsRow .i64 W p len cap zs) (h2 : IsRow .i64 W q len2 cap2 os) (ht : (Lit.int .i64 t).wf = true) (_ : (Lit.int .i64 d).wf = true) (henv : Env W.heap.size W) : Calls Tryd.prog 4 #[.slice p len cap, .slice q len2 cap2, .int .i64 t, .int .i64 d] W fun e w' => e = .returned (.bool true) ∧ Below W.heap.size W w' := by
  obtain ⟨ys, e, hm, hc⟩ := row_in h
  obtain ⟨ys2, e2, hm2, hc2⟩ := row_in h2
  exact law_orders ys ys2 p q len cap len2 cap2 t d (wf_i64 ht).2 W e.symm e2.symm hm hm2 (fun h => ⟨by omega, hc⟩) (fun h => ⟨by omega, hc2⟩) henv
end Go.Proofs.YtfigkoknhiabnaaDoor
