/-
  The laws' walks of stage 4 (clock), as their cards want them.
-/
import Derived.Test.YtfigkoknhiabnaaDoorLy
import Derived.Test.YtfigkoknhiabnaaDoorLn
import Derived.Test.YtfigkoknhiabnaaDoorLp
namespace Go.Proofs.YtfigkoknhiabnaaDoor
open Go.ChangeShapes Go.WideShapes Go.ChangeAt Go.RowKit

theorem walkClockNone (n t d : Int) (f : Nat) (W : World) (_ : (Lit.int .i64 n).wf = true) (ht : (Lit.int .i64 t).wf = true) (_ : (Lit.int .i64 d).wf = true) (_ : (Lit.float .f64 f).wf = true) (henv : Env W.heap.size W) : Calls Tryd.prog 5 #[.int .i64 n, .int .i64 t, .int .i64 d, .float .f64 f] W fun e w' => e = .returned (.bool true) ∧ Below W.heap.size W w' :=
  law_none n t d f (wf_i64 ht).2 W henv
theorem walkClockPlays (p : Option Addr) (len cap : Nat) (xs : List ActV) (t d : Int) (W : World) (h : IsActs W p len cap xs) (ht : (Lit.int .i64 t).wf = true) (_ : (Lit.int .i64 d).wf = true) (henv : Env W.heap.size W) : Calls Tryd.prog 3 #[.slice p len cap, .int .i64 t, .int .i64 d] W fun e w' => e = .returned (.bool true) ∧ Below W.heap.size W w' :=
  law_plays xs p len cap t d (wf_i64 ht).2 W h henv
end Go.Proofs.YtfigkoknhiabnaaDoor
