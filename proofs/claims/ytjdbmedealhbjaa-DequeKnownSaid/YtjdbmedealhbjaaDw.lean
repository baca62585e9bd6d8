/- The walks, as the statements want them (layer 8). -/
import Derived.Test.YtjdbmedealhbjaaDz
import Derived.Test.YtjdbmedealhbjaaIn
import Derived.Test.YtjdbmedealhbjaaLw
import Derived.Test.YtjdbmedealhbjaaNo
import Derived.Test.YtjdbmedealhbjaaAh
import Derived.Test.YtjdbmedealhbjaaKc
namespace Go.Proofs.Ytjdbmedealhbjaa
open Go.RowKit Go.Wd Go.Dk

theorem walkDequePlays (q rm : Int) (pl : Option Addr) (nl cl : Nat) (zs : List Int) (pa : Option Addr) (na ca : Nat) (xs : List ActV) (g : Int) (W : World) (_ : (Lit.int .i64 q).wf = true) (w1 : (Lit.int .u8 rm).wf = true) (h : IsRow .i64 W pl nl cl zs) (ha : ActsIs W pa xs ∧ na = xs.length) (_ : (Lit.int .i64 g).wf = true) :
    Calls Try.prog 3 #[.int .i64 q, .int .u8 rm, .slice pl nl cl, .slice pa na ca, .int .i64 g] W (fun e w' => e = .returned (.bool true) ∧ Below W.heap.size W w') := by
  obtain ⟨ys, hy, -⟩ := row_ins h
  exact plays_in theDq q rm (wf_u8 w1) _ ys xs pa na ca g W hy ha.1 ha.2
theorem walkDequeNobody (rm : Int) (pl : Option Addr) (nl cl : Nat) (zs : List Int) (W : World) (w1 : (Lit.int .u8 rm).wf = true) (h : IsRow .i64 W pl nl cl zs) :
    Calls Try.prog 4 #[.int .u8 rm, .slice pl nl cl] W (fun e w' => e = .returned (.bool true) ∧ Below W.heap.size W w') := by
  obtain ⟨ys, hy, hw⟩ := row_ins h
  exact nobody_in theDq rm (wf_u8 w1) _ ys W hy hw
theorem walkDequeAhead (rm : Int) (pl : Option Addr) (nl cl : Nat) (zs : List Int) (W : World) (w1 : (Lit.int .u8 rm).wf = true) (h : IsRow .i64 W pl nl cl zs) :
    Calls Try.prog 5 #[.int .u8 rm, .slice pl nl cl] W (fun e w' => e = .returned (.bool true) ∧ Below W.heap.size W w') := by
  obtain ⟨ys, hy, hw⟩ := row_ins h
  exact aheadlaw_in theDq rm (wf_u8 w1) _ ys W hy hw
theorem walkDequeKnown (W : World) : Calls Try.prog 6 #[] W (fun e w' => e = .returned (.bool true) ∧ Below W.heap.size W w') := known_any theDq W
end Go.Proofs.Ytjdbmedealhbjaa
