/- The walk, as the statement wants it (layer 10): GetAll. -/
import Derived.Test.YtkhfanhboooilaaGi
import Derived.Test.YtkhfanhboooilaaHi
namespace Go.Proofs.Ytkhfanhboooilaa
open Go.RowKit Go.Cg Go.Pu

theorem walkGetAll (c : Cfg) (p : Int) (pb : Option Addr) (nb cb : Nat) (zb : List Int) (W : World) (hc : CfgWf c) (w1 : (Lit.int .i64 p).wf = true) (hb : IsRow .u8 W pb nb cb zb) :
    Calls Try.prog 7 #[cVal c, .int .i64 p, .slice pb nb cb] W (fun e w' => e = .returned (.bool true) ∧ Below W.heap.size W w') := by
  obtain ⟨bs, h1⟩ := by_ins hb
  exact getall_any c p _ bs W h1
end Go.Proofs.Ytkhfanhboooilaa
