/- The walks, as the statements want them (layer 10): GetNone, GetOldest. -/
import Derived.Test.YtkhfanhboooilaaGi
import Derived.Test.YtkhfanhboooilaaGn
import Derived.Test.YtkhfanhboooilaaGo
namespace Go.Proofs.Ytkhfanhboooilaa
open Go.RowKit Go.Cg Go.Pu

theorem walkGetNone (c : Cfg) (p : Int) (W : World) (hc : CfgWf c) (w1 : (Lit.int .i64 p).wf = true) : Calls Try.prog 9 #[cVal c, .int .i64 p] W (fun e w' => e = .returned (.bool true) ∧ Below W.heap.size W w') := gnone_any c p (wf_i64 w1) W
theorem walkGetOldest (c : Cfg) (p : Int) (pb : Option Addr) (nb cb : Nat) (zb : List Int) (pt : Option Addr) (nt ct : Nat) (zt : List Int) (W : World) (hc : CfgWf c) (w1 : (Lit.int .i64 p).wf = true) (hb : IsRow .u8 W pb nb cb zb) (ht : IsRow .u8 W pt nt ct zt) :
    Calls Try.prog 8 #[cVal c, .int .i64 p, .slice pb nb cb, .slice pt nt ct] W (fun e w' => e = .returned (.bool true) ∧ Below W.heap.size W w') := by
  obtain ⟨bs, h1⟩ := by_ins hb
  obtain ⟨ts, h2⟩ := by_ins ht
  exact oldest_any c p _ _ bs ts W (conf_wf hc) (wf_i64 w1) h1 h2
end Go.Proofs.Ytkhfanhboooilaa
