/- The walks, as the statements want them (layer 9): PutKeeps, PutLayAll, PutNone. -/
import Derived.Test.YtgfddkddacigfaaIn
import Derived.Test.YtgfddkddacigfaaZp
namespace Go.Proofs.Ytgfddkddacigfaa
open Go.RowKit Go.Cg Go.Pu

theorem walkPutNone (n : Int) (W : World) (w0 : (Lit.int .i64 n).wf = true) : Calls Try.prog 7 #[.int .i64 n] W (fun e w' => e = .returned (.bool true) ∧ Below W.heap.size W w') := none_any n (wf_i64 w0) W
theorem walkPutKeeps (c : Cfg) (p : Int) (pb : Option Addr) (nb cb : Nat) (zb : List Int) (pt : Option Addr) (nt ct : Nat) (zt : List Int) (W : World) (hc : CfgWf c) (w1 : (Lit.int .i64 p).wf = true) (hb : IsRow .u8 W pb nb cb zb) (ht : IsRow .u8 W pt nt ct zt) :
    Calls Try.prog 5 #[cVal c, .int .i64 p, .slice pb nb cb, .slice pt nt ct] W (fun e w' => e = .returned (.bool true) ∧ Below W.heap.size W w') := by
  obtain ⟨bs, h1⟩ := by_ins hb
  obtain ⟨ts, h2⟩ := by_ins ht
  exact keeps_any thePut c p _ _ bs ts W (conf_wf hc) (wf_i64 w1) h1 h2
theorem walkPutLayAll (c : Cfg) (p : Int) (h : Int) (pl : Option Addr) (nl cl : Nat) (zl : List Int) (W : World) (hc : CfgWf c) (w1 : (Lit.int .i64 p).wf = true) (w2 : (Lit.int .u32 h).wf = true) (hl : IsRow .i64 W pl nl cl zl) :
    Calls Try.prog 6 #[cVal c, .int .i64 p, .int .u32 h, .slice pl nl cl] W (fun e w' => e = .returned (.bool true) ∧ Below W.heap.size W w') := by
  obtain ⟨ys, h1, h2⟩ := row_ins hl
  obtain ⟨h0, h3⟩ := wf_u32 w2
  obtain ⟨k, rfl⟩ : ∃ k : Nat, h = k := ⟨h.toNat, by omega⟩
  exact layall_any thePut theLay c p k _ ys W (conf_wf hc) (wf_i64 w1) (by omega) h1 h2
end Go.Proofs.Ytgfddkddacigfaa
