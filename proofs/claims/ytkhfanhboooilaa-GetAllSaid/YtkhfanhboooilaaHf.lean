/- The reference's Step (layer 10), whichever. -/
import Derived.Test.YtkhfanhboooilaaHc
import Derived.Test.YtkhfanhboooilaaHe
set_option linter.unusedSimpArgs false
set_option linter.unusedVariables false
namespace Go.Proofs.Ytkhfanhboooilaa
open Go.RowKit Go.Cg Go.Pu Go.Wd Go.Ce

theorem rgstep_any {q0 : Option Addr} {x : GS} {m : PM} {w : World} {l cc : Nat} (hok : x.Ok) (ht0 : x.t + 1 ≤ 1000000000) (hm : RM w q0 l cc m.cs) (hu : U64 m) (hops : m.k.ops ≤ 900000) : Calls Try.prog 41 #[rgVal x, .agg #[.slice q0 l cc, .int .u64 m.k.ops]] w (RGStepPost q0 (gStep x m).1 (gStep x m).2 w) := by
  have ha := hok.a
  have hc : x.a = 0 ∨ x.a = 1 ∨ x.a = 2 ∨ x.a = 3 := by omega
  rcases hc with h | h | h | h
  · exact rgstep0_any h hok ht0 hm hu hops
  · exact rgstep1_any h hok ht0 hm hu hops
  · exact rgstep2_any h hok ht0 hm hu hops
  · exact rgstep3_any h hok ht0 hm hu hops

end Go.Proofs.Ytkhfanhboooilaa
