/- The table of powers of ten, as it reads whatever is done from a block on; a text that was returned. -/
import Derived.Test.YtkchbnojcfkkhaaDoorRows
import Derived.WalkKit
import Derived.Lib.Hide
import Derived.Lib.AppendIntMem
namespace Go.Proofs.YtkchbnojcfkkhaaDoor
open Go.RowKit

/-- what the package's variables read as, whatever is done from block B on -/
structure Env (B : Nat) (w : World) : Prop where
  size : B ≤ w.heap.size
  tab : Lib.TabBelow Tryd.prog B w "internal/strconv.uint64pow10" .u64 Lib.pow10Tab
theorem Env.on {B : Nat} {w w1 : World} (h : Env B w) (hb : Below B w w1) : Env B w1 := ⟨Nat.le_trans h.size hb.size, h.tab.on hb⟩
theorem Env.on' {B : Nat} {w w1 : World} (h : Env B w) (hb : Below w.heap.size w w1) : Env B w1 := h.on (hb.mono h.size)

theorem below_grown (w : World) (k : Nat) (os : Array Obj) : Below w.heap.size w (Sort.grow (w.drewN k) os) := Lib.below_grow _ _ (Nat.le_refl _) _ _

/-- it returned the text l -/
def Tells (P : List UInt8 → Prop) (w : World) (e : Ending) (w' : World) : Prop := ∃ l, P l ∧ e = .returned (.string ⟨l.toArray⟩) ∧ Below w.heap.size w w'
end Go.Proofs.YtkchbnojcfkkhaaDoor
