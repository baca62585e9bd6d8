/- Rows that list no variable: a world for the witness; a slice of integers that came in. -/
import Derived.Test.YteijfgckeipkhaaRows
import Derived.Test.YteijfgckeipkhaaLa
import Derived.ProofKit
import Derived.OpenShut
import Derived.Deep.DeepHandedRow
import Derived.Stop.LaidErr
namespace Go.Proofs.Yteijfgckeipkhaa
open Go.ChangeShapes Go.WideShapes Go.ChangeAt Go.RowKit

theorem laidOut : laidOutB Try.prog = true := by kernel_rfl
theorem own : ownKnob Try.prog.godebug = none := by kernel_rfl

/-- A SLICE OF INTEGERS THAT CAME IN: it is nil; or it leads to a row of 'cap' cells, the numbers 'zs' (the first 'len' are its elements). -/
def IsRow (k : IntKind) (w : World) (a : Option Addr) (len cap : Nat) (zs : List Int) : Prop :=
  (a = none ∧ len = 0 ∧ cap = 0 ∧ zs = []) ∨
  ∃ x, a = some x ∧ len ≤ cap ∧ cap ≤ maxLen ∧ zs.length = cap ∧ (∀ i, i < zs.length → w.cell? (x.add i) = some (.int k (zs.getD i 0))) ∧ ∀ n ∈ zs, (Lit.int k n).wf = true
/-- a row of 'int's that came in, as the walks want it -/
theorem row_in {W : World} {p : Option Addr} {len cap : Nat} {zs : List Int} (h : IsRow .i64 W p len cap zs) : ∃ ys : List Int, ys.length = len ∧ len ≤ 9223372036854775807 ∧ ∀ j, j < ys.length → ∃ b o, p = some ⟨b, o, none⟩ ∧ W.cell? ⟨b, o + j, none⟩ = some (.int .i64 (ys.getD j 0)) := by
  rcases h with ⟨rfl, rfl, rfl, rfl⟩ | ⟨x, rfl, hl, hm, hz, hc, _⟩
  · exact ⟨[], rfl, by omega, fun j hj => by simp at hj⟩
  · unfold maxLen at hm
    have e : (zs.take len).length = len := by rw [List.length_take]; omega
    refine ⟨zs.take len, e, by omega, fun j hj => ?_⟩
    rw [e] at hj
    obtain ⟨b, o, hx, hcell⟩ := ints_at hc (by omega)
    refine ⟨b, o, by rw [hx], ?_⟩
    rw [hcell j (by omega)]
    simp [List.getD, hj]
theorem wf_i64 {n : Int} (h : (Lit.int .i64 n).wf = true) : -9223372036854775808 ≤ n ∧ n ≤ 9223372036854775807 := by
  simp only [Lit.wf, Bool.and_eq_true, decide_eq_true_eq] at h
  have h1 : (-9223372036854775808 : Int) ≤ n := h.1
  have h2 : n ≤ 9223372036854775807 := h.2
  exact ⟨h1, h2⟩

theorem walkStrideGcd (p : Option Addr) (len cap : Nat) (zs : List Int) (W : World) (h : IsRow .i64 W p len cap zs) :
    Calls Try.prog 3 #[.slice p len cap] W fun e w' => e = .returned (.bool true) ∧ Below W.heap.size W w' := by
  obtain ⟨ys, rfl, _, hc⟩ := row_in h
  exact law_gcd ys p cap W hc

/-- A WORLD FOR THE WITNESS: the settled one. -/
noncomputable def laidWorld (os : Os) : World := World.holding Try.prog os ⟨#[], #[], []⟩
end Go.Proofs.Yteijfgckeipkhaa
