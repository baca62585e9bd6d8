/- Plain: three hundred calls of Add (layer 6). -/
import Derived.Test.YtnakaifnalojeaaMs
import Derived.Test.YtnakaifnalojeaaMr
import Derived.Test.YtnakaifnalojeaaLd
namespace Go.Proofs.Ytnakaifnalojeaa
open Go.Ce

def addsK (n : Nat) : List Acc := (List.range n).map fun j => ⟨4, (j % 2 : Nat), 0, 1⟩
theorem addsK_more (n : Nat) : addsK (n + 1) = addsK n ++ [⟨4, (n % 2 : Nat), 0, 1⟩] := by unfold addsK; rw [List.range_succ, List.map_append]; rfl
theorem addsK_length (n : Nat) : (addsK n).length = n := by unfold addsK; simp
theorem addsK_run (N n : Nat) : runM (PM.new N) (addsK (n + 1)) = (runM (PM.new N) (addsK n)).add (n % 2 : Nat) 1 := by
  rw [addsK_more]; unfold runM; rw [List.foldl_append]
  show PM.go _ 4 _ 0 1 = _
  unfold PM.go
  rw [if_neg (by decide), if_neg (by decide), if_neg (by decide), if_pos rfl]
theorem addsK_ops (N n : Nat) : (runM (PM.new N) (addsK n)).k.ops ≤ n := by
  rw [(run_tied (addsK n) (Tied.new N)).ops]
  have := runX_len N [] (addsK n)
  rw [addsK_length] at this
  simpa using this
/-- what the row is then: by calculation -/
theorem adds_len : (runX 2 [] (addsK 300)).length = 300 := by decide +kernel
theorem adds_first : ((runX 2 [] (addsK 300)).getD 44 default).o = 22 ∧ ((runX 2 [] (addsK 300)).getD 44 default).n = 23 ∧ ((runX 2 [] (addsK 300)).getD 44 default).k = 4 := by decide +kernel
theorem adds_ans : (doE 2 (runX 2 [] (addsK 300)) 1 0 0 0).o = 150 := by decide +kernel
theorem adds_logK {m : PM} (h : Tied m 2 (runX 2 [] (addsK 300))) : ∃ xs : List Acc, xs.length = 256 ∧ logP m = xs ∧ (xs.getD 0 default).o = 22 ∧ (xs.getD 0 default).n = 23 ∧ (xs.getD 0 default).k = 4 := by
  refine ⟨_, ?_, logP_tied h, ?_⟩
  · rw [List.length_drop, adds_len]
  · have e : ((runX 2 [] (addsK 300)).drop ((runX 2 [] (addsK 300)).length - 256)).getD 0 default = (runX 2 [] (addsK 300)).getD 44 default := by
      rw [adds_len]
      simp only [List.getD, List.getElem?_drop]
    rw [e]
    exact adds_first
end Go.Proofs.Ytnakaifnalojeaa
