/- The walks of the laws of stage 1. -/
import Derived.Test.YteofkhpofligaaaDoorWj
namespace Go.Proofs.YteofkhpofligaaaDoor
open Go.RowKit Go.Fm Go.Tx Go.Sm

theorem class_same (b p : Nat) (hp : Prd b p) (w : World) : Calls Tryd.prog 10 #[.float .f64 b] w fun e w' => e = .returned (.int .i64 (clsP p)) ∧ Below w.heap.size w w' := by
  refine (class_any b w).mono ?_
  rintro e w' ⟨q, hq, he, hb⟩
  refine ⟨?_, hb⟩
  rw [he]
  rcases hp with hp | ⟨hn, hp⟩
  · rw [prd_some hq hp]
  · rcases hq with hq | ⟨_, hq⟩
    · rw [hq] at hn; cases hn
    · have h1 : clsP p = 0 := by unfold clsP; rw [ge_nan hp]; rfl
      have h2 : clsP q = 0 := by unfold clsP; rw [ge_nan hq]; rfl
      rw [h1, h2]

set_option maxHeartbeats 1000000 in
theorem law_nanos {B : Nat} (b : Nat) (w : World) (h : Env B w) : Calls Tryd.prog 3 #[.float .f64 b] w fun e w' => e = .returned (.bool true) ∧ Below w.heap.size w w' := by
  go_enter Tryd.func3, Tryd.ntmps3
  go_wp2_with fail
  refine (nanos_any _ _).mono ?_
  rintro e w1 ⟨p, hp, rfl, hb1⟩
  have h1 := h.on' hb1
  go_wp2_with fail
  refine (rnanos_any _ p hp _).mono ?_
  rintro e w' ⟨rfl, rfl⟩
  go_wp2_with fail
  refine (class_same _ p hp _).mono ?_
  rintro e w2 ⟨rfl, hb2⟩
  have h2 := h1.on' hb2
  go_wp2_with fail
  refine (rclass_any _ p hp _).mono ?_
  rintro e w' ⟨rfl, rfl⟩
  go_wp2_with fail
  refine (works_any _ h2).mono ?_
  rintro e w3 ⟨rfl, hb3⟩
  go_wp2
  go_ret
  exact ⟨rfl, bt (bt hb1 hb2) hb3⟩
end Go.Proofs.YteofkhpofligaaaDoor
