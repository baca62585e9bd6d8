/- The kit's Pick, walked. -/
import Derived.Test.YtjdbmedealhbjaaAn
import Derived.WalkSpells
import Derived.WalkLawsBesides
namespace Go.Proofs.Ytjdbmedealhbjaa
open Go.RowKit

theorem pick_any (i : Int) (n : Nat) (h1 : -9223372036854775808 ≤ i) (h2 : i ≤ 9223372036854775807) (hn1 : 1 ≤ n) (hn : n ≤ 1000000000) (w : World) :
    Calls Try.prog 17 #[.int .i64 i, .int .i64 n] w (fun e w' => e = .returned (.int .i64 (i % n)) ∧ w = w') := by
  have a1 := Int.tmod_lt_of_pos i (show (0 : Int) < n by omega)
  have a2 := Int.lt_tmod_of_pos i (show (0 : Int) < n by omega)
  have e1 : wrap64 (i.tmod n + n) = i.tmod n + n := IntWalk.wrap64_in _ ⟨by omega, by omega⟩
  have e2 : (i.tmod n + n).tmod n = i % n := by
    rw [Int.tmod_eq_emod_of_nonneg (by omega), Int.add_emod_right, Int.tmod_def, Int.sub_mul_emod_self_left]
  have E := Lib.hid (And.intro e1 e2)
  have E3 := Lib.hid (show ∀ a b : Int, a = b → Ending.returned (.int .i64 a) = Ending.returned (.int .i64 b) from fun a b h => by rw [h])
  clear a1 a2 e1 e2
  go_enter Try.func17, Try.ntmps17
  go_wp2
  go_ret
  exact ⟨E3.out _ _ (by rw [E.out.1, E.out.2]), rfl⟩
/-- .. as a number from 0 on -/
theorem pick_nat (i : Int) (n : Nat) (h1 : -9223372036854775808 ≤ i ∧ i ≤ 9223372036854775807) (hn : 1 ≤ n ∧ n ≤ 1000000000) (w : World) :
    Calls Try.prog 17 #[.int .i64 i, .int .i64 n] w (fun e w' => ∃ k : Nat, k < n ∧ e = .returned (.int .i64 k) ∧ w = w') := by
  refine (pick_any i n h1.1 h1.2 hn.1 hn.2 w).mono ?_
  rintro e w' ⟨rfl, h⟩
  have b1 := Int.emod_nonneg i (show (n : Int) ≠ 0 by omega)
  have b2 := Int.emod_lt_of_pos i (show (0 : Int) < n by omega)
  exact ⟨(i % n).toNat, by omega, by rw [show ((i % n).toNat : Int) = i % n by omega], h⟩
end Go.Proofs.Ytjdbmedealhbjaa
