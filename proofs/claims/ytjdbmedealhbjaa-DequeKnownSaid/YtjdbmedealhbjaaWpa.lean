/- The walks of package word's small functions. -/
import Derived.Test.YtjdbmedealhbjaaRows
import Derived.Test.YtjdbmedealhbjaaMa
import Derived.Test.YtjdbmedealhbjaaRo
import Derived.WalkKit
import Derived.WalkSpells
import Derived.WalkLawsBesides
import Derived.Lib.Hide
import Derived.Laws.Bits64b
import Derived.Laws.BitsLemmas
namespace Go.Proofs.Ytjdbmedealhbjaa
open Go.RowKit Go.Wd

theorem w32 (n : Int) : IntKind.u32.wrap n = n % 4294967296 := by
  simp [IntKind.wrap, IntKind.bits, IntKind.signed]
theorem wadd32 (a b : Nat) : IntKind.u32.wrap ((a : Int) + b) = (((a + b) % 4294967296 : Nat) : Int) := by rw [w32]; omega
theorem wsub32 (a b : Nat) (h : b ≤ 4294967296) : IntKind.u32.wrap ((a : Int) - b) = (((a + 4294967296 - b) % 4294967296 : Nat) : Int) := by rw [w32]; omega
theorem or64 (h t : Nat) (hh : h < 4294967296) (ht : t < 4294967296) : bits BinOp.or IntKind.u64 ((h : Int) * 4294967296) (t : Int) = ((pk h t : Nat) : Int) := by
  have e : (h : Int) * 4294967296 = ((h * 4294967296 : Nat) : Int) := by omega
  rw [e, bits_or_u64_nat _ _ (by omega) (by omega), or_pack h t ht]
theorem wrap_i63 (n : Int) (h₀ : 0 ≤ n) (h₁ : n < 2 ^ 63) : IntKind.i64.wrap n = n := by rw [IntKind.wrap_i64]; omega
theorem and_i64 (a b : Nat) (ha : a < 9223372036854775808) (hb : b < 9223372036854775808) : bits BinOp.and IntKind.i64 (a : Int) (b : Int) = ((a &&& b : Nat) : Int) :=
  (bits_nat .i64 63 (by decide) wrap_i63 a b (by omega) (by omega)).1
theorem room_test (n : Nat) (h1 : 2 ≤ n) (h2 : n ≤ 65536) : (bits BinOp.and IntKind.i64 (n : Int) ((n : Int) - 1) == 0) = room n := by
  have e : (n : Int) - 1 = ((n - 1 : Nat) : Int) := by omega
  rw [e, and_i64 _ _ (by omega) (by omega)]
  cases hr : room (n : Int) with
  | true => rw [room_and' hr]; rfl
  | false =>
    have hne : n &&& (n - 1) ≠ 0 := fun h => by rw [room_and h1 h2 h] at hr; cases hr
    have : (((n &&& (n - 1) : Nat) : Int) == 0) = decide (((n &&& (n - 1) : Nat) : Int) = 0) := rfl
    rw [this, decide_eq_false_iff_not]; omega

theorem head_any (x : Nat) (hx : x < 18446744073709551616) (w : World) :
    Calls Try.prog 45 #[.int .u64 x] w fun e w' => e = .returned (.int .u32 (hd x : Nat)) ∧ w = w' := by
  go_enter Try.func45, Try.ntmps45
  go_wp2
  go_ret
  exact ⟨ret_u32 (by unfold hd; omega), rfl⟩

theorem tail_any (x : Nat) (hx : x < 18446744073709551616) (w : World) :
    Calls Try.prog 43 #[.int .u64 x] w fun e w' => e = .returned (.int .u32 (tl x : Nat)) ∧ w = w' := by
  go_enter Try.func43, Try.ntmps43
  go_wp2
  go_ret
  exact ⟨ret_u32 (by unfold tl; omega), rfl⟩

theorem pack_any (h t : Nat) (hh : h < 4294967296) (ht : t < 4294967296) (w : World) :
    Calls Try.prog 56 #[.int .u32 h, .int .u32 t] w fun e w' => e = .returned (.int .u64 (pk h t : Nat)) ∧ w = w' := by
  go_enter Try.func56, Try.ntmps56
  go_wp2
  go_ret
  exact ⟨ret_u64 (or64 h t hh ht), rfl⟩
theorem pack_at (a b : Int) (h t : Nat) (ha : a = h) (hb : b = t) (hh : h < 4294967296) (ht : t < 4294967296) (w : World) :
    Calls Try.prog 56 #[.int .u32 a, .int .u32 b] w fun e w' => e = .returned (.int .u64 (pk h t : Nat)) ∧ w = w' := by
  subst ha; subst hb; exact pack_any h t hh ht w

theorem len_any (x : Nat) (hx : x < 18446744073709551616) (w : World) :
    Calls Try.prog 49 #[.int .u64 x] w fun e w' => e = .returned (.int .u32 (ln x : Nat)) ∧ w = w' := by
  have h1 := hd_lt hx
  go_enter Try.func49, Try.ntmps49
  go_wp2_with (first
    | (go_at_call 45; refine (head_any _ hx _).mono ?_; rintro e w' ⟨rfl, rfl⟩)
    | (go_at_call 43; refine (tail_any _ hx _).mono ?_; rintro e w' ⟨rfl, rfl⟩))
  go_ret
  exact ⟨ret_u32 (by show IntKind.u32.wrap _ = _; rw [wsub32 _ _ (by omega)]; rfl), rfl⟩

theorem older_any (n : Nat) (hn : n < 4294967296) (w : World) :
    Calls Try.prog 47 #[.int .u32 n] w fun e w' => e = .returned (.int .u32 (older n : Nat)) ∧ w = w' := by
  go_enter Try.func47, Try.ntmps47
  go_wp2
  go_ret
  exact ⟨ret_u32 (by unfold older; omega), rfl⟩

theorem room_any (q : Int) (w : World) :
    Calls Try.prog 29 #[.int .i64 q] w fun e w' => e = .returned (.bool (room q)) ∧ w = w' := by
  by_cases h1 : 2 ≤ q
  · by_cases h2 : q ≤ 65536
    · obtain ⟨n, rfl⟩ : ∃ n : Nat, q = n := ⟨q.toNat, by omega⟩
      go_enter Try.func29, Try.ntmps29
      go_wp2
      go_ret
      exact ⟨ret_bool (room_test n (by omega) (by omega)), rfl⟩
    · have hr : room q = false := by
        cases h : room q with
        | false => rfl
        | true => have := room_bd h; omega
      rw [hr]
      go_enter Try.func29, Try.ntmps29
      go_wp2
      go_ret
      exact ⟨rfl, rfl⟩
  · have hr : room q = false := by
      cases h : room q with
      | false => rfl
      | true => have := room_bd h; omega
    rw [hr]
    go_enter Try.func29, Try.ntmps29
    go_wp2
    go_ret
    exact ⟨rfl, rfl⟩

theorem slot_any (p : Nat) (q : Int) (hp : p < 4294967296) (w : World) :
    Calls Try.prog 51 #[.int .u32 p, .int .i64 q] w fun e w' => e = .returned (.int .i64 (slot p q)) ∧ w = w' := by
  cases hr : room q with
  | true =>
    have hb := room_bd hr
    obtain ⟨n, rfl⟩ : ∃ n : Nat, q = n := ⟨q.toNat, by omega⟩
    have e : slot p n = ((p % n : Nat) : Int) := by unfold slot; rw [if_pos hr]; rfl
    rw [e]
    go_enter Try.func51, Try.ntmps51
    go_wp2_with (go_at_call 29; refine (room_any _ _).mono ?_; rintro e w' ⟨rfl, rfl⟩)
    go_ret
    refine ⟨ret_i64 ?_, rfl⟩
    show wrap64 ((p : Int) % n) = ((p % n : Nat) : Int)
    have h1 : (p : Int) % n = ((p % n : Nat) : Int) := by simp
    have h2 := Nat.mod_lt p (show 0 < n by omega)
    rw [h1]; exact IntWalk.wrap64_in _ ⟨by omega, by omega⟩
  | false =>
    have e : slot p q = 0 := by unfold slot; rw [hr]; rfl
    rw [e]
    go_enter Try.func51, Try.ntmps51
    go_wp2_with (go_at_call 29; refine (room_any _ _).mono ?_; rintro e w' ⟨rfl, rfl⟩)
    go_ret
    exact ⟨rfl, rfl⟩

theorem gain_any (x n : Nat) (hx : x < 18446744073709551616) (hn : n < 4294967296) (w : World) :
    Calls Try.prog 53 #[.int .u64 x, .int .u32 n] w fun e w' => e = .returned (.int .u64 (gainW x n : Nat)) ∧ w = w' := by
  have h1 := hd_lt hx
  have h2 := tl_lt x
  go_enter Try.func53, Try.ntmps53
  go_wp2_with (first
    | (go_at_call 45; refine (head_any _ hx _).mono ?_; rintro e w' ⟨rfl, rfl⟩)
    | (go_at_call 43; refine (tail_any _ hx _).mono ?_; rintro e w' ⟨rfl, rfl⟩)
    | (go_at_call 56; refine (pack_at _ _ ((hd x + n) % 4294967296) (tl x) (wadd32 _ _) rfl (Nat.mod_lt _ (by decide)) h2 _).mono ?_; rintro e w' ⟨rfl, rfl⟩))
  go_ret
  exact ⟨rfl, rfl⟩
theorem grow_any (x n : Nat) (hx : x < 18446744073709551616) (hn : n < 4294967296) (w : World) :
    Calls Try.prog 52 #[.int .u64 x, .int .u32 n] w fun e w' => e = .returned (.int .u64 (growW x n : Nat)) ∧ w = w' := by
  have h1 := hd_lt hx
  have h2 := tl_lt x
  go_enter Try.func52, Try.ntmps52
  go_wp2_with (first
    | (go_at_call 45; refine (head_any _ hx _).mono ?_; rintro e w' ⟨rfl, rfl⟩)
    | (go_at_call 43; refine (tail_any _ hx _).mono ?_; rintro e w' ⟨rfl, rfl⟩)
    | (go_at_call 56; refine (pack_at _ _ (hd x) ((tl x + n) % 4294967296) rfl (wadd32 _ _) h1 (Nat.mod_lt _ (by decide)) _).mono ?_; rintro e w' ⟨rfl, rfl⟩))
  go_ret
  exact ⟨rfl, rfl⟩
theorem drop_any (x n : Nat) (hx : x < 18446744073709551616) (hn : n < 4294967296) (w : World) :
    Calls Try.prog 50 #[.int .u64 x, .int .u32 n] w fun e w' => e = .returned (.int .u64 (dropW x n : Nat)) ∧ w = w' := by
  have h1 := hd_lt hx
  have h2 := tl_lt x
  go_enter Try.func50, Try.ntmps50
  go_wp2_with (first
    | (go_at_call 45; refine (head_any _ hx _).mono ?_; rintro e w' ⟨rfl, rfl⟩)
    | (go_at_call 43; refine (tail_any _ hx _).mono ?_; rintro e w' ⟨rfl, rfl⟩)
    | (go_at_call 56; refine (pack_at _ _ (hd x) ((tl x + 4294967296 - n) % 4294967296) rfl (wsub32 _ _ (by omega)) h1 (Nat.mod_lt _ (by decide)) _).mono ?_; rintro e w' ⟨rfl, rfl⟩))
  go_ret
  exact ⟨rfl, rfl⟩
theorem gain_at (x : Nat) (a : Int) (n : Nat) (ha : a = n) (hx : x < 18446744073709551616) (hn : n < 4294967296) (w : World) :
    Calls Try.prog 53 #[.int .u64 x, .int .u32 a] w fun e w' => e = .returned (.int .u64 (gainW x n : Nat)) ∧ w = w' := by
  subst ha; exact gain_any x n hx hn w
theorem drop_at (x : Nat) (a : Int) (n : Nat) (ha : a = n) (hx : x < 18446744073709551616) (hn : n < 4294967296) (w : World) :
    Calls Try.prog 50 #[.int .u64 x, .int .u32 a] w fun e w' => e = .returned (.int .u64 (dropW x n : Nat)) ∧ w = w' := by
  subst ha; exact drop_any x n hx hn w

end Go.Proofs.Ytjdbmedealhbjaa
