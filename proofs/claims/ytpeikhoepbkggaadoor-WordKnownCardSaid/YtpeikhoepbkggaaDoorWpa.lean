/- The walks of package word's small functions. -/
import Derived.Test.YtpeikhoepbkggaaDoorRows
import Derived.Test.YtpeikhoepbkggaaDoorMa
import Derived.WalkKit
import Derived.WalkSpells
import Derived.WalkLawsBesides
import Derived.Lib.Hide
import Derived.Laws.Bits64b
import Derived.Laws.BitsLemmas
namespace Go.Proofs.YtpeikhoepbkggaaDoor
open Go.RowKit Go.Wd

theorem ret_u32 {a b : Int} (h : a = b) : Ending.returned (.int .u32 a) = Ending.returned (.int .u32 b) := by rw [h]
theorem ret_u64 {a b : Int} (h : a = b) : Ending.returned (.int .u64 a) = Ending.returned (.int .u64 b) := by rw [h]
theorem ret_i64 {a b : Int} (h : a = b) : Ending.returned (.int .i64 a) = Ending.returned (.int .i64 b) := by rw [h]
theorem ret_bool {a b : Bool} (h : a = b) : Ending.returned (.bool a) = Ending.returned (.bool b) := by rw [h]
theorem w32 (n : Int) : IntKind.u32.wrap n = n % 4294967296 := by
  simp [IntKind.wrap, IntKind.bits, IntKind.signed]
theorem wadd32 (a b : Nat) : IntKind.u32.wrap ((a : Int) + b) = (((a + b) % 4294967296 : Nat) : Int) := by rw [w32]; omega
theorem wsub32 (a b : Nat) (h : b ≤ 4294967296) : IntKind.u32.wrap ((a : Int) - b) = (((a + 4294967296 - b) % 4294967296 : Nat) : Int) := by rw [w32]; omega
theorem or64 (h t : Nat) (hh : h < 4294967296) (ht : t < 4294967296) : bits BinOp.or IntKind.u64 ((h : Int) * 4294967296) (t : Int) = ((pk h t : Nat) : Int) := by
  have e : (h : Int) * 4294967296 = ((h * 4294967296 : Nat) : Int) := by omega
  rw [e, bits_or_u64_nat _ _ (by omega) (by omega), or_pack h t ht]
theorem wrap_i63 (n : Int) (h₀ : 0 ≤ n) (h₁ : n < 2 ^ 63) : IntKind.i64.wrap n = n := by rw [IntKind.wrap_i64]; omega
theorem and_i64 (a b : Nat) (ha : a < 9223372036854775808) (hb : b < 9223372036854775808) : bits BinOp.and IntKind.i64 (a : Int) (b : Int) = ((a &&& b : Nat) : Int) :=
  (bits_nat .i64 63 (by decide) wrap_i63 a b (by omega) (by omega)).1
theorem room_test (n : Nat) (h1 : 2 ≤ n) (h2 : n ≤ 65536) : (bits BinOp.and IntKind.i64 (n : Int) ((n : Int) - 1) == 0) = room n := by
  have e : (n : Int) - 1 = ((n - 1 : Nat) : Int) := by omega
  rw [e, and_i64 _ _ (by omega) (by omega)]
  cases hr : room (n : Int) with
  | true => rw [room_and' hr]; rfl
  | false =>
    have hne : n &&& (n - 1) ≠ 0 := fun h => by rw [room_and h1 h2 h] at hr; cases hr
    have : (((n &&& (n - 1) : Nat) : Int) == 0) = decide (((n &&& (n - 1) : Nat) : Int) = 0) := rfl
    rw [this, decide_eq_false_iff_not]; omega

theorem head_any (x : Nat) (hx : x < 18446744073709551616) (w : World) :
    Calls Tryd.prog 11 #[.int .u64 x] w fun e w' => e = .returned (.int .u32 (hd x : Nat)) ∧ w = w' := by
  go_enter Tryd.func11, Tryd.ntmps11
  go_wp2
  go_ret
  exact ⟨ret_u32 (by unfold hd; omega), rfl⟩

theorem tail_any (x : Nat) (hx : x < 18446744073709551616) (w : World) :
    Calls Tryd.prog 12 #[.int .u64 x] w fun e w' => e = .returned (.int .u32 (tl x : Nat)) ∧ w = w' := by
  go_enter Tryd.func12, Tryd.ntmps12
  go_wp2
  go_ret
  exact ⟨ret_u32 (by unfold tl; omega), rfl⟩

theorem pack_any (h t : Nat) (hh : h < 4294967296) (ht : t < 4294967296) (w : World) :
    Calls Tryd.prog 8 #[.int .u32 h, .int .u32 t] w fun e w' => e = .returned (.int .u64 (pk h t : Nat)) ∧ w = w' := by
  go_enter Tryd.func8, Tryd.ntmps8
  go_wp2
  go_ret
  exact ⟨ret_u64 (or64 h t hh ht), rfl⟩
theorem pack_at (a b : Int) (h t : Nat) (ha : a = h) (hb : b = t) (hh : h < 4294967296) (ht : t < 4294967296) (w : World) :
    Calls Tryd.prog 8 #[.int .u32 a, .int .u32 b] w fun e w' => e = .returned (.int .u64 (pk h t : Nat)) ∧ w = w' := by
  subst ha; subst hb; exact pack_any h t hh ht w

theorem len_any (x : Nat) (hx : x < 18446744073709551616) (w : World) :
    Calls Tryd.prog 13 #[.int .u64 x] w fun e w' => e = .returned (.int .u32 (ln x : Nat)) ∧ w = w' := by
  have h1 := hd_lt hx
  go_enter Tryd.func13, Tryd.ntmps13
  go_wp2_with (first
    | (go_at_call 11; refine (head_any _ hx _).mono ?_; rintro e w' ⟨rfl, rfl⟩)
    | (go_at_call 12; refine (tail_any _ hx _).mono ?_; rintro e w' ⟨rfl, rfl⟩))
  go_ret
  exact ⟨ret_u32 (by show IntKind.u32.wrap _ = _; rw [wsub32 _ _ (by omega)]; rfl), rfl⟩

theorem older_any (n : Nat) (hn : n < 4294967296) (w : World) :
    Calls Tryd.prog 16 #[.int .u32 n] w fun e w' => e = .returned (.int .u32 (older n : Nat)) ∧ w = w' := by
  go_enter Tryd.func16, Tryd.ntmps16
  go_wp2
  go_ret
  exact ⟨ret_u32 (by unfold older; omega), rfl⟩

theorem room_any (q : Int) (w : World) :
    Calls Tryd.prog 17 #[.int .i64 q] w fun e w' => e = .returned (.bool (room q)) ∧ w = w' := by
  by_cases h1 : 2 ≤ q
  · by_cases h2 : q ≤ 65536
    · obtain ⟨n, rfl⟩ : ∃ n : Nat, q = n := ⟨q.toNat, by omega⟩
      go_enter Tryd.func17, Tryd.ntmps17
      go_wp2
      go_ret
      exact ⟨ret_bool (room_test n (by omega) (by omega)), rfl⟩
    · have hr : room q = false := by
        cases h : room q with
        | false => rfl
        | true => have := room_bd h; omega
      rw [hr]
      go_enter Tryd.func17, Tryd.ntmps17
      go_wp2
      go_ret
      exact ⟨rfl, rfl⟩
  · have hr : room q = false := by
      cases h : room q with
      | false => rfl
      | true => have := room_bd h; omega
    rw [hr]
    go_enter Tryd.func17, Tryd.ntmps17
    go_wp2
    go_ret
    exact ⟨rfl, rfl⟩

theorem slot_any (p : Nat) (q : Int) (hp : p < 4294967296) (w : World) :
    Calls Tryd.prog 19 #[.int .u32 p, .int .i64 q] w fun e w' => e = .returned (.int .i64 (slot p q)) ∧ w = w' := by
  cases hr : room q with
  | true =>
    have hb := room_bd hr
    obtain ⟨n, rfl⟩ : ∃ n : Nat, q = n := ⟨q.toNat, by omega⟩
    have e : slot p n = ((p % n : Nat) : Int) := by unfold slot; rw [if_pos hr]; rfl
    rw [e]
    go_enter Tryd.func19, Tryd.ntmps19
    go_wp2_with (go_at_call 17; refine (room_any _ _).mono ?_; rintro e w' ⟨rfl, rfl⟩)
    go_ret
    refine ⟨ret_i64 ?_, rfl⟩
    show wrap64 ((p : Int) % n) = ((p % n : Nat) : Int)
    have h1 : (p : Int) % n = ((p % n : Nat) : Int) := by simp
    have h2 := Nat.mod_lt p (show 0 < n by omega)
    rw [h1]; exact IntWalk.wrap64_in _ ⟨by omega, by omega⟩
  | false =>
    have e : slot p q = 0 := by unfold slot; rw [hr]; rfl
    rw [e]
    go_enter Tryd.func19, Tryd.ntmps19
    go_wp2_with (go_at_call 17; refine (room_any _ _).mono ?_; rintro e w' ⟨rfl, rfl⟩)
    go_ret
    exact ⟨rfl, rfl⟩

theorem gain_any (x n : Nat) (hx : x < 18446744073709551616) (hn : n < 4294967296) (w : World) :
    Calls Tryd.prog 23 #[.int .u64 x, .int .u32 n] w fun e w' => e = .returned (.int .u64 (gainW x n : Nat)) ∧ w = w' := by
  have h1 := hd_lt hx
  have h2 := tl_lt x
  go_enter Tryd.func23, Tryd.ntmps23
  go_wp2_with (first
    | (go_at_call 11; refine (head_any _ hx _).mono ?_; rintro e w' ⟨rfl, rfl⟩)
    | (go_at_call 12; refine (tail_any _ hx _).mono ?_; rintro e w' ⟨rfl, rfl⟩)
    | (go_at_call 8; refine (pack_at _ _ ((hd x + n) % 4294967296) (tl x) (wadd32 _ _) rfl (Nat.mod_lt _ (by decide)) h2 _).mono ?_; rintro e w' ⟨rfl, rfl⟩))
  go_ret
  exact ⟨rfl, rfl⟩
theorem grow_any (x n : Nat) (hx : x < 18446744073709551616) (hn : n < 4294967296) (w : World) :
    Calls Tryd.prog 24 #[.int .u64 x, .int .u32 n] w fun e w' => e = .returned (.int .u64 (growW x n : Nat)) ∧ w = w' := by
  have h1 := hd_lt hx
  have h2 := tl_lt x
  go_enter Tryd.func24, Tryd.ntmps24
  go_wp2_with (first
    | (go_at_call 11; refine (head_any _ hx _).mono ?_; rintro e w' ⟨rfl, rfl⟩)
    | (go_at_call 12; refine (tail_any _ hx _).mono ?_; rintro e w' ⟨rfl, rfl⟩)
    | (go_at_call 8; refine (pack_at _ _ (hd x) ((tl x + n) % 4294967296) rfl (wadd32 _ _) h1 (Nat.mod_lt _ (by decide)) _).mono ?_; rintro e w' ⟨rfl, rfl⟩))
  go_ret
  exact ⟨rfl, rfl⟩
theorem drop_any (x n : Nat) (hx : x < 18446744073709551616) (hn : n < 4294967296) (w : World) :
    Calls Tryd.prog 25 #[.int .u64 x, .int .u32 n] w fun e w' => e = .returned (.int .u64 (dropW x n : Nat)) ∧ w = w' := by
  have h1 := hd_lt hx
  have h2 := tl_lt x
  go_enter Tryd.func25, Tryd.ntmps25
  go_wp2_with (first
    | (go_at_call 11; refine (head_any _ hx _).mono ?_; rintro e w' ⟨rfl, rfl⟩)
    | (go_at_call 12; refine (tail_any _ hx _).mono ?_; rintro e w' ⟨rfl, rfl⟩)
    | (go_at_call 8; refine (pack_at _ _ (hd x) ((tl x + 4294967296 - n) % 4294967296) rfl (wsub32 _ _ (by omega)) h1 (Nat.mod_lt _ (by decide)) _).mono ?_; rintro e w' ⟨rfl, rfl⟩))
  go_ret
  exact ⟨rfl, rfl⟩
theorem gain_at (x : Nat) (a : Int) (n : Nat) (ha : a = n) (hx : x < 18446744073709551616) (hn : n < 4294967296) (w : World) :
    Calls Tryd.prog 23 #[.int .u64 x, .int .u32 a] w fun e w' => e = .returned (.int .u64 (gainW x n : Nat)) ∧ w = w' := by
  subst ha; exact gain_any x n hx hn w
theorem drop_at (x : Nat) (a : Int) (n : Nat) (ha : a = n) (hx : x < 18446744073709551616) (hn : n < 4294967296) (w : World) :
    Calls Tryd.prog 25 #[.int .u64 x, .int .u32 a] w fun e w' => e = .returned (.int .u64 (dropW x n : Nat)) ∧ w = w' := by
  subst ha; exact drop_any x n hx hn w

theorem has_any (x p : Nat) (hx : x < 18446744073709551616) (hp : p < 4294967296) (w : World) :
    Calls Tryd.prog 21 #[.int .u64 x, .int .u32 p] w fun e w' => e = .returned (.bool (has x p)) ∧ w = w' := by
  have h1 := hd_lt hx
  go_enter Tryd.func21, Tryd.ntmps21
  go_wp2_with (first
    | (go_at_call 11; refine (head_any _ hx _).mono ?_; rintro e w' ⟨rfl, rfl⟩)
    | (go_at_call 13; refine (len_any _ hx _).mono ?_; rintro e w' ⟨rfl, rfl⟩))
  go_ret
  refine ⟨ret_bool ?_, rfl⟩
  show decide (IntKind.u32.wrap ((p : Int) - hd x) < (ln x : Int)) = _
  rw [wsub32 _ _ (by omega)]
  unfold has
  simp only [Int.ofNat_lt]

theorem get_any (x q : Nat) (hx : x < 18446744073709551616) (w : World) :
    Calls Tryd.prog 35 #[.int .u64 x, .int .u32 q] w fun e w' => e = .returned (.int .u64 (stp q x 1 : Nat)) ∧ w = w' := by
  have h1 := ln_lt x
  go_enter Tryd.func35, Tryd.ntmps35
  go_wp2_with (first
    | (go_at_call 13; refine (len_any _ hx _).mono ?_; rintro e w' ⟨rfl, rfl⟩)
    | (go_at_call 23; refine (gain_at _ _ (min 1 (ln x)) (by omega) hx (by omega) _).mono ?_; rintro e w' ⟨rfl, rfl⟩))
  all_goals
    go_ret
    exact ⟨rfl, rfl⟩
theorem steal_any (x q : Nat) (hx : x < 18446744073709551616) (w : World) :
    Calls Tryd.prog 36 #[.int .u64 x, .int .u32 q] w fun e w' => e = .returned (.int .u64 (stp q x 2 : Nat)) ∧ w = w' := by
  have h1 := ln_lt x
  go_enter Tryd.func36, Tryd.ntmps36
  go_wp2_with (first
    | (go_at_call 13; refine (len_any _ hx _).mono ?_; rintro e w' ⟨rfl, rfl⟩)
    | (go_at_call 16; refine (older_any _ h1 _).mono ?_; rintro e w' ⟨rfl, rfl⟩)
    | (go_at_call 23; refine (gain_any _ _ hx (by unfold older; omega) _).mono ?_; rintro e w' ⟨rfl, rfl⟩))
  go_ret
  exact ⟨rfl, rfl⟩
theorem put_any (x q : Nat) (hx : x < 18446744073709551616) (hq : q < 4294967296) (w : World) :
    Calls Tryd.prog 37 #[.int .u64 x, .int .u32 q] w fun e w' => e = .returned (.int .u64 (stp q x 3 : Nat)) ∧ w = w' := by
  have h1 := ln_lt x
  by_cases hl : ln x < q
  · have e : stp q x 3 = growW x 1 := by unfold stp; simp [hl]
    rw [e]
    go_enter Tryd.func37, Tryd.ntmps37
    go_wp2_with (first
      | (go_at_call 13; refine (len_any _ hx _).mono ?_; rintro e w' ⟨rfl, rfl⟩)
      | (go_at_call 24; refine (grow_any _ 1 hx (by decide) _).mono ?_; rintro e w' ⟨rfl, rfl⟩))
    go_ret
    exact ⟨rfl, rfl⟩
  · have e : stp q x 3 = x := by unfold stp; simp [hl]
    rw [e]
    go_enter Tryd.func37, Tryd.ntmps37
    go_wp2_with (first
      | (go_at_call 13; refine (len_any _ hx _).mono ?_; rintro e w' ⟨rfl, rfl⟩))
    go_ret
    exact ⟨rfl, rfl⟩
theorem cut_any (x q : Nat) (hx : x < 18446744073709551616) (hq : q < 4294967296) (w : World) :
    Calls Tryd.prog 38 #[.int .u64 x, .int .u32 q] w fun e w' => e = .returned (.int .u64 (stp q x 4 : Nat)) ∧ w = w' := by
  have h1 := ln_lt x
  by_cases hl : ln x < q
  · have e : stp q x 4 = x := by unfold stp; simp [hl]
    rw [e]
    go_enter Tryd.func38, Tryd.ntmps38
    go_wp2_with (first
      | (go_at_call 13; refine (len_any _ hx _).mono ?_; rintro e w' ⟨rfl, rfl⟩))
    go_ret
    exact ⟨rfl, rfl⟩
  · have e : stp q x 4 = dropW x (q / 2) := by unfold stp; simp [hl]
    rw [e]
    go_enter Tryd.func38, Tryd.ntmps38
    go_wp2_with (first
      | (go_at_call 13; refine (len_any _ hx _).mono ?_; rintro e w' ⟨rfl, rfl⟩)
      | (go_at_call 25; refine (drop_at _ _ (q / 2) (by omega) hx (by omega) _).mono ?_; rintro e w' ⟨rfl, rfl⟩))
    go_ret
    exact ⟨rfl, rfl⟩
end Go.Proofs.YtpeikhoepbkggaaDoor
