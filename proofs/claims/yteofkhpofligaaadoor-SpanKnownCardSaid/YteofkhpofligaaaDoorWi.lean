/- The walks of the sums, of milliseconds, and of math's small functions. -/
import Derived.Test.YteofkhpofligaaaDoorWf
import Derived.Test.YteofkhpofligaaaDoorWe
import Derived.Test.YteofkhpofligaaaDoorSm
namespace Go.Proofs.YteofkhpofligaaaDoor
open Go.RowKit Go.Sm

set_option maxHeartbeats 400000 in
theorem near_any (n : Int) (w : World) : Calls Tryd.prog 30 #[.int .i64 n] w fun e w' => e = .returned (.int .i64 (clampI n)) ∧ w = w' := by
  by_cases h : n < 0
  · have e : clampI n = 0 := by unfold clampI; rw [if_pos h]
    rw [e]
    go_enter Tryd.func30, Tryd.ntmps30
    go_wp2
    go_ret
    exact ⟨rfl, rfl⟩
  · by_cases h2 : 4611686018427387904 < n
    · have e : clampI n = 4611686018427387904 := by unfold clampI; rw [if_neg h, if_pos h2]
      rw [e]
      go_enter Tryd.func30, Tryd.ntmps30
      go_wp2
      go_ret
      exact ⟨rfl, rfl⟩
    · have e : clampI n = n := by unfold clampI; rw [if_neg h, if_neg h2]
      rw [e]
      go_enter Tryd.func30, Tryd.ntmps30
      go_wp2
      go_ret
      exact ⟨rfl, rfl⟩

set_option maxHeartbeats 400000 in
theorem clamp_any (n : Int) (w : World) : Calls Tryd.prog 29 #[.int .i64 n] w fun e w' => e = .returned (.int .i64 (clampI n)) ∧ w = w' := by
  by_cases h : n < 0
  · have e : clampI n = 0 := by unfold clampI; rw [if_pos h]
    rw [e]
    go_enter Tryd.func29, Tryd.ntmps29
    go_wp2
    go_ret
    exact ⟨rfl, rfl⟩
  · by_cases h2 : 4611686018427387904 < n
    · have e : clampI n = 4611686018427387904 := by unfold clampI; rw [if_neg h, if_pos h2]
      rw [e]
      go_enter Tryd.func29, Tryd.ntmps29
      go_wp2
      go_ret
      exact ⟨rfl, rfl⟩
    · have e : clampI n = n := by unfold clampI; rw [if_neg h, if_neg h2]
      rw [e]
      go_enter Tryd.func29, Tryd.ntmps29
      go_wp2
      go_ret
      exact ⟨rfl, rfl⟩

/-- a slice of numbers, as it lies -/
structure Lies (w : World) (p : Option Addr) (zs : List Int) : Prop where
  len : zs.length ≤ 1000000000000000
  cells : ∀ j, j < zs.length → ∃ b o, p = some ⟨b, o, none⟩ ∧ w.cell? ⟨b, o + j, none⟩ = some (.int .i64 (zs.getD j 0))

theorem take_more (zs : List Int) (k : Nat) (h : k < zs.length) : zs.take (k + 1) = zs.take k ++ [zs.getD k 0] := by
  rw [List.take_succ_eq_append_getElem h]
  congr 2
  simp [List.getD, h]

theorem sum_step_no {zs : List Int} {k : Nat} {s : Int} (h : k < zs.length) (hs : s = S (zs.take k)) (hg : ¬ 4611686018427387904 - s < clampI (zs.getD k 0)) : s + clampI (zs.getD k 0) = S (zs.take (k + 1)) := by
  rw [take_more zs k h, S_snoc, ← hs]; unfold sstep; rw [if_neg (by omega)]
theorem sum_step_yes {zs : List Int} {k : Nat} {s : Int} (h : k < zs.length) (hs : s = S (zs.take k)) (hg : 4611686018427387904 - s < clampI (zs.getD k 0)) : S zs = 4611686018427387904 := by
  have h1 : S (zs.take (k + 1)) = 4611686018427387904 := by
    rw [take_more zs k h, S_snoc, ← hs]; unfold sstep; rw [if_pos (by omega)]
  have h2 := S_max _ (zs.drop (k + 1)) h1
  rwa [List.take_append_drop] at h2

set_option maxHeartbeats 400000 in
theorem sum_any (p : Option Addr) (cap : Nat) (zs : List Int) (w : World) (hl : Lies w p zs) : Calls Tryd.prog 14 #[.slice p zs.length cap] w fun e w' => e = .returned (.int .i64 (S zs)) ∧ w = w' := by
  have hlen := hl.len
  have HL := Lib.hid hl
  clear hl
  go_enter Tryd.func14, Tryd.ntmps14
  go_wp2_with fail
  go_loop [3, 5, 8] (fun s n i => ∃ (k : Nat) (t : Int), k ≤ zs.length ∧ i = .int .i64 k ∧ s = .int .i64 t ∧ t = S (zs.take k)) (fun _ _ i => zs.length - (intOf i).toNat)
  case atStart => exact ⟨0, 0, by omega, rfl, rfl, rfl⟩
  case round =>
    obtain ⟨k, t, hk, rfl, rfl, ht⟩ := hrel
    have hb := S_bd (zs.take k)
    rw [← ht] at hb
    have HT := Lib.hid ht
    clear ht
    by_cases hlt : k < zs.length
    · obtain ⟨b, o, rfl, hc⟩ := HL.out.cells k hlt
      obtain ⟨z, hz⟩ : ∃ z, zs.getD k 0 = z := ⟨_, rfl⟩
      rw [hz] at hc
      have HZ := Lib.hid hz
      clear hz
      have hcl := clampI_bd z
      go_wp2_with (go_at_call 30; refine (near_any _ _).mono ?_; rintro e w' ⟨rfl, rfl⟩)
      · go_ret
        exact ⟨ret_i (sum_step_yes hlt HT.out (by rw [HZ.out]; assumption)).symm, rfl⟩
      · have hno : clampI z ≤ 4611686018427387904 - t := by assumption
        have hs := Lib.hid (sum_step_no hlt HT.out (by rw [HZ.out]; omega))
        refine ⟨⟨k + 1, t + clampI z, by omega, by go_num, rfl, by rw [← HZ.out]; exact hs.out⟩, ?_⟩
        simp [intOf]; omega
    · go_wp2_with fail
      go_ret
      have ht := HT.out
      rw [List.take_of_length_le (by omega)] at ht
      exact ⟨ret_i ht, rfl⟩

theorem rsum_step_no {zs : List Int} {k : Nat} {s : Int} (h : k < zs.length) (hs : s = S (zs.take k)) (hg : s + clampI (zs.getD k 0) ≤ 4611686018427387904) : s + clampI (zs.getD k 0) = S (zs.take (k + 1)) := by
  rw [take_more zs k h, S_snoc, ← hs]; unfold sstep; rw [if_neg (by omega)]
theorem rsum_step_yes {zs : List Int} {k : Nat} {s : Int} (h : k < zs.length) (hs : s = S (zs.take k)) (hg : 4611686018427387904 < s + clampI (zs.getD k 0)) : 4611686018427387904 = S (zs.take (k + 1)) := by
  rw [take_more zs k h, S_snoc, ← hs]; unfold sstep; rw [if_pos (by omega)]

set_option maxHeartbeats 400000 in
theorem rsum_any (p : Option Addr) (cap : Nat) (zs : List Int) (w : World) (hl : Lies w p zs) : Calls Tryd.prog 13 #[.slice p zs.length cap] w fun e w' => e = .returned (.int .i64 (S zs)) ∧ w = w' := by
  have hlen := hl.len
  have HL := Lib.hid hl
  clear hl
  go_enter Tryd.func13, Tryd.ntmps13
  go_wp2_with fail
  go_loop [3, 4] (fun s i => ∃ (k : Nat) (t : Int), k ≤ zs.length ∧ i = .int .i64 k ∧ s = .int .u64 t ∧ t = S (zs.take k)) (fun _ i => zs.length - (intOf i).toNat)
  case atStart => exact ⟨0, 0, by omega, rfl, rfl, rfl⟩
  case round =>
    obtain ⟨k, t, hk, rfl, rfl, ht⟩ := hrel
    have hb := S_bd (zs.take k)
    rw [← ht] at hb
    have HT := Lib.hid ht
    clear ht
    by_cases hlt : k < zs.length
    · obtain ⟨b, o, rfl, hc⟩ := HL.out.cells k hlt
      obtain ⟨z, hz⟩ : ∃ z, zs.getD k 0 = z := ⟨_, rfl⟩
      rw [hz] at hc
      have HZ := Lib.hid hz
      clear hz
      have hcl := clampI_bd z
      go_wp2_with (go_at_call 29; refine (clamp_any _ _).mono ?_; rintro e w' ⟨rfl, rfl⟩)
      · have hs := Lib.hid (rsum_step_yes hlt HT.out (by rw [HZ.out]; assumption))
        refine ⟨⟨k + 1, 4611686018427387904, by omega, by go_num, rfl, hs.out⟩, ?_⟩
        simp [intOf]; omega
      · have hs := Lib.hid (rsum_step_no hlt HT.out (by rw [HZ.out]; assumption))
        refine ⟨⟨k + 1, t + clampI z, by omega, by go_num, rfl, by rw [← HZ.out]; exact hs.out⟩, ?_⟩
        simp [intOf]; omega
    · go_wp2_with fail
      go_ret
      have ht := HT.out
      rw [List.take_of_length_le (by omega)] at ht
      exact ⟨ret_i ht, rfl⟩

theorem run_bits (b : Nat) (w : World) : (callFunc 15 #[.float .f64 b]).run Tryd.prog w = .ok (.value (.int .u64 (b : Int))) w := by
  rw [run_callFunc_extern (e := Extern.MathFloatBits.float64bits) Tryd.func15 (by kernel_rfl) (by kernel_rfl) (by kernel_rfl) (by kernel_rfl)]
  rfl
theorem run_frombits (n : Int) (w : World) : (callFunc 38 #[.int .u64 n]).run Tryd.prog w = .ok (.value (.float .f64 n.toNat)) w := by
  rw [run_callFunc_extern (e := Extern.MathFloatBits.float64frombits) Tryd.func38 (by kernel_rfl) (by kernel_rfl) (by kernel_rfl) (by kernel_rfl)]
  rfl

set_option maxHeartbeats 400000 in
theorem inf_any (w : World) : Calls Tryd.prog 25 #[.int .i64 1] w fun e w' => e = .returned (.float .f64 9218868437227405312) ∧ w = w' := by
  have h := run_frombits 9218868437227405312 w
  go_enter Tryd.func25, Tryd.ntmps25
  go_wp2
  go_ret
  exact ⟨rfl, rfl⟩

set_option maxHeartbeats 400000 in
theorem nan_any (w : World) : Calls Tryd.prog 24 #[] w fun e w' => e = .returned (.float .f64 9221120237041090561) ∧ w = w' := by
  have h := run_frombits 9221120237041090561 w
  go_enter Tryd.func24, Tryd.ntmps24
  go_wp2
  go_ret
  exact ⟨rfl, rfl⟩

set_option maxHeartbeats 400000 in
theorem negzero_any (w : World) : Calls Tryd.prog 26 #[.float .f64 0, .float .f64 13830554455654793216] w fun e w' => e = .returned (.float .f64 9223372036854775808) ∧ w = w' := by
  have h := run_frombits 9223372036854775808 w
  have h1 := run_bits 0 w
  have h2 := run_bits 13830554455654793216 w
  have k1 : bits BinOp.andNot IntKind.u64 0 9223372036854775808 = 0 := by decide +kernel
  have k2 : bits BinOp.and IntKind.u64 13830554455654793216 9223372036854775808 = 9223372036854775808 := by decide +kernel
  have k3 : bits BinOp.or IntKind.u64 0 9223372036854775808 = 9223372036854775808 := by decide +kernel
  go_enter Tryd.func26, Tryd.ntmps26
  go_wp2
  go_ret
  exact ⟨rfl, rfl⟩

/-- WHAT Millis GIVES: the quotient's bits. -/
def mil (n : Int) : Nat := (Ieee.double.div (floatOfInt .f64 (clampI n)) Fm.C6).getD 0

theorem div_run {x r : Nat} (h : Ieee.double.div x Fm.C6 = some r) : ∀ t w, (binOp .quo t (.float .f64 x) (.float .f64 4696837146684686336)).run Tryd.prog w = .ok (.float .f64 r) w :=
  fun t w => run_float_arith w .quo t .f64 x _ r h

set_option maxHeartbeats 400000 in
theorem millis_core (n : Int) (r : Nat) (w : World) (h : Ieee.double.div (floatOfInt .f64 (clampI n)) Fm.C6 = some r) : Calls Tryd.prog 16 #[.int .i64 n] w fun e w' => e = .returned (.float .f64 r) ∧ w = w' := by
  have hop := div_run h
  clear h
  go_enter Tryd.func16, Tryd.ntmps16
  go_wp2_with (first | (go_at_call 30; refine (near_any _ _).mono ?_; rintro e w' ⟨rfl, rfl⟩) | fail)
  go_ret
  exact ⟨rfl, rfl⟩
set_option maxHeartbeats 400000 in
theorem rmillis_core (n : Int) (r : Nat) (w : World) (h : Ieee.double.div (floatOfInt .f64 (clampI n)) Fm.C6 = some r) : Calls Tryd.prog 17 #[.int .i64 n] w fun e w' => e = .returned (.float .f64 r) ∧ w = w' := by
  have hop := div_run h
  clear h
  go_enter Tryd.func17, Tryd.ntmps17
  go_wp2_with (first | (go_at_call 29; refine (clamp_any _ _).mono ?_; rintro e w' ⟨rfl, rfl⟩) | fail)
  go_ret
  exact ⟨rfl, rfl⟩
end Go.Proofs.YteofkhpofligaaaDoor
