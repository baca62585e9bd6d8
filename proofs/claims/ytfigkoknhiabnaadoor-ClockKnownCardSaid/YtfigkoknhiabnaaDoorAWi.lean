/- The walks of the sums, of milliseconds, and of math's small functions. -/
import Derived.Test.YtfigkoknhiabnaaDoorAWf
import Derived.Test.YtfigkoknhiabnaaDoorAWe
import Derived.Test.YtfigkoknhiabnaaDoorASm
import Derived.Test.YtfigkoknhiabnaaDoorCm
namespace Go.Proofs.YtfigkoknhiabnaaDoor
open Go.RowKit Go.Sm

set_option maxHeartbeats 400000 in
theorem near_any (n : Int) (w : World) : Calls Tryd.prog 37 #[.int .i64 n] w fun e w' => e = .returned (.int .i64 (clampI n)) ∧ w = w' := by
  by_cases h : n < 0
  · have e : clampI n = 0 := by unfold clampI; rw [if_pos h]
    rw [e]
    go_enter Tryd.func37, Tryd.ntmps37
    go_wp2
    go_ret
    exact ⟨rfl, rfl⟩
  · by_cases h2 : 4611686018427387904 < n
    · have e : clampI n = 4611686018427387904 := by unfold clampI; rw [if_neg h, if_pos h2]
      rw [e]
      go_enter Tryd.func37, Tryd.ntmps37
      go_wp2
      go_ret
      exact ⟨rfl, rfl⟩
    · have e : clampI n = n := by unfold clampI; rw [if_neg h, if_neg h2]
      rw [e]
      go_enter Tryd.func37, Tryd.ntmps37
      go_wp2
      go_ret
      exact ⟨rfl, rfl⟩

set_option maxHeartbeats 400000 in
theorem clamp_any (n : Int) (w : World) : Calls Tryd.prog 29 #[.int .i64 n] w fun e w' => e = .returned (.int .i64 (clampI n)) ∧ w = w' := by
  by_cases h : n < 0
  · have e : clampI n = 0 := by unfold clampI; rw [if_pos h]
    rw [e]
    go_enter Tryd.func29, Tryd.ntmps29
    go_wp2
    go_ret
    exact ⟨rfl, rfl⟩
  · by_cases h2 : 4611686018427387904 < n
    · have e : clampI n = 4611686018427387904 := by unfold clampI; rw [if_neg h, if_pos h2]
      rw [e]
      go_enter Tryd.func29, Tryd.ntmps29
      go_wp2
      go_ret
      exact ⟨rfl, rfl⟩
    · have e : clampI n = n := by unfold clampI; rw [if_neg h, if_neg h2]
      rw [e]
      go_enter Tryd.func29, Tryd.ntmps29
      go_wp2
      go_ret
      exact ⟨rfl, rfl⟩

theorem sum_step_no {zs : List Int} {k : Nat} {s : Int} (h : k < zs.length) (hs : s = S (zs.take k)) (hg : ¬ 4611686018427387904 - s < clampI (zs.getD k 0)) : s + clampI (zs.getD k 0) = S (zs.take (k + 1)) := by
  rw [take_more zs k h, S_snoc, ← hs]; unfold sstep; rw [if_neg (by omega)]
theorem sum_step_yes {zs : List Int} {k : Nat} {s : Int} (h : k < zs.length) (hs : s = S (zs.take k)) (hg : 4611686018427387904 - s < clampI (zs.getD k 0)) : S zs = 4611686018427387904 := by
  have h1 : S (zs.take (k + 1)) = 4611686018427387904 := by
    rw [take_more zs k h, S_snoc, ← hs]; unfold sstep; rw [if_pos (by omega)]
  have h2 := S_max _ (zs.drop (k + 1)) h1
  rwa [List.take_append_drop] at h2

set_option maxHeartbeats 400000 in
theorem sum_any (p : Option Addr) (cap : Nat) (zs : List Int) (w : World) (hl : Lies .i64 w p zs) : Calls Tryd.prog 34 #[.slice p zs.length cap] w fun e w' => e = .returned (.int .i64 (S zs)) ∧ w = w' := by
  have hlen := hl.len
  have HL := Lib.hid hl
  clear hl
  go_enter Tryd.func34, Tryd.ntmps34
  go_wp2_with fail
  go_loop [3, 5, 8] (fun s n i => ∃ (k : Nat) (t : Int), k ≤ zs.length ∧ i = .int .i64 k ∧ s = .int .i64 t ∧ t = S (zs.take k)) (fun _ _ i => zs.length - (intOf i).toNat)
  case atStart => exact ⟨0, 0, by omega, rfl, rfl, rfl⟩
  case round =>
    obtain ⟨k, t, hk, rfl, rfl, ht⟩ := hrel
    have hb := S_bd (zs.take k)
    rw [← ht] at hb
    have HT := Lib.hid ht
    clear ht
    by_cases hlt : k < zs.length
    · obtain ⟨b, o, rfl, hc⟩ := HL.out.cells k hlt
      obtain ⟨z, hz⟩ : ∃ z, zs.getD k 0 = z := ⟨_, rfl⟩
      rw [hz] at hc
      have HZ := Lib.hid hz
      clear hz
      have hcl := clampI_bd z
      go_wp2_with (go_at_call 37; refine (near_any _ _).mono ?_; rintro e w' ⟨rfl, rfl⟩)
      · go_ret
        exact ⟨ret_i (sum_step_yes hlt HT.out (by rw [HZ.out]; assumption)).symm, rfl⟩
      · have hno : clampI z ≤ 4611686018427387904 - t := by assumption
        have hs := Lib.hid (sum_step_no hlt HT.out (by rw [HZ.out]; omega))
        refine ⟨⟨k + 1, t + clampI z, by omega, by go_num, rfl, by rw [← HZ.out]; exact hs.out⟩, ?_⟩
        simp [intOf]; omega
    · go_wp2_with fail
      go_ret
      have ht := HT.out
      rw [List.take_of_length_le (by omega)] at ht
      exact ⟨ret_i ht, rfl⟩

theorem rsum_step_no {zs : List Int} {k : Nat} {s : Int} (h : k < zs.length) (hs : s = S (zs.take k)) (hg : s + clampI (zs.getD k 0) ≤ 4611686018427387904) : s + clampI (zs.getD k 0) = S (zs.take (k + 1)) := by
  rw [take_more zs k h, S_snoc, ← hs]; unfold sstep; rw [if_neg (by omega)]
theorem rsum_step_yes {zs : List Int} {k : Nat} {s : Int} (h : k < zs.length) (hs : s = S (zs.take k)) (hg : 4611686018427387904 < s + clampI (zs.getD k 0)) : 4611686018427387904 = S (zs.take (k + 1)) := by
  rw [take_more zs k h, S_snoc, ← hs]; unfold sstep; rw [if_pos (by omega)]

set_option maxHeartbeats 400000 in
theorem rsum_any (p : Option Addr) (cap : Nat) (zs : List Int) (w : World) (hl : Lies .i64 w p zs) : Calls Tryd.prog 18 #[.slice p zs.length cap] w fun e w' => e = .returned (.int .i64 (S zs)) ∧ w = w' := by
  have hlen := hl.len
  have HL := Lib.hid hl
  clear hl
  go_enter Tryd.func18, Tryd.ntmps18
  go_wp2_with fail
  go_loop [3, 4] (fun s i => ∃ (k : Nat) (t : Int), k ≤ zs.length ∧ i = .int .i64 k ∧ s = .int .u64 t ∧ t = S (zs.take k)) (fun _ i => zs.length - (intOf i).toNat)
  case atStart => exact ⟨0, 0, by omega, rfl, rfl, rfl⟩
  case round =>
    obtain ⟨k, t, hk, rfl, rfl, ht⟩ := hrel
    have hb := S_bd (zs.take k)
    rw [← ht] at hb
    have HT := Lib.hid ht
    clear ht
    by_cases hlt : k < zs.length
    · obtain ⟨b, o, rfl, hc⟩ := HL.out.cells k hlt
      obtain ⟨z, hz⟩ : ∃ z, zs.getD k 0 = z := ⟨_, rfl⟩
      rw [hz] at hc
      have HZ := Lib.hid hz
      clear hz
      have hcl := clampI_bd z
      go_wp2_with (go_at_call 29; refine (clamp_any _ _).mono ?_; rintro e w' ⟨rfl, rfl⟩)
      · have hs := Lib.hid (rsum_step_yes hlt HT.out (by rw [HZ.out]; assumption))
        refine ⟨⟨k + 1, 4611686018427387904, by omega, by go_num, rfl, hs.out⟩, ?_⟩
        simp [intOf]; omega
      · have hs := Lib.hid (rsum_step_no hlt HT.out (by rw [HZ.out]; assumption))
        refine ⟨⟨k + 1, t + clampI z, by omega, by go_num, rfl, by rw [← HZ.out]; exact hs.out⟩, ?_⟩
        simp [intOf]; omega
    · go_wp2_with fail
      go_ret
      have ht := HT.out
      rw [List.take_of_length_le (by omega)] at ht
      exact ⟨ret_i ht, rfl⟩

end Go.Proofs.YtfigkoknhiabnaaDoor
