/- The walk of the reference's Read. -/
import Derived.Test.YteofkhpofligaaaDoorWg
import Derived.Test.YteofkhpofligaaaDoorTx2
namespace Go.Proofs.YteofkhpofligaaaDoor
open Go.RowKit Go.Tx

set_option maxHeartbeats 400000 in
theorem rread_long (s : ByteArray) (hs : s.size ≤ 9223372036854775807) (h : 30 ≤ s.size) (hl : (txt 0 == s.toList) = false) (hne : ¬ s.toList = []) (w : World) : Calls Tryd.prog 20 #[.string s] w fun e w' => e = .returned (.tuple #[.int .i64 0, .int .i64 10]) ∧ Below w.heap.size w w' := by
  have HL := Lib.hid hl
  clear hl
  go_enter Tryd.func20, Tryd.ntmps20
  go_wp2_with fail
  go_loop [4, 5] (fun n i => n = .int .u64 0 ∧ i = .int .i64 0) (fun _ _ => 0)
  case atStart => exact ⟨rfl, rfl⟩
  case round =>
    obtain ⟨rfl, rfl⟩ := hrel
    go_wp2_with (go_at_call 21; refine (rtext_any _ _).mono ?_; rintro e w1 ⟨l, hl, rfl, hb1⟩; have hl2 : (l == s.toList) = false := (by rw [hl]; exact HL.out); clear hl)
    go_ret2
    exact ⟨rfl, hb1⟩

theorem take_step (s : ByteArray) (k : Nat) (h : k < s.size) : s.data.toList.take (k + 1) = s.data.toList.take k ++ [s[k]] := by
  rw [List.take_succ_eq_append_getElem (by simpa using h)]; rfl

theorem acc_num (s : ByteArray) (k : Nat) (h : k < s.size) (a : Nat) (ha : a = racc (s.data.toList.take k)) (hc : ((s[k].toNat : Int) != 46) = true) :
    Value.int .u64 (IntKind.u64.wrap (IntKind.u64.wrap ((a : Int) * 10) + ((s[k].toNat : Int) - 48) % 256)) = Value.int .u64 ((racc (s.data.toList.take (k + 1)) : Nat) : Int) := by
  rw [take_step s k h, racc_snoc, ← ha, step_num hc]
theorem acc_dot (s : ByteArray) (k : Nat) (h : k < s.size) (a : Nat) (ha : a = racc (s.data.toList.take k)) (hc : ((s[k].toNat : Int) != 46) = false) :
    a = racc (s.data.toList.take (k + 1)) := by
  rw [take_step s k h, racc_snoc, ← ha, step_dot hc]
theorem acc_all (s : ByteArray) (k a : Nat) (hk : ¬ k < s.size) (ha : a = racc (s.data.toList.take k)) : a = racc s.data.toList := by
  rw [List.take_of_length_le (by rw [← Lib.size_eq]; omega)] at ha; exact ha

theorem rsA {s : ByteArray} (h : s.toList = []) : RS s.data.toList 0 10 := by
  rw [ByteArray.toList_eq] at h; rw [h]; exact rs_empty
theorem rsB {s : ByteArray} {a : Nat} {l : List UInt8} (ha : (a : Int) ≤ 4611686018427387904) (hne : ¬ s.toList = []) (h : ((4611686018427387904 : Int) < a ∨ s.toList.isEmpty = true) ∨ (!l == s.toList) = true) (hl : l = tx (a : Int)) (hacc : a = racc s.data.toList) : RS s.data.toList 0 10 := by
  rcases h with (h | h) | h
  · omega
  · exact absurd (List.isEmpty_iff.1 h) hne
  · rw [ByteArray.toList_eq] at h
    subst hl; subst hacc
    exact rs_other (by simpa using h)
theorem rsC {s : ByteArray} {a : Nat} {l : List UInt8} (hne : ¬ s.toList = []) (h : ((a : Int) ≤ 4611686018427387904 ∧ s.toList.isEmpty = false) ∧ (!l == s.toList) = false) (hl : l = tx (a : Int)) (hacc : a = racc s.data.toList) : RS s.data.toList (a : Int) 0 := by
  have h2 := h.2
  rw [ByteArray.toList_eq] at h2 hne
  subst hl; subst hacc
  exact rs_same (by simpa using h2) hne
theorem rsD {s : ByteArray} {a : Nat} (h : (4611686018427387904 : Int) < a) (hacc : a = racc s.data.toList) : RS s.data.toList 0 10 := by
  subst hacc; exact rs_big (by unfold MOST; omega)

set_option maxHeartbeats 400000 in
theorem rread_short (s : ByteArray) (h : s.size < 30) (w : World) : Calls Tryd.prog 20 #[.string s] w (ReadPost s w) := by
  go_enter Tryd.func20, Tryd.ntmps20
  go_wp2_with fail
  go_loop [4, 5] (fun n i => ∃ a k : Nat, k ≤ s.size ∧ i = .int .i64 k ∧ n = .int .u64 a ∧ a = racc (s.data.toList.take k)) (fun _ i => s.size - (intOf i).toNat)
  case atStart => exact ⟨0, 0, by omega, rfl, rfl, by simp [racc]⟩
  case round =>
    obtain ⟨a, k, hk, rfl, rfl, hacc⟩ := hrel
    have ha : a < 18446744073709551616 := by rw [hacc]; exact racc_lt _
    have HA := Lib.hid hacc
    clear hacc
    by_cases hlt : k < s.size
    · go_wp2_with fail
      · refine ⟨⟨_, k + 1, by omega, by go_num, acc_num s k hlt a HA.out (by assumption), rfl⟩, ?_⟩
        simp [intOf]; omega
      · refine ⟨⟨a, k + 1, by omega, by go_num, rfl, acc_dot s k hlt a HA.out (by assumption)⟩, ?_⟩
        simp [intOf]; omega
    · have HB := Lib.hid (acc_all s k a hlt HA.out)
      clear HA
      go_wp2_with (go_at_call 21; refine (rtext_any _ _).mono ?_; rintro e w1 ⟨l, hl, rfl, hb1⟩; have HL := Lib.hid hl; clear hl)
      · go_ret2
        exact ⟨0, 10, rsA (by assumption), rfl, Below.refl _ _⟩
      · go_ret2
        exact ⟨0, 10, rsB (by assumption) (by assumption) (by assumption) HL.out HB.out, rfl, hb1⟩
      · go_ret2
        exact ⟨_, 0, rsC (by assumption) (by assumption) HL.out HB.out, rfl, hb1⟩
      · go_ret2
        exact ⟨0, 10, rsD (by assumption) HB.out, rfl, Below.refl _ _⟩

theorem toL (s : ByteArray) : s.toList = s.data.toList := ByteArray.toList_eq s

/-- THE REFERENCE's Read, OF EVERY TEXT. -/
theorem rread_any (s : ByteArray) (hs : s.size ≤ 9223372036854775807) (w : World) : Calls Tryd.prog 20 #[.string s] w (ReadPost s w) := by
  by_cases h : s.size < 30
  · exact rread_short s h w
  · have hne : ¬ s.toList = [] := by
      rw [toL]; intro h0; have := Lib.size_eq s; rw [h0, List.length_nil] at this; omega
    have hl : (txt 0 == s.toList) = false := by
      have h1 := txt_length 0 (by decide)
      have h2 := Lib.size_eq s
      rw [toL]
      cases hb : (txt 0 == s.data.toList)
      · rfl
      · have := eq_of_beq hb; rw [← this] at h2; omega
    exact (rread_long s hs (by omega) hl hne w).mono fun e w' ⟨he, hb⟩ => ⟨0, 10, rs_long (by have := Lib.size_eq s; omega), he, hb⟩

/-- span.Read, OF EVERY TEXT. -/
theorem read_all {B : Nat} (s : ByteArray) (hs : s.size ≤ 9223372036854775807) (w : World) (h : Env B w) : Calls Tryd.prog 19 #[.string s] w (ReadPost s w) := by
  by_cases h1 : s.size < 8 ∨ 20 < s.size
  · exact (read_out s hs h1 w).mono fun e w' ⟨he, hw⟩ => ⟨0, 10, read_len h1, he, by rw [hw]; exact Below.refl _ _⟩
  · exact read_any s (by omega) (by omega) w h
end Go.Proofs.YteofkhpofligaaaDoor
