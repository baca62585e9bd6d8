/- The reference's Room (layers 2 and 8), walked. -/
import Derived.Test.YtjdbmedealhbjaaAn
import Derived.Test.YtjdbmedealhbjaaMa
import Derived.WalkSpells
import Derived.WalkLawsBesides
namespace Go.Proofs.Ytjdbmedealhbjaa
open Go.RowKit Go.Wd

theorem ret_u32 {a b : Int} (h : a = b) : Ending.returned (.int .u32 a) = Ending.returned (.int .u32 b) := by rw [h]
theorem ret_u64 {a b : Int} (h : a = b) : Ending.returned (.int .u64 a) = Ending.returned (.int .u64 b) := by rw [h]
theorem ret_i64 {a b : Int} (h : a = b) : Ending.returned (.int .i64 a) = Ending.returned (.int .i64 b) := by rw [h]
theorem ret_bool {a b : Bool} (h : a = b) : Ending.returned (.bool a) = Ending.returned (.bool b) := by rw [h]
set_option maxHeartbeats 400000 in
theorem rroom_any (q : Int) (w : World) :
    Calls Try.prog 28 #[.int .i64 q] w fun e w' => e = .returned (.bool (room q)) ∧ w = w' := by
  go_enter Try.func28, Try.ntmps28
  go_wp2_with fail
  go_loop [3] (fun i => ∃ (k : Nat), 1 ≤ k ∧ k ≤ 17 ∧ i = .int .i64 ((2 ^ k : Nat) : Int) ∧ Hid (∀ j, 1 ≤ j → j < k → q ≠ ((2 ^ j : Nat) : Int))) (fun i => (131073 - intOf i).toNat)
  case atStart => exact ⟨1, by omega, by omega, rfl, fun j h1 h2 => by omega⟩
  case round =>
    obtain ⟨k, hk1, hk2, rfl, HN⟩ := hrel
    have hp : k = 17 ∨ (2 ^ k ≤ 65536 ∧ 2 ≤ 2 ^ k ∧ k < 17) := by
      by_cases h : k = 17
      · exact .inl h
      · right
        have a : (2 : Nat) ^ k ≤ 2 ^ 16 := Nat.pow_le_pow_right (by decide) (by omega)
        have b : (2 : Nat) ^ 1 ≤ 2 ^ k := Nat.pow_le_pow_right (by decide) (by omega)
        have c : (2 : Nat) ^ 16 = 65536 := by decide
        exact ⟨by omega, by omega, by omega⟩
    rcases hp with rfl | ⟨h1, h2, h3⟩
    · have hf : room q = false := by
        cases h : room q with
        | false => rfl
        | true =>
          exfalso
          have hn := HN.out
          rcases room_cases h with h | h | h | h | h | h | h | h | h | h | h | h | h | h | h | h
          · exact hn 1 (by omega) (by omega) h
          · exact hn 2 (by omega) (by omega) h
          · exact hn 3 (by omega) (by omega) h
          · exact hn 4 (by omega) (by omega) h
          · exact hn 5 (by omega) (by omega) h
          · exact hn 6 (by omega) (by omega) h
          · exact hn 7 (by omega) (by omega) h
          · exact hn 8 (by omega) (by omega) h
          · exact hn 9 (by omega) (by omega) h
          · exact hn 10 (by omega) (by omega) h
          · exact hn 11 (by omega) (by omega) h
          · exact hn 12 (by omega) (by omega) h
          · exact hn 13 (by omega) (by omega) h
          · exact hn 14 (by omega) (by omega) h
          · exact hn 15 (by omega) (by omega) h
          · exact hn 16 (by omega) (by omega) h
      have HF := Lib.hid hf
      clear hf
      go_wp2
      go_ret
      exact ⟨by rw [HF.out]; rfl, rfl⟩
    · have hpow : 2 ^ (k + 1) = 2 ^ k * 2 := Nat.pow_succ 2 k
      obtain ⟨m, hm⟩ : ∃ m, 2 ^ k = m := ⟨_, rfl⟩
      have hr := pow_room k
      rw [hm] at h1 h2 hpow hr
      have HR := Lib.hid hr
      have HP := Lib.hid hpow
      have HM := Lib.hid hm
      rw [hm]
      clear hm hpow hr
      by_cases he : q = (m : Int)
      · subst he
        go_wp2
        go_ret
        exact ⟨ret_bool (HR.out h2 h1).symm, rfl⟩
      · have hb : ((m : Int) == q) = false := by
          cases hc : ((m : Int) == q) with
          | false => rfl
          | true => exact absurd (eq_of_beq hc).symm he
        go_wp2
        go_round
        case rel =>
          refine ⟨k + 1, by omega, by omega, ?_, fun j a b => ?_⟩
          · rw [HP.out]; go_num
          · by_cases c : j = k
            · subst c; rw [HM.out]; exact he
            · exact HN.out j a (by omega)
        case measure => simp [intOf]; omega
theorem rroom8_any (q : Int) (w : World) :
    Calls Try.prog 9 #[.int .i64 q] w fun e w' => e = .returned (.bool (room q)) ∧ w = w' := by
  go_enter Try.func9, Try.ntmps9
  go_wp2_with (go_at_call 28; refine (rroom_any _ _).mono ?_; rintro e w' ⟨rfl, rfl⟩)
  go_ret
  exact ⟨rfl, rfl⟩
end Go.Proofs.Ytjdbmedealhbjaa
