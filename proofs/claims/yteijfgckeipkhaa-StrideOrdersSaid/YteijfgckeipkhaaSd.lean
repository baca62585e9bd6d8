/- The walks of Strides at any number, of the reference's Strides, and of Orders. -/
import Derived.Test.YteijfgckeipkhaaSc
namespace Go.Proofs.Yteijfgckeipkhaa
open Go.RowKit Go.Sd

theorem strides_any (n : Int) (w : World) :
    Calls Try.prog 13 #[.int .i64 n] w (RowPost (strides n) w) := by
  by_cases h1 : 64 < n
  · rw [strides_out (.inr h1)]
    go_enter Try.func13, Try.ntmps13
    go_wp2
    go_ret
    exact ⟨_, rfl, World.ownsRow_nil _ _ _ _, Below.refl _ _⟩
  · by_cases h2 : n < 1
    · rw [strides_out (.inl h2)]
      go_enter Try.func13, Try.ntmps13
      go_wp2_with fail
      go_loop [3, 9] (fun v vi => v = .slice none 0 0 ∧ vi = .int .i64 0) (fun _ _ => 0)
      case atStart => exact ⟨rfl, rfl⟩
      case round =>
        obtain ⟨rfl, rfl⟩ := hrel
        go_wp2
        go_ret
        exact ⟨_, rfl, World.ownsRow_nil _ _ _ _, Below.refl _ _⟩
    · obtain ⟨m, rfl⟩ : ∃ m : Nat, n = m := ⟨n.toNat, by omega⟩
      rw [strides_in (by omega)]
      exact strides_some m (by omega) w

theorem orders_num {n : Int} : n * ((strides n).length : Int) = orders n := rfl
theorem orders_bd (n : Int) : 0 ≤ orders n ∧ orders n ≤ 4096 := by
  by_cases h : n < 1 ∨ 64 < n
  · unfold orders; rw [strides_out h]; simp
  · obtain ⟨m, rfl⟩ : ∃ m : Nat, n = m := ⟨n.toNat, by omega⟩
    rw [orders_nat (by omega)]
    have := mul_bd (n := m) (by omega) (by omega) (str_pos (n := m) (by omega)) (str_length m m)
    omega
theorem orders_any (n : Int) (w : World) :
    Calls Try.prog 17 #[.int .i64 n] w (Ans (.int .i64 (orders n)) w) := by
  have hb := orders_bd n
  have hw : wrap64 (n * ((strides n).length : Int)) = orders n := IntWalk.wrap64_in _ (by rw [orders_num]; omega)
  have HW := Lib.hid hw
  clear hb hw
  go_enter Try.func17, Try.ntmps17
  go_wp2_with fail
  refine (strides_any n _).mono ?_
  rintro e w1 ⟨v, rfl, hO, hb⟩
  obtain ⟨p, cap, rfl⟩ := slice_form hO
  have HB := Lib.hid hb
  clear hb hO
  go_wp2
  go_ret
  exact ⟨ret_i64 HW.out, HB.out⟩

theorem gcd2_is {a b g : Nat} (hg : Nat.gcd a b = g) (ha1 : 1 ≤ a) (ha : a ≤ 64) (hb1 : 1 ≤ b) (hb : b ≤ 64) (w : World) (x : Int) (hx : x = a) :
    Calls Try.prog 20 #[.int .i64 x, .int .i64 b] w fun e w' => e = .returned (.int .i64 (g : Nat)) ∧ w = w' := by
  subst hg; subst hx; exact gcd2_any a b ha1 ha hb1 hb w

set_option maxHeartbeats 1000000 in
theorem rstrides_some (n : Nat) (hn : n ≤ 64) (w : World) :
    Calls Try.prog 10 #[.int .i64 n] w (RowPost (str n n) w) := by
  obtain ⟨i0, hi, hz0, hz1, hz2⟩ := info_parts infoInt
  go_enter Try.func10, Try.ntmps10
  go_wp2_with fail
  go_loopw [3, 4] (fun v vi wr => ∃ k : Nat, k ≤ n ∧ vi = .int .i64 ((k : Int) + 1) ∧ Hid (wr.ownsRow w.heap.size 3 1 v (str n k).length ((str n k).map (Value.int .i64))) ∧ Hid (Below w.heap.size w wr)) (fun _ vi _ => n + 1 - (intOf vi).toNat)
  case atStart => exact ⟨0, by omega, rfl, World.ownsRow_nil _ _ _ _, Below.refl _ _⟩
  case round =>
    obtain ⟨k, hk, rfl, HO, HB⟩ := hrel
    have hsl := str_length n k
    obtain ⟨l, hl⟩ : ∃ l, (str n k).length = l := ⟨_, rfl⟩
    have HO1 := Lib.hid (str_step hl HO.out)
    obtain ⟨p, cap, rfl⟩ := slice_form HO1.out
    rw [hl] at hsl
    have HL := Lib.hid hl
    clear hl HO
    by_cases hlt : k < n
    · obtain ⟨g, hg⟩ : ∃ g, Nat.gcd (k + 1) n = g := ⟨_, rfl⟩
      have HG := Lib.hid hg
      clear hg
      go_wp2_with fail
      refine (gcd2_is HG.out (by omega) (by omega) (by omega) (by omega) _ _ (by omega)).mono ?_
      rintro e w1 ⟨rfl, rfl⟩
      by_cases hg1 : g = 1
      · subst hg1
        go_wp2_with (at_builtin; refine wpList_append_own _ rfl (.tmp 18) (.tmp 20) 22 rfl w.heap.size 3 i0 (.int .i64 0) 1 8 Try.underlying22 hi hz0 hz1 hz2 rfl (by decide) _ _ _ rfl (HO1.out.alloc _) ⟨wr.heap.size, 0, none⟩ 1 1 [.int .i64 ((k : Int) + 1)] rfl rfl ?c1 ?c2 ?c3 ?c4 ?c5 ?_)
        case c1 => intro j u hu; rcases j with _ | j <;> simp at hu; subst hu; simp [World.cell?_alloc_new, Addr.add]
        case c2 => intro u hu; simp at hu; subst hu; rfl
        case c3 => unfold maxLen; omega
        case c4 => omega
        case c5 => have := HB.out.size; simp; omega
        intro v' w2 hown' hgrow _
        have HB2 := Lib.hid ((HB.out.alloc HB.out.size _).grown hgrow (by have := HB.out.size; simp; omega) (fun j hj => (HO1.out.lt j hj).1))
        have hs := str_yes HG.out
        have HO3 : Hid (w2.ownsRow w.heap.size 3 1 v' (str n (k + 1)).length ((str n (k + 1)).map (Value.int .i64))) := by
          show World.ownsRow _ _ _ _ _ _ _
          rw [hs, List.length_append, List.map_append, HL.out]; exact hown'
        clear hown' hgrow hs
        go_wp2
        go_roundw
        case rel => exact ⟨k + 1, by omega, by go_num, HO3, HB2⟩
        case measure =>
          show _ < _
          simp only [intOf]; omega
      · have hg2 : ((g : Int) == 1) = false := beq_eq_false_iff_ne.2 (by omega)
        have hs := str_no (n := n) (k := k) (by rw [HG.out]; exact hg1)
        have HO3 : Hid (wr.ownsRow w.heap.size 3 1 (.slice p l cap) (str n (k + 1)).length ((str n (k + 1)).map (Value.int .i64))) := by
          show World.ownsRow _ _ _ _ _ _ _
          rw [hs, HL.out]; exact HO1.out
        clear hs
        go_wp2
        go_roundw
        case rel => exact ⟨k + 1, by omega, by go_num, HO3, HB⟩
        case measure =>
          show _ < _
          simp only [intOf]; omega
    · obtain rfl : k = n := by omega
      go_wp2
      go_ret
      refine ⟨_, rfl, ?_, HB.out⟩
      rw [HL.out]; exact HO1.out

theorem rstrides_any (n : Int) (w : World) :
    Calls Try.prog 10 #[.int .i64 n] w (RowPost (strides n) w) := by
  by_cases h : n < 1 ∨ 64 < n
  · rw [strides_out h]
    rcases h with h | h
    · have h2 : ¬ 64 < n := by omega
      go_enter Try.func10, Try.ntmps10
      go_wp2_with fail
      go_loop [3, 4] (fun v vi => v = .slice none 0 0 ∧ vi = .int .i64 1) (fun _ _ => 0)
      case atStart => exact ⟨rfl, rfl⟩
      case round =>
        obtain ⟨rfl, rfl⟩ := hrel
        go_wp2
        go_ret
        exact ⟨_, rfl, World.ownsRow_nil _ _ _ _, Below.refl _ _⟩
    · have h2 : 1 ≤ n := by omega
      go_enter Try.func10, Try.ntmps10
      go_wp2_with fail
      go_loop [3, 4] (fun v vi => v = .slice none 0 0 ∧ vi = .int .i64 1) (fun _ _ => 0)
      case atStart => exact ⟨rfl, rfl⟩
      case round =>
        obtain ⟨rfl, rfl⟩ := hrel
        go_wp2
        go_ret
        exact ⟨_, rfl, World.ownsRow_nil _ _ _ _, Below.refl _ _⟩
  · obtain ⟨m, rfl⟩ : ∃ m : Nat, n = m := ⟨n.toNat, by omega⟩
    rw [strides_in (by omega)]
    exact rstrides_some m (by omega) w
end Go.Proofs.Yteijfgckeipkhaa
