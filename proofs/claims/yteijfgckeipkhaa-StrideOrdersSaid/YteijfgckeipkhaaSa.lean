/- The walks of the small functions: size, Gcd, the reference's divides, Gcd2 and Gcd, the kit's Pick and SameInts. -/
import Derived.Test.YteijfgckeipkhaaSm
import Derived.WalkSpells
import Derived.WalkLawsBesides
import Derived.Deep.RegionHeld3
import Derived.BigQuiet
import Derived.Deep.QuietTactic
import Derived.Deep.LoopGhost
import Derived.Outline
import Derived.Lib.QuietBelow
namespace Go.Proofs.Yteijfgckeipkhaa
open Go.RowKit Go.Sd

theorem ret_i64 {a b : Int} (h : a = b) : Ending.returned (.int .i64 a) = Ending.returned (.int .i64 b) := by rw [h]
theorem ret_u64 {a b : Int} (h : a = b) : Ending.returned (.int .u64 a) = Ending.returned (.int .u64 b) := by rw [h]
theorem ret_bool {a b : Bool} (h : a = b) : Ending.returned (.bool a) = Ending.returned (.bool b) := by rw [h]
/-- an answer, in a world in which nothing that was has changed -/
def Ans (v : Value) (w : World) (e : Ending) (w' : World) : Prop := e = .returned v ∧ Below w.heap.size w w'

theorem size_any (n : Int) (h1 : -9223372036854775808 ≤ n) (h2 : n ≤ 9223372036854775807) (w : World) :
    Calls Try.prog 21 #[.int .i64 n] w fun e w' => e = .returned (.int .u64 (n.natAbs : Nat)) ∧ w = w' := by
  by_cases h : n < 0
  · go_enter Try.func21, Try.ntmps21
    go_wp2
    go_ret
    exact ⟨ret_u64 (by simp only [IntKind.wrap, IntKind.bits, IntKind.signed]; simp; omega), rfl⟩
  · go_enter Try.func21, Try.ntmps21
    go_wp2
    go_ret
    exact ⟨ret_u64 (by omega), rfl⟩

theorem divides_any (d n : Int) (hd : 1 ≤ d) (hd2 : d ≤ 10000) (h1 : -1000000 ≤ n) (h2 : n ≤ 1000000) (w : World) :
    Calls Try.prog 22 #[.int .i64 d, .int .i64 n] w fun e w' => e = .returned (.bool (decide (d ∣ n))) ∧ w = w' := by
  go_enter Try.func22, Try.ntmps22
  go_wp2
  go_ret
  refine ⟨ret_bool ?_, rfl⟩
  rw [Bool.eq_iff_iff, beq_iff_eq, decide_eq_true_iff, Int.dvd_iff_tmod_eq_zero]
theorem pick_any (i : Int) (n : Nat) (h1 : -9223372036854775808 ≤ i) (h2 : i ≤ 9223372036854775807) (hn1 : 1 ≤ n) (hn : n ≤ 1000000000) (w : World) :
    Calls Try.prog 18 #[.int .i64 i, .int .i64 n] w fun e w' => e = .returned (.int .i64 (i % n)) ∧ w = w' := by
  have a1 := Int.tmod_lt_of_pos i (show (0 : Int) < n by omega)
  have a2 := Int.lt_tmod_of_pos i (show (0 : Int) < n by omega)
  have e1 : wrap64 (i.tmod n + n) = i.tmod n + n := IntWalk.wrap64_in _ ⟨by omega, by omega⟩
  have e2 : (i.tmod n + n).tmod n = i % n := by
    rw [Int.tmod_eq_emod_of_nonneg (by omega), Int.add_emod_right, Int.tmod_def, Int.sub_mul_emod_self_left]
  have E := Lib.hid (And.intro e1 e2)
  clear a1 a2 e1 e2
  go_enter Try.func18, Try.ntmps18
  go_wp2
  go_ret
  exact ⟨ret_i64 (by rw [E.out.1, E.out.2]), rfl⟩

set_option maxHeartbeats 400000 in
theorem gcd2_any (a b : Nat) (ha1 : 1 ≤ a) (ha : a ≤ 64) (hb1 : 1 ≤ b) (hb : b ≤ 64) (w : World) :
    Calls Try.prog 20 #[.int .i64 a, .int .i64 b] w fun e w' => e = .returned (.int .i64 (Nat.gcd a b : Nat)) ∧ w = w' := by
  go_enter Try.func20, Try.ntmps20
  go_wp2_with fail
  go_loop [5, 6] (fun vr vd => ∃ (d r : Nat), 2 ≤ d ∧ d ≤ 65 ∧ vr = .int .i64 r ∧ vd = .int .i64 d ∧ Hid (Two a b d r)) (fun _ vd => 65 - (intOf vd).toNat)
  case atStart => exact ⟨2, 1, by omega, by omega, rfl, rfl, Two.start a b⟩
  case round =>
    obtain ⟨d, r, hd1, hd2, rfl, rfl, HT⟩ := hrel
    by_cases hlt : d ≤ 64
    · by_cases h1 : (d : Int) ∣ (a : Int)
      · by_cases h2 : (d : Int) ∣ (b : Int)
        · have HT2 := Lib.hid (HT.out.take (by omega) (Int.natCast_dvd_natCast.1 h1) (Int.natCast_dvd_natCast.1 h2))
          go_wp2_with (go_at_call 22; refine (divides_any _ _ (by omega) (by omega) (by omega) (by omega) _).mono ?_; rintro e w' ⟨rfl, rfl⟩)
          go_round
          case rel => exact ⟨d + 1, d, by omega, by omega, rfl, by go_num, HT2⟩
          case measure => simp [intOf]; omega
        · have HT2 := Lib.hid (HT.out.skip (fun h => h2 (Int.natCast_dvd_natCast.2 h.2)))
          go_wp2_with (go_at_call 22; refine (divides_any _ _ (by omega) (by omega) (by omega) (by omega) _).mono ?_; rintro e w' ⟨rfl, rfl⟩)
          go_round
          case rel => exact ⟨d + 1, r, by omega, by omega, rfl, by go_num, HT2⟩
          case measure => simp [intOf]; omega
      · have HT2 := Lib.hid (HT.out.skip (fun h => h1 (Int.natCast_dvd_natCast.2 h.1)))
        go_wp2_with (go_at_call 22; refine (divides_any _ _ (by omega) (by omega) (by omega) (by omega) _).mono ?_; rintro e w' ⟨rfl, rfl⟩)
        go_round
        case rel => exact ⟨d + 1, r, by omega, by omega, rfl, by go_num, HT2⟩
        case measure => simp [intOf]; omega
    · have h1 : 1 ≤ Nat.gcd a b := Nat.gcd_pos_of_pos_left b (by omega)
      have h2 := Nat.le_of_dvd (show 0 < a by omega) (Nat.gcd_dvd_left a b)
      have hr := HT.out.done h1 (by omega)
      have HR := Lib.hid hr
      clear h1 h2 hr HT
      go_wp2
      go_ret
      exact ⟨ret_i64 (by rw [HR.out]), rfl⟩

set_option maxHeartbeats 400000 in
/-- the kit's SameInts of two rows of one list -/
theorem sameints_any (zs : List Int) (p1 p2 : Option Addr) (c1 c2 : Nat) (w : World) (h1 : Lies .i64 w p1 zs) (h2 : Lies .i64 w p2 zs) :
    Calls Try.prog 16 #[.slice p1 zs.length c1, .slice p2 zs.length c2] w (Ans (.bool true) w) := by
  have hlen := h1.len
  have H1 := Lib.hid h1.at
  have H2 := Lib.hid h2.at
  clear h1 h2
  go_enter Try.func16, Try.ntmps16
  go_wp2_with fail
  go_loopw [5] (fun vi wr => ∃ k : Nat, k ≤ zs.length ∧ vi = .int .i64 k ∧ Hid (Below w.heap.size w wr)) (fun vi _ => zs.length - (intOf vi).toNat)
  case atStart => exact ⟨0, by omega, rfl, Below.refl _ _⟩
  case round =>
    obtain ⟨k, hk, rfl, HB⟩ := hrel
    by_cases hlt : k < zs.length
    · obtain ⟨b1, o1, rfl, q1, cc1⟩ := (H1.out.on HB.out).cells k hlt
      obtain ⟨b2, o2, rfl, q2, cc2⟩ := (H2.out.on HB.out).cells k hlt
      generalize zs.getD k 0 = z at cc1 cc2
      go_wp2_with fail
      go_quiet (fail)
      go_wp2_with fail
      go_roundw
      case rel => exact ⟨k + 1, by omega, by go_num, below_drewN HB.out _⟩
      case measure =>
        show _ < _
        simp only [intOf]; omega
    · go_wp2
      go_ret
      exact ⟨rfl, HB.out⟩

theorem mod_num (d r : Nat) (h : 0 < r) : ((d : Int).tmod r) = ((d % r : Nat) : Int) := by
  rw [Int.tmod_eq_emod_of_nonneg (by omega)]; simp
theorem gcd_round {d r G : Nat} (h : Nat.gcd d r = G) : Nat.gcd r (d % r) = G := by
  rw [← h, Nat.gcd_comm d r, Nat.gcd_rec r d, Nat.gcd_comm]

set_option maxHeartbeats 1000000 in
theorem gcd_any (zs : List Int) (p : Option Addr) (c : Nat) (w : World) (hz : ∀ z ∈ zs, z.natAbs ≤ 1000000) (h : Lies .i64 w p zs) :
    Calls Try.prog 8 #[.slice p zs.length c] w (Ans (.int .i64 (gcdL zs : Nat)) w) := by
  have hlen := h.len
  have H := Lib.hid h.at
  have HZ := Lib.hid hz
  have hG := Lib.hid (gcdL_bd hz)
  clear h hz
  go_enter Try.func8, Try.ntmps8
  go_wp2_with fail
  go_step3
  go_wp2_with fail
  go_step3
  go_wp2_with fail
  go_loopg [3, 9] zs.length (fun g vd vi wr => ∃ (k d : Nat), k + g = zs.length ∧ vi = .int .i64 k ∧ vd = .int .u64 d ∧ d ≤ 1000000 ∧ Hid (gcdL (zs.take k) = d) ∧ Hid (Below w.heap.size w wr))
  case atStart => exact ⟨0, 0, by omega, rfl, rfl, by omega, rfl, Below.refl _ _⟩
  case round =>
    obtain ⟨k, d, hkg, rfl, rfl, hd, HD, HB⟩ := hrel
    cases gk with
    | zero =>
      have HE : Hid (gcdL zs = d) := by
        have := HD.out
        rwa [List.take_of_length_le (by omega)] at this
      have hkz : ¬ ((k : Int) < (zs.length : Int)) := by omega
      go_wp2
      go_ret
      exact ⟨ret_i64 (by rw [HE.out]), HB.out⟩
    | succ g =>
      have hkz : (k : Int) < (zs.length : Int) := by omega
      obtain ⟨b, o, rfl, q, cc⟩ := (H.out.on HB.out).cells k (by omega)
      have ht := gcdL_take zs k (by omega)
      rw [HD.out] at ht
      have hzk := HZ.out (zs.getD k 0) (by simp [List.getD, show k < zs.length by omega])
      generalize hzz : zs.getD k 0 = z at cc ht hzk
      have HT := Lib.hid ht
      clear ht hzz
      go_wp2_with fail
      refine (size_any z (by omega) (by omega) _).mono ?_
      rintro e w1 ⟨rfl, rfl⟩
      clear cc
      go_wp2_with fail
      obtain ⟨wo, rfl⟩ : ∃ wo : World, wo = wr := ⟨_, rfl⟩
      go_loopg [3, 6] z.natAbs (fun r vd vr wr => ∃ (x : Nat), vr = .int .u64 r ∧ vd = .int .u64 x ∧ x ≤ 1000000 ∧ r ≤ 1000000 ∧ Hid (Nat.gcd x r = gcdL (zs.take (k + 1))) ∧ Hid (Below w.heap.size w wr))
      case atStart => exact ⟨d, rfl, rfl, hd, hzk, HT.out.symm, HB⟩
      case round =>
        obtain ⟨x, rfl, rfl, hx, hr, HG, HB2⟩ := hrel
        clear HB
        cases gk with
        | zero =>
          have HG2 : Hid (gcdL (zs.take (k + 1)) = x) := by
            have := HG.out
            rw [Nat.gcd_zero_right] at this
            exact this.symm
          go_wp2_with fail
          go_roundg g
          case measure => omega
          case rel => exact ⟨k + 1, x, by omega, by go_num, rfl, hx, HG2, HB2⟩
        | succ r =>
          obtain ⟨m, hm⟩ : ∃ m, x % (r + 1) = m := ⟨_, rfl⟩
          have hml := Nat.mod_lt x (show 0 < r + 1 by omega)
          have hgr := gcd_round HG.out
          rw [hm] at hml hgr
          have hmod : (x : Int) % ((r : Int) + 1) = (m : Int) := by rw [← hm]; simp
          have HM := Lib.hid (And.intro hmod hgr)
          clear hmod hgr hm
          have hone : r = 0 ∨ (((r : Int) + 1 == 1) = false ∧ r ≠ 0) := by
            by_cases h : r = 0
            · exact .inl h
            · exact .inr ⟨beq_eq_false_iff_ne.2 (by omega), h⟩
          rcases hone with rfl | ⟨hone, hr0⟩
          · have HE : Hid (gcdL zs = 1) := by
              have := HM.out.2
              rw [Nat.zero_add, Nat.gcd_one_left] at this
              exact gcdL_one this.symm
            go_wp2_with fail
            go_quiet (fail)
            go_wp2
            go_ret
            exact ⟨ret_i64 (by rw [HE.out]; rfl), below_drewN HB2.out _⟩
          · go_wp2_with fail
            go_quiet (fail)
            go_wp2_with fail
            go_roundg m
            case measure => omega
            case rel => exact ⟨r + 1, by rw [HM.out.1], rfl, by omega, by omega, HM.out.2, below_drewN HB2.out _⟩
end Go.Proofs.Yteijfgckeipkhaa
