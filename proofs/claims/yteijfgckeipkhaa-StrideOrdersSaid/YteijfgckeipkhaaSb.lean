/- The walk of the reference's Gcd. -/
import Derived.Test.YteijfgckeipkhaaSa
namespace Go.Proofs.Yteijfgckeipkhaa
open Go.RowKit Go.Sd

/-- does d divide all of these? is one of these no nought? -/
def allD (d : Nat) (l : List Int) : Bool := l.all fun z => decide ((d : Int) ∣ z)
def someN (l : List Int) : Bool := l.any fun z => z != 0
theorem allD_snoc (d : Nat) (zs : List Int) (k : Nat) (h : k < zs.length) : allD d (zs.take (k + 1)) = (allD d (zs.take k) && decide ((d : Int) ∣ zs.getD k 0)) := by
  rw [take_more zs k h]; unfold allD; simp
theorem someN_snoc (zs : List Int) (k : Nat) (h : k < zs.length) : someN (zs.take (k + 1)) = (someN (zs.take k) || (zs.getD k 0 != 0)) := by
  rw [take_more zs k h]; unfold someN; simp
theorem allD_is (d : Nat) (l : List Int) : allD d l = true ↔ d ∣ gcdL l := by
  rw [gcdL_dvd]; unfold allD; simp only [List.all_eq_true, decide_eq_true_eq]
  constructor
  · intro h z hz; have := h z hz; exact Int.ofNat_dvd_left.1 this
  · intro h z hz; have := h z hz; exact Int.ofNat_dvd_left.2 this
theorem someN_is (l : List Int) : someN l = true ↔ gcdL l ≠ 0 := by
  rw [Ne, gcdL_zero]; unfold someN; simp

set_option maxHeartbeats 1000000 in
theorem rgcd_any (zs : List Int) (p : Option Addr) (c : Nat) (w : World) (hz : ∀ z ∈ zs, z.natAbs ≤ 10000) (h : Lies .i64 w p zs) :
    Calls Try.prog 9 #[.slice p zs.length c] w fun e w' => e = .returned (.int .i64 (gcdL zs : Nat)) ∧ w = w' := by
  have hlen := h.len
  have H := Lib.hid h
  have HZ := Lib.hid hz
  have hG := Lib.hid (gcdL_bd hz)
  clear h hz
  go_enter Try.func9, Try.ntmps9
  go_wp2_with fail
  go_loop [3, 4] (fun vb vd => ∃ (d b : Nat), 1 ≤ d ∧ d ≤ 10001 ∧ vb = .int .i64 b ∧ vd = .int .i64 d ∧ Hid (Best zs d b)) (fun _ vd => 10001 - (intOf vd).toNat)
  case atStart => exact ⟨1, 0, by omega, by omega, rfl, rfl, Best.start zs⟩
  case round =>
    obtain ⟨d, b, hd1, hd2, rfl, rfl, HT⟩ := hrel
    by_cases hlt : d ≤ 10000
    · go_wp2_with fail
      go_loop [5, 6, 7] (fun va vs vi => ∃ (k : Nat), k ≤ zs.length ∧ vi = .int .i64 k ∧ va = .bool (allD d (zs.take k)) ∧ vs = .bool (someN (zs.take k))) (fun _ _ vi => zs.length - (intOf vi).toNat)
      case atStart => exact ⟨0, by omega, rfl, rfl, rfl⟩
      case round =>
        obtain ⟨k, hk, rfl, rfl, rfl⟩ := hrel
        by_cases hlt2 : k < zs.length
        · obtain ⟨bb, o, rfl, cc⟩ := H.out.cells k hlt2
          have h1 := allD_snoc d zs k hlt2
          have h2 := someN_snoc zs k hlt2
          have h3 := HZ.out (zs.getD k 0) (by simp [List.getD, hlt2])
          generalize zs.getD k 0 = z at cc h1 h2 h3
          generalize allD d (zs.take k) = ba at h1
          generalize someN (zs.take k) = bs at h2
          have HH := Lib.hid (And.intro h1 h2)
          clear h1 h2
          cases ba <;> cases bs
          all_goals
            go_wp2_with (go_at_call 22; refine (divides_any _ _ (by omega) (by omega) (by omega) (by omega) _).mono ?_; rintro e w' ⟨rfl, rfl⟩)
            go_round
            case rel => exact ⟨k + 1, by omega, by go_num, by rw [HH.out.1]; rfl, by rw [HH.out.2]; rfl⟩
            case measure => simp only [intOf]; omega
        · obtain rfl : k = zs.length := by omega
          rw [List.take_length]
          have h1 := allD_is d zs
          have h2 := someN_is zs
          generalize allD d zs = ba at h1
          generalize someN zs = bs at h2
          cases ba <;> cases bs
          · have HT2 := Lib.hid (HT.out.skip (by omega) (fun h => by have := h1.2 h.1; cases this))
            clear h1 h2
            go_wp2_with fail
            go_round
            case rel => exact ⟨d + 1, b, by omega, by omega, rfl, by go_num, HT2⟩
            case measure => simp only [intOf]; omega
          · have HT2 := Lib.hid (HT.out.skip (by omega) (fun h => by have := h1.2 h.1; cases this))
            clear h1 h2
            go_wp2_with fail
            go_round
            case rel => exact ⟨d + 1, b, by omega, by omega, rfl, by go_num, HT2⟩
            case measure => simp only [intOf]; omega
          · have HT2 := Lib.hid (HT.out.skip (by omega) (fun h => by have := h2.2 h.2; cases this))
            clear h1 h2
            go_wp2_with fail
            go_round
            case rel => exact ⟨d + 1, b, by omega, by omega, rfl, by go_num, HT2⟩
            case measure => simp only [intOf]; omega
          · have HT2 := Lib.hid (HT.out.take (by omega) (h1.1 rfl) (h2.1 rfl))
            clear h1 h2
            go_wp2_with fail
            go_round
            case rel => exact ⟨d + 1, d, by omega, by omega, rfl, by go_num, HT2⟩
            case measure => simp only [intOf]; omega
    · have hr := HT.out.done (by have := hG.out; omega)
      have HR := Lib.hid hr
      clear hr HT
      go_wp2
      go_ret
      exact ⟨ret_i64 (by rw [HR.out]), rfl⟩
end Go.Proofs.Yteijfgckeipkhaa
