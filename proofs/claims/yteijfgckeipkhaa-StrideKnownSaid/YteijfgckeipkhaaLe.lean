/- The walk of the closed law StrideKnown. -/
import Derived.Test.YteijfgckeipkhaaLc
import Derived.Test.YteijfgckeipkhaaLd
namespace Go.Proofs.Yteijfgckeipkhaa
open Go.RowKit Go.Sd

theorem orders_lit (z dd : Int) (zs : List Int) (n c : Nat) (hn : n = zs.length) (hl : zs.length ≤ 1000) (w : World) (t : TypeId) :
    Calls Try.prog 4 #[.int .i64 z, .int .i64 dd, .slice (some ⟨w.heap.size, 0, none⟩) n c] (w.alloc (.cells (zs.map (Value.int .i64)).toArray t)) (Ans (.bool true) (w.alloc (.cells (zs.map (Value.int .i64)).toArray t))) := by
  subst hn
  exact law_orders z dd zs _ c (fun h => by cases h) _ (lies_lit zs w t hl).cells
theorem gcd_lit (zs : List Int) (n c : Nat) (hn : n = zs.length) (hl : zs.length ≤ 1000) (w : World) (t : TypeId) :
    Calls Try.prog 3 #[.slice (some ⟨w.heap.size, 0, none⟩) n c] (w.alloc (.cells (zs.map (Value.int .i64)).toArray t)) (Ans (.bool true) (w.alloc (.cells (zs.map (Value.int .i64)).toArray t))) := by
  subst hn
  exact law_gcd zs _ c _ (lies_lit zs w t hl).cells
theorem gcd_nil (w : World) : Calls Try.prog 3 #[.slice none 0 0] w (Ans (.bool true) w) :=
  law_gcd [] none 0 w (fun j hj => absurd hj (Nat.not_lt_zero _))
theorem orders_nil (z dd : Int) (w : World) : Calls Try.prog 4 #[.int .i64 z, .int .i64 dd, .slice none 0 0] w (Ans (.bool true) w) :=
  law_orders z dd [] none 0 (fun _ => rfl) w (fun j hj => absurd hj (Nat.not_lt_zero _))
theorem al_le {w w' : World} {o : Obj} (h : (w.alloc o).heap.size ≤ w'.heap.size) : w.heap.size ≤ w'.heap.size := by simp at h; omega
structure Ends : Prop where
  a : drawN 65 0 1 = 0
  b : drawOk 65 0 1 = false
  c : orders 0 = 0
  d : orders 65 = 0
theorem ends_all : Ends := ⟨by decide +kernel, by decide +kernel, by decide +kernel, by decide +kernel⟩

set_option maxRecDepth 100000 in
set_option maxHeartbeats 2000000 in
theorem law_known (w : World) : Calls Try.prog 6 #[] w (Ans (.bool true) w) := by
  have HE := Lib.hid ends_all
  go_enter Try.func6, Try.ntmps6
  go_wp2_with fail
  go_loopw [1] (fun vn wr => ∃ z : Int, -2 ≤ z ∧ z ≤ 68 ∧ vn = .int .i64 z ∧ Hid (w.heap.size ≤ wr.heap.size ∧ Below w.heap.size w wr)) (fun vn _ => (68 - intOf vn).toNat)
  case atStart => exact ⟨-2, by omega, by omega, rfl, Nat.le_refl _, Below.refl _ _⟩
  case round =>
    obtain ⟨z, hz1, hz2, rfl, HB⟩ := hrel
    by_cases hlt : z < 68
    · obtain ⟨wo, rfl⟩ : ∃ wo : World, wo = wr := ⟨_, rfl⟩
      go_wp2_with fail
      go_loopw [2] (fun vd wr => ∃ d : Nat, d ≤ 12 ∧ vd = .int .i64 d ∧ Hid (w.heap.size ≤ wr.heap.size ∧ Below w.heap.size w wr)) (fun vd _ => (12 - intOf vd).toNat)
      case atStart => exact ⟨0, by omega, rfl, HB⟩
      case round =>
        obtain ⟨d, hd, rfl, HB2⟩ := hrel
        by_cases hlt2 : d < 12
        · have m1 : IntKind.i64.wrap ((d : Int) * 53) = (d : Int) * 53 := IntWalk.i64_in _ (by omega)
          go_wp2_with fail
          refine (orders_lit _ _ [_, _, -1] 3 _ rfl (by simp) _ _).mono ?_
          rintro e w3 ⟨rfl, hb3⟩
          have hs3 := hb3.size
          have HB3 := Lib.hid (And.intro (Nat.le_trans HB2.out.1 (al_le hs3)) (ab HB2.out.2 HB2.out.1 hb3))
          clear hb3 hs3
          go_wp2_with fail
          refine (law_once _ _ _ _ (by omega) (by omega) (by omega) (by omega) _).mono ?_
          rintro e w4 ⟨rfl, hb4⟩
          have HB4 := Lib.hid (And.intro (Nat.le_trans HB3.out.1 hb4.size) (bt HB3.out.2 HB3.out.1 hb4))
          clear hb4 m1
          go_wp2_with fail
          go_roundw
          case rel => exact ⟨d + 1, by omega, by go_num, HB4⟩
          case measure =>
            show _ < _
            simp only [intOf]; omega
        · go_wp2_with fail
          go_roundw
          case rel => exact ⟨z + 1, by omega, by omega, by go_num, HB2⟩
          case measure =>
            show _ < _
            simp only [intOf]; omega
    · go_wp2_with fail
      refine (draw_at 65 0 1 0 false HE.out.a HE.out.b _).mono ?_
      rintro e w3 ⟨rfl, hb3⟩
      have HB3 := Lib.hid (And.intro (Nat.le_trans HB.out.1 hb3.size) (bt HB.out.2 HB.out.1 hb3))
      clear hb3
      go_wp2_with fail
      refine (orders_at 0 0 HE.out.c _).mono ?_
      rintro e w4 ⟨rfl, hb4⟩
      have HB4 := Lib.hid (And.intro (Nat.le_trans HB3.out.1 hb4.size) (bt HB3.out.2 HB3.out.1 hb4))
      clear hb4
      go_wp2_with fail
      refine (orders_at 65 0 HE.out.d _).mono ?_
      rintro e w5 ⟨rfl, hb5⟩
      have HB5 := Lib.hid (And.intro (Nat.le_trans HB4.out.1 hb5.size) (bt HB4.out.2 HB4.out.1 hb5))
      clear hb5
      go_wp2_with fail
      refine (gcd_nil _).mono ?_
      rintro e w6 ⟨rfl, hb6⟩
      have HB6 := Lib.hid (And.intro (Nat.le_trans HB5.out.1 hb6.size) (bt HB5.out.2 HB5.out.1 hb6))
      clear hb6
      go_wp2_with fail
      refine (gcd_lit [0, 0] 2 _ rfl (by simp) _ _).mono ?_
      rintro e w7 ⟨rfl, hb7⟩
      have hs7 := hb7.size
      have HB7 := Lib.hid (And.intro (Nat.le_trans HB6.out.1 (al_le hs7)) (ab HB6.out.2 HB6.out.1 hb7))
      clear hb7 hs7
      go_wp2_with fail
      refine (gcd_lit [0, -12, 18, 0] 4 _ rfl (by simp) _ _).mono ?_
      rintro e w8 ⟨rfl, hb8⟩
      have hs8 := hb8.size
      have HB8 := Lib.hid (And.intro (Nat.le_trans HB7.out.1 (al_le hs8)) (ab HB7.out.2 HB7.out.1 hb8))
      clear hb8 hs8
      go_wp2_with fail
      refine (gcd_lit [10000, 7500] 2 _ rfl (by simp) _ _).mono ?_
      rintro e w9 ⟨rfl, hb9⟩
      have hs9 := hb9.size
      have HB9 := Lib.hid (And.intro (Nat.le_trans HB8.out.1 (al_le hs9)) (ab HB8.out.2 HB8.out.1 hb9))
      clear hb9 hs9
      go_wp2_with fail
      refine (orders_nil _ _ _).mono ?_
      rintro e wa ⟨rfl, hba⟩
      have HBa := Lib.hid (And.intro (Nat.le_trans HB9.out.1 hba.size) (bt HB9.out.2 HB9.out.1 hba))
      clear hba
      go_wp2_with fail
      refine (orders_nil _ _ _).mono ?_
      rintro e wb ⟨rfl, hbb⟩
      have HBb := Lib.hid (And.intro (Nat.le_trans HBa.out.1 hbb.size) (bt HBa.out.2 HBa.out.1 hbb))
      clear hbb
      go_wp2_with fail
      refine (works_any _).mono ?_
      rintro e wc ⟨rfl, hbc⟩
      have HBc := Lib.hid (bt HBb.out.2 HBb.out.1 hbc)
      clear hbc
      go_wp2
      go_ret
      exact ⟨rfl, HBc.out⟩
end Go.Proofs.Yteijfgckeipkhaa
