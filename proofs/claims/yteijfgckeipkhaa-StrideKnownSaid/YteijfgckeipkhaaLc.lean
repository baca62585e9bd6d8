/- The walk of the law StrideOrders. -/
import Derived.Test.YteijfgckeipkhaaLb
namespace Go.Proofs.Yteijfgckeipkhaa
open Go.RowKit Go.Sd

theorem lord_long (n d : Int) (m : Nat) (p : Option Addr) (c : Nat) (h : 60 < m) (w : World) :
    Calls Try.prog 4 #[.int .i64 n, .int .i64 d, .slice p m c] w (Ans (.bool true) w) := by
  go_enter Try.func4, Try.ntmps4
  go_wp2_with fail
  refine (works_any _).mono ?_
  rintro e w1 ⟨rfl, hb⟩
  have HB := Lib.hid hb
  clear hb
  go_wp2
  go_ret
  exact ⟨rfl, HB.out⟩

/-- the lists of the law, and their lengths -/
structure Lists (n d : Int) (wo S O T : List Int) (ls lo lt : Nat) (r : Int) : Prop where
  es : strides n = S
  eo : order n d = O
  et : others n d wo = T
  sl : S.length = ls
  ol : O.length = lo
  tl : T.length = lt
  er : orders n = r
  em : wrap64 ((lo : Int) * (ls : Int)) = r
theorem Lists.ex (n d : Int) (wo : List Int) : ∃ S O T ls lo lt r, Lists n d wo S O T ls lo lt r ∧ ls ≤ 64 ∧ lo ≤ 64 ∧ lt ≤ 64 :=
  ⟨_, _, _, _, _, _, _, ⟨rfl, rfl, rfl, rfl, rfl, rfl, rfl, by rw [orders_len]; exact IntWalk.wrap64_in _ (by have := orders_bd n; omega)⟩, strides_len n, order_le, others_le n d wo⟩

set_option maxRecDepth 100000 in
set_option maxHeartbeats 4000000 in
theorem lord_short (n d r : Int) (wo S O T : List Int) (m ls lo lt : Nat) (p : Option Addr) (c : Nat) (HLs : Hid (Lists n d wo S O T ls lo lt r)) (b1 : ls ≤ 64) (b2 : lo ≤ 64) (b3 : lt ≤ 64) (h : m ≤ 60) (HM : Hid (m = wo.length)) (Hn : Hid (p = none → c = 0)) (w : World) (hL : Lies .i64 w p wo) :
    Calls Try.prog 4 #[.int .i64 n, .int .i64 d, .slice p m c] w (Ans (.bool true) w) := by
  have HL := Lib.hid hL.at
  clear hL
  go_enter Try.func4, Try.ntmps4
  go_wp2_with (at_builtin; refine append_wo _ rfl (.tmp 22) (.tmp 23) rfl rfl wo p m c rfl HM.out (by omega) HL.out.lies Hn.out ?_)
  intro v' wA hOA hbA
  obtain ⟨pA, cA, rfl, hLA⟩ := own_lies_at hOA HM.out (by omega)
  have HLA := Lib.hid hLA.at
  have HBA := Lib.hid hbA
  have sA := hbA.size
  clear hOA hbA hLA
  go_wp2_with fail
  refine (rstrides_b HLs.out.es HLs.out.sl b1 _).mono ?_
  rintro e w1 ⟨p1, c1, rfl, hL1, _, hb1⟩
  have HL1 := Lib.hid hL1
  have s1 := hb1.size
  have HB1 := Lib.hid hb1
  clear hb1 hL1
  go_wp2_with fail
  refine (rorder_b HLs.out.eo HLs.out.ol b2 _).mono ?_
  rintro e w2 ⟨p2, c2, rfl, hL2, _, hb2⟩
  have HL2 := Lib.hid hL2
  have s2 := hb2.size
  have HB2 := Lib.hid (Bel.trans HB1.out hb2)
  have HL12 := Lib.hid (HL1.out.on hb2)
  clear hb2 hL2 HL1
  go_wp2_with fail
  refine (rothers_b pA cA HLs.out.et HLs.out.tl b3 HM.out _ (HLA.out.on HB2.out).lies).mono ?_
  rintro e w3 ⟨p3, c3, rfl, hL3, _, hb3⟩
  have HL3 := Lib.hid hL3.at
  have s3 := hb3.size
  have HB3 := Lib.hid (Bel.trans HB2.out hb3)
  have HLS := Lib.hid (HL12.out.on hb3).at
  have HLO := Lib.hid (HL2.out.on hb3).at
  have HLP := Lib.hid ((HLA.out.on HB3.out).lies).at
  have HLW := Lib.hid (((HL.out.on HBA.out).on (HB3.out.mono sA)).lies).at
  have HB := Lib.hid (HBA.out.trans (HB3.out.mono sA))
  clear hb3 hL3 HL12 HL2 HB1 HB2 HB3 HBA HL HLA
  go_wp2_with fail
  go_loopw [11] (fun vt wr => ∃ t : Nat, t ≤ 2 ∧ vt = .int .i64 t ∧ Hid (Below w3.heap.size w3 wr)) (fun vt _ => 2 - (intOf vt).toNat)
  case atStart => exact ⟨0, by omega, rfl, Below.refl _ _⟩
  case round =>
    obtain ⟨t, ht, rfl, HBr⟩ := hrel
    by_cases hlt : t < 2
    · have sr := HBr.out.size
      go_wp2_with fail
      refine (strides_b HLs.out.es HLs.out.sl b1 _).mono ?_
      rintro e w4 ⟨p4, c4, rfl, hL4, hW4, hb4⟩
      have HL4 := Lib.hid hL4
      have HW4 := Lib.hid (hW4.mono sr)
      have HB4 := Lib.hid (bt HBr.out sr hb4)
      have s4 := HB4.out.size
      clear hL4 hW4 hb4
      go_wp2_with fail
      refine (order_b HLs.out.eo HLs.out.ol b2 _).mono ?_
      rintro e w5 ⟨p5, c5, rfl, hL5, hW5, hb5⟩
      have HL5 := Lib.hid hL5
      have HW5 := Lib.hid (hW5.mono s4)
      have HB5 := Lib.hid (bt HB4.out s4 hb5)
      have HL45 := Lib.hid (HL4.out.on hb5)
      have HW45 := Lib.hid (HW4.out.on hb5)
      have s5 := HB5.out.size
      clear hL5 hW5 hb5 HL4 HW4 HB4
      go_wp2_with fail
      refine (others_b p c HLs.out.et HLs.out.tl b3 HM.out _ (HLW.out.on HB5.out).lies).mono ?_
      rintro e w6 ⟨p6, c6, rfl, hL6, hW6, hb6⟩
      have HL6 := Lib.hid hL6
      have HW6 := Lib.hid (hW6.mono s5)
      have HB6 := Lib.hid (bt HB5.out s5 hb6)
      have HL46 := Lib.hid (HL45.out.on hb6)
      have HW46 := Lib.hid (HW45.out.on hb6)
      have HL56 := Lib.hid (HL5.out.on hb6)
      have HW56 := Lib.hid (HW5.out.on hb6)
      have s6 := HB6.out.size
      clear hL6 hW6 hb6 HL45 HW45 HL5 HW5 HB5
      go_wp2_with fail
      refine (sameints_at S ls ls p4 p1 c4 c1 _ HLs.out.sl.symm HLs.out.sl.symm HL46.out (HLS.out.on HB6.out).lies).mono ?_
      rintro e w7 ⟨rfl, hb7⟩
      have HB7 := Lib.hid (bt HB6.out s6 hb7)
      have HL57 := Lib.hid (HL56.out.on hb7)
      have HL67 := Lib.hid (HL6.out.on hb7)
      have HW47 := Lib.hid (HW46.out.on hb7)
      have HW57 := Lib.hid (HW56.out.on hb7)
      have HW67 := Lib.hid (HW6.out.on hb7)
      have s7 := HB7.out.size
      clear hb7 HL56 HL6 HW46 HW56 HW6 HB6 HL46
      go_wp2_with fail
      refine (sameints_at O lo lo p5 p2 c5 c2 _ HLs.out.ol.symm HLs.out.ol.symm HL57.out (HLO.out.on HB7.out).lies).mono ?_
      rintro e w8 ⟨rfl, hb8⟩
      have HB8 := Lib.hid (bt HB7.out s7 hb8)
      have HL68 := Lib.hid (HL67.out.on hb8)
      have HW48 := Lib.hid (HW47.out.on hb8)
      have HW58 := Lib.hid (HW57.out.on hb8)
      have HW68 := Lib.hid (HW67.out.on hb8)
      have s8 := HB8.out.size
      clear hb8 HL67 HW47 HW57 HW67 HB7 HL57
      go_wp2_with fail
      refine (sameints_at T lt lt p6 p3 c6 c3 _ HLs.out.tl.symm HLs.out.tl.symm HL68.out (HL3.out.on HB8.out).lies).mono ?_
      rintro e w9 ⟨rfl, hb9⟩
      have HB9 := Lib.hid (bt HB8.out s8 hb9)
      have HW49 := Lib.hid (HW48.out.on hb9)
      have HW59 := Lib.hid (HW58.out.on hb9)
      have HW69 := Lib.hid (HW68.out.on hb9)
      have s9 := HB9.out.size
      clear hb9 HL68 HW48 HW58 HW68 HB8
      go_wp2_with fail
      obtain ⟨wo15, rfl⟩ : ∃ wx : World, wx = w9 := ⟨_, rfl⟩
      go_loopw [15] (fun vi wr => ∃ k : Nat, k ≤ ls ∧ vi = .int .i64 k ∧ Hid (Wrt w3.heap.size wr p4 ls) ∧ Hid (Wrt w3.heap.size wr p5 lo) ∧ Hid (Wrt w3.heap.size wr p6 lt) ∧ Hid (Below w3.heap.size w3 wr)) (fun vi _ => ls - (intOf vi).toNat)
      case atStart => exact ⟨0, by omega, rfl, HW49, HW59, HW69, HB9⟩
      case round =>
        obtain ⟨k, hk, rfl, HX4, HX5, HX6, HXB⟩ := hrel
        by_cases hk2 : k < ls
        · obtain ⟨g, rfl, hg, ⟨u, hu⟩, hf⟩ := HX4.out k hk2
          have HY4 := Lib.hid (HX4.out.set ⟨g, k, none⟩ (.int .i64 77))
          have HY5 := Lib.hid (HX5.out.set ⟨g, k, none⟩ (.int .i64 77))
          have HY6 := Lib.hid (HX6.out.set ⟨g, k, none⟩ (.int .i64 77))
          have HYB := Lib.hid (HXB.out.setCell (p := ⟨g, k, none⟩) hg (.int .i64 77))
          go_wp2_with fail
          go_roundw
          case rel => exact ⟨k + 1, by omega, by go_num, HY4, HY5, HY6, HYB⟩
          case measure =>
            show _ < _
            simp only [intOf]; omega
        · go_wp2_with fail
          clear hk2 hk
          obtain ⟨wo16, rfl⟩ : ∃ wx : World, wx = wr := ⟨_, rfl⟩
          go_loopw [16] (fun vi wr => ∃ k : Nat, k ≤ lo ∧ vi = .int .i64 k ∧ Hid (Wrt w3.heap.size wr p4 ls) ∧ Hid (Wrt w3.heap.size wr p5 lo) ∧ Hid (Wrt w3.heap.size wr p6 lt) ∧ Hid (Below w3.heap.size w3 wr)) (fun vi _ => lo - (intOf vi).toNat)
          case atStart => exact ⟨0, by omega, rfl, HX4, HX5, HX6, HXB⟩
          case round =>
            obtain ⟨k, hk, rfl, HX4, HX5, HX6, HXB⟩ := hrel
            by_cases hk2 : k < lo
            · obtain ⟨g, rfl, hg, ⟨u, hu⟩, hf⟩ := HX5.out k hk2
              have HY4 := Lib.hid (HX4.out.set ⟨g, k, none⟩ (.int .i64 77))
              have HY5 := Lib.hid (HX5.out.set ⟨g, k, none⟩ (.int .i64 77))
              have HY6 := Lib.hid (HX6.out.set ⟨g, k, none⟩ (.int .i64 77))
              have HYB := Lib.hid (HXB.out.setCell (p := ⟨g, k, none⟩) hg (.int .i64 77))
              go_wp2_with fail
              go_roundw
              case rel => exact ⟨k + 1, by omega, by go_num, HY4, HY5, HY6, HYB⟩
              case measure =>
                show _ < _
                simp only [intOf]; omega
            · go_wp2_with fail
              clear hk2 hk
              obtain ⟨wo17, rfl⟩ : ∃ wx : World, wx = wr := ⟨_, rfl⟩
              go_loopw [17] (fun vi wr => ∃ k : Nat, k ≤ lt ∧ vi = .int .i64 k ∧ Hid (Wrt w3.heap.size wr p4 ls) ∧ Hid (Wrt w3.heap.size wr p5 lo) ∧ Hid (Wrt w3.heap.size wr p6 lt) ∧ Hid (Below w3.heap.size w3 wr)) (fun vi _ => lt - (intOf vi).toNat)
              case atStart => exact ⟨0, by omega, rfl, HX4, HX5, HX6, HXB⟩
              case round =>
                obtain ⟨k, hk, rfl, HX4, HX5, HX6, HXB⟩ := hrel
                by_cases hk2 : k < lt
                · obtain ⟨g, rfl, hg, ⟨u, hu⟩, hf⟩ := HX6.out k hk2
                  have HY4 := Lib.hid (HX4.out.set ⟨g, k, none⟩ (.int .i64 77))
                  have HY5 := Lib.hid (HX5.out.set ⟨g, k, none⟩ (.int .i64 77))
                  have HY6 := Lib.hid (HX6.out.set ⟨g, k, none⟩ (.int .i64 77))
                  have HYB := Lib.hid (HXB.out.setCell (p := ⟨g, k, none⟩) hg (.int .i64 77))
                  go_wp2_with fail
                  go_roundw
                  case rel => exact ⟨k + 1, by omega, by go_num, HY4, HY5, HY6, HYB⟩
                  case measure =>
                    show _ < _
                    simp only [intOf]; omega
                · go_wp2_with fail
                  clear hk2 hk
                  go_roundw
                  case rel => exact ⟨t + 1, by omega, by go_num, HXB⟩
                  case measure =>
                    show _ < _
                    simp only [intOf]; omega
    · obtain rfl : t = 2 := by omega
      have sr := HBr.out.size
      go_wp2_with fail
      refine (orders_at n r HLs.out.er _).mono ?_
      rintro e w4 ⟨rfl, hb4⟩
      have HB4 := Lib.hid (bt HBr.out sr hb4)
      have s4 := HB4.out.size
      have hm := HLs.out.em
      clear hb4
      go_wp2_with fail
      clear hm
      refine (sameints_at wo m m pA p cA c _ HM.out HM.out (HLP.out.on HB4.out).lies (HLW.out.on HB4.out).lies).mono ?_
      rintro e w5 ⟨rfl, hb5⟩
      have HB5 := Lib.hid (bt HB4.out s4 hb5)
      have s5 := HB5.out.size
      clear hb5
      go_wp2_with fail
      refine (works_any _).mono ?_
      rintro e w6 ⟨rfl, hb6⟩
      have HB6 := Lib.hid (HB.out.trans ((bt HB5.out s5 hb6).mono HB.out.size))
      clear hb6
      go_wp2
      go_ret
      exact ⟨rfl, HB6.out⟩

theorem law_orders (n d : Int) (wo : List Int) (p : Option Addr) (c : Nat) (hn : p = none → c = 0) (w : World) (hL : ∀ j, j < wo.length → ∃ b o, p = some ⟨b, o, none⟩ ∧ w.cell? ⟨b, o + j, none⟩ = some (.int .i64 (wo.getD j 0))) :
    Calls Try.prog 4 #[.int .i64 n, .int .i64 d, .slice p wo.length c] w (Ans (.bool true) w) := by
  by_cases h : wo.length ≤ 60
  · obtain ⟨S, O, T, ls, lo, lt, r, L, b1, b2, b3⟩ := Lists.ex n d wo
    exact lord_short n d r wo S O T wo.length ls lo lt p c L b1 b2 b3 h rfl hn w ⟨by omega, hL⟩
  · exact lord_long n d _ p c (by omega) w
end Go.Proofs.Yteijfgckeipkhaa
