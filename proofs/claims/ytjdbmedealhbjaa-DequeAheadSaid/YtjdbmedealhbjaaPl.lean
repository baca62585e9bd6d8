/- The law DequePlays (layer 8), walked: where nothing is played. -/
import Derived.Test.YtjdbmedealhbjaaPs
set_option linter.unusedSimpArgs false
set_option linter.unusedVariables false
namespace Go.Proofs.Ytjdbmedealhbjaa
open Go.RowKit Go.Wd Go.Dk

set_option maxRecDepth 20000 in
set_option maxHeartbeats 2000000 in
theorem plays_many (D : DqApi) (q : Int) (rm : Int) (vl : Value) (acts : List ActV) (pa : Option Addr) (na ca : Nat) (g : Int) (w : World) (hvl : ∃ pl nl cl, vl = .slice pl nl cl) (ha : ActsIs w pa acts) (hna : na = acts.length) (hf : fewB acts 100 = false) :
    Calls Try.prog 3 #[.int .i64 q, .int .u8 rm, vl, .slice pa na ca, .int .i64 g] w (Ans (.bool true) w) := by
  obtain ⟨pl, nl, cl, rfl⟩ := hvl
  have HFw := Lib.hid (few_any acts 100 pa na ca w ha hna (by omega))
  rw [hf] at HFw
  clear ha hna hf
  go_enter Try.func3, Try.ntmps3
  go_wp2_with fail
  refine HFw.out.mono ?_
  rintro e w1 ⟨rfl, rfl⟩
  go_wp2_with fail
  refine (works_any D w).mono ?_
  rintro e w1 ⟨rfl, hb1⟩
  have HB := Lib.hid hb1
  clear hb1
  go_wp2
  go_ret
  exact ⟨rfl, HB.out⟩
set_option maxRecDepth 20000 in
set_option maxHeartbeats 2000000 in
theorem plays_long (D : DqApi) (q : Int) (rm : Int) (pl : Option Addr) (nl cl : Nat) (acts : List ActV) (pa : Option Addr) (na ca : Nat) (g : Int) (w : World) (hnl : 80 < nl) (ha : ActsIs w pa acts) (hna : na = acts.length) (hf : fewB acts 100 = true) :
    Calls Try.prog 3 #[.int .i64 q, .int .u8 rm, .slice pl nl cl, .slice pa na ca, .int .i64 g] w (Ans (.bool true) w) := by
  have HFw := Lib.hid (few_any acts 100 pa na ca w ha hna (by omega))
  rw [hf] at HFw
  have l1 : (80 : Int) < (nl : Int) := by omega
  have l2 : decide ((80 : Int) < (nl : Int)) = true := decide_eq_true l1
  have l3 : decide (80 < nl) = true := decide_eq_true hnl
  clear ha hna hf
  go_enter Try.func3, Try.ntmps3
  go_wp2_with fail
  refine HFw.out.mono ?_
  rintro e w1 ⟨rfl, rfl⟩
  go_wp2_with fail
  refine (works_any D w).mono ?_
  rintro e w1 ⟨rfl, hb1⟩
  have HB := Lib.hid hb1
  clear hb1
  go_wp2
  go_ret
  exact ⟨rfl, HB.out⟩
set_option maxRecDepth 20000 in
set_option maxHeartbeats 2000000 in
theorem plays_none (D : DqApi) (q : Int) (rm : Int) (pl : Option Addr) (nl cl : Nat) (l : List Int) (acts : List ActV) (pa : Option Addr) (na ca : Nat) (g : Int) (w : World) (hl : SlIs (fun _ => False) w (.slice pl nl cl) l) (hnl : nl = l.length) (h80 : nl ≤ 80) (ha : ActsIs w pa acts) (hna : na = acts.length) (hf : fewB acts 100 = true) (hr : room q = false) :
    Calls Try.prog 3 #[.int .i64 q, .int .u8 rm, .slice pl nl cl, .slice pa na ca, .int .i64 g] w (Ans (.bool true) w) := by
  have HFw := Lib.hid (few_any acts 100 pa na ca w ha hna (by omega))
  rw [hf] at HFw
  have HNew := Lib.hid (D.new_no q (.slice pl nl cl) l w hr hl (by omega))
  have HRo : Hid (∀ W, Calls Try.prog 9 #[.int .i64 q] W fun e w' => e = .returned (.bool false) ∧ W = w') := fun W => by have := rroom8_any q W; rw [hr] at this; exact this
  have l1 : ¬ ((80 : Int) < (nl : Int)) := by omega
  have l2 : decide ((80 : Int) < (nl : Int)) = false := decide_eq_false l1
  have l3 : decide (80 < nl) = false := decide_eq_false (by omega)
  clear ha hna hf hl hr hnl h80
  go_enter Try.func3, Try.ntmps3
  go_wp2_with fail
  refine HFw.out.mono ?_
  rintro e w1 ⟨rfl, rfl⟩
  go_wp2_with fail
  refine (HRo.out _).mono ?_
  rintro e w1 ⟨rfl, rfl⟩
  go_wp2_with fail
  refine HNew.out.mono ?_
  rintro e w1 ⟨rfl, hb1⟩
  have HB1 := Lib.hid hb1
  clear hb1
  go_wp2_with fail
  refine (HRo.out _).mono ?_
  rintro e w2 ⟨rfl, rfl⟩
  go_wp2_with fail
  refine (works_any D w1).mono ?_
  rintro e w3 ⟨rfl, hb3⟩
  have HB3 := Lib.hid (HB1.out.trans (hb3.mono HB1.out.size))
  clear hb3
  go_wp2
  go_ret
  exact ⟨rfl, HB3.out⟩
set_option maxRecDepth 20000 in
set_option maxHeartbeats 2000000 in
theorem plays_great (D : DqApi) (q : Nat) (rm : Int) (pl : Option Addr) (nl cl : Nat) (l : List Int) (acts : List ActV) (pa : Option Addr) (na ca : Nat) (g : Int) (w : World) (hl : SlIs (fun _ => False) w (.slice pl nl cl) l) (hnl : nl = l.length) (h80 : nl ≤ 80) (ha : ActsIs w pa acts) (hna : na = acts.length) (hf : fewB acts 100 = true) (hr : room (q : Int) = true) (hq : 64 < q) :
    Calls Try.prog 3 #[.int .i64 q, .int .u8 rm, .slice pl nl cl, .slice pa na ca, .int .i64 g] w (Ans (.bool true) w) := by
  have HFw := Lib.hid (few_any acts 100 pa na ca w ha hna (by omega))
  rw [hf] at HFw
  have HNew := Lib.hid (D.new_yes q (.slice pl nl cl) l w hr hl (by omega))
  have HRo : Hid (∀ W, Calls Try.prog 9 #[.int .i64 q] W fun e w' => e = .returned (.bool true) ∧ W = w') := fun W => by have := rroom8_any q W; rw [hr] at this; exact this
  have l1 : ¬ ((80 : Int) < (nl : Int)) := by omega
  have l2 : decide ((80 : Int) < (nl : Int)) = false := decide_eq_false l1
  have l3 : decide (80 < nl) = false := decide_eq_false (by omega)
  have k1 : (64 : Int) < (q : Int) := by omega
  have k2 : decide ((64 : Int) < (q : Int)) = true := decide_eq_true k1
  have k3 : decide (64 < q) = true := decide_eq_true hq
  clear ha hna hf hl hr hnl h80 hq
  go_enter Try.func3, Try.ntmps3
  go_wp2_with fail
  refine HFw.out.mono ?_
  rintro e w1 ⟨rfl, rfl⟩
  go_wp2_with fail
  refine (HRo.out _).mono ?_
  rintro e w1 ⟨rfl, rfl⟩
  go_wp2_with fail
  refine HNew.out.mono ?_
  rintro e w1 ⟨db, S, rfl, hi, hg, hb1⟩
  have HB1 := Lib.hid hb1
  clear hb1 hi hg
  go_wp2_with fail
  refine (HRo.out _).mono ?_
  rintro e w2 ⟨rfl, rfl⟩
  go_wp2_with fail
  refine (works_any D w1).mono ?_
  rintro e w3 ⟨rfl, hb3⟩
  have HB3 := Lib.hid (HB1.out.trans (hb3.mono HB1.out.size))
  clear hb3
  go_wp2
  go_ret
  exact ⟨rfl, HB3.out⟩
end Go.Proofs.Ytjdbmedealhbjaa
