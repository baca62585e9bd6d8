/- The walks of span's floats: product, Class, Nanos. -/
import Derived.Test.YtfigkoknhiabnaaDoorRows
import Derived.Test.YtfigkoknhiabnaaDoorAFm
import Derived.WalkKit
import Derived.WalkSpells
import Derived.WalkLawsBesides
import Derived.Lib.Hide
namespace Go.Proofs.YtfigkoknhiabnaaDoor
open Go.RowKit Go.Fm

theorem mul_run {x r : Nat} (h : Ieee.double.mul x C6 = some r) : ∀ t w, (binOp .mul t (.float .f64 x) (.float .f64 4696837146684686336)).run Tryd.prog w = .ok (.float .f64 r) w :=
  fun t w => run_float_arith w .mul t .f64 x _ r h

set_option maxHeartbeats 400000 in
theorem product_ok (x r : Nat) (w : World) (h : Ieee.double.mul x C6 = some r) :
    Calls Tryd.prog 36 #[.float .f64 x] w fun e w' => e = .returned (.float .f64 r) ∧ w = w' := by
  have hop := mul_run h
  go_enter Tryd.func36, Tryd.ntmps36
  go_wp2_with (simp only [hop])
  go_ret
  exact ⟨rfl, rfl⟩

theorem cut_nan (x y t : Nat) : INF < rg (Question.cut (.nanBits .f64 x y) t) := by
  have h : Question.cut (.nanBits .f64 x y) t = (t % 2) * S63 + (INF + 1 + (t / 2) % (F52 - 1)) := by
    show (t % 2) * 2 ^ 63 + 0x7ff0000000000000 + 1 + (t / 2) % (2 ^ 52 - 1) = _
    have e1 : (2 ^ 63 : Nat) = S63 := by decide
    have e2 : (0x7ff0000000000000 : Nat) = INF := by decide
    have e3 : (2 ^ 52 - 1 : Nat) = F52 - 1 := by decide
    rw [e1, e2, e3]; omega
  rw [h]
  unfold rg
  have hlt : (t / 2) % (F52 - 1) < F52 - 1 := Nat.mod_lt _ (by decide)
  have hb : INF + F52 = S63 := by decide
  rw [Nat.add_comm, Nat.add_mul_mod_self_right, Nat.mod_eq_of_lt (by omega)]
  omega

theorem mul_nan_run {x : Nat} (h : Ieee.double.mul x C6 = none) (t : TypeId) (w : World) : ∃ q, INF < rg q ∧ (binOp .mul t (.float .f64 x) (.float .f64 4696837146684686336)).run Tryd.prog w = .ok (.float .f64 q) w.drew := by
  refine ⟨_, cut_nan x C6 (w.tape w.drawn (.nanBits .f64 x C6)), ?_⟩
  have h' : FloatKind.f64.format.mul x 4696837146684686336 = none := h
  simp only [binOp, Op.floatArith]
  simp [h', Question.forced]
  rfl

set_option maxHeartbeats 400000 in
theorem product_nan (x : Nat) (w : World) (h : Ieee.double.mul x C6 = none) :
    Calls Tryd.prog 36 #[.float .f64 x] w fun e w' => (∃ q, INF < rg q ∧ e = .returned (.float .f64 q)) ∧ w' = w.drew := by
  obtain ⟨q, hq, hop⟩ := mul_nan_run h 52 w
  go_enter Tryd.func36, Tryd.ntmps36
  go_wp2_with (simp only [hop])
  go_ret
  exact ⟨⟨q, hq, rfl⟩, rfl⟩
end Go.Proofs.YtfigkoknhiabnaaDoor
