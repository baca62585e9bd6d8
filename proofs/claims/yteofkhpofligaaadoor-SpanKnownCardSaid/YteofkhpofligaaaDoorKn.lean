/- math's functions that SpanKnown calls: each returns some float. -/
import Derived.Test.YteofkhpofligaaaDoorLaw2
import Derived.Test.YteofkhpofligaaaDoorLaw4
namespace Go.Proofs.YteofkhpofligaaaDoor
open Go.RowKit Go.Fm Go.Tx Go.Sm

/-- it returned some float -/
def Flt (w : World) (e : Ending) (w' : World) : Prop := ∃ r, e = .returned (.float .f64 r) ∧ w = w'
def FltB (w : World) (e : Ending) (w' : World) : Prop := ∃ r, e = .returned (.float .f64 r) ∧ Below w.heap.size w w'

/-- a product, or a quotient: some float, and at most a draw -/
theorem arith_any (op : BinOp) (hop : op = .mul ∨ op = .quo) (t : TypeId) (a b : Nat) (w : World) : ∃ q n, (binOp op t (.float .f64 a) (.float .f64 b)).run Tryd.prog w = .ok (.float .f64 q) (w.drewN n) := by
  cases h : floatBits op .f64 a b with
  | some r => exact ⟨r, 0, run_float_arith w op t .f64 a b r h⟩
  | none =>
    refine ⟨Question.cut (.nanBits .f64 a b) (w.tape w.drawn (.nanBits .f64 a b)), 1, ?_⟩
    rcases hop with rfl | rfl
    · have h' : FloatKind.f64.format.mul a b = none := h
      simp only [binOp, Op.floatArith]
      simp [h', Question.forced]
      rfl
    · have h' : FloatKind.f64.format.div a b = none := h
      simp only [binOp, Op.floatArith]
      simp [h', Question.forced]
      rfl

set_option maxHeartbeats 400000 in
theorem copysign_any (x y : Nat) (w : World) : Calls Tryd.prog 26 #[.float .f64 x, .float .f64 y] w (Flt w) := by
  have h1 := run_frombits
  have h2 := run_bits
  go_enter Tryd.func26, Tryd.ntmps26
  go_wp2
  go_ret
  exact ⟨_, rfl, rfl⟩

set_option maxHeartbeats 400000 in
theorem isnan_any (x : Nat) (w : World) : Calls Tryd.prog 37 #[.float .f64 x] w fun e w' => (∃ b, e = .returned (.bool b)) ∧ w = w' := by
  go_enter Tryd.func37, Tryd.ntmps37
  go_wp2
  go_ret
  exact ⟨⟨_, rfl⟩, rfl⟩

set_option maxHeartbeats 400000 in
theorem next_any (x y : Nat) (w : World) : Calls Tryd.prog 23 #[.float .f64 x, .float .f64 y] w (Flt w) := by
  have h1 := run_frombits
  have h2 := run_bits
  go_enter Tryd.func23, Tryd.ntmps23
  go_wp2_with (first | (go_at_call 37; refine (isnan_any _ _).mono ?_; rintro e w' ⟨⟨b, rfl⟩, rfl⟩) | (go_at_call 24; refine (nan_any _).mono ?_; rintro e w' ⟨rfl, rfl⟩) | (go_at_call 26; refine (copysign_any _ _ _).mono ?_; rintro e w' ⟨r, rfl, rfl⟩))
  all_goals go_ret
  all_goals exact ⟨_, rfl, rfl⟩

set_option maxHeartbeats 1000000 in
theorem ldexp_any (i : Int) (h0 : -1074 ≤ i) (h1 : i < 1024) (w : World) : Calls Tryd.prog 36 #[.float .f64 4607182418800017408, .int .i64 i] w (FltB w) := by
  have k1 := run_frombits
  have k2 := run_bits
  have c1 : (FloatKind.f64.format.order 4607182418800017408 0 == some Ordering.eq) = false := by decide +kernel
  have c2 : (FloatKind.f64.format.order 4607182418800017408 9218868437227405311 == some Ordering.gt) = false := by decide +kernel
  have c3 : (FloatKind.f64.format.order 4607182418800017408 4607182418800017408 != some Ordering.eq) = false := by decide +kernel
  have c4 : (FloatKind.f64.format.order 4607182418800017408 4503599627370496 == some Ordering.lt) = false := by decide +kernel
  have b1 : bits BinOp.andNot IntKind.u64 4607182418800017408 9223372036854775808 = 4607182418800017408 := by decide +kernel
  have b2 : bits BinOp.and IntKind.i64 1023 2047 = 1023 := by decide +kernel
  have b3 : bits BinOp.andNot IntKind.u64 4607182418800017408 9218868437227405312 = 0 := by decide +kernel
  go_enter Tryd.func36, Tryd.ntmps36
  go_wp2_with (first | go_in | fail)
  · obtain ⟨q, n, hop⟩ := arith_any .mul (.inl rfl) 22 4368491638549381120 (bits BinOp.or IntKind.u64 0 ((i + 53 + 1023) * 4503599627370496)).toNat w
    go_wp2_with (simp only [hop])
    go_ret
    exact ⟨_, rfl, below_drewN (Below.refl _ _) _⟩
  · obtain ⟨q, n, hop⟩ := arith_any .mul (.inl rfl) 22 4607182418800017408 (bits BinOp.or IntKind.u64 0 ((i + 1023) * 4503599627370496)).toNat w
    go_wp2_with (simp only [hop])
    go_ret
    exact ⟨_, rfl, below_drewN (Below.refl _ _) _⟩

set_option maxHeartbeats 400000 in
theorem Ldexp_any (i : Int) (h0 : -1074 ≤ i) (h1 : i < 1024) (w : World) : Calls Tryd.prog 22 #[.float .f64 4607182418800017408, .int .i64 i] w (FltB w) := by
  go_enter Tryd.func22, Tryd.ntmps22
  go_wp2_with (go_at_call 36; refine (ldexp_any _ h0 h1 _).mono ?_; rintro e w' ⟨r, rfl, hb⟩)
  go_ret
  exact ⟨_, rfl, hb⟩
end Go.Proofs.YteofkhpofligaaaDoor
