/- The reference's Nanos and Class, told by the product. -/
import Derived.Test.YtfigkoknhiabnaaDoorAWd
import Derived.Test.YtfigkoknhiabnaaDoorAFm2
namespace Go.Proofs.YtfigkoknhiabnaaDoor
open Go.RowKit Go.Fm

theorem ge_split {x y : Nat} (h : ge x y = false) : (FloatKind.f64.format.order x y == some Ordering.gt) = false ∧ (FloatKind.f64.format.order x y == some Ordering.eq) = false := by
  have h : ((FloatKind.f64.format.order x y == some Ordering.gt) || (FloatKind.f64.format.order x y == some Ordering.eq)) = false := h
  cases h1 : (FloatKind.f64.format.order x y == some Ordering.gt)
  · rw [h1] at h; exact ⟨rfl, h⟩
  · rw [h1] at h; cases h

theorem nan_of_zero {p : Nat} (h : ge p 0 = false) : nanV p = 0 ∧ nanE p = 10 := by
  have h : clsP p = 0 := by unfold clsP; rw [if_pos h]
  unfold nanV nanE; rw [if_pos h, if_pos h]; exact ⟨rfl, rfl⟩
theorem nan_of_62 {p : Nat} (h : ge p K62 = true) : nanV p = 4611686018427387904 ∧ nanE p = 0 := by
  have h := cls_62 h
  unfold nanV nanE; rw [h]; exact ⟨rfl, rfl⟩
theorem nan_of_small {p : Nat} (h0 : ge p 0 = true) (h : ge p K62 = false) : nanV p = ((vv 0 (rg p) / U : Nat) : Int) ∧ nanE p = 0 := by
  have h := cls_not62 h0 h
  unfold nanV nanE; rw [if_neg h.1, if_neg h.1, if_neg h.2]; exact ⟨rfl, rfl⟩
theorem dig_of {p : Nat} (h0 : ge p 0 = true) (h : ge p K62 = false) : Dig p := by
  have hc := cls_not62 h0 h
  have hf := fin_of_cls hc.1 hc.2
  exact ⟨hf.1, h0, hf.2⟩

theorem rnanos_any (b p : Nat) (hp : Prd b p) (w : World) : Calls Tryd.prog 32 #[.float .f64 b] w fun e w' => e = .returned (.tuple #[.int .i64 (nanV p), .int .i64 (nanE p)]) ∧ w = w' := by
  cases hb : ge b 0 with
  | false =>
    have h := nan_of_zero (prd_bad hp hb)
    have h2 := ge_split hb
    rw [h.1, h.2]
    exact rnanos_bad b w h2.1 h2.2
  | true =>
    obtain ⟨q, hq, hq0, _⟩ := prd_good hb
    have hpq : p = q := by
      rcases hp with hp | ⟨hn, _⟩
      · rw [hq] at hp; exact (Option.some.inj hp).symm
      · rw [hq] at hn; cases hn
    subst hpq
    cases h62 : ge p K62 with
    | true =>
      have h := nan_of_62 h62
      rw [h.1, h.2]
      exact rnanos_big b p w hb hq h62
    | false =>
      have h := nan_of_small hq0 h62
      have h2 := ge_split h62
      rw [h.1, h.2]
      exact rnanos_small b p _ w hb hq h2.1 h2.2 (digits_of (dig_of hq0 h62))


theorem nanE_zero_iff {p : Nat} : (nanE p = 0 ∧ clsP p ≠ 0) ∨ (nanE p = 10 ∧ clsP p = 0) := by
  unfold nanE; by_cases h : clsP p = 0
  · rw [if_pos h]; exact .inr ⟨rfl, h⟩
  · rw [if_neg h]; exact .inl ⟨rfl, h⟩

theorem ret_i {a b : Int} (h : a = b) : Ending.returned (.int .i64 a) = Ending.returned (.int .i64 b) := by rw [h]
theorem ne_of_bne {E : Int} (h : (E != 0) = true) : E ≠ 0 := by simpa using h
theorem eq_of_bne {E : Int} (h : (E != 0) = false) : E = 0 := by simpa using h
theorem eq_of_b {E : Int} (h : (E == 0) = true) : E = 0 := by simpa using h
theorem ne_of_b {E : Int} (h : (E == 0) = false) : E ≠ 0 := by simpa using h
end Go.Proofs.YtfigkoknhiabnaaDoor
