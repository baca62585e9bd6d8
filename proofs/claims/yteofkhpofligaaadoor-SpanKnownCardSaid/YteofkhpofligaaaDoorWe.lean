/- The reference's Nanos and Class, told by the product. -/
import Derived.Test.YteofkhpofligaaaDoorWd
import Derived.Test.YteofkhpofligaaaDoorFm2
namespace Go.Proofs.YteofkhpofligaaaDoor
open Go.RowKit Go.Fm

theorem ge_split {x y : Nat} (h : ge x y = false) : (FloatKind.f64.format.order x y == some Ordering.gt) = false ∧ (FloatKind.f64.format.order x y == some Ordering.eq) = false := by
  have h : ((FloatKind.f64.format.order x y == some Ordering.gt) || (FloatKind.f64.format.order x y == some Ordering.eq)) = false := h
  cases h1 : (FloatKind.f64.format.order x y == some Ordering.gt)
  · rw [h1] at h; exact ⟨rfl, h⟩
  · rw [h1] at h; cases h

theorem nan_of_zero {p : Nat} (h : ge p 0 = false) : nanV p = 0 ∧ nanE p = 10 := by
  have h : clsP p = 0 := by unfold clsP; rw [if_pos h]
  unfold nanV nanE; rw [if_pos h, if_pos h]; exact ⟨rfl, rfl⟩
theorem nan_of_62 {p : Nat} (h : ge p K62 = true) : nanV p = 4611686018427387904 ∧ nanE p = 0 := by
  have h := cls_62 h
  unfold nanV nanE; rw [h]; exact ⟨rfl, rfl⟩
theorem nan_of_small {p : Nat} (h0 : ge p 0 = true) (h : ge p K62 = false) : nanV p = ((vv 0 (rg p) / U : Nat) : Int) ∧ nanE p = 0 := by
  have h := cls_not62 h0 h
  unfold nanV nanE; rw [if_neg h.1, if_neg h.1, if_neg h.2]; exact ⟨rfl, rfl⟩
theorem dig_of {p : Nat} (h0 : ge p 0 = true) (h : ge p K62 = false) : Dig p := by
  have hc := cls_not62 h0 h
  have hf := fin_of_cls hc.1 hc.2
  exact ⟨hf.1, h0, hf.2⟩

theorem rnanos_any (b p : Nat) (hp : Prd b p) (w : World) : Calls Tryd.prog 9 #[.float .f64 b] w fun e w' => e = .returned (.tuple #[.int .i64 (nanV p), .int .i64 (nanE p)]) ∧ w = w' := by
  cases hb : ge b 0 with
  | false =>
    have h := nan_of_zero (prd_bad hp hb)
    have h2 := ge_split hb
    rw [h.1, h.2]
    exact rnanos_bad b w h2.1 h2.2
  | true =>
    obtain ⟨q, hq, hq0, _⟩ := prd_good hb
    have hpq : p = q := by
      rcases hp with hp | ⟨hn, _⟩
      · rw [hq] at hp; exact (Option.some.inj hp).symm
      · rw [hq] at hn; cases hn
    subst hpq
    cases h62 : ge p K62 with
    | true =>
      have h := nan_of_62 h62
      rw [h.1, h.2]
      exact rnanos_big b p w hb hq h62
    | false =>
      have h := nan_of_small hq0 h62
      have h2 := ge_split h62
      rw [h.1, h.2]
      exact rnanos_small b p _ w hb hq h2.1 h2.2 (digits_of (dig_of hq0 h62))


theorem nanE_zero_iff {p : Nat} : (nanE p = 0 ∧ clsP p ≠ 0) ∨ (nanE p = 10 ∧ clsP p = 0) := by
  unfold nanE; by_cases h : clsP p = 0
  · rw [if_pos h]; exact .inr ⟨rfl, h⟩
  · rw [if_neg h]; exact .inl ⟨rfl, h⟩

theorem ret_i {a b : Int} (h : a = b) : Ending.returned (.int .i64 a) = Ending.returned (.int .i64 b) := by rw [h]
theorem ne_of_bne {E : Int} (h : (E != 0) = true) : E ≠ 0 := by simpa using h
theorem eq_of_bne {E : Int} (h : (E != 0) = false) : E = 0 := by simpa using h
theorem eq_of_b {E : Int} (h : (E == 0) = true) : E = 0 := by simpa using h
theorem ne_of_b {E : Int} (h : (E == 0) = false) : E ≠ 0 := by simpa using h
set_option maxHeartbeats 400000 in
theorem rclass_core (b : Nat) (V E : Int) (w : World) (c : Int)
    (hn : ∀ w, Calls Tryd.prog 9 #[.float .f64 b] w fun e w' => e = .returned (.tuple #[.int .i64 V, .int .i64 E]) ∧ w = w')
    (h0 : E ≠ 0 → c = 0) (h1 : E = 0 → (FloatKind.f64.format.order b 0 == some Ordering.eq) = true → c = 1)
    (h2 : E = 0 → (FloatKind.f64.format.order b 0 == some Ordering.eq) = false → V = 0 → c = 2)
    (h3 : E = 0 → (FloatKind.f64.format.order b 0 == some Ordering.eq) = false → V ≠ 0 → V < 4611686018427387904 → c = 3)
    (h4 : E = 0 → (FloatKind.f64.format.order b 0 == some Ordering.eq) = false → V ≠ 0 → ¬ V < 4611686018427387904 → c = 4) :
    Calls Tryd.prog 11 #[.float .f64 b] w fun e w' => e = .returned (.int .i64 c) ∧ w = w' := by
  have HN := Lib.hid hn
  have H := Lib.hid (And.intro h0 (And.intro h1 (And.intro h2 (And.intro h3 h4))))
  clear hn h0 h1 h2 h3 h4
  go_enter Tryd.func11, Tryd.ntmps11
  go_wp2_with (go_at_call 9; refine (HN.out _).mono ?_; rintro e w' ⟨rfl, rfl⟩)
  · go_ret; exact ⟨ret_i (H.out.1 (ne_of_bne (by assumption))).symm, rfl⟩
  · go_ret; exact ⟨ret_i (H.out.2.1 (eq_of_bne (by assumption)) (by assumption)).symm, rfl⟩
  · go_ret; exact ⟨ret_i (H.out.2.2.1 (eq_of_bne (by assumption)) (by assumption) (eq_of_b (by assumption))).symm, rfl⟩
  · go_ret; exact ⟨ret_i (H.out.2.2.2.1 (eq_of_bne (by assumption)) (by assumption) (ne_of_b (by assumption)) (by assumption)).symm, rfl⟩
  · go_ret; exact ⟨ret_i (H.out.2.2.2.2 (eq_of_bne (by assumption)) (by assumption) (ne_of_b (by assumption)) (by assumption)).symm, rfl⟩

theorem rclass_any (b p : Nat) (hp : Prd b p) (w : World) : Calls Tryd.prog 11 #[.float .f64 b] w fun e w' => e = .returned (.int .i64 (clsP p)) ∧ w = w' := by
  refine rclass_core b (nanV p) (nanE p) w _ (rnanos_any b p hp) ?_ ?_ ?_ ?_ ?_
  · intro h; rcases nanE_zero_iff (p := p) with h1 | h1
    · exact absurd h1.1 h
    · rw [h1.2]; rfl
  all_goals
    intro hE hz
    have h0 : ge p 0 = true := by
      rcases nanE_zero_iff (p := p) with h1 | h1
      · exact ge_of_cls h1.2
      · rw [h1.1] at hE; cases hE
    have hb : ge b 0 = true := by
      cases hb : ge b 0
      · rw [prd_bad hp hb] at h0; cases h0
      · rfl
    obtain ⟨q, hq, hq0, hq1⟩ := prd_good hb
    obtain rfl : p = q := by
      rcases hp with hp | ⟨hn, _⟩
      · rw [hq] at hp; exact (Option.some.inj hp).symm
      · rw [hq] at hn; cases hn
    have hz' : (Ieee.double.order b 0 == some Ordering.eq) = _ := hz
    rw [hz'] at hq1
  · have h1 : ge p 1 = false := hq1
    have : clsP p = 1 := by unfold clsP; rw [h0, h1]; rfl
    rw [this]; rfl
  all_goals
    have h1 : ge p 1 = true := hq1
    cases h62 : ge p K62
  · have hs := nan_of_small h0 h62
    intro hV
    rcases cls_lo h0 h62 h1 with h | h
    · rw [h.1]; rfl
    · rw [hs.1] at hV; exfalso; apply h.2; exact_mod_cast hV
  · have hs := nan_of_62 h62
    intro hV; rw [hs.1] at hV; cases hV
  · have hs := nan_of_small h0 h62
    intro hV _
    rcases cls_lo h0 h62 h1 with h | h
    · exfalso; rw [hs.1, h.2] at hV; exact hV rfl
    · rw [h.1]; rfl
  · have hs := nan_of_62 h62
    intro _ hl; rw [hs.1] at hl; exact absurd hl (by decide)
  · have hs := nan_of_small h0 h62
    have hd := (dig_of h0 h62).lt
    intro _ hl; rw [hs.1] at hl
    generalize vv 0 (rg p) / U = T at *
    exfalso; apply hl; omega
  · intro _ _; rw [cls_62 h62]; rfl
end Go.Proofs.YteofkhpofligaaaDoor
