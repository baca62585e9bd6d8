import Derived.Test.YtfigkoknhiabnaaDoorAFm
namespace Go.Fm
open Ieee

theorem ge_not_nan {b : Nat} (h : ge b 0 = true) : rg b ≤ INF := rg_le_of_ge h

theorem rr_pos {x : Nat} (h : 0 < x) : 0 < rr 0 x := by
  have h1 := rr_ge_of (L := 0) (x := x) (k := 1) (l := 0) (by decide) (Nat.le_refl _) (by omega)
  by_cases h0 : rr 0 x = 0
  · rw [h0, vv_0] at h1; omega
  · omega
theorem vv_pos {r : Nat} (h : 0 < r) : 0 < vv 0 r := by
  have := vv_strict (L := 0) h
  rw [vv_0] at this; exact this

theorem sv_0 : sv 0 = 0 := by decide
theorem min_pos {a b : Nat} (ha : 0 < a) (hb : 0 < b) : 0 < min a b := by omega
theorem INF_pos : 0 < INF := by decide

/-- of what is below 0, or no number, the product is so, too -/
theorem prd_bad {b p : Nat} (hp : double.mul b C6 = some p ∨ (double.mul b C6 = none ∧ INF < rg p)) (hb : ge b 0 = false) : ge p 0 = false := by
  rcases hp with hp | ⟨_, hn⟩
  · rcases Nat.lt_trichotomy (rg b) INF with h | h | h
    · rw [mulC_fin h] at hp
      obtain rfl := Option.some.inj hp
      rw [ge_fin h (by decide), sv_0] at hb
      have hb := of_decide_eq_false hb
      unfold sv at hb
      cases hs : sg b <;> rw [hs] at hb
      · simp at hb
      · simp only [if_true] at hb
        have hv : 0 < vv 0 (rg b) := by omega
        have hr : 0 < min (rr 0 (vv 0 (rg b) * 1000000)) INF := min_pos (rr_pos (by omega)) INF_pos
        have hle := Nat.min_le_right (rr 0 (vv 0 (rg b) * 1000000)) INF
        generalize min (rr 0 (vv 0 (rg b) * 1000000)) INF = r at *
        by_cases hi : r = INF
        · rw [ge_inf (by rw [rg_wd hle]; exact hi) (by decide), sg_wd hle]; rfl
        · rw [ge_fin (by rw [rg_wd hle]; omega) (by decide), sv_0, sv_neg (sg_wd hle), rg_wd hle]
          have := vv_pos hr
          exact decide_eq_false (by omega)
    · rw [mulC_inf h] at hp
      obtain rfl := Option.some.inj hp
      rw [ge_inf h (by decide)] at hb
      rw [ge_inf (rg_wd (Nat.le_refl _)) (by decide), sg_wd (Nat.le_refl _)]; exact hb
    · rw [mulC_nan h] at hp; cases hp
  · exact ge_nan hn

/-- of what is 0 (-0 too), or above it -/
theorem prd_good {b : Nat} (hb : ge b 0 = true) : ∃ p, double.mul b C6 = some p ∧ ge p 0 = true ∧ ge p 1 = !(double.order b 0 == some .eq) := by
  rcases Nat.lt_or_eq_of_le (ge_not_nan hb) with h | h
  · refine ⟨_, mulC_fin h, ?_⟩
    have hmin : ∀ x, min (rr 0 x) INF ≤ INF := fun x => Nat.min_le_right _ _
    rw [order_fin h (by decide), sv_0]
    rw [ge_fin h (by decide), sv_0] at hb
    have hb := of_decide_eq_true hb
    by_cases hz : rg b = 0
    · rw [hz, vv_0, Nat.zero_mul]
      have e0 : min (rr 0 0) INF = 0 := by decide
      rw [e0]
      have e1 : sv b = 0 := by unfold sv; rw [hz, vv_0]; cases sg b <;> rfl
      have e2 : ∀ s, rg (wd s 0) = 0 := fun s => rg_wd (Nat.zero_le _)
      have e3 : ∀ s, sv (wd s 0) = 0 := fun s => by unfold sv; rw [e2, vv_0]; cases sg (wd s 0) <;> rfl
      rw [e1, ge_fin (by rw [e2]; decide) (by decide), ge_fin (by rw [e2]; decide) (by decide), e3]
      exact ⟨by decide, by decide⟩
    · have hs : sg b = false := by
        cases hs : sg b
        · rfl
        · exfalso; rw [sv_neg hs] at hb; have := vv_pos (r := rg b) (by omega); omega
      have hv := vv_pos (r := rg b) (by omega)
      rw [sv_pos hs] at *
      have hr : 0 < min (rr 0 (vv 0 (rg b) * 1000000)) INF := min_pos (rr_pos (by omega)) INF_pos
      have hle := hmin (vv 0 (rg b) * 1000000)
      generalize min (rr 0 (vv 0 (rg b) * 1000000)) INF = r at *
      rw [hs]
      have hcmp : (some (compare ((vv 0 (rg b) : Nat) : Int) 0) == some Ordering.eq) = false := by
        rw [Std.compare_eq_gt.2 (by omega)]; rfl
      rw [hcmp, ge_rg (by rw [rg_wd hle]; exact hle) (by decide) (sg_wd hle) (by decide), ge_rg (by rw [rg_wd hle]; exact hle) (by decide) (sg_wd hle) (by decide), rg_wd hle]
      have e1 : rg 1 = 1 := by decide
      have e0 : rg 0 = 0 := rfl
      rw [e1, e0]
      exact ⟨decide_eq_true (by omega), decide_eq_true (by omega)⟩
  · refine ⟨_, mulC_inf h, ?_⟩
    rw [ge_inf h (by decide)] at hb
    have hs : sg b = false := by simpa using hb
    rw [ge_inf (rg_wd (Nat.le_refl _)) (by decide), ge_inf (rg_wd (Nat.le_refl _)) (by decide), sg_wd (Nat.le_refl _), order_inf_fin h (by decide), hs]
    exact ⟨rfl, rfl⟩

theorem ge_down {p c d : Nat} (hc : rg c < INF) (hd : rg d < INF) (hcd : sv d ≤ sv c) (h : ge p c = true) : ge p d = true := by
  rcases Nat.lt_or_eq_of_le (rg_le_of_ge h) with hf | hf
  · rw [ge_fin hf hc] at h
    rw [ge_fin hf hd]
    have := of_decide_eq_true h
    exact decide_eq_true (by omega)
  · rw [ge_inf hf hc] at h
    rw [ge_inf hf hd]; exact h

theorem K1_62 : sv K1 ≤ sv K62 := by
  rw [sv_pos (by decide), sv_pos (by decide)]
  have := vv_mono (L := 0) (show rg K1 ≤ rg K62 by decide)
  omega
theorem one_K1 : sv 1 ≤ sv K1 := by
  rw [sv_pos (by decide), sv_pos (by decide)]
  have := vv_mono (L := 0) (show rg 1 ≤ rg K1 by decide)
  omega
theorem zero_one : sv 0 ≤ sv 1 := by
  rw [sv_pos (by decide), sv_pos (by decide)]
  have := vv_mono (L := 0) (show rg 0 ≤ rg 1 by decide)
  omega
theorem cls_62 {p : Nat} (h : ge p K62 = true) : clsP p = 4 := by
  have h1 := ge_down (by decide) (by decide) K1_62 h
  have h2 := ge_down (by decide) (by decide) one_K1 h1
  have h3 := ge_down (by decide) (by decide) zero_one h2
  unfold clsP
  rw [h3, h2, h1, h]; rfl
theorem cls_not62 {p : Nat} (h0 : ge p 0 = true) (h : ge p K62 = false) : clsP p ≠ 0 ∧ clsP p ≠ 4 := by
  unfold clsP
  rw [h0, h]
  cases ge p 1 <;> cases ge p K1 <;> decide
theorem vv_pow (t : Nat) : vv 0 ((t + 1) * F52 + 0) = 2 ^ (52 + t) := by
  rw [vv_mk _ _ _ (by decide), Nat.zero_add, Nat.pow_add]; rfl
def E1022 : Nat := 1022
theorem vv_K1 : vv 0 K1 = U := by
  have e : K1 = (E1022 + 1) * F52 + 0 := by decide
  have e2 : 52 + E1022 = E1074 := rfl
  rw [e, vv_pow, e2]
  unfold U
  rfl
theorem cls_lo {p : Nat} (h0 : ge p 0 = true) (h : ge p K62 = false) (h1 : ge p 1 = true) : (clsP p = 2 ∧ vv 0 (rg p) / U = 0) ∨ (clsP p = 3 ∧ vv 0 (rg p) / U ≠ 0) := by
  have hc := cls_not62 h0 h
  have hf := (fin_of_cls hc.1 hc.2).1
  have hs := sv_ge hf h0
  have hk : ge p K1 = decide (U ≤ vv 0 (rg p)) := by
    rw [ge_fin hf (by decide), hs, sv_pos (show sg K1 = false by decide), show rg K1 = K1 by decide, vv_K1]
    generalize U = u
    by_cases h : u ≤ vv 0 (rg p)
    · rw [decide_eq_true h, decide_eq_true (by omega)]
    · rw [decide_eq_false h, decide_eq_false (by omega)]
  unfold clsP
  rw [h0, h1, h, hk]
  by_cases hu : U ≤ vv 0 (rg p)
  · right
    rw [decide_eq_true hu]
    refine ⟨rfl, ?_⟩
    have := (Nat.le_div_iff_mul_le U_pos (x := 1) (y := vv 0 (rg p))).2 (by omega)
    omega
  · left
    rw [decide_eq_false hu]
    exact ⟨rfl, Nat.div_eq_of_lt (by omega)⟩
end Go.Fm
