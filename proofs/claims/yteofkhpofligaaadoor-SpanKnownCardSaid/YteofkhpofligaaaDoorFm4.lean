import Derived.Test.YteofkhpofligaaaDoorFm3
namespace Go.Fm
open Ieee

/-- what the span of a product p is, if there is one -/
def spn (r : Nat) : Nat := if K62 ≤ r then 4611686018427387904 else vv 0 r / U
theorem ge62_rg {p : Nat} (h : ge p 0 = true) : ge p K62 = decide (K62 ≤ rg p) := by
  have hle := rg_le_of_ge h
  cases hs : sg p with
  | false => rw [ge_rg hle (by decide) hs (by decide), rg_K62]
  | true =>
    have hf : rg p < INF := by
      rcases Nat.lt_or_eq_of_le hle with h1 | h1
      · exact h1
      · rw [ge_inf h1 (by decide), hs] at h; cases h
    rw [ge_fin hf (by decide)] at h
    have h0 := of_decide_eq_true h
    rw [sv_neg hs, sv_0] at h0
    have hv : vv 0 (rg p) = 0 := by omega
    have hr : rg p = 0 := vv_inj (L := 0) (by rw [hv, vv_0])
    rw [ge_fin hf (by decide), sv_neg hs, hv, hr, sv_pos sg_K62]
    have := vv_pos (r := rg K62) (by decide)
    rw [decide_eq_false (by omega), decide_eq_false (by decide)]
theorem spn_mono {r s : Nat} (h : r ≤ s) : spn r ≤ spn s := by
  unfold spn
  by_cases hr : K62 ≤ r
  · rw [if_pos hr, if_pos (by omega)]; exact Nat.le_refl _
  · rw [if_neg hr]
    have h1 : vv 0 r < 4611686018427387904 * U := by rw [← vv_K62]; exact vv_strict (by omega)
    have h2 := (Nat.div_lt_iff_lt_mul U_pos).2 h1
    by_cases hs : K62 ≤ s
    · rw [if_pos hs]; omega
    · rw [if_neg hs]; exact Nat.div_le_div_right (vv_mono h)

/-- the product's rung, of what is not below 0 -/
def prg (b : Nat) : Nat := if rg b = INF then INF else min (rr 0 (vv 0 (rg b) * 1000000)) INF
theorem prg_of {b p : Nat} (hb : ge b 0 = true) (hp : double.mul b C6 = some p) : rg p = prg b := by
  unfold prg
  rcases Nat.lt_or_eq_of_le (rg_le_of_ge hb) with h | h
  · rw [mulC_fin h] at hp
    obtain rfl := Option.some.inj hp
    rw [if_neg (by omega)]
    exact rg_wd (Nat.min_le_right _ _)
  · rw [mulC_inf h] at hp
    obtain rfl := Option.some.inj hp
    rw [if_pos h]
    exact rg_wd (Nat.le_refl _)
theorem prg_mono {f g : Nat} (hf : ge f 0 = true) (hg : ge g 0 = true) (h : le f g = true) : prg f ≤ prg g := by
  have hfl := rg_le_of_ge hf
  have hgl := rg_le_of_ge hg
  unfold prg
  by_cases hgi : rg g = INF
  · rw [if_pos hgi]; split
    · exact Nat.le_refl _
    · exact Nat.min_le_right _ _
  · by_cases hfi : rg f = INF
    · exfalso
      unfold le at h
      rw [order_inf_fin hfi (by omega)] at h
      rw [ge_inf hfi (by decide)] at hf
      have hs : sg f = false := by simpa using hf
      rw [hs] at h
      revert h; decide
    · rw [if_neg hfi, if_neg hgi]
      rw [le_fin (by omega) (by omega), sv_ge (by omega) hf, sv_ge (by omega) hg] at h
      have h1 := of_decide_eq_true h
      have h2 : rr 0 (vv 0 (rg f) * 1000000) ≤ rr 0 (vv 0 (rg g) * 1000000) := rr_mono (Nat.mul_le_mul_right _ (by omega))
      omega

theorem fl_small {n : Nat} (h : n < 2 * F52) : fl n = rr 0 (n * U) ∧ vv 0 (fl n) = n * U ∧ fl n ≤ K62 ∧ rg (fl n) = fl n ∧ sg (fl n) = false := by
  have h1 : n ≤ 4611686018427387904 := by unfold F52 at h; omega
  have hf := fl_lt h1
  have hk := K62_lt
  refine ⟨hf.1, by rw [hf.1]; exact nat_rep h, by omega, rg_small (by omega), sg_small (by omega)⟩
theorem fl_lt62 {n : Nat} (h : n < 2 * F52) : fl n < K62 := by
  have h1 := fl_small h
  rw [← vv_lt_iff (L := 0), h1.2.1, vv_K62]
  exact Nat.mul_lt_mul_of_pos_right (by unfold F52 at h; omega) U_pos
theorem fl_mul {k : Nat} (h : k * 1000000 < 2 * F52) : double.mul (fl k) C6 = some (fl (k * 1000000)) := by
  have h1 := fl_small (n := k) (by omega)
  have h2 := fl_small h
  have hk := K62_lt
  rw [mulC_fin (by rw [h1.2.2.2.1]; omega), h1.2.2.2.1, h1.2.2.2.2, h1.2.1, wd_false]
  rw [Nat.mul_right_comm, ← h2.1, Nat.min_eq_left (by omega)]
theorem fl_ge0 {n : Nat} (h : n < 2 * F52) : ge (fl n) 0 = true := by
  have h1 := fl_small h
  have hk := K62_lt
  rw [ge_rg (by rw [h1.2.2.2.1]; omega) (by decide) h1.2.2.2.2 (by decide)]
  exact decide_eq_true (Nat.zero_le _)
theorem fl_not62 {n : Nat} (h : n < 2 * F52) : ge (fl n) K62 = false := by
  have h1 := fl_small h
  have := fl_lt62 h
  rw [ge62_rg (fl_ge0 h), h1.2.2.2.1]
  exact decide_eq_false (by omega)
theorem fl_div {n : Nat} (h : n < 2 * F52) : vv 0 (rg (fl n)) / U = n := by
  have h1 := fl_small h
  rw [h1.2.2.2.1, h1.2.1, Nat.mul_div_cancel _ U_pos]

theorem small_pow {n j : Nat} (h : n < 2 ^ j) : n * U < 2 ^ (E1074 + j) := by
  unfold U
  rw [Nat.pow_add, Nat.mul_comm]
  exact Nat.mul_lt_mul_of_pos_left h (Nat.two_pow_pos _)

/-- a whole number of milliseconds comes back -/
theorem fl_back {k : Nat} (h : k * 1000000 < 2 * F52) : double.div (fl (k * 1000000)) C6 = some (fl k) := by
  have h1 := fl_small (n := k) (by omega)
  have h2 := fl_small h
  have hk := K62_lt
  obtain ⟨r, hr, hb⟩ := divC (x := fl (k * 1000000)) (by rw [h2.2.2.2.1]; omega) h2.2.2.2.2
  rw [h2.2.2.2.1, h2.2.1] at hb
  have hU : U = 2 ^ E1074 := by unfold U; rfl
  have hb := hb k E1074 (by omega) (small_pow (by have : (2 : Nat) ^ 74 = 18889465931478580854784 := by decide
                                                  unfold F52 at h; omega))
  rw [← hU, Nat.mul_right_comm k 1000000 U] at hb
  have e : vv 0 r = vv 0 (fl k) := by rw [h1.2.1]; exact Nat.le_antisymm (hb.2 (Nat.le_refl _)) (hb.1 (Nat.le_refl _))
  have e2 := vv_inj e
  rw [hr, e2, Nat.min_eq_left (by omega)]

def E1054 : Nat := 1054
theorem U_split : U = 1048576 * 2 ^ E1054 := by
  have e : E1074 = 20 + E1054 := rfl
  unfold U
  rw [e, Nat.pow_add]

theorem near_num {m a : Nat} (ha : m * 1048576 / 1000000 = a) : a * 1000000 ≤ m * 1048576 ∧ m * 1048576 ≤ (a + 1) * 1000000 ∧ (m - 1) * 1048576 ≤ a * 1000000 ∧ (a + 1) * 1000000 ≤ (m + 1) * 1048576 := by
  have h1 := Nat.div_add_mod (m * 1048576) 1000000
  have h2 : m * 1048576 % 1000000 < 1000000 := Nat.mod_lt _ (by decide)
  rw [ha] at h1
  refine ⟨?_, ?_, ?_, ?_⟩ <;> omega

/-- a span below 2^52, told as milliseconds, and taken back -/
theorem fl_near {m : Nat} (h : m < F52) : ∃ x p, double.div (fl m) C6 = some x ∧ double.mul x C6 = some p ∧ ge p 0 = true ∧ ge p K62 = false ∧ m - 1 ≤ vv 0 (rg p) / U ∧ vv 0 (rg p) / U ≤ m + 1 := by
  have h1 := fl_small (n := m) (by omega)
  have hk := K62_lt
  obtain ⟨r, hr, hb⟩ := divC (x := fl m) (by rw [h1.2.2.2.1]; omega) h1.2.2.2.2
  rw [h1.2.2.2.1, h1.2.1] at hb
  obtain ⟨a, ha⟩ : ∃ a, m * 1048576 / 1000000 = a := ⟨_, rfl⟩
  obtain ⟨ha1, ha2, ha3, ha4⟩ := near_num ha
  have haF : a + 1 < 2 * F52 := by unfold F52 at *; omega
  have hX : m * U < 2 ^ (E1054 + 74) := by
    have := small_pow (n := m) (j := 54) (by have : (2 : Nat) ^ 54 = 18014398509481984 := by decide
                                             unfold F52 at h; omega)
    have e : E1074 + 54 = E1054 + 74 := rfl
    rwa [e] at this
  have hlo := (hb a E1054 (by omega) hX).1
  have hhi := (hb (a + 1) E1054 haF hX).2
  have hP := Nat.two_pow_pos E1054
  have hU := U_split
  generalize 2 ^ E1054 = P at *
  have hlo : a * P ≤ vv 0 r := hlo (by rw [hU, Nat.mul_right_comm, ← Nat.mul_assoc]; exact Nat.mul_le_mul_right _ ha1)
  have hhi : vv 0 r ≤ (a + 1) * P := hhi (by rw [hU, Nat.mul_right_comm (a + 1), ← Nat.mul_assoc]; exact Nat.mul_le_mul_right _ ha2)
  have hr62 : r < K62 := by
    rw [← vv_lt_iff (L := 0), vv_K62, hU]
    refine Nat.lt_of_le_of_lt hhi ?_
    rw [← Nat.mul_assoc]
    exact Nat.mul_lt_mul_of_pos_right (by unfold F52 at haF; omega) hP
  have hmin : min r INF = r := Nat.min_eq_left (by omega)
  rw [hmin] at hr
  have hrg := rg_small (r := r) (by omega)
  have hsg := sg_small (r := r) (by omega)
  have hmul := mulC_fin (x := r) (by rw [hrg]; omega)
  rw [hrg, hsg, wd_false] at hmul
  -- the product before it is rounded
  have hy1 : (m - 1) * U ≤ vv 0 r * 1000000 := by
    refine Nat.le_trans ?_ (Nat.mul_le_mul_right 1000000 hlo)
    rw [hU, Nat.mul_right_comm a, ← Nat.mul_assoc]
    exact Nat.mul_le_mul_right _ ha3
  have hy2 : vv 0 r * 1000000 ≤ (m + 1) * U := by
    refine Nat.le_trans (Nat.mul_le_mul_right 1000000 hhi) ?_
    rw [hU, Nat.mul_right_comm (a + 1), ← Nat.mul_assoc]
    exact Nat.mul_le_mul_right _ ha4
  have n1 := nat_rep (n := m - 1) (by omega)
  have n2 := nat_rep (n := m + 1) (by omega)
  have z1 := vv_mono (L := 0) (rr_mono (L := 0) hy1)
  have z2 := vv_mono (L := 0) (rr_mono (L := 0) hy2)
  rw [n1] at z1
  rw [n2] at z2
  generalize hq : rr 0 (vv 0 r * 1000000) = q at *
  have hq62 : q < K62 := by
    rw [← vv_lt_iff (L := 0), vv_K62]
    exact Nat.lt_of_le_of_lt z2 (Nat.mul_lt_mul_of_pos_right (by unfold F52 at h; omega) U_pos)
  rw [Nat.min_eq_left (by omega)] at hmul
  have qrg := rg_small (r := q) (by omega)
  have qsg := sg_small (r := q) (by omega)
  have q0 : ge q 0 = true := by
    rw [ge_rg (by rw [qrg]; omega) (by decide) qsg (by decide)]
    exact decide_eq_true (Nat.zero_le _)
  refine ⟨r, q, hr, hmul, q0, ?_, ?_, ?_⟩
  · rw [ge62_rg q0, qrg]; exact decide_eq_false (by omega)
  · rw [qrg, Nat.le_div_iff_mul_le U_pos]; exact z1
  · rw [qrg]
    have := Nat.div_le_div_right (c := U) z2
    rwa [Nat.mul_div_cancel _ U_pos] at this
end Go.Fm
