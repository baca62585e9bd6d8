import Derived.Test.YteofkhpofligaaaDoorFm2
namespace Go.Fm
open Ieee

theorem read_fin2 {b : Nat} (h : rg b < INF) : ∃ (m : Nat) (e : Int), double.read b = .number (sg b) m e ∧ -1074 ≤ e ∧ (∀ L : Nat, m * 2 ^ (e + 1074 + L).toNat = vv L (rg b)) ∧ m < 2 * F52 ∧ (-1074 < e → F52 ≤ m) := by
  unfold Format.read
  rw [dbl_sign, dbl_binade, dbl_inf, dbl_least]
  change ∃ m e, (if rg b < F52 then Datum.number (sg b) (rg b) (-1074) else if rg b < INF then _ else _) = _ ∧ _
  by_cases h1 : rg b < F52
  · refine ⟨rg b, -1074, by rw [if_pos h1], by omega, fun L => ?_, by omega, by omega⟩
    rw [vv_lo h1]; congr 2; omega
  · have hm : rg b % F52 < F52 := Nat.mod_lt _ F52_pos
    refine ⟨F52 + rg b % F52, -1074 + ((rg b / F52 - 1 : Nat) : Int), by rw [if_neg h1, if_pos h]; rfl, by omega, fun L => ?_, by omega, by omega⟩
    have h2 : 1 ≤ rg b / F52 := (Nat.le_div_iff_mul_le F52_pos).2 (by omega)
    unfold vv; rw [if_neg h1]; congr 2; omega

def NC : Nat := 8589934592000000
theorem NC_eq : NC = 1000000 * 2 ^ 33 := by decide
theorem NC_log : NC.log2 = 52 := by decide +kernel

theorem quot_bounds {D N t : Nat} (hN : 0 < N) : (t * N ≤ D → 2 * t ≤ 2 * (D / N) + (D % N != 0).toNat) ∧ (D ≤ t * N → 2 * (D / N) + (D % N != 0).toNat ≤ 2 * t) := by
  constructor
  · intro h
    have := (Nat.le_div_iff_mul_le hN).2 h
    omega
  · intro h
    have hd := Nat.div_add_mod D N
    have hle : D / N ≤ t := by
      have := Nat.div_le_div_right (c := N) h
      rwa [Nat.mul_div_cancel _ hN] at this
    by_cases he : D / N = t
    · have hz : D % N = 0 := by
        rw [he, Nat.mul_comm] at hd; omega
      rw [hz, he]; simp
    · cases hb : (D % N != 0) <;> simp only [Bool.toNat_true, Bool.toNat_false] <;> omega

theorem mulA (k a b c d : Nat) : k * a * (b * c) * d = k * b * (d * c * a) := by ac_rfl
theorem mulB (k b x y : Nat) : k * b * (x * y) = k * x * b * y := by ac_rfl
theorem mulC' (a k c z : Nat) : a * (k * c) * z = k * (a * z * c) := by ac_rfl

/-- THE QUOTIENT BY 10^6, held against what the format has. -/
theorem divC {x : Nat} (hx : rg x < INF) (hs : sg x = false) : ∃ r, double.div x C6 = some (min r INF) ∧
    ∀ k l, k < 2 * F52 → vv 0 (rg x) < 2 ^ (l + 74) → (k * 2 ^ l * 1000000 ≤ vv 0 (rg x) → k * 2 ^ l ≤ vv 0 r) ∧ (vv 0 (rg x) ≤ k * 2 ^ l * 1000000 → vv 0 r ≤ k * 2 ^ l) := by
  obtain ⟨m, i, hr, hi, hv, hm, hmn⟩ := read_fin2 hx
  unfold Format.div
  rw [hr, read_C6, hs]
  unfold Datum.quotient
  dsimp only
  rw [if_neg (by decide), Option.map_some]
  have hN : (8589934592000000 : Nat) = NC := rfl
  rw [hN, NC_log, show double.fractionBits + 2 + 52 = 106 from rfl]
  have hlog : m.log2 ≤ 52 := by
    by_cases h0 : m = 0
    · subst h0; simp
    · have := (Nat.log2_lt h0 (k := 53)).2 hm; omega
  obtain ⟨more, hmore, hmore2⟩ : ∃ more : Nat, 106 - m.log2 = more ∧ 54 ≤ more := ⟨106 - m.log2, rfl, by omega⟩
  rw [hmore, shl]
  generalize hq : 2 * (m * 2 ^ more / NC) + (m * 2 ^ more % NC != 0).toNat = mag
  refine ⟨rr more (mag * 2 ^ (i + 1106).toNat), ?_, ?_⟩
  · show some (double.nearest _ _ _) = _
    rw [nearest_eq _ _ _ more (by omega), Bool.xor_false, wd_false]
    rw [show (i - -33 - (more : Int) - 1 + 1074 + (more : Int)).toNat = (i + 1106).toNat by omega]
  · intro k l hk hX
    have hvs := hv 0
    obtain ⟨z, hz⟩ : ∃ z : Nat, i + 1074 = z := ⟨(i + 1074).toNat, by omega⟩
    rw [show (i + 1074 + (0 : Nat)).toNat = z by omega] at hvs
    rw [show (i + 1106).toNat = z + 32 by omega]
    -- how far the last digit of x is
    have hzl : z ≤ l + 21 := by
      by_cases h : z ≤ l + 21
      · exact h
      · exfalso
        have hF := hmn (by omega)
        have h1 : 2 ^ 52 * 2 ^ (l + 22) ≤ m * 2 ^ z := Nat.mul_le_mul hF (Nat.pow_le_pow_right (by decide) (by omega))
        rw [← Nat.pow_add, hvs] at h1
        have h2 : 2 ^ (l + 74) = 2 ^ (52 + (l + 22)) := by congr 1; omega
        omega
    obtain ⟨c, hc⟩ : ∃ c, l + more = z + 33 + c := ⟨l + more - (z + 33), by omega⟩
    have hb := quot_bounds (D := m * 2 ^ more) (N := NC) (t := k * 2 ^ c) (by decide)
    rw [hq] at hb
    have hp := Nat.two_pow_pos z
    -- k 2^l 10^6 against X, both times 2^more, are k 2^c NC and m 2^more, both times 2^z
    have e1 : k * 2 ^ c * NC * 2 ^ z = k * 2 ^ l * 1000000 * 2 ^ more := by
      rw [NC_eq, mulA, ← Nat.pow_add, ← Nat.pow_add, ← hc, Nat.pow_add, mulB]
    have e2 : m * 2 ^ more * 2 ^ z = vv 0 (rg x) * 2 ^ more := by
      rw [← hvs, Nat.mul_right_comm]
    have e3 : 2 * (k * 2 ^ c) * 2 ^ (z + 32) = k * 2 ^ (l + more) := by
      rw [show l + more = 1 + (z + 32) + c by omega, Nat.pow_add 2 (1 + (z + 32)) c, Nat.pow_add 2 1 (z + 32), Nat.pow_one, mulC']
    have hscale : vv more (rr more (mag * 2 ^ (z + 32))) = vv 0 (rr more (mag * 2 ^ (z + 32))) * 2 ^ more := by
      have := vv_scale 0 (rr more (mag * 2 ^ (z + 32))) more
      rwa [Nat.zero_add] at this
    have hpm := Nat.two_pow_pos more
    have hpz := Nat.two_pow_pos (z + 32)
    constructor
    · intro h
      have h1 : k * 2 ^ c * NC ≤ m * 2 ^ more := by
        refine Nat.le_of_mul_le_mul_right ?_ hp
        rw [e1, e2]; exact Nat.mul_le_mul_right _ h
      have h2 := Nat.mul_le_mul_right (2 ^ (z + 32)) (hb.1 h1)
      rw [e3] at h2
      have h3 := rr_ge_of (L := more) hk (by omega) h2
      rw [hscale, Nat.pow_add 2 l more, ← Nat.mul_assoc k] at h3
      exact Nat.le_of_mul_le_mul_right h3 hpm
    · intro h
      have h1 : m * 2 ^ more ≤ k * 2 ^ c * NC := by
        refine Nat.le_of_mul_le_mul_right ?_ hp
        rw [e1, e2]; exact Nat.mul_le_mul_right _ h
      have h2 := Nat.mul_le_mul_right (2 ^ (z + 32)) (hb.2 h1)
      rw [e3] at h2
      have h3 := rr_le_of (L := more) hk (by omega) h2
      rw [hscale, Nat.pow_add 2 l more, ← Nat.mul_assoc k] at h3
      exact Nat.le_of_mul_le_mul_right h3 hpm
end Go.Fm
