import Ieee.Arith
import GoSem.Core.Float
namespace Go.Fm

def F52 : Nat := 4503599627370496
theorem F52_eq : F52 = 2 ^ 52 := rfl
theorem F52_pos : 0 < F52 := by decide

def lst (L x : Nat) : Nat := max (x.log2 - 52) L
def rne (x l : Nat) : Nat := x / 2 ^ l + if 2 ^ l < 2 * (x % 2 ^ l) ∨ (2 ^ l = 2 * (x % 2 ^ l) ∧ x / 2 ^ l % 2 = 1) then 1 else 0
def rr (L x : Nat) : Nat := (lst L x - L) * F52 + rne x (lst L x)
def vv (L r : Nat) : Nat := if r < F52 then r * 2 ^ L else (F52 + r % F52) * 2 ^ (L + r / F52 - 1)

theorem log2_mono {x y : Nat} (h : x ≤ y) : x.log2 ≤ y.log2 := by
  by_cases hx : x = 0
  · subst hx; simp
  · have hy : y ≠ 0 := by omega
    exact (Nat.le_log2 hy).2 (Nat.le_trans (Nat.log2_self_le hx) h)

theorem lst_mono {L x y : Nat} (h : x ≤ y) : lst L x ≤ lst L y := by
  have := log2_mono h
  unfold lst; omega

theorem lst_ge (L x : Nat) : L ≤ lst L x := by unfold lst; omega

theorem rne_le_succ (x l : Nat) : rne x l ≤ x / 2 ^ l + 1 := by unfold rne; split <;> omega
theorem rne_ge (x l : Nat) : x / 2 ^ l ≤ rne x l := by unfold rne; omega

theorem rne_mono {x y : Nat} (l : Nat) (h : x ≤ y) : rne x l ≤ rne y l := by
  have hd : x / 2 ^ l ≤ y / 2 ^ l := Nat.div_le_div_right h
  by_cases he : x / 2 ^ l = y / 2 ^ l
  · have hr : x % 2 ^ l ≤ y % 2 ^ l := by
      have a := Nat.div_add_mod x (2 ^ l)
      have b := Nat.div_add_mod y (2 ^ l)
      rw [he] at a
      omega
    unfold rne
    rw [he]
    generalize y / 2 ^ l = q at *
    generalize x % 2 ^ l = r at *
    generalize y % 2 ^ l = s at *
    generalize 2 ^ l = g at *
    by_cases hA : g < 2 * r ∨ (g = 2 * r ∧ q % 2 = 1)
    · have hB : g < 2 * s ∨ (g = 2 * s ∧ q % 2 = 1) := by omega
      rw [if_pos hA, if_pos hB]; exact Nat.le_refl _
    · rw [if_neg hA]; omega
  · have := rne_le_succ x l
    have := rne_ge y l
    omega

theorem lt_lst (L x : Nat) : x < 2 ^ (lst L x + 53) := by
  have h : x < 2 ^ (x.log2 + 1) := Nat.lt_log2_self
  refine Nat.lt_of_lt_of_le h (Nat.pow_le_pow_right (by decide) ?_)
  unfold lst; omega

theorem div_lst_lt (L x : Nat) : x / 2 ^ lst L x < 2 * F52 := by
  rw [Nat.div_lt_iff_lt_mul (Nat.two_pow_pos _)]
  have h := lt_lst L x
  rw [Nat.pow_add, Nat.mul_comm] at h
  exact h

theorem rne_lst_le (L x : Nat) : rne x (lst L x) ≤ 2 * F52 := by
  have := rne_le_succ x (lst L x)
  have := div_lst_lt L x
  omega

theorem div_lst_ge {L x : Nat} (h : L < lst L x) : F52 ≤ x / 2 ^ lst L x := by
  have hl : lst L x = x.log2 - 52 := by unfold lst at *; omega
  have hx : x ≠ 0 := by
    intro h0; subst h0; unfold lst at h; simp at h
  rw [Nat.le_div_iff_mul_le (Nat.two_pow_pos _), F52_eq, ← Nat.pow_add]
  refine Nat.le_trans (Nat.pow_le_pow_right (by decide) ?_) (Nat.log2_self_le hx)
  omega

theorem rr_mono {L x y : Nat} (h : x ≤ y) : rr L x ≤ rr L y := by
  have hl := lst_mono (L := L) h
  unfold rr
  by_cases he : lst L x = lst L y
  · rw [he]; have := rne_mono (lst L y) h; omega
  · have h1 := rne_lst_le L x
    have h2 := div_lst_ge (L := L) (x := y) (by have := lst_ge L x; omega)
    have h3 := rne_ge y (lst L y)
    have h4 := lst_ge L x
    obtain ⟨d, hd⟩ : ∃ d, lst L y - L = lst L x - L + 1 + d := ⟨lst L y - lst L x - 1, by omega⟩
    rw [hd]
    rw [Nat.add_mul, Nat.add_mul]
    have := Nat.zero_le (d * F52)
    omega

theorem rne_exact (q l : Nat) : rne (q * 2 ^ l) l = q := by
  unfold rne
  have hp := Nat.two_pow_pos l
  rw [Nat.mul_div_cancel _ hp, Nat.mul_mod_left]
  rw [if_neg (by omega)]; rfl

theorem vv_lo {L r : Nat} (h : r < F52) : vv L r = r * 2 ^ L := by unfold vv; rw [if_pos h]
theorem vv_mk (L e f : Nat) (hf : f < F52) : vv L ((e + 1) * F52 + f) = (F52 + f) * 2 ^ (L + e) := by
  have hp := F52_pos
  unfold vv
  rw [if_neg (by rw [Nat.add_mul]; omega)]
  have h1 : ((e + 1) * F52 + f) / F52 = e + 1 := by
    rw [Nat.mul_comm, Nat.mul_add_div hp, Nat.div_eq_of_lt hf]
  have h2 : ((e + 1) * F52 + f) % F52 = f := by
    rw [Nat.mul_comm, Nat.mul_add_mod, Nat.mod_eq_of_lt hf]
  rw [h1, h2]; rfl

theorem log2_mul_pow {m : Nat} (hm : m ≠ 0) (s : Nat) : (m * 2 ^ s).log2 = m.log2 + s := by
  have hne : m * 2 ^ s ≠ 0 := by have := Nat.two_pow_pos s; exact Nat.mul_ne_zero hm (by omega)
  rw [Nat.log2_eq_iff hne]
  refine ⟨?_, ?_⟩
  · rw [Nat.pow_add]; exact Nat.mul_le_mul_right _ (Nat.log2_self_le hm)
  · rw [show m.log2 + s + 1 = (m.log2 + 1) + s by omega, Nat.pow_add]
    exact Nat.mul_lt_mul_of_pos_right Nat.lt_log2_self (Nat.two_pow_pos s)

/-- What is a whole number of 53 digits at a place of the format is written as it is. -/
theorem rr_exact {L k l : Nat} (hk : k < 2 * F52) (hl : L ≤ l) : vv L (rr L (k * 2 ^ l)) = k * 2 ^ l := by
  by_cases hk0 : k = 0
  · subst hk0
    have h0 : lst L 0 = L := by unfold lst; simp
    unfold rr; simp only [Nat.zero_mul]; rw [h0]
    have : rne 0 L = 0 := by simpa using rne_exact 0 L
    rw [this]; simp [vv, F52]
  · have hlog : (k * 2 ^ l).log2 = k.log2 + l := log2_mul_pow hk0 l
    have hk2 : k.log2 < 53 := (Nat.log2_lt hk0).2 hk
    obtain ⟨t, ht⟩ : ∃ t, l = lst L (k * 2 ^ l) + t := ⟨l - lst L (k * 2 ^ l), by unfold lst; omega⟩
    have hx : k * 2 ^ l = (k * 2 ^ t) * 2 ^ lst L (k * 2 ^ l) := by
      rw [Nat.mul_assoc, ← Nat.pow_add, Nat.add_comm t, ← ht]
    have hq := div_lst_lt L (k * 2 ^ l)
    have hge := div_lst_ge (L := L) (x := k * 2 ^ l)
    have hlg := lst_ge L (k * 2 ^ l)
    unfold rr
    generalize hlx : lst L (k * 2 ^ l) = lx at *
    generalize hX : k * 2 ^ l = X at *
    generalize k * 2 ^ t = q at *
    subst hx
    rw [Nat.mul_div_cancel _ (Nat.two_pow_pos _)] at hq hge
    rw [rne_exact]
    obtain ⟨e, rfl⟩ : ∃ e, lx = L + e := ⟨lx - L, by omega⟩
    rw [show L + e - L = e by omega]
    by_cases hlo : q < F52
    · have : e = 0 := by
        by_cases h : L < L + e
        · have := hge h; omega
        · omega
      subst this
      rw [Nat.zero_mul, Nat.zero_add, vv_lo hlo]; rfl
    · obtain ⟨f, rfl⟩ : ∃ f, q = F52 + f := ⟨q - F52, by omega⟩
      rw [show e * F52 + (F52 + f) = (e + 1) * F52 + f by rw [Nat.add_mul]; omega]
      rw [vv_mk _ _ _ (by omega)]

theorem vv_form (L r : Nat) : (r < F52 ∧ vv L r = r * 2 ^ L) ∨ ∃ e f, f < F52 ∧ r = (e + 1) * F52 + f ∧ vv L r = (F52 + f) * 2 ^ (L + e) := by
  by_cases h : r < F52
  · exact .inl ⟨h, vv_lo h⟩
  · refine .inr ⟨r / F52 - 1, r % F52, Nat.mod_lt _ F52_pos, ?_, ?_⟩
    · have h1 : 1 ≤ r / F52 := (Nat.le_div_iff_mul_le F52_pos).2 (by omega)
      rw [Nat.sub_add_cancel h1, Nat.mul_comm]; exact (Nat.div_add_mod r F52).symm
    · have h1 : 1 ≤ r / F52 := (Nat.le_div_iff_mul_le F52_pos).2 (by omega)
      unfold vv; rw [if_neg h, show L + r / F52 - 1 = L + (r / F52 - 1) by omega]

theorem vv_strict {L r s : Nat} (h : r < s) : vv L r < vv L s := by
  have hp := F52_pos
  rcases vv_form L r with ⟨h1, e1⟩ | ⟨e, f, hf, hr, e1⟩
  · rcases vv_form L s with ⟨h2, e2⟩ | ⟨e', f', hf', hs, e2⟩
    · rw [e1, e2]; exact Nat.mul_lt_mul_of_pos_right h (Nat.two_pow_pos _)
    · rw [e1, e2, Nat.pow_add]
      have := Nat.two_pow_pos e'
      have h3 : (F52 + f') * (2 ^ L * 2 ^ e') = ((F52 + f') * 2 ^ e') * 2 ^ L := by
        rw [Nat.mul_assoc]; congr 1; exact Nat.mul_comm _ _
      rw [h3]
      refine Nat.mul_lt_mul_of_pos_right ?_ (Nat.two_pow_pos _)
      exact Nat.lt_of_lt_of_le h1 (Nat.le_trans (Nat.le_add_right _ _) (Nat.le_mul_of_pos_right _ this))
  · rcases vv_form L s with ⟨h2, e2⟩ | ⟨e', f', hf', hs, e2⟩
    · exfalso; rw [hr, Nat.add_mul] at h; omega
    · have hee : e ≤ e' := by
        by_cases hc : e ≤ e'
        · exact hc
        · exfalso
          obtain ⟨d, hd⟩ : ∃ d, e = e' + 1 + d := ⟨e - e' - 1, by omega⟩
          subst hd
          rw [hr, hs] at h
          rw [show (e' + 1 + d + 1) = (e' + 1) + (d + 1) by omega, Nat.add_mul, Nat.add_mul d] at h
          have := Nat.zero_le (d * F52)
          omega
      rw [e1, e2]
      by_cases hc : e = e'
      · subst hc
        refine Nat.mul_lt_mul_of_pos_right ?_ (Nat.two_pow_pos _)
        omega
      · obtain ⟨d, hd⟩ : ∃ d, e' = e + 1 + d := ⟨e' - e - 1, by omega⟩
        subst hd
        rw [show L + (e + 1 + d) = (1 + d) + (L + e) by omega, Nat.pow_add 2 (1 + d), ← Nat.mul_assoc]
        refine Nat.mul_lt_mul_of_pos_right ?_ (Nat.two_pow_pos _)
        rw [Nat.pow_add]
        have h5 := Nat.two_pow_pos d
        have h6 : (F52 + f') * (2 ^ 1 * 1) ≤ (F52 + f') * (2 ^ 1 * 2 ^ d) := Nat.mul_le_mul_left _ (Nat.mul_le_mul_left _ h5)
        omega

theorem vv_mono {L r s : Nat} (h : r ≤ s) : vv L r ≤ vv L s := by
  rcases Nat.lt_or_eq_of_le h with h | h
  · exact Nat.le_of_lt (vv_strict h)
  · rw [h]; exact Nat.le_refl _

theorem vv_lt_iff {L r s : Nat} : vv L r < vv L s ↔ r < s := by
  refine ⟨fun h => ?_, vv_strict⟩
  by_cases hc : r < s
  · exact hc
  · have := vv_mono (L := L) (Nat.le_of_not_lt hc); omega

theorem vv_scale (L r t : Nat) : vv (L + t) r = vv L r * 2 ^ t := by
  rcases vv_form L r with ⟨h, e⟩ | ⟨e, f, hf, hr, e1⟩
  · rw [e, vv_lo h, Nat.pow_add, Nat.mul_assoc]
  · rw [e1, hr, vv_mk _ _ _ hf, show L + t + e = L + e + t by omega, Nat.pow_add 2 (L + e) t, Nat.mul_assoc]

theorem rne_scale (x l t : Nat) : rne (x * 2 ^ t) (l + t) = rne x l := by
  unfold rne
  have ht := Nat.two_pow_pos t
  rw [Nat.pow_add, Nat.mul_div_mul_right _ _ ht, Nat.mul_mod_mul_right]
  have h1 : (2 ^ l * 2 ^ t < 2 * (x % 2 ^ l * 2 ^ t)) ↔ (2 ^ l < 2 * (x % 2 ^ l)) := by
    rw [← Nat.mul_assoc]; exact Nat.mul_lt_mul_right ht
  have h2 : (2 ^ l * 2 ^ t = 2 * (x % 2 ^ l * 2 ^ t)) ↔ (2 ^ l = 2 * (x % 2 ^ l)) := by
    rw [← Nat.mul_assoc]; exact Nat.mul_left_inj (by omega)
  simp only [h1, h2]

theorem rr_scale (L x t : Nat) : rr (L + t) (x * 2 ^ t) = rr L x := by
  by_cases hx : x = 0
  · subst hx
    simp only [Nat.zero_mul]
    have a : ∀ l, lst l 0 = l := by intro l; unfold lst; simp
    have b : ∀ l, rne 0 l = 0 := fun l => by simpa using rne_exact 0 l
    unfold rr; rw [a, a, b, b]; simp
  · have h : lst (L + t) (x * 2 ^ t) = lst L x + t := by
      unfold lst; rw [log2_mul_pow hx]; omega
    unfold rr
    rw [h, rne_scale]
    congr 2; omega

/-- rounding keeps to its side of what the format has -/
theorem rr_le_of {L x k l : Nat} (hk : k < 2 * F52) (hl : L ≤ l) (h : x ≤ k * 2 ^ l) : vv L (rr L x) ≤ k * 2 ^ l := by
  rw [← rr_exact hk hl]; exact vv_mono (rr_mono h)
theorem rr_ge_of {L x k l : Nat} (hk : k < 2 * F52) (hl : L ≤ l) (h : k * 2 ^ l ≤ x) : k * 2 ^ l ≤ vv L (rr L x) := by
  rw [← rr_exact hk hl]; exact vv_mono (rr_mono h)



/- THE FORMAT OF 64 BITS -/
open Ieee
theorem dbl_binade : double.binade = F52 := rfl
theorem dbl_least : double.leastPlace = -1074 := by decide
def INF : Nat := 9218868437227405312
theorem dbl_inf : double.infRung = INF := by decide
def S63 : Nat := 9223372036854775808
theorem dbl_sign : double.signWeight = S63 := by decide

theorem shl (a b : Nat) : a <<< b = a * 2 ^ b := Nat.shiftLeft_eq a b

theorem cut_even_zero (neg : Bool) (n : Nat) : Toward.even.cut neg n 0 = n := by
  unfold Toward.cut
  simp [Nat.mod_one]

theorem cut_even (neg : Bool) (n d s : Nat) : Toward.even.cut neg n d = rne (n * 2 ^ s) (s + d) := by
  rw [show s + d = d + s by omega, rne_scale]
  unfold Toward.cut rne
  have one : ∀ k, (1 <<< k : Nat) = 2 ^ k := fun k => by rw [shl, Nat.one_mul]
  rw [one]
  by_cases h : d ≤ n.log2 + 2
  · rw [Nat.min_eq_left h]
    simp only []
    congr 1
    by_cases hA : 2 ^ d < 2 * (n % 2 ^ d) ∨ (2 ^ d = 2 * (n % 2 ^ d) ∧ n / 2 ^ d % 2 = 1)
    · rw [if_pos hA]
      have : (decide (2 ^ d < 2 * (n % 2 ^ d)) || (2 ^ d == 2 * (n % 2 ^ d) && n / 2 ^ d % 2 == 1)) = true := by
        simpa [Bool.or_eq_true, beq_iff_eq] using hA
      rw [this]; rfl
    · rw [if_neg hA]
      have : (decide (2 ^ d < 2 * (n % 2 ^ d)) || (2 ^ d == 2 * (n % 2 ^ d) && n / 2 ^ d % 2 == 1)) = false := by
        rw [← Bool.not_eq_true]; intro hh; apply hA
        simpa [Bool.or_eq_true, beq_iff_eq] using hh
      rw [this]; rfl
  · have h' : n.log2 + 2 ≤ d := by omega
    rw [Nat.min_eq_right h']
    have hlt : n < 2 ^ (n.log2 + 1) := Nat.lt_log2_self
    have hlt2 : 2 * n < 2 ^ (n.log2 + 2) := by rw [Nat.pow_succ]; omega
    have hle : 2 ^ (n.log2 + 2) ≤ 2 ^ d := Nat.pow_le_pow_right (by decide) h'
    dsimp only
    rw [Nat.div_eq_of_lt (show n < 2 ^ (n.log2 + 2) by omega), Nat.mod_eq_of_lt (show n < 2 ^ (n.log2 + 2) by omega), Nat.div_eq_of_lt (show n < 2 ^ d by omega), Nat.mod_eq_of_lt (show n < 2 ^ d by omega)]
    have hneg : ¬ (2 ^ d < 2 * n ∨ (2 ^ d = 2 * n ∧ 0 % 2 = 1)) := by omega
    rw [if_neg hneg]
    have : (decide (2 ^ (n.log2 + 2) < 2 * n) || (2 ^ (n.log2 + 2) == 2 * n && 0 % 2 == 1)) = false := by
      rw [decide_eq_false (by omega)]; simp
    simp only [this]; rfl

def wd (neg : Bool) (r : Nat) : Nat := if neg then S63 + r else r
theorem word_eq (neg : Bool) (r : Nat) : double.word neg r = wd neg r := by unfold Format.word wd; rw [dbl_sign]

/-- 'nearest' as a function of the exact number, scaled by 2 ^ (1074 + L). -/
theorem nearest_eq (neg : Bool) (mag : Nat) (place : Int) (L : Nat) (hp : -(1074 + L : Int) ≤ place) :
    double.nearest neg mag place = wd neg (min (rr L (mag * 2 ^ (place + 1074 + L).toNat)) INF) := by
  unfold Format.nearest
  by_cases hm : mag = 0
  · subst hm
    rw [if_pos rfl, word_eq]
    have a : lst L 0 = L := by unfold lst; simp
    have b : rne 0 L = 0 := by simpa using rne_exact 0 L
    simp only [Nat.zero_mul]
    unfold rr; rw [a, b]; simp
  · rw [if_neg hm]
    dsimp only
    rw [word_eq, dbl_least, dbl_binade, dbl_inf, show (double.fractionBits : Int) = 52 from rfl]
    refine congrArg (fun t => wd neg (min t INF)) ?_
    obtain ⟨s, hs⟩ : ∃ s : Nat, place + 1074 + L = s := ⟨(place + 1074 + L).toNat, by omega⟩
    rw [hs, Int.toNat_natCast]
    have hlst : (lst L (mag * 2 ^ s) : Int) = max (place + (mag.log2 : Int) - 52) (-1074) + 1074 + L := by
      unfold lst; rw [log2_mul_pow hm]; omega
    generalize hM : max (place + (mag.log2 : Int) - 52) (-1074) = M at *
    have hMge : -1074 ≤ M := by omega
    unfold rr
    generalize lst L (mag * 2 ^ s) = l at *
    rw [show (M - -1074).toNat = l - L by omega]
    congr 1
    by_cases hle : M ≤ place
    · have e1 : (M - place).toNat = 0 := by omega
      rw [e1, cut_even_zero, shl]
      obtain ⟨t, ht⟩ : ∃ t, s = t + l := ⟨s - l, by omega⟩
      rw [show (place - M).toNat = t by omega, ht, Nat.pow_add, ← Nat.mul_assoc, rne_exact]
    · have e1 : (place - M).toNat = 0 := by omega
      rw [e1, shl, Nat.pow_zero, Nat.mul_one]
      rw [cut_even neg mag (M - place).toNat s]
      congr 1; omega

/-- a word's sign, and what is left of it -/
def sg (b : Nat) : Bool := b / S63 % 2 == 1
def rg (b : Nat) : Nat := b % S63

theorem read_fin {b : Nat} (h : rg b < INF) : ∃ (m : Nat) (e : Int), double.read b = .number (sg b) m e ∧ -1074 ≤ e ∧ ∀ L : Nat, m * 2 ^ (e + 1074 + L).toNat = vv L (rg b) := by
  unfold Format.read
  rw [dbl_sign, dbl_binade, dbl_inf, dbl_least]
  change ∃ m e, (if rg b < F52 then Datum.number (sg b) (rg b) (-1074) else if rg b < INF then _ else _) = _ ∧ _
  by_cases h1 : rg b < F52
  · refine ⟨rg b, -1074, by rw [if_pos h1], by omega, fun L => ?_⟩
    rw [vv_lo h1]; congr 2; omega
  · refine ⟨F52 + rg b % F52, -1074 + ((rg b / F52 - 1 : Nat) : Int), by rw [if_neg h1, if_pos h]; rfl, by omega, fun L => ?_⟩
    have h2 : 1 ≤ rg b / F52 := (Nat.le_div_iff_mul_le F52_pos).2 (by omega)
    unfold vv; rw [if_neg h1]; congr 2; omega

theorem read_inf {b : Nat} (h : rg b = INF) : double.read b = .infinity (sg b) := by
  unfold Format.read
  rw [dbl_sign, dbl_binade, dbl_inf, dbl_least]
  change (if rg b < F52 then Datum.number (sg b) (rg b) (-1074) else if rg b < INF then _ else if rg b = INF then Datum.infinity (sg b) else _) = _
  rw [if_neg (by rw [h]; decide), if_neg (by rw [h]; decide), if_pos h]

theorem read_nan {b : Nat} (h : INF < rg b) : double.read b = .nan (sg b) (rg b - INF) := by
  unfold Format.read
  rw [dbl_sign, dbl_binade, dbl_inf, dbl_least]
  change (if rg b < F52 then Datum.number (sg b) (rg b) (-1074) else if rg b < INF then _ else if rg b = INF then Datum.infinity (sg b) else Datum.nan (sg b) (rg b - INF)) = _
  rw [if_neg (by have : F52 < INF := by decide
                 omega), if_neg (by omega), if_neg (by omega)]

/-- a finite word's number, times 2 ^ 1074 -/
def sv (b : Nat) : Int := if sg b then -(vv 0 (rg b) : Int) else (vv 0 (rg b) : Int)

theorem signed_eq (s : Bool) (m k : Nat) : signed s m k = if s then -((m * 2 ^ k : Nat) : Int) else ((m * 2 ^ k : Nat) : Int) := by
  unfold signed; rw [shl]

theorem cmp_scale (a b : Int) (k : Nat) : compare (a * (2 ^ k : Nat)) (b * (2 ^ k : Nat)) = compare a b := by
  have hk : (0 : Int) < (2 ^ k : Nat) := by have := Nat.two_pow_pos k; omega
  rcases Int.lt_trichotomy a b with h | h | h
  · have : a * (2 ^ k : Nat) < b * (2 ^ k : Nat) := Int.mul_lt_mul_of_pos_right h hk
    rw [Std.compare_eq_lt.2 h, Std.compare_eq_lt.2 this]
  · subst h; simp
  · have : b * (2 ^ k : Nat) < a * (2 ^ k : Nat) := Int.mul_lt_mul_of_pos_right h hk
    rw [Std.compare_eq_gt.2 h, Std.compare_eq_gt.2 this]

theorem order_fin {x y : Nat} (hx : rg x < INF) (hy : rg y < INF) : double.order x y = some (compare (sv x) (sv y)) := by
  obtain ⟨m, i, hr, hi, hv⟩ := read_fin hx
  obtain ⟨n, j, hs, hj, hw⟩ := read_fin hy
  unfold Format.order
  rw [hr, hs]
  unfold Datum.order
  dsimp only
  congr 1
  obtain ⟨k, hk⟩ : ∃ k : Nat, min i j + 1074 = k := ⟨(min i j + 1074).toNat, by omega⟩
  rw [← cmp_scale _ _ k]
  have e : ∀ (s : Bool) (m : Nat) (i : Int) (b : Nat), min i j ≤ i → True := fun _ _ _ _ _ => trivial
  have key : ∀ (s : Bool) (m : Nat) (p : Int) (v : Nat), (k : Int) - 1074 ≤ p → m * 2 ^ (p + 1074 + (0 : Nat)).toNat = v →
      signed s m (p - (k - 1074)).toNat * (2 ^ k : Nat) = if s then -(v : Int) else (v : Int) := by
    intro s m p v hp hv
    rw [signed_eq]
    have : (m * 2 ^ (p - (k - 1074)).toNat) * 2 ^ k = v := by
      rw [← hv, Nat.mul_assoc, ← Nat.pow_add]; congr 2; omega
    have h2 : ((m * 2 ^ (p - (k - 1074)).toNat : Nat) : Int) * (2 ^ k : Nat) = (v : Int) := by
      rw [← this]; push_cast; rfl
    cases s
    · simpa using h2
    · simp only [if_true]; rw [Int.neg_mul, h2]
  have hb : min i j = (k : Int) - 1074 := by omega
  rw [hb, key _ _ _ _ (by omega) (hv 0), key _ _ _ _ (by omega) (hw 0)]
  rfl

def C6 : Nat := 4696837146684686336
theorem read_C6 : double.read C6 = .number false 8589934592000000 (-33) := by decide +kernel
theorem sg_C6 : sg C6 = false := by decide +kernel
theorem rg_C6 : rg C6 < INF := by decide +kernel

theorem mulC_fin {x : Nat} (hx : rg x < INF) : double.mul x C6 = some (wd (sg x) (min (rr 0 (vv 0 (rg x) * 1000000)) INF)) := by
  obtain ⟨m, i, hr, hi, hv⟩ := read_fin hx
  unfold Format.mul
  rw [hr, read_C6]
  unfold Datum.product
  dsimp only
  rw [Option.map_some]
  show some (double.nearest _ _ _) = _
  rw [nearest_eq _ _ _ 33 (by omega), Bool.xor_false]
  refine congrArg (fun t => some (wd (sg x) (min t INF))) ?_
  rw [← rr_scale 0 _ 33, ← hv 0]
  refine congrArg (rr 33) ?_
  rw [show (i + -33 + 1074 + (33 : Nat)).toNat = (i + 1074 + (0 : Nat)).toNat by omega]
  generalize (2 ^ (i + 1074 + (0 : Nat)).toNat : Nat) = z
  rw [show (8589934592000000 : Nat) = 1000000 * 2 ^ 33 by decide, Nat.mul_assoc m, Nat.mul_assoc m, Nat.mul_assoc m]
  refine congrArg (m * ·) ?_
  rw [Nat.mul_comm _ z, Nat.mul_assoc]

theorem mulC_inf {x : Nat} (hx : rg x = INF) : double.mul x C6 = some (wd (sg x) INF) := by
  unfold Format.mul
  rw [read_inf hx, read_C6]
  unfold Datum.product
  dsimp only
  rw [if_neg (by decide), Option.map_some, Bool.xor_false]
  show some (double.word _ _) = _
  rw [word_eq, dbl_inf]

theorem mulC_nan {x : Nat} (hx : INF < rg x) : double.mul x C6 = none := by
  unfold Format.mul
  rw [read_nan hx]
  rfl

theorem order_nan {x y : Nat} (hx : INF < rg x) : double.order x y = none := by
  unfold Format.order
  rw [read_nan hx]
  rfl

theorem order_inf_fin {x y : Nat} (hx : rg x = INF) (hy : rg y < INF) : double.order x y = some (if sg x then .lt else .gt) := by
  obtain ⟨m, i, hr, hi, hv⟩ := read_fin hy
  unfold Format.order
  rw [read_inf hx, hr]
  rfl

theorem order_fin_inf {x y : Nat} (hx : rg x < INF) (hy : rg y = INF) : double.order x y = some (if sg y then .gt else .lt) := by
  obtain ⟨m, i, hr, hi, hv⟩ := read_fin hx
  unfold Format.order
  rw [read_inf hy, hr]
  rfl

theorem wd_false (r : Nat) : wd false r = r := rfl
theorem sg_wd {s : Bool} {r : Nat} (h : r ≤ INF) : sg (wd s r) = s := by
  have hI : INF < S63 := by decide
  cases s
  · unfold wd sg; simp only [Bool.false_eq_true, if_false]
    rw [Nat.div_eq_of_lt (by omega)]; rfl
  · unfold wd sg; simp only [if_true]
    have h1 : (S63 + r) / S63 = 1 := by
      rw [Nat.add_div_left _ (by decide), Nat.div_eq_of_lt (by omega)]
    rw [h1]; rfl
theorem rg_wd {s : Bool} {r : Nat} (h : r ≤ INF) : rg (wd s r) = r := by
  have hI : INF < S63 := by decide
  cases s
  · unfold wd rg; simp only [Bool.false_eq_true, if_false]
    exact Nat.mod_eq_of_lt (by omega)
  · unfold wd rg; simp only [if_true]
    rw [Nat.add_mod_left, Nat.mod_eq_of_lt (by omega)]

def E1074 : Nat := 1074
theorem E_eq : E1074 = 1074 := rfl
def U : Nat := 2 ^ E1074
theorem U_pos : 0 < U := Nat.two_pow_pos E1074

theorem cut_zero (neg : Bool) (n d : Nat) : Toward.zero.cut neg n d = n / 2 ^ d := by
  unfold Toward.cut
  have one : ∀ k, (1 <<< k : Nat) = 2 ^ k := fun k => by rw [shl, Nat.one_mul]
  rw [one]
  dsimp only
  by_cases h : d ≤ n.log2 + 2
  · rw [Nat.min_eq_left h]; rfl
  · rw [Nat.min_eq_right (by omega)]
    have hlt : n < 2 ^ (n.log2 + 1) := Nat.lt_log2_self
    have h1 : 2 ^ (n.log2 + 1) ≤ 2 ^ (n.log2 + 2) := Nat.pow_le_pow_right (by decide) (by omega)
    have h2 : 2 ^ (n.log2 + 1) ≤ 2 ^ d := Nat.pow_le_pow_right (by decide) (by omega)
    rw [Nat.div_eq_of_lt (by omega), Nat.div_eq_of_lt (by omega)]; rfl

theorem toInt_fin {x : Nat} (hx : rg x < INF) (hs : sg x = false) : (double.read x).toInt .zero = some ((vv 0 (rg x) / U : Nat) : Int) := by
  obtain ⟨m, i, hr, hi, hv⟩ := read_fin hx
  rw [hr]
  unfold Datum.toInt Datum.integral
  dsimp only
  rw [cut_zero, signed_eq, hs, shl]
  simp only [Bool.false_eq_true, if_false, Nat.pow_zero, Nat.mul_one]
  refine congrArg some ?_
  refine congrArg (fun n : Nat => (n : Int)) ?_
  rw [← hv 0]
  unfold U
  by_cases h : 0 ≤ i
  · rw [show (-i).toNat = 0 by omega, Nat.pow_zero, Nat.div_one, show (i + 1074 + (0 : Nat)).toNat = i.toNat + E1074 by rw [E_eq]; omega, Nat.pow_add, ← Nat.mul_assoc, Nat.mul_div_cancel _ (Nat.two_pow_pos E1074)]
  · rw [show i.toNat = 0 by omega, Nat.pow_zero, Nat.mul_one]
    have e : E1074 = (i + 1074 + (0 : Nat)).toNat + (-i).toNat := by rw [E_eq]; omega
    generalize hz : (i + 1074 + (0 : Nat)).toNat = z at *
    rw [show (2 ^ E1074 : Nat) = 2 ^ ((-i).toNat) * 2 ^ z by rw [← Nat.pow_add, Nat.add_comm, ← e]]
    rw [Nat.mul_div_mul_right _ _ (Nat.two_pow_pos z)]

theorem ofNat_eq (n : Nat) : FloatKind.nearest .f64 (n : Int) = min (rr 0 (n * U)) INF := by
  show double.nearest _ _ _ = _
  rw [nearest_eq _ _ _ 0 (by omega), decide_eq_false (show ¬ (n : Int) < 0 by omega), wd_false]
  unfold U
  rw [show ((0 : Int) + 1074 + (0 : Nat)).toNat = E1074 by rw [E_eq]; omega, show ((n : Int)).natAbs = n by omega]


/-- what a float comparison asks -/
def ge (x y : Nat) : Bool := double.order x y == some .gt || double.order x y == some .eq
def le (x y : Nat) : Bool := double.order x y == some .lt || double.order x y == some .eq

theorem sv_pos {x : Nat} (hs : sg x = false) : sv x = (vv 0 (rg x) : Int) := by unfold sv; rw [hs]; rfl
theorem sv_neg {x : Nat} (hs : sg x = true) : sv x = -(vv 0 (rg x) : Int) := by unfold sv; rw [hs]; rfl

theorem ge_fin {x y : Nat} (hx : rg x < INF) (hy : rg y < INF) : ge x y = decide (sv y ≤ sv x) := by
  unfold ge
  rw [order_fin hx hy]
  rcases Int.lt_trichotomy (sv x) (sv y) with h | h | h
  · rw [Std.compare_eq_lt.2 h, decide_eq_false (by omega)]; rfl
  · rw [h, decide_eq_true (by omega)]; simp
  · rw [Std.compare_eq_gt.2 h, decide_eq_true (by omega)]; rfl
theorem le_fin {x y : Nat} (hx : rg x < INF) (hy : rg y < INF) : le x y = decide (sv x ≤ sv y) := by
  unfold le
  rw [order_fin hx hy]
  rcases Int.lt_trichotomy (sv x) (sv y) with h | h | h
  · rw [Std.compare_eq_lt.2 h, decide_eq_true (by omega)]; rfl
  · rw [h, decide_eq_true (by omega)]; simp
  · rw [Std.compare_eq_gt.2 h, decide_eq_false (by omega)]; rfl
theorem ge_nan {x y : Nat} (hx : INF < rg x) : ge x y = false := by unfold ge; rw [order_nan hx]; rfl
theorem ge_inf {x y : Nat} (hx : rg x = INF) (hy : rg y < INF) : ge x y = !sg x := by
  unfold ge; rw [order_inf_fin hx hy]; cases sg x <;> rfl

theorem ge_rg {x y : Nat} (hx : rg x ≤ INF) (hy : rg y < INF) (sx : sg x = false) (sy : sg y = false) : ge x y = decide (rg y ≤ rg x) := by
  by_cases h : rg x = INF
  · rw [ge_inf h hy, sx, decide_eq_true (by omega)]; rfl
  · rw [ge_fin (by omega) hy, sv_pos sx, sv_pos sy]
    by_cases hc : rg y ≤ rg x
    · have := vv_mono (L := 0) hc
      rw [decide_eq_true hc, decide_eq_true (by omega)]
    · have := vv_strict (L := 0) (show rg x < rg y by omega)
      rw [decide_eq_false hc, decide_eq_false (by omega)]
theorem le_rg {x y : Nat} (hx : rg x < INF) (hy : rg y < INF) (sx : sg x = false) (sy : sg y = false) : le x y = decide (rg x ≤ rg y) := by
  rw [le_fin hx hy, sv_pos sx, sv_pos sy]
  by_cases hc : rg x ≤ rg y
  · have := vv_mono (L := 0) hc
    rw [decide_eq_true hc, decide_eq_true (by omega)]
  · have := vv_strict (L := 0) (show rg y < rg x by omega)
    rw [decide_eq_false hc, decide_eq_false (by omega)]

/-- a number of the format, as a whole number of 53 digits at a place -/
theorem vv_rep (L r : Nat) : ∃ k l, k < 2 * F52 ∧ L ≤ l ∧ vv L r = k * 2 ^ l := by
  rcases vv_form L r with ⟨h, e⟩ | ⟨e, f, hf, hr, e1⟩
  · exact ⟨r, L, by omega, Nat.le_refl _, e⟩
  · exact ⟨F52 + f, L + e, by omega, by omega, e1⟩
theorem vv_rr (L r : Nat) : vv L (rr L (vv L r)) = vv L r := by
  obtain ⟨k, l, hk, hl, e⟩ := vv_rep L r
  rw [e]; exact rr_exact hk hl
theorem vv_inj {L r s : Nat} (h : vv L r = vv L s) : r = s := by
  rcases Nat.lt_trichotomy r s with h1 | h1 | h1
  · have := vv_strict (L := L) h1; omega
  · exact h1
  · have := vv_strict (L := L) h1; omega
theorem rr_vv (L r : Nat) : rr L (vv L r) = r := vv_inj (vv_rr L r)

theorem nat_rep {n : Nat} (h : n < 2 * F52) : vv 0 (rr 0 (n * U)) = n * U := rr_exact h (Nat.zero_le _)

def P53 : Nat := 9007199254740992
theorem P53_eq : P53 = 2 * F52 := rfl
theorem P53_rep : vv 0 (rr 0 (P53 * U)) = P53 * U := by
  have : P53 * U = F52 * 2 ^ (E1074 + 1) := by
    rw [Nat.pow_succ]; unfold U P53 F52
    generalize 2 ^ E1074 = z
    omega
  rw [this]; exact rr_exact (by decide) (Nat.zero_le _)

/-- THE DIGIT TEST: whole numbers that are not above p, asked of their floats. -/
theorem digit_iff (x r : Nat) : (vv 0 (rr 0 (x * U)) ≤ vv 0 r ∧ (P53 * U ≤ vv 0 r → x ≤ vv 0 r / U)) ↔ x ≤ vv 0 r / U := by
  rw [Nat.le_div_iff_mul_le U_pos]
  constructor
  · rintro ⟨h1, h2⟩
    by_cases hp : P53 * U ≤ vv 0 r
    · exact h2 hp
    · by_cases hx : x < P53
      · rw [nat_rep (by rw [← P53_eq]; exact hx)] at h1; exact h1
      · have h3 : vv 0 (rr 0 (P53 * U)) ≤ vv 0 (rr 0 (x * U)) := vv_mono (rr_mono (Nat.mul_le_mul_right _ (by omega)))
        rw [P53_rep] at h3
        omega
  · intro h
    refine ⟨?_, fun _ => h⟩
    have := vv_mono (L := 0) (rr_mono (L := 0) h)
    rw [vv_rr] at this
    exact this
theorem rg_0 : rg 0 = 0 := rfl
theorem vv_0 : vv 0 0 = 0 := rfl
/-- cut towards zero, of what is not below 0 (-0 too) -/
theorem toInt_ge {x : Nat} (hx : rg x < INF) (hg : ge x 0 = true) : (double.read x).toInt .zero = some ((vv 0 (rg x) / U : Nat) : Int) := by
  cases hs : sg x with
  | false => exact toInt_fin hx hs
  | true =>
    rw [ge_fin hx (by decide)] at hg
    have h0 := of_decide_eq_true hg
    rw [sv_neg hs, show sv 0 = 0 by decide] at h0
    have hv : vv 0 (rg x) = 0 := by omega
    have hr : rg x = 0 := vv_inj (L := 0) (by rw [hv]; rfl)
    unfold Format.read
    rw [dbl_sign, dbl_binade, dbl_inf, dbl_least]
    change Datum.toInt .zero (if rg x < F52 then Datum.number (sg x) (rg x) (-1074) else if rg x < INF then _ else if rg x = INF then Datum.infinity (sg x) else Datum.nan (sg x) (rg x - INF)) = _
    rw [hs, hr, if_pos (by decide), vv_0, Nat.zero_div]
    rfl

def K62 : Nat := 4886405595696988160
def K1 : Nat := 4607182418800017408
def clsP (p : Nat) : Nat := if ge p 0 = false then 0 else if ge p 1 = false then 1 else if ge p K1 = false then 2 else if ge p K62 = false then 3 else 4

theorem cls_le (p : Nat) : clsP p ≤ 4 := by unfold clsP; repeat' split
                                            all_goals omega
theorem ge_of_cls {p : Nat} (h : clsP p ≠ 0) : ge p 0 = true := by
  unfold clsP at h
  cases hg : ge p 0
  · rw [hg] at h; simp at h
  · rfl
theorem rg_le_of_ge {x y : Nat} (h : ge x y = true) : rg x ≤ INF := by
  rcases Nat.lt_or_ge INF (rg x) with h1 | h1
  · rw [ge_nan h1] at h; cases h
  · exact h1
theorem rg_K62 : rg K62 = K62 := by decide
theorem sg_K62 : sg K62 = false := by decide
theorem K62_lt : K62 < INF := by decide
theorem vv_K62 : vv 0 K62 = 4611686018427387904 * U := by
  have h := rr_exact (L := 0) (k := F52) (l := E1074 + 10) (by decide) (Nat.zero_le _)
  have e : K62 = (1074 + 10 + 1) * F52 + 0 := by decide
  rw [e, vv_mk _ _ _ (by decide), show 0 + (1074 + 10) = E1074 + 10 by rw [E_eq], Nat.pow_add]
  unfold U F52
  generalize 2 ^ E1074 = z
  rw [Nat.add_zero, Nat.mul_comm z, ← Nat.mul_assoc]
/-- below 2^62 -/
theorem fin_of_cls {p : Nat} (h0 : clsP p ≠ 0) (h4 : clsP p ≠ 4) : rg p < INF ∧ vv 0 (rg p) / U < 4611686018427387904 := by
  have hg := ge_of_cls h0
  have hle := rg_le_of_ge hg
  have h62 : ge p K62 = false := by
    cases hk : ge p K62
    · rfl
    · exfalso
      have hi : rg K62 < INF := by decide
      have h1 : ge p K1 = true ∧ ge p 1 = true := by
        by_cases hinf : rg p = INF
        · rw [ge_inf hinf hi] at hk
          rw [ge_inf hinf (by decide), ge_inf hinf (by decide)]; exact ⟨hk, hk⟩
        · have hf : rg p < INF := by omega
          rw [ge_fin hf hi] at hk
          have hk := of_decide_eq_true hk
          have e1 : sv K1 ≤ sv K62 := by
            rw [sv_pos (by decide), sv_pos (by decide)]
            have := vv_mono (L := 0) (show rg K1 ≤ rg K62 by decide)
            omega
          have e2 : sv 1 ≤ sv K62 := by
            rw [sv_pos (by decide), sv_pos (by decide)]
            have := vv_mono (L := 0) (show rg 1 ≤ rg K62 by decide)
            omega
          rw [ge_fin hf (by decide), ge_fin hf (by decide), decide_eq_true (by omega), decide_eq_true (by omega)]
          exact ⟨rfl, rfl⟩
      apply h4
      unfold clsP
      rw [hg, h1.1, h1.2]
      rw [hk]; rfl
  have hfin : rg p < INF := by
    rcases Nat.lt_or_eq_of_le hle with h | h
    · exact h
    · exfalso
      rw [ge_inf h (by decide)] at h62 hg
      rw [h62] at hg; cases hg
  refine ⟨hfin, ?_⟩
  rw [Nat.div_lt_iff_lt_mul U_pos, ← vv_K62]
  rw [ge_fin hfin (by decide)] at h62
  have h2 := of_decide_eq_false h62
  rw [sv_pos sg_K62, rg_K62] at h2
  cases hs : sg p with
  | false => rw [sv_pos hs] at h2; omega
  | true =>
    rw [ge_fin hfin (by decide)] at hg
    have h3 := of_decide_eq_true hg
    rw [sv_neg hs, show sv 0 = 0 by decide] at h3
    have : vv 0 (rg p) = 0 := by omega
    rw [this, vv_K62]
    exact Nat.mul_pos (by decide) U_pos
theorem conv_cls {p : Nat} (h0 : clsP p ≠ 0) (h4 : clsP p ≠ 4) : (double.read p).toInt .zero = some ((vv 0 (rg p) / U : Nat) : Int) := toInt_ge (fin_of_cls h0 h4).1 (ge_of_cls h0)

/-- a whole number's float -/
def fl (n : Nat) : Nat := min (rr 0 (n * U)) INF
theorem K62_rr : rr 0 (4611686018427387904 * U) = K62 := by
  rw [← vv_K62, rr_vv]
theorem fl_lt {n : Nat} (h : n ≤ 4611686018427387904) : fl n = rr 0 (n * U) ∧ rr 0 (n * U) ≤ K62 := by
  have h1 : rr 0 (n * U) ≤ rr 0 (4611686018427387904 * U) := rr_mono (Nat.mul_le_mul_right _ h)
  rw [K62_rr] at h1
  have := K62_lt
  unfold fl
  exact ⟨Nat.min_eq_left (by omega), h1⟩
theorem rg_small {r : Nat} (h : r ≤ INF) : rg r = r := by
  have hI : INF < S63 := by decide
  unfold rg; exact Nat.mod_eq_of_lt (by omega)
theorem sg_small {r : Nat} (h : r ≤ INF) : sg r = false := by
  have hI : INF < S63 := by decide
  unfold sg; rw [Nat.div_eq_of_lt (by omega)]; rfl
def K53 : Nat := 4845873199050653696
theorem vv_K53 : vv 0 K53 = P53 * U := by
  have e : K53 = (1074 + 1 + 1 - 1 + 1) * F52 + (K53 - (1074 + 1 + 1 - 1 + 1) * F52) := by decide
  have e2 : K53 = (1074 + 1 - 1 + 1 + 1) * F52 + 0 := by decide
  rw [e2, vv_mk _ _ _ (by decide), show 0 + (1074 + 1 - 1 + 1) = E1074 + 1 by rw [E_eq], Nat.pow_add]
  unfold U P53 F52
  generalize 2 ^ E1074 = z
  omega
theorem sv_ge {p : Nat} (hp : rg p < INF) (hg : ge p 0 = true) : sv p = (vv 0 (rg p) : Int) := by
  rw [ge_fin hp (by decide)] at hg
  have h0 := of_decide_eq_true hg
  rw [show sv 0 = 0 by decide] at h0
  unfold sv at *
  cases hs : sg p <;> rw [hs] at h0
  · rfl
  · simp only [if_true] at *; omega
theorem ge_K53 {p : Nat} (hp : rg p < INF) (hs : sv p = (vv 0 (rg p) : Int)) : ge p K53 = decide (P53 * U ≤ vv 0 (rg p)) := by
  have h1 : rg K53 = K53 := by decide
  have h2 : sg K53 = false := by decide
  have h3 : rg K53 < INF := by decide
  rw [ge_fin hp h3, hs, sv_pos h2, h1, vv_K53]
  generalize P53 * U = a
  by_cases h : a ≤ vv 0 (rg p)
  · rw [decide_eq_true h, decide_eq_true (by omega)]
  · rw [decide_eq_false h, decide_eq_false (by omega)]
theorem le_fl {p n : Nat} (hp : rg p < INF) (hs : sv p = (vv 0 (rg p) : Int)) (hn : n ≤ 4611686018427387904) : le (fl n) p = decide (vv 0 (rr 0 (n * U)) ≤ vv 0 (rg p)) := by
  have hf := fl_lt hn
  have hk := K62_lt
  have hle : fl n ≤ INF := by omega
  rw [le_fin (by rw [rg_small hle]; omega) hp, sv_pos (sg_small hle), hs, rg_small hle, hf.1]
  by_cases h : vv 0 (rr 0 (n * U)) ≤ vv 0 (rg p)
  · rw [decide_eq_true h, decide_eq_true (by omega)]
  · rw [decide_eq_false h, decide_eq_false (by omega)]

/-- the second look at a digit -/
def exB (x p : Nat) : Bool := if P53 * U ≤ vv 0 (rg p) then decide (x ≤ vv 0 (rg p) / U) else decide (vv 0 (rr 0 (x * U)) ≤ vv 0 (rg p))
theorem digit_yes {x p : Nat} (h1 : vv 0 (rr 0 (x * U)) ≤ vv 0 (rg p)) (h2 : exB x p = true) : x ≤ vv 0 (rg p) / U := by
  rw [← digit_iff]
  refine ⟨h1, fun hp => ?_⟩
  unfold exB at h2; rw [if_pos hp] at h2; exact of_decide_eq_true h2
theorem digit_no1 {x p : Nat} (h1 : ¬ vv 0 (rr 0 (x * U)) ≤ vv 0 (rg p)) : ¬ x ≤ vv 0 (rg p) / U := fun h => h1 ((digit_iff x (rg p)).2 h).1
theorem digit_no2 {x p : Nat} (h2 : exB x p = false) : ¬ x ≤ vv 0 (rg p) / U := fun h => by
  have hd := (digit_iff x (rg p)).2 h
  unfold exB at h2
  by_cases hp : P53 * U ≤ vv 0 (rg p)
  · rw [if_pos hp] at h2; exact of_decide_eq_false h2 h
  · rw [if_neg hp] at h2; exact of_decide_eq_false h2 hd.1

/-- one digit more of T -/
theorem digit_step {T n d k : Nat} (hk : d = 2 ^ (k + 1) / 2) (hn : n = T / 2 ^ (k + 1) * 2 ^ (k + 1)) :
    (n + d ≤ T → n + d = T / 2 ^ k * 2 ^ k) ∧ (¬ n + d ≤ T → n = T / 2 ^ k * 2 ^ k) ∧ d / 2 = 2 ^ k / 2 ∧ 0 < d := by
  have hp := Nat.two_pow_pos k
  have e : 2 ^ (k + 1) = 2 ^ k * 2 := Nat.pow_succ ..
  rw [e] at hk hn
  have hd : d = 2 ^ k := by rw [hk]; exact Nat.mul_div_cancel _ (by decide)
  rw [← Nat.div_div_eq_div_mul] at hn
  have h1 := Nat.div_add_mod T (2 ^ k)
  have h2 : T % 2 ^ k < 2 ^ k := Nat.mod_lt _ hp
  generalize 2 ^ k = g at *
  generalize T % g = r at *
  generalize hq : T / g = q at *
  have h3 : n = (q / 2 * 2) * g := by rw [hn, Nat.mul_comm g 2, Nat.mul_assoc]
  rcases Nat.mod_two_eq_zero_or_one q with h0 | h0
  · have h4 : q / 2 * 2 = q := by omega
    rw [h4] at h3
    rw [Nat.mul_comm] at h1
    refine ⟨?_, ?_, ?_, ?_⟩ <;> omega
  · have h4 : q / 2 * 2 = q - 1 := by omega
    rw [h4] at h3
    have h5 : (q - 1) * g + g = q * g := by rw [← Nat.succ_mul]; congr 1; omega
    rw [Nat.mul_comm] at h1
    refine ⟨?_, ?_, ?_, ?_⟩ <;> omega
theorem digit_room {T n d k : Nat} (hT : T < 4611686018427387904) (hk : d = 2 ^ k / 2) (hn : n = T / 2 ^ k * 2 ^ k) (hk2 : k ≤ 62) : n + d ≤ 4611686018427387904 ∧ n < 4611686018427387904 ∧ d ≤ 2305843009213693952 := by
  have hp := Nat.two_pow_pos k
  have h1 : n ≤ T := by rw [hn]; exact Nat.div_mul_le_self ..
  have h62 : (4611686018427387904 : Nat) = 2 ^ (62 - k) * 2 ^ k := by rw [← Nat.pow_add, Nat.sub_add_cancel hk2]
  have h2 : T / 2 ^ k < 2 ^ (62 - k) := by rw [Nat.div_lt_iff_lt_mul hp, ← h62]; exact hT
  have h3 : n + 2 ^ k ≤ 4611686018427387904 := by
    rw [hn, h62, ← Nat.succ_mul]; exact Nat.mul_le_mul_right _ h2
  have h4 : 2 ^ k ≤ 4611686018427387904 := by rw [h62]; exact Nat.le_mul_of_pos_left _ (Nat.two_pow_pos _)
  omega
theorem digit_last {T n : Nat} (hn : n = T / 2 ^ 0 * 2 ^ 0) : n = T := by simpa using hn
theorem digit_first {T : Nat} (hT : T < 4611686018427387904) : 0 = T / 2 ^ 62 * 2 ^ 62 ∧ 2305843009213693952 = 2 ^ 62 / 2 := by
  refine ⟨?_, by decide⟩
  rw [Nat.div_eq_of_lt (by show T < 4611686018427387904; exact hT), Nat.zero_mul]

theorem fl_eq (n : Nat) : FloatKind.nearest .f64 (n : Int) = fl n := ofNat_eq n
attribute [irreducible] U exB fl
end Go.Fm
