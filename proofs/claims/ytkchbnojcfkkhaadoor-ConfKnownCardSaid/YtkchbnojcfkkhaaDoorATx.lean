import Derived.Lib.ItoaMem
import Derived.Lib.ParseIntB
namespace Go.Tx
open Go.Lib

def dgt (n : Nat) : UInt8 := UInt8.ofNat (48 + n % 10)
/-- the last k decimal digits of n -/
def low (n : Nat) : Nat → List UInt8
  | 0 => []
  | k + 1 => low (n / 10) k ++ [dgt n]

theorem low_length (n k : Nat) : (low n k).length = k := by
  induction k generalizing n with
  | zero => rfl
  | succ k ih => simp [low, ih]

theorem low_cons (n k : Nat) : low n (k + 1) = dgt (n / 10 ^ k) :: low n k := by
  induction k generalizing n with
  | zero => simp [low]
  | succ k ih =>
    rw [low, ih (n / 10), low, List.cons_append, Nat.div_div_eq_div_mul, Nat.pow_succ, Nat.mul_comm 10]

theorem dgt_toNat (n : Nat) : (dgt n).toNat = 48 + n % 10 := by
  unfold dgt; rw [UInt8.toNat_ofNat']; have : n % 10 < 10 := Nat.mod_lt _ (by decide); omega

theorem dec_low (n : Nat) : ∃ L, 1 ≤ L ∧ decDigits n = low n L ∧ n / 10 ^ L = 0 ∧ ∀ j, j < L → 1 ≤ j → n / 10 ^ j ≠ 0 := by
  induction n using Nat.strongRecOn with
  | _ n ih =>
    by_cases h : n < 10
    · refine ⟨1, Nat.le_refl _, ?_, ?_, ?_⟩
      · rw [decDigits_one h]
        simp [low, dgt, Nat.mod_eq_of_lt h]
      · rw [Nat.pow_one]; exact Nat.div_eq_of_lt h
      · omega
    · obtain ⟨L, hL, e, hz, hn⟩ := ih (n / 10) (by omega)
      refine ⟨L + 1, by omega, ?_, ?_, ?_⟩
      · rw [decDigits, dif_neg h, e, low]; rfl
      · rw [Nat.pow_succ, Nat.mul_comm, ← Nat.div_div_eq_div_mul]; exact hz
      · intro j hj h1
        cases j with
        | zero => omega
        | succ j =>
          rw [Nat.pow_succ, Nat.mul_comm, ← Nat.div_div_eq_div_mul]
          by_cases hj0 : j = 0
          · subst hj0; rw [Nat.pow_zero, Nat.div_one]; omega
          · exact hn j (by omega) (by omega)

theorem div_pow_zero {n L t : Nat} (h : n / 10 ^ L = 0) : n / 10 ^ (L + t) = 0 := by
  rw [Nat.pow_add, ← Nat.div_div_eq_div_mul, h, Nat.zero_div]
theorem low_pad {n L : Nat} (h : n / 10 ^ L = 0) (t : Nat) : low n (L + t) = List.replicate t 48 ++ low n L := by
  induction t with
  | zero => rfl
  | succ t ih =>
    rw [← Nat.add_assoc, low_cons, ih, div_pow_zero h, List.replicate_succ]; rfl
theorem low_append (a r L j : Nat) (hr : r < 10 ^ j) : low a L ++ low r j = low (a * 10 ^ j + r) (L + j) := by
  induction j generalizing r with
  | zero => have : r = 0 := by simpa using hr
            subst this; simp [low]
  | succ j ih =>
    have h1 : r / 10 < 10 ^ j := by rw [Nat.div_lt_iff_lt_mul (by decide), ← Nat.pow_succ]; exact hr
    rw [low, ← List.append_assoc, ih _ h1, ← Nat.add_assoc, low]
    have e1 : (a * 10 ^ (j + 1) + r) / 10 = a * 10 ^ j + r / 10 := by
      rw [Nat.pow_succ, ← Nat.mul_assoc, Nat.mul_comm _ 10, Nat.mul_add_div (by decide)]
    have e2 : dgt (a * 10 ^ (j + 1) + r) = dgt r := by
      unfold dgt
      rw [Nat.pow_succ, ← Nat.mul_assoc, Nat.mul_comm _ 10, Nat.mul_add_mod]
    rw [e1, e2]

/-- A SPAN's TEXT -/
def txt (n : Nat) : List UInt8 := decDigits (n / 1000000) ++ 46 :: low (n % 1000000) 6
/-- the digits of it, without the point -/
def dgs (n : Nat) : List UInt8 := decDigits (n / 1000000) ++ low (n % 1000000) 6

def MOST : Nat := 4611686018427387904
theorem dgs_low (n : Nat) : ∃ L, 1 ≤ L ∧ (decDigits (n / 1000000)).length = L ∧ dgs n = low n (L + 6) ∧ n < 10 ^ (L + 6) ∧ ∀ j, j < L → 1 ≤ j → n / 1000000 / 10 ^ j ≠ 0 := by
  obtain ⟨L, hL, e, hz, hn⟩ := dec_low (n / 1000000)
  have hr : n % 1000000 < 10 ^ 6 := Nat.mod_lt _ (by decide)
  have hd : n / 1000000 * 10 ^ 6 + n % 1000000 = n := by
    rw [show (10 ^ 6 : Nat) = 1000000 by decide, Nat.mul_comm]; exact Nat.div_add_mod n 1000000
  refine ⟨L, hL, by rw [e, low_length], ?_, ?_, hn⟩
  · unfold dgs; rw [e, low_append _ _ _ _ hr, hd]
  · have h1 : n / 1000000 < 10 ^ L := by
      rcases Nat.div_eq_zero_iff.1 hz with h | h
      · have := Nat.pow_pos (n := L) (show 0 < 10 by decide); omega
      · exact h
    rw [Nat.pow_add, show (10 ^ 6 : Nat) = 1000000 by decide]
    exact (Nat.div_lt_iff_lt_mul (by decide)).1 h1

theorem mod_step (n k : Nat) : (n / 10 ^ k % 10) * 10 ^ k + n % 10 ^ k = n % 10 ^ (k + 1) := by
  rw [Nat.pow_succ, Nat.mod_mul, Nat.mul_comm (10 ^ k), Nat.add_comm]

theorem parse_low (M n k acc : Nat) (hM : acc * 10 ^ k + n % 10 ^ k ≤ M) (hM2 : acc * 10 ^ k + n % 10 ^ k < 9223372036854775808) : parseUintM M acc (low n k) = .ok (acc * 10 ^ k + n % 10 ^ k) := by
  induction k generalizing acc with
  | zero => simp [low, parseUintM, Nat.mod_one]
  | succ k ih =>
    have hp : 1 ≤ 10 ^ k := Nat.pow_pos (by decide)
    have hmod : n / 10 ^ k % 10 < 10 := Nat.mod_lt _ (by decide)
    have hs := mod_step n k
    have key : acc * 10 ^ (k + 1) + n % 10 ^ (k + 1) = (acc * 10 + n / 10 ^ k % 10) * 10 ^ k + n % 10 ^ k := by
      rw [← hs, Nat.pow_succ, Nat.add_mul, ← Nat.mul_assoc, Nat.mul_right_comm acc]; omega
    rw [key] at hM hM2 ⊢
    have hle : acc * 10 + n / 10 ^ k % 10 ≤ (acc * 10 + n / 10 ^ k % 10) * 10 ^ k := Nat.le_mul_of_pos_right _ hp
    have hd := dgt_toNat (n / 10 ^ k)
    rw [low_cons, parseUintM, hd]
    rw [if_pos (by omega), if_neg (by omega), if_neg (by omega)]
    rw [show 48 + n / 10 ^ k % 10 - 48 = n / 10 ^ k % 10 by omega]
    exact ih _ hM hM2

theorem parse_dgs {n : Nat} (h : n ≤ MOST) : parseIntB 64 (dgs n) = .ok (n : Int) := by
  obtain ⟨L, hL, _, e, hlt, _⟩ := dgs_low n
  unfold MOST at h
  have hne : dgs n ≠ [] := by
    intro h0; have := congrArg List.length h0
    rw [e, low_length] at this; simp at this
  have hU : parseUintB 64 (dgs n) = .ok n := by
    unfold parseUintB
    rw [if_neg hne, e, parse_low _ n (L + 6) 0 (by rw [Nat.zero_mul, Nat.zero_add, Nat.mod_eq_of_lt hlt]; exact Nat.le_trans h (by decide)) (by rw [Nat.zero_mul, Nat.zero_add, Nat.mod_eq_of_lt hlt]; omega)]
    rw [Nat.zero_mul, Nat.zero_add, Nat.mod_eq_of_lt hlt]
  have hc : dgs n = dgt (n / 10 ^ (L + 5)) :: low n (L + 5) := by rw [e, low_cons]
  have hd := dgt_toNat (n / 10 ^ (L + 5))
  have hmod : n / 10 ^ (L + 5) % 10 < 10 := Nat.mod_lt _ (by decide)
  unfold parseIntB
  rw [hc]
  simp only []
  rw [if_neg (by omega), ← hc, hU]
  simp only []
  rw [if_neg (by have : (2 ^ (64 - 1) : Nat) = 9223372036854775808 := by decide
                 omega), if_neg (by omega), if_neg (by omega)]

theorem txt_length (n : Nat) (h : n ≤ MOST) : 8 ≤ (txt n).length ∧ (txt n).length ≤ 20 ∧ (txt n).length = (decDigits (n / 1000000)).length + 7 := by
  obtain ⟨L, hL, e1, e, hlt, hmin⟩ := dgs_low n
  have hlen : (txt n).length = (decDigits (n / 1000000)).length + 7 := by
    unfold txt; rw [List.length_append, List.length_cons, low_length]
  rw [hlen, e1]
  refine ⟨by omega, ?_, rfl⟩
  have : L ≤ 13 := by
    by_cases hL : L ≤ 13
    · exact hL
    · exfalso
      have := hmin 13 (by omega) (by decide)
      apply this
      unfold MOST at h
      exact Nat.div_eq_of_lt (by have : (10 ^ 13 : Nat) = 10000000000000 := by decide
                                 omega)
  omega

/-- the digits, and the point taken out -/
theorem txt_cut (n : Nat) : (txt n).take ((txt n).length - 7) ++ (txt n).drop ((txt n).length - 6) = dgs n := by
  have hlen : (txt n).length = (decDigits (n / 1000000)).length + 7 := by
    unfold txt; rw [List.length_append, List.length_cons, low_length]
  rw [hlen, Nat.add_sub_cancel, show (decDigits (n / 1000000)).length + 7 - 6 = (decDigits (n / 1000000)).length + 1 by omega]
  unfold txt dgs
  rw [List.take_left', List.drop_append]
  · rw [List.drop_of_length_le (by omega), show (decDigits (n / 1000000)).length + 1 - (decDigits (n / 1000000)).length = 1 by omega]
    rfl
  · rfl

theorem txt_inj {n m : Nat} (hn : n ≤ MOST) (hm : m ≤ MOST) (h : txt n = txt m) : n = m := by
  have h1 := txt_cut n
  rw [h, txt_cut m] at h1
  have h2 := parse_dgs hn
  rw [← h1, parse_dgs hm] at h2
  cases h2; rfl

/-- what Read tells, by the document -/
def RS (l : List UInt8) (v e : Int) : Prop := (∃ m, m ≤ MOST ∧ l = txt m ∧ v = (m : Int) ∧ e = 0) ∨ ((∀ m, m ≤ MOST → l ≠ txt m) ∧ v = 0 ∧ e = 10)
theorem RS_same {l : List UInt8} {v e v' e' : Int} (h : RS l v e) (h' : RS l v' e') : v = v' ∧ e = e' := by
  rcases h with ⟨m, hm, hl, rfl, rfl⟩ | ⟨hno, rfl, rfl⟩
  · rcases h' with ⟨m', hm', hl', rfl, rfl⟩ | ⟨hno, _⟩
    · have := txt_inj hm hm' (hl.symm.trans hl'); subst this; exact ⟨rfl, rfl⟩
    · exact absurd hl (hno m hm)
  · rcases h' with ⟨m', hm', hl', _⟩ | ⟨_, rfl, rfl⟩
    · exact absurd hl' (hno m' hm')
    · exact ⟨rfl, rfl⟩

/-- a number's text; of what is no span nothing -/
def tx (n : Int) : List UInt8 := if 0 ≤ n ∧ n ≤ 4611686018427387904 then txt n.toNat else []
theorem tx_nat {n : Nat} (h : n ≤ MOST) : tx n = txt n := by
  unfold tx MOST at *; rw [if_pos (by omega), Int.toNat_natCast]
theorem tx_ne {n : Int} (h : tx n ≠ []) : ∃ m : Nat, m ≤ MOST ∧ n = m := by
  unfold tx at h
  by_cases hc : 0 ≤ n ∧ n ≤ 4611686018427387904
  · exact ⟨n.toNat, by unfold MOST; omega, by omega⟩
  · rw [if_neg hc] at h; exact absurd rfl h

/-- what span.Text puts together -/
theorem text_parts (n : Nat) : decDigits (n / 1000000) ++ [46] ++ List.replicate (6 - (decDigits (n % 1000000)).length) 48 ++ decDigits (n % 1000000) = txt n := by
  have hr : n % 1000000 < 10 ^ 6 := Nat.mod_lt _ (by decide)
  obtain ⟨L, hL, e, hz, hmin⟩ := dec_low (n % 1000000)
  have hL6 : L ≤ 6 := by
    by_cases h : L ≤ 6
    · exact h
    · exact absurd (Nat.div_eq_of_lt hr) (hmin 6 (by omega) (by decide))
  unfold txt
  rw [e, low_length]
  have hp := low_pad hz (6 - L)
  rw [show L + (6 - L) = 6 by omega] at hp
  rw [hp]; simp
theorem dec_len6 (n : Nat) : 1 ≤ (decDigits (n % 1000000)).length ∧ (decDigits (n % 1000000)).length ≤ 6 := by
  have hr : n % 1000000 < 10 ^ 6 := Nat.mod_lt _ (by decide)
  obtain ⟨L, hL, e, hz, hmin⟩ := dec_low (n % 1000000)
  rw [e, low_length]
  refine ⟨hL, ?_⟩
  by_cases h : L ≤ 6
  · exact h
  · exact absurd (Nat.div_eq_of_lt hr) (hmin 6 (by omega) (by decide))

/-- the reference's Digits: how many -/
def K (n least : Nat) : Nat → Prop := fun k => least ≤ k ∧ n / 10 ^ k = 0 ∧ ∀ j, j < k → j < least ∨ n / 10 ^ j ≠ 0
theorem digits_one {n k : Nat} (h : K n 1 k) : low n k = decDigits n := by
  obtain ⟨L, hL, e, hz, hmin⟩ := dec_low n
  have : k = L := by
    rcases Nat.lt_trichotomy k L with h1 | h1 | h1
    · exact absurd h.2.1 (hmin k h1 h.1)
    · exact h1
    · rcases h.2.2 L h1 with h2 | h2
      · omega
      · exact absurd hz h2
  rw [this, e]
theorem digits_six {n k : Nat} (hn : n < 1000000) (h : K n 6 k) : k = 6 := by
  have := h.1
  by_cases h6 : k = 6
  · exact h6
  · rcases h.2.2 6 (by omega) with h1 | h1
    · omega
    · exact absurd (Nat.div_eq_of_lt (by have : (10 ^ 6 : Nat) = 1000000 := by decide
                                         omega)) h1
end Go.Tx
