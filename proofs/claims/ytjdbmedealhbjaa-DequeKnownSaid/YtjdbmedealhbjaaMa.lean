/- The plain mathematics of a word: head, tail, length, what is done. It imports nothing of the dump. -/
import Derived.WalkKit
namespace Go.Wd

/-- 2^32 -/
abbrev B32 : Nat := 4294967296
def hd (x : Nat) : Nat := x / 4294967296
def tl (x : Nat) : Nat := x % 4294967296
def pk (h t : Nat) : Nat := h * 4294967296 + t
def ln (x : Nat) : Nat := (tl x + 4294967296 - hd x) % 4294967296
def older (n : Nat) : Nat := n - n / 2
def gainW (x n : Nat) : Nat := pk ((hd x + n) % 4294967296) (tl x)
def growW (x n : Nat) : Nat := pk (hd x) ((tl x + n) % 4294967296)
def dropW (x n : Nat) : Nat := pk (hd x) ((tl x + 4294967296 - n) % 4294967296)
def room (q : Int) : Bool := q == 2 || q == 4 || q == 8 || q == 16 || q == 32 || q == 64 || q == 128 || q == 256 || q == 512 || q == 1024 || q == 2048 || q == 4096 || q == 8192 || q == 16384 || q == 32768 || q == 65536
def slot (p : Nat) (q : Int) : Int := if room q then (p % q.toNat : Nat) else 0
def has (x p : Nat) : Bool := decide ((p + 4294967296 - hd x) % 4294967296 < ln x)
/-- one thing is done, of a room q -/
def stp (q : Nat) (x : Nat) (d : Int) : Nat :=
  if d = 1 then gainW x (min 1 (ln x)) else if d = 2 then gainW x (older (ln x)) else if d = 3 then (if ln x < q then growW x 1 else x) else if d = 4 then (if ln x < q then x else dropW x (q / 2)) else x
def doW (x : Nat) (q : Int) (l : List Int) : Nat := if room q then l.foldl (stp q.toNat) x else x

theorem hd_lt {x : Nat} (h : x < 18446744073709551616) : hd x < 4294967296 := by unfold hd; omega
theorem tl_lt (x : Nat) : tl x < 4294967296 := by unfold tl; omega
theorem ln_lt (x : Nat) : ln x < 4294967296 := by unfold ln; omega
theorem pk_lt {h t : Nat} (a : h < 4294967296) (b : t < 4294967296) : pk h t < 18446744073709551616 := by unfold pk; omega
theorem hd_pk {h t : Nat} (b : t < 4294967296) : hd (pk h t) = h := by unfold hd pk; omega
theorem tl_pk {h t : Nat} (b : t < 4294967296) : tl (pk h t) = t := by unfold tl pk; omega
theorem pk_eta (x : Nat) : pk (hd x) (tl x) = x := by unfold pk hd tl; omega
theorem gain_lt {x n : Nat} : gainW x n < 18446744073709551616 := pk_lt (Nat.mod_lt _ (by decide)) (tl_lt x)
theorem grow_lt {x n : Nat} (h : x < 18446744073709551616) : growW x n < 18446744073709551616 := pk_lt (hd_lt h) (Nat.mod_lt _ (by decide))
theorem drop_lt {x n : Nat} (h : x < 18446744073709551616) : dropW x n < 18446744073709551616 := pk_lt (hd_lt h) (Nat.mod_lt _ (by decide))
theorem stp_lt {q x : Nat} {d : Int} (h : x < 18446744073709551616) : stp q x d < 18446744073709551616 := by
  unfold stp
  split
  · exact gain_lt
  · split
    · exact gain_lt
    · split
      · split
        · exact grow_lt h
        · exact h
      · split
        · split
          · exact h
          · exact drop_lt h
        · exact h
theorem fold_lt {q : Nat} (l : List Int) : ∀ {x : Nat}, x < 18446744073709551616 → l.foldl (stp q) x < 18446744073709551616 := by
  induction l with
  | nil => intro x h; exact h
  | cons d l ih => intro x h; exact ih (stp_lt h)
theorem do_lt {x : Nat} {q : Int} {l : List Int} (h : x < 18446744073709551616) : doW x q l < 18446744073709551616 := by
  unfold doW; split
  · exact fold_lt l h
  · exact h

theorem or_pack (h t : Nat) (b : t < 4294967296) : (h * 4294967296) ||| t = pk h t := by
  have := Nat.shiftLeft_add_eq_or_of_lt (i := 32) (b := t) b h
  rw [Nat.shiftLeft_eq] at this
  exact this.symm

/-- powers of two -/
theorem and_pred (n : Nat) : ∀ q, q ≤ n → 1 ≤ q → q &&& (q - 1) = 0 → ∃ k, q = 2 ^ k := by
  induction n with
  | zero => intro q h1 h2; omega
  | succ n ih =>
    intro q h1 h2 h
    by_cases e : q % 2 = 0
    · obtain ⟨m, rfl⟩ : ∃ m, q = 2 * m := ⟨q / 2, by omega⟩
      have h3 : (2 * m &&& (2 * m - 1)) / 2 = m &&& (m - 1) := by
        rw [Nat.and_div_two, show (2 * m) / 2 = m by omega, show (2 * m - 1) / 2 = m - 1 by omega]
      rw [h] at h3
      obtain ⟨k, hk⟩ := ih m (by omega) (by omega) h3.symm
      exact ⟨k + 1, by rw [hk, Nat.pow_succ, Nat.mul_comm]⟩
    · obtain ⟨m, rfl⟩ : ∃ m, q = 2 * m + 1 := ⟨q / 2, by omega⟩
      have h3 : ((2 * m + 1) &&& (2 * m + 1 - 1)) / 2 = m := by
        rw [Nat.and_div_two, show (2 * m + 1) / 2 = m by omega, show (2 * m + 1 - 1) / 2 = m by omega, Nat.and_self]
      rw [h] at h3
      exact ⟨0, by omega⟩
theorem pow_room (k : Nat) (h1 : 2 ≤ 2 ^ k) (h2 : 2 ^ k ≤ 65536) : room ((2 ^ k : Nat) : Int) = true := by
  have hk : k ≤ 16 := by
    by_cases h : k ≤ 16
    · exact h
    · have : (2 : Nat) ^ 17 ≤ 2 ^ k := Nat.pow_le_pow_right (by decide) (by omega)
      have e : (2 : Nat) ^ 17 = 131072 := by decide
      omega
  have : k = 0 ∨ k = 1 ∨ k = 2 ∨ k = 3 ∨ k = 4 ∨ k = 5 ∨ k = 6 ∨ k = 7 ∨ k = 8 ∨ k = 9 ∨ k = 10 ∨ k = 11 ∨ k = 12 ∨ k = 13 ∨ k = 14 ∨ k = 15 ∨ k = 16 := by omega
  rcases this with rfl | rfl | rfl | rfl | rfl | rfl | rfl | rfl | rfl | rfl | rfl | rfl | rfl | rfl | rfl | rfl | rfl
  · omega
  all_goals decide
theorem room_and {q : Nat} (h1 : 2 ≤ q) (h2 : q ≤ 65536) (h : q &&& (q - 1) = 0) : room (q : Int) = true := by
  obtain ⟨k, rfl⟩ := and_pred q q (Nat.le_refl _) (by omega) h
  exact pow_room k h1 h2
theorem room_cases {q : Int} (h : room q = true) : q = 2 ∨ q = 4 ∨ q = 8 ∨ q = 16 ∨ q = 32 ∨ q = 64 ∨ q = 128 ∨ q = 256 ∨ q = 512 ∨ q = 1024 ∨ q = 2048 ∨ q = 4096 ∨ q = 8192 ∨ q = 16384 ∨ q = 32768 ∨ q = 65536 := by
  unfold room at h; simp at h; omega
theorem room_bd {q : Int} (h : room q = true) : 2 ≤ q ∧ q ≤ 65536 := by rcases room_cases h with h | h | h | h | h | h | h | h | h | h | h | h | h | h | h | h <;> omega
theorem room_and' {q : Nat} (h : room (q : Int) = true) : q &&& (q - 1) = 0 := by
  have : q = 2 ∨ q = 4 ∨ q = 8 ∨ q = 16 ∨ q = 32 ∨ q = 64 ∨ q = 128 ∨ q = 256 ∨ q = 512 ∨ q = 1024 ∨ q = 2048 ∨ q = 4096 ∨ q = 8192 ∨ q = 16384 ∨ q = 32768 ∨ q = 65536 := by
    rcases room_cases h with h | h | h | h | h | h | h | h | h | h | h | h | h | h | h | h <;> omega
  rcases this with h | h | h | h | h | h | h | h | h | h | h | h | h | h | h | h <;> subst h <;> decide

theorem gain_zero {x : Nat} (h : x < 18446744073709551616) : gainW x 0 = x := by
  unfold gainW; rw [Nat.add_zero, Nat.mod_eq_of_lt (hd_lt h), pk_eta]
theorem stp_get1 {q x : Nat} (h : 0 < ln x) : stp q x 1 = gainW x 1 := by
  unfold stp; rw [if_pos rfl, Nat.min_eq_left h]
theorem stp_get0 {q x : Nat} (hx : x < 18446744073709551616) (h : ¬ 0 < ln x) : stp q x 1 = x := by
  unfold stp; rw [if_pos rfl, show ln x = 0 by omega, Nat.min_eq_right (by decide)]; exact gain_zero hx
theorem stp_two {q x : Nat} : stp q x 2 = gainW x (older (ln x)) := by unfold stp; simp
theorem stp_put1 {q x : Nat} (h : ln x < q) : stp q x 3 = growW x 1 := by unfold stp; simp [h]
theorem stp_put0 {q x : Nat} (h : ¬ ln x < q) : stp q x 3 = x := by unfold stp; simp [h]
theorem stp_cut1 {q x : Nat} (h : ¬ ln x < q) : stp q x 4 = dropW x (q / 2) := by unfold stp; simp [h]
theorem stp_cut0 {q x : Nat} (h : ln x < q) : stp q x 4 = x := by unfold stp; simp [h]
theorem stp_other {q x : Nat} {d : Int} (h : ¬ (1 ≤ d ∧ d ≤ 4)) : stp q x d = x := by
  unfold stp; rw [if_neg (by omega), if_neg (by omega), if_neg (by omega), if_neg (by omega)]
theorem hd_gain {x n : Nat} : hd (gainW x n) = (hd x + n) % 4294967296 := hd_pk (tl_lt x)
theorem tl_gain {x n : Nat} : tl (gainW x n) = tl x := tl_pk (tl_lt x)
theorem hd_grow {x n : Nat} : hd (growW x n) = hd x := hd_pk (Nat.mod_lt _ (by decide))
theorem tl_grow {x n : Nat} : tl (growW x n) = (tl x + n) % 4294967296 := tl_pk (Nat.mod_lt _ (by decide))
theorem hd_drop {x n : Nat} : hd (dropW x n) = hd x := hd_pk (Nat.mod_lt _ (by decide))
theorem tl_drop {x n : Nat} : tl (dropW x n) = (tl x + 4294967296 - n) % 4294967296 := tl_pk (Nat.mod_lt _ (by decide))

/-- a word's places from its from-th on, n at most -/
def pnum (x fr n : Nat) : Nat := if 65536 < ln x then 0 else min n (ln x - fr)
def pat (x fr j : Nat) : Nat := (hd x + fr + j) % 4294967296
def pls (x fr n : Nat) : List Int := (List.range (pnum x fr n)).map fun j => ((pat x fr j : Nat) : Int)
theorem pls_length (x fr n : Nat) : (pls x fr n).length = pnum x fr n := by unfold pls; simp
theorem pnum_zero {x fr n : Nat} (h : 65536 < ln x ∨ ln x ≤ fr) : pnum x fr n = 0 := by
  unfold pnum
  by_cases c : 65536 < ln x
  · rw [if_pos c]
  · rw [if_neg c]; omega
theorem pls_none {x fr n : Nat} (h : 65536 < ln x ∨ ln x ≤ fr) : pls x fr n = [] := by
  unfold pls; rw [pnum_zero h, List.range_zero, List.map_nil]
theorem pls_some {x fr n : Nat} (h : ¬ 65536 < ln x) : pls x fr n = (List.range (min n (ln x - fr))).map fun j => ((pat x fr j : Nat) : Int) := by
  unfold pls pnum; rw [if_neg h]
theorem pnum_le (x fr n : Nat) : pnum x fr n ≤ 65536 := by unfold pnum; split <;> omega
end Go.Wd
