import Derived.Test.YteofkhpofligaaaDoorTx
import Derived.WalkKit
namespace Go.Tx
open Go.Lib

def rstep (a : Nat) (c : UInt8) : Nat := if c = 46 then a else (a * 10 + (c - 48).toNat) % 18446744073709551616
def racc (l : List UInt8) : Nat := l.foldl rstep 0

theorem rstep_dgt {a n : Nat} (h : a * 10 + n % 10 < 18446744073709551616) : rstep a (dgt n) = a * 10 + n % 10 := by
  have hd := dgt_toNat n
  have hm : n % 10 < 10 := Nat.mod_lt _ (by decide)
  have hne : dgt n ≠ 46 := by
    intro h0; rw [h0] at hd
    have : (46 : UInt8).toNat = 46 := rfl
    omega
  have hs : (dgt n - 48).toNat = n % 10 := by
    rw [UInt8.toNat_sub, hd]; have : (48 : UInt8).toNat = 48 := rfl
    omega
  unfold rstep; rw [if_neg hne, hs, Nat.mod_eq_of_lt h]

theorem racc_low (n k acc : Nat) (h : acc * 10 ^ k + n % 10 ^ k < 18446744073709551616) : (low n k).foldl rstep acc = acc * 10 ^ k + n % 10 ^ k := by
  induction k generalizing n with
  | zero => simp [low, Nat.mod_one]
  | succ k ih =>
    have e : acc * 10 ^ (k + 1) + n % 10 ^ (k + 1) = (acc * 10 ^ k + n / 10 % 10 ^ k) * 10 + n % 10 := by
      rw [Nat.pow_succ, Nat.mul_comm (10 ^ k) 10, Nat.mod_mul, Nat.add_mul, Nat.mul_comm 10 (10 ^ k), Nat.mul_assoc, Nat.mul_comm 10 (n / 10 % 10 ^ k)]
      omega
    rw [e] at h ⊢
    rw [low, List.foldl_append, ih _ (by omega)]
    exact rstep_dgt h

theorem racc_txt {m : Nat} (h : m ≤ MOST) : racc (txt m) = m := by
  unfold MOST at h
  obtain ⟨L, hL, e, hz, _⟩ := dec_low (m / 1000000)
  have hq : m / 1000000 % 10 ^ L = m / 1000000 := by
    rcases Nat.div_eq_zero_iff.1 hz with h0 | h0
    · have := Nat.pow_pos (n := L) (show 0 < 10 by decide); omega
    · exact Nat.mod_eq_of_lt h0
  have hr : m % 1000000 % 10 ^ 6 = m % 1000000 := Nat.mod_eq_of_lt (Nat.mod_lt _ (by decide))
  unfold racc txt
  have h1 : (low (m / 1000000) L).foldl rstep 0 = m / 1000000 := by
    rw [racc_low _ _ _ (by rw [hq]; omega), hq, Nat.zero_mul, Nat.zero_add]
  rw [e, List.foldl_append, List.foldl_cons, h1]
  have h46 : rstep (m / 1000000) 46 = m / 1000000 := by unfold rstep; rw [if_pos rfl]
  have e6 : (10 ^ 6 : Nat) = 1000000 := by decide
  rw [h46, racc_low _ _ _ (by rw [hr, e6]; omega), hr, e6]; omega

theorem racc_lt (l : List UInt8) : racc l < 18446744073709551616 := by
  unfold racc
  suffices H : ∀ a, a < 18446744073709551616 → l.foldl rstep a < 18446744073709551616 by exact H 0 (by decide)
  induction l with
  | nil => intro a h; exact h
  | cons c r ih =>
    intro a h
    refine ih _ ?_
    unfold rstep; split
    · exact h
    · exact Nat.mod_lt _ (by decide)

theorem racc_snoc (l : List UInt8) (c : UInt8) : racc (l ++ [c]) = rstep (racc l) c := by unfold racc; rw [List.foldl_append]; rfl

theorem rs_big {l : List UInt8} (h : MOST < racc l) : RS l 0 10 := by
  refine .inr ⟨fun m hm hl => ?_, rfl, rfl⟩
  rw [hl, racc_txt hm] at h; omega
theorem rs_other {l : List UInt8} (h : tx (racc l : Int) ≠ l) : RS l 0 10 := by
  refine .inr ⟨fun m hm hl => ?_, rfl, rfl⟩
  rw [hl, racc_txt hm, tx_nat hm] at h; exact h rfl
theorem rs_same {l : List UInt8} (h : tx (racc l : Int) = l) (hne : l ≠ []) : RS l (racc l : Int) 0 := by
  obtain ⟨m, hm, he⟩ := tx_ne (n := (racc l : Int)) (by rw [h]; exact hne)
  rw [he, tx_nat hm] at h
  exact .inl ⟨m, hm, h.symm, he, rfl⟩
theorem rs_empty : RS [] 0 10 := by
  refine .inr ⟨fun m hm hl => ?_, rfl, rfl⟩
  have := txt_length m hm
  rw [← hl] at this; simp at this
theorem rs_long {l : List UInt8} (h : 30 ≤ l.length) : RS l 0 10 := by
  refine .inr ⟨fun m hm hl => ?_, rfl, rfl⟩
  have := txt_length m hm
  rw [← hl] at this; omega

theorem u64_wrap (x : Int) : IntKind.u64.wrap x = x % 18446744073709551616 := by
  rfl
theorem step_num {a : Nat} {c : UInt8} (h : (((c.toNat : Int)) != 46) = true) : IntKind.u64.wrap (IntKind.u64.wrap ((a : Int) * 10) + ((c.toNat : Int) - 48) % 256) = (rstep a c : Nat) := by
  have hne : c ≠ 46 := by intro h0; subst h0; revert h; decide
  have hc : c.toNat < 256 := c.toNat_lt
  unfold rstep
  rw [if_neg hne, u64_wrap, u64_wrap, UInt8.toNat_sub]
  have : (48 : UInt8).toNat = 48 := rfl
  rw [this]
  omega
theorem step_dot {a : Nat} {c : UInt8} (h : (((c.toNat : Int)) != 46) = false) : rstep a c = a := by
  have hc : c = 46 := by
    have h1 : (c.toNat : Int) = 46 := by simpa using h
    apply UInt8.toNat_inj.1
    show c.toNat = 46
    omega
  unfold rstep; rw [if_pos hc]
end Go.Tx
