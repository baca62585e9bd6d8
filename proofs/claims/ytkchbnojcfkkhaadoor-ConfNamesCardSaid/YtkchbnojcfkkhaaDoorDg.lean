/- The reference's Digits, walked: of any layer that tells numbers. -/
import Derived.Test.YtkchbnojcfkkhaaDoorRows
import Derived.Test.YtkchbnojcfkkhaaDoorATx
import Derived.Test.YtkchbnojcfkkhaaDoorEn
import Derived.WalkKit
import Derived.WalkSpells
import Derived.WalkLawsBesides
import Derived.Lib.Hide
namespace Go.Proofs.YtkchbnojcfkkhaaDoor
open Go.RowKit Go.Tx

theorem bapp (a b : List UInt8) : (⟨a.toArray⟩ : ByteArray) ++ ⟨b.toArray⟩ = ⟨(a ++ b).toArray⟩ := by
  apply ByteArray.ext
  simp
theorem bsize (l : List UInt8) : (⟨l.toArray⟩ : ByteArray).size = l.length := by simp [ByteArray.size]

def strLen : Value → Nat
  | .string b => b.size
  | _ => 0
theorem strLen_mk (l : List UInt8) : strLen (.string ⟨l.toArray⟩) = l.length := bsize l
theorem digit_piece (i : Nat) (h : i < 10) : (⟨#[48, 49, 50, 51, 52, 53, 54, 55, 56, 57]⟩ : ByteArray).extract i (i + 1) = ⟨[UInt8.ofNat (48 + i)].toArray⟩ := by
  have h' : i = 0 ∨ i = 1 ∨ i = 2 ∨ i = 3 ∨ i = 4 ∨ i = 5 ∨ i = 6 ∨ i = 7 ∨ i = 8 ∨ i = 9 := by omega
  rcases h' with rfl | rfl | rfl | rfl | rfl | rfl | rfl | rfl | rfl | rfl <;> rfl
theorem digit_join (q : Nat) (l : List UInt8) : Value.string ((⟨#[48, 49, 50, 51, 52, 53, 54, 55, 56, 57]⟩ : ByteArray).extract (q % 10) (q % 10 + 1) ++ ⟨l.toArray⟩) = Value.string ⟨(dgt q :: l).toArray⟩ := by
  rw [digit_piece _ (Nat.mod_lt _ (by decide)), bapp]; rfl
/-- the reference's digits, so far -/
structure Sofar (n least q k : Nat) (l : List UInt8) : Prop where
  q : q = n / 10 ^ k
  l : l = low n k
  min : ∀ j, j < k → j < least ∨ n / 10 ^ j ≠ 0
theorem Sofar.start (n least : Nat) : Sofar n least n 0 [] := ⟨by simp, rfl, by omega⟩
theorem Sofar.step {n least q k : Nat} {l : List UInt8} (h : Sofar n least q k l) (hgo : 0 < q ∨ k < least) : Sofar n least (q / 10) (k + 1) (dgt q :: l) := by
  refine ⟨?_, ?_, ?_⟩
  · rw [h.q, Nat.div_div_eq_div_mul, Nat.pow_succ]
  · rw [low_cons, ← h.q, ← h.l]
  · intro j hj
    by_cases hjk : j < k
    · exact h.min j hjk
    · have : j = k := by omega
      subst this
      rcases hgo with hg | hg
      · right; rw [← h.q]; omega
      · exact .inl hg
theorem Sofar.bound {n least q k : Nat} {l : List UInt8} (h : Sofar n least q k l) (hn : n < 18446744073709551616) (hl : least ≤ 6) : q < 18446744073709551616 ∧ k ≤ 20 := by
  refine ⟨by rw [h.q]; exact Nat.lt_of_le_of_lt (Nat.div_le_self _ _) hn, ?_⟩
  by_cases hk : k ≤ 20
  · exact hk
  · rcases h.min 20 (by omega) with h1 | h1
    · omega
    · exact absurd (Nat.div_eq_of_lt (by have : (10 ^ 20 : Nat) = 100000000000000000000 := by decide
                                         omega)) h1
theorem Sofar.done {n least q k : Nat} {l : List UInt8} (h : Sofar n least q k l) (hq : q = 0) (hk : least ≤ k) : ∃ k, K n least k ∧ l = low n k := by
  have h0 := h.q
  have h1 := h.min
  exact ⟨k, ⟨hk, by rw [← h0, hq], h1⟩, h.l⟩

set_option maxHeartbeats 400000 in
theorem digits_any (n least : Nat) (hn : n < 18446744073709551616) (hl : least ≤ 6) (w : World) :
    Calls Tryd.prog 42 #[.int .u64 n, .int .i64 least] w (Tells (fun l => ∃ k, K n least k ∧ l = low n k) w) := by
  go_enter Tryd.func42, Tryd.ntmps42
  go_wp2
  go_loop [0, 5] (fun v s => ∃ (q : Nat) (l : List UInt8), v = .int .u64 q ∧ s = .string ⟨l.toArray⟩ ∧ Sofar n least q l.length l) (fun v s => (intOf v).toNat + (26 - strLen s))
  case atStart => exact ⟨n, [], rfl, rfl, Sofar.start n least⟩
  case round =>
    obtain ⟨q, l, rfl, rfl, hso⟩ := hrel
    have hb := hso.bound hn hl
    have HS := Lib.hid hso
    clear hso
    by_cases hgo : 0 < q
    · go_wp2
      have hs := Lib.hid (HS.out.step (.inl hgo))
      refine ⟨⟨q / 10, dgt q :: l, by go_num, digit_join q l, by simpa using hs.out⟩, ?_⟩
      simp only [intOf, digit_join, strLen_mk, List.length_cons]; omega
    · obtain rfl : q = 0 := by omega
      by_cases hle : l.length < least
      · go_wp2
        have hs := Lib.hid (HS.out.step (.inr hle))
        refine ⟨⟨0, dgt 0 :: l, rfl, digit_join 0 l, by simpa using hs.out⟩, ?_⟩
        have e := congrArg strLen (digit_join 0 l)
        rw [strLen_mk] at e
        have e' : strLen (Value.string ((⟨#[48, 49, 50, 51, 52, 53, 54, 55, 56, 57]⟩ : ByteArray).extract 0 1 ++ ⟨l.toArray⟩)) = (dgt 0 :: l).length := e
        simp only [intOf, e', strLen_mk, List.length_cons]; omega
      · go_wp2
        go_ret
        exact ⟨l, HS.out.done rfl (by omega), rfl, Below.refl _ _⟩

theorem K_le {n least k : Nat} (h : K n least k) (hn : n < 18446744073709551616) (hl : least ≤ 6) : k ≤ 20 := by
  by_cases hk : k ≤ 20
  · exact hk
  · rcases h.2.2 20 (by omega) with h1 | h1
    · omega
    · exact absurd (Nat.div_eq_of_lt (by have : (10 ^ 20 : Nat) = 100000000000000000000 := by decide
                                         omega)) h1
theorem K_len {n least : Nat} {l : List UInt8} (h : ∃ k, K n least k ∧ l = low n k) (hn : n < 18446744073709551616) (hl : least ≤ 6) : l.length ≤ 20 := by
  obtain ⟨k, hk, rfl⟩ := h
  rw [low_length]; exact K_le hk hn hl

theorem digits_at (x y : Int) (n least : Nat) (hx : x = n) (hy : y = least) (hn : n < 18446744073709551616) (hl : least ≤ 6) (w : World) :
    Calls Tryd.prog 42 #[.int .u64 x, .int .i64 y] w (Tells (fun l => ∃ k, K n least k ∧ l = low n k) w) := by
  subst hx; subst hy; exact digits_any n least hn hl w

end Go.Proofs.YtkchbnojcfkkhaaDoor
