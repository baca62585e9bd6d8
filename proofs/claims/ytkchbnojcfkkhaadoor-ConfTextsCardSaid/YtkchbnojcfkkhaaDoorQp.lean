/- Plain: what the code's strings.Join, SplitN and strconv.Atoi tell of a config's names and text (layer 5). -/
import Derived.Test.YtkchbnojcfkkhaaDoorVp
import Derived.Lib.Join
import Derived.Lib.Split
import Derived.Lib.IndexBytes
import Derived.Lib.AtoiAllCases
import Derived.Lib.AtoiTie
namespace Go.Cg
open Go.Lib Go.Tx

/-- words with a blank between -/
theorem join_two (a b : List UInt8) : join [a, b] [32] = a ++ 32 :: b := by rw [join_cons]; simp [joinTail]
theorem join_three (a b c : List UInt8) : join [a, b, c] [32] = a ++ 32 :: (b ++ 32 :: c) := by rw [join_cons]; simp [joinTail]
theorem join_twelve (a b c d e f : Nat) : join [[110], dc a, [113], dc b, [103], dc c, [109], dc d, [116], dc e, [115], dc f] [32] = txt6 a b c d e f := by
  rw [join_cons]; simp [joinTail, txt6]

/-- a blank cuts -/
theorem idx_nb {x : List UInt8} (hx : NB x) (y : List UInt8) : indexByte (x ++ 32 :: y) 32 = x.length := by
  induction x with
  | nil => simp [indexByte]
  | cons b x ih =>
    have hb := hx b (List.mem_cons_self)
    have := ih (fun c hc => hx c (List.mem_cons_of_mem _ hc))
    show indexByte (b :: (x ++ 32 :: y)) 32 = _
    unfold indexByte
    rw [this]
    simp [hb]
theorem idx_none {x : List UInt8} (hx : NB x) : indexByte x 32 = -1 := by
  induction x with
  | nil => rfl
  | cons b x ih =>
    have hb := hx b (List.mem_cons_self)
    have := ih (fun c hc => hx c (List.mem_cons_of_mem _ hc))
    unfold indexByte
    rw [this]
    simp [hb]
theorem splitK_hit {x y : List UInt8} (hx : NB x) (k : Nat) : splitK [32] 0 (k + 1) (x ++ 32 :: y) = x :: splitK [32] 0 k y := by
  have h : index (x ++ 32 :: y) [32] = x.length := by rw [index_one, idx_nb hx]
  have h2 : ¬ ((x.length : Int) == -1) = true := fun e => by have := beq_iff_eq.1 e; omega
  rw [splitK, h, if_neg h2]
  congr 1
  · rw [Int.toNat_natCast, Nat.add_zero, List.take_left]
  · rw [Int.toNat_natCast, List.length_singleton]
    congr 1
    rw [← List.drop_drop, List.drop_left]; rfl
theorem splitK_end {x : List UInt8} (hx : NB x) (k : Nat) : splitK [32] 0 k x = [x] := by
  cases k with
  | zero => rfl
  | succ k =>
    have h : index x [32] = -1 := by rw [index_one, idx_none hx]
    rw [splitK, h]; rfl
theorem nb_one {b : UInt8} (h : b ≠ 32) : NB [b] := fun c hc => by obtain rfl : c = b := by simpa using hc
                                                                   exact h
/-- a config's text has its twelve words -/
theorem split_txt6 (a b c d e f : Nat) (k : Nat) : splitK [32] 0 (k + 12) (txt6 a b c d e f) = [[110], dc a, [113], dc b, [103], dc c, [109], dc d, [116], dc e, [115], dc f] := by
  have h1 : NB [110] := nb_one (by decide)
  have h2 : NB [113] := nb_one (by decide)
  have h3 : NB [103] := nb_one (by decide)
  have h4 : NB [109] := nb_one (by decide)
  have h5 : NB [116] := nb_one (by decide)
  have h6 : NB [115] := nb_one (by decide)
  have e0 : txt6 a b c d e f = [110] ++ 32 :: (dc a ++ 32 :: ([113] ++ 32 :: (dc b ++ 32 :: ([103] ++ 32 :: (dc c ++ 32 :: ([109] ++ 32 :: (dc d ++ 32 :: ([116] ++ 32 :: (dc e ++ 32 :: ([115] ++ 32 :: dc f)))))))))) := rfl
  rw [e0, splitK_hit h1, splitK_hit (dc_nb a), splitK_hit h2, splitK_hit (dc_nb b), splitK_hit h3, splitK_hit (dc_nb c), splitK_hit h4, splitK_hit (dc_nb d), splitK_hit h5, splitK_hit (dc_nb e), splitK_hit h6, splitK_end (dc_nb f)]

/-- digits are read as their number -/
theorem dec_dc (acc n : Nat) (r : List UInt8) : decFrom acc (dc n ++ r) = decFrom (acc * 10 ^ (dc n).length + n) r := by
  induction n using Nat.strongRecOn generalizing r with
  | _ n ih =>
    have dig (n : Nat) : digitVal (dgt n) = some (n % 10) := by
      unfold digitVal
      have := dgt_toNat n
      have h : n % 10 < 10 := Nat.mod_lt _ (by decide)
      rw [if_pos (by omega), this]; congr 1; omega
    by_cases h : n < 10
    · rw [dc_one h]
      show decFrom acc (dgt n :: r) = _
      rw [decFrom, dig n]
      have := Nat.mod_eq_of_lt h
      simp [this]
    · rw [dc_more h, List.append_assoc, ih (n / 10) (by omega)]
      show decFrom _ (dgt n :: r) = _
      rw [decFrom, dig n]
      show decFrom _ r = _
      rw [List.length_append, List.length_singleton, Nat.pow_succ]
      congr 1
      have := Nat.div_add_mod n 10
      rw [Nat.add_mul, Nat.mul_assoc]
      omega
theorem dc_cons (n : Nat) : ∃ c r, dc n = c :: r ∧ c.toNat ≠ 43 ∧ c.toNat ≠ 45 := by
  have h := dc_ne n
  match e : dc n, h with
  | c :: r, _ =>
    have := dc_digit n c (by rw [e]; exact List.mem_cons_self)
    exact ⟨c, r, rfl, by omega, by omega⟩
theorem atoi_dc (n : Nat) (h : n < 1000000) : atoiAll (dc n) = .ok (n : Int) := by
  have hl : (dc n).length ≤ 6 := dc_le h (by decide)
  obtain ⟨c, r, e, h43, h45⟩ := dc_cons n
  have hd : decNat (dc n) = some n := by
    unfold decNat
    rw [if_neg (by rw [e]; simp)]
    have := dec_dc 0 n []
    rw [List.append_nil] at this
    rw [this]
    simp [decFrom]
  have hs := signless_short (l := dc n) (by omega)
  rw [hd] at hs
  rw [e, atoiAll_plain c r h43 h45, ← e, hs]
  rfl
end Go.Cg
