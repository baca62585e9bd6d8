/- Plain: configs, words, memories, puts and gets; it imports nothing of the dump. -/
import Derived.WalkKit
import GoSem.Claim
set_option linter.unusedSimpArgs false
set_option linter.unusedVariables false
/- Plain: a config, what is right, and where its cells are (layer 5), without names. It imports nothing of the dump. -/
namespace Go.Cg
/-- a config -/
structure Cfg where
  n : Int
  q : Int
  g : Int
  m : Int
  t : Int
  s : Int
structure Right (c : Cfg) : Prop where
  q : c.q = 2 ∨ c.q = 4 ∨ c.q = 8 ∨ c.q = 16 ∨ c.q = 32 ∨ c.q = 64
  n : 1 ≤ c.n ∧ c.n ≤ 8
  g : 1 ≤ c.g ∧ c.g ≤ 256
  m : c.n < c.m ∧ c.m ≤ 16
  t : 2 ≤ c.t ∧ c.t ≤ 200
  s : 0 ≤ c.s ∧ c.s ≤ 1000
theorem Right.small {c : Cfg} (h : Right c) : ∃ a b g m t s : Nat, c = ⟨a, b, g, m, t, s⟩ ∧ a ≤ 8 ∧ b ≤ 64 ∧ g ≤ 256 ∧ m ≤ 16 ∧ t ≤ 200 ∧ s ≤ 1000 := by
  obtain ⟨h1, h2, h3, h4, h5, h6⟩ := h
  obtain ⟨n, q, g, m, t, s⟩ := c
  simp only at h1 h2 h3 h4 h5 h6
  refine ⟨n.toNat, q.toNat, g.toNat, m.toNat, t.toNat, s.toNat, ?_, by omega, by omega, by omega, by omega, by omega, by omega⟩
  congr 1 <;> omega
open Classical in
/-- the address of what P p has at place k, or -1 -/
noncomputable def plV (c : Cfg) (p : Int) (k : Nat) : Int := if Right c ∧ 0 ≤ p ∧ p < c.n then 4 + p * (6 + c.q) + k else -1
theorem plV_no {c : Cfg} {p : Int} {k : Nat} (h : ¬ (Right c ∧ 0 ≤ p ∧ p < c.n)) : plV c p k = -1 := by unfold plV; rw [if_neg h]
theorem plV_yes {c : Cfg} {p : Int} {k : Nat} (h : Right c ∧ 0 ≤ p ∧ p < c.n) : plV c p k = 4 + p * (6 + c.q) + k := by unfold plV; rw [if_pos h]
open Classical in
/-- the address of the slot of place i, or -1 -/
noncomputable def slP (c : Cfg) (p : Int) (i : Nat) : Int := if Right c ∧ 0 ≤ p ∧ p < c.n then 4 + p * (6 + c.q) + 6 + (i : Int) % c.q else -1
theorem slP_no {c : Cfg} {p : Int} {i : Nat} (h : ¬ (Right c ∧ 0 ≤ p ∧ p < c.n)) : slP c p i = -1 := by unfold slP; rw [if_neg h]
theorem slP_yes {c : Cfg} {p : Int} {i : Nat} (h : Right c ∧ 0 ≤ p ∧ p < c.n) : slP c p i = 4 + p * (6 + c.q) + 6 + (i : Int) % c.q := by unfold slP; rw [if_pos h]
open Classical in
/-- how many cells -/
noncomputable def ccN (c : Cfg) : Nat := if Right c then 4 + c.n.toNat * (6 + c.q.toNat) else 0
theorem ccN_no {c : Cfg} (h : ¬ Right c) : ccN c = 0 := by unfold ccN; rw [if_neg h]
theorem ccN_yes {c : Cfg} (h : Right c) : ccN c = 4 + c.n.toNat * (6 + c.q.toNat) := by unfold ccN; rw [if_pos h]
theorem ccN_le (c : Cfg) : ccN c ≤ 564 := by
  by_cases h : Right c
  · rw [ccN_yes h]
    obtain ⟨a, b, g, m, t, s, rfl, h1, h2, -⟩ := h.small
    have := Nat.mul_le_mul (show a ≤ 8 from h1) (show 6 + b ≤ 70 by omega)
    show 4 + a * (6 + b) ≤ 564
    omega
  · rw [ccN_no h]; omega
/-- an address of a P is below -/
theorem pl_lt {c : Cfg} {p : Int} {k : Int} (h : Right c ∧ 0 ≤ p ∧ p < c.n) (h0 : 0 ≤ k) (h1 : k < 6 + c.q) : 4 ≤ 4 + p * (6 + c.q) + k ∧ 4 + p * (6 + c.q) + k < (ccN c : Int) := by
  obtain ⟨hR, hp, hn⟩ := h
  rw [ccN_yes hR]
  obtain ⟨a, b, g, m, t, s, rfl, h2, h3, -⟩ := hR.small
  obtain ⟨i, rfl⟩ : ∃ i : Nat, p = i := ⟨p.toNat, by omega⟩
  obtain ⟨j, rfl⟩ : ∃ j : Nat, k = j := ⟨k.toNat, by omega⟩
  simp only at hn h1 ⊢
  show 4 ≤ 4 + (i : Int) * (6 + (b : Int)) + j ∧ 4 + (i : Int) * (6 + (b : Int)) + j < ((4 + a * (6 + b) : Nat) : Int)
  have hia : i + 1 ≤ a := by omega
  have hm := Nat.mul_le_mul_right (6 + b) hia
  rw [Nat.succ_mul] at hm
  have e : (i : Int) * (6 + (b : Int)) = ((i * (6 + b) : Nat) : Int) := by push_cast; rfl
  rw [e]
  omega
end Go.Cg

/- The plain mathematics of a word: head, tail, length, what is done. It imports nothing of the dump. -/
namespace Go.Wd

/-- 2^32 -/
abbrev B32 : Nat := 4294967296
def hd (x : Nat) : Nat := x / 4294967296
def tl (x : Nat) : Nat := x % 4294967296
def pk (h t : Nat) : Nat := h * 4294967296 + t
def ln (x : Nat) : Nat := (tl x + 4294967296 - hd x) % 4294967296
def older (n : Nat) : Nat := n - n / 2
def gainW (x n : Nat) : Nat := pk ((hd x + n) % 4294967296) (tl x)
def growW (x n : Nat) : Nat := pk (hd x) ((tl x + n) % 4294967296)
def dropW (x n : Nat) : Nat := pk (hd x) ((tl x + 4294967296 - n) % 4294967296)
def room (q : Int) : Bool := q == 2 || q == 4 || q == 8 || q == 16 || q == 32 || q == 64 || q == 128 || q == 256 || q == 512 || q == 1024 || q == 2048 || q == 4096 || q == 8192 || q == 16384 || q == 32768 || q == 65536
def slot (p : Nat) (q : Int) : Int := if room q then (p % q.toNat : Nat) else 0
def has (x p : Nat) : Bool := decide ((p + 4294967296 - hd x) % 4294967296 < ln x)
/-- one thing is done, of a room q -/
def stp (q : Nat) (x : Nat) (d : Int) : Nat :=
  if d = 1 then gainW x (min 1 (ln x)) else if d = 2 then gainW x (older (ln x)) else if d = 3 then (if ln x < q then growW x 1 else x) else if d = 4 then (if ln x < q then x else dropW x (q / 2)) else x
def doW (x : Nat) (q : Int) (l : List Int) : Nat := if room q then l.foldl (stp q.toNat) x else x

theorem hd_lt {x : Nat} (h : x < 18446744073709551616) : hd x < 4294967296 := by unfold hd; omega
theorem tl_lt (x : Nat) : tl x < 4294967296 := by unfold tl; omega
theorem ln_lt (x : Nat) : ln x < 4294967296 := by unfold ln; omega
theorem pk_lt {h t : Nat} (a : h < 4294967296) (b : t < 4294967296) : pk h t < 18446744073709551616 := by unfold pk; omega
theorem hd_pk {h t : Nat} (b : t < 4294967296) : hd (pk h t) = h := by unfold hd pk; omega
theorem tl_pk {h t : Nat} (b : t < 4294967296) : tl (pk h t) = t := by unfold tl pk; omega
theorem pk_eta (x : Nat) : pk (hd x) (tl x) = x := by unfold pk hd tl; omega
theorem gain_lt {x n : Nat} : gainW x n < 18446744073709551616 := pk_lt (Nat.mod_lt _ (by decide)) (tl_lt x)
theorem grow_lt {x n : Nat} (h : x < 18446744073709551616) : growW x n < 18446744073709551616 := pk_lt (hd_lt h) (Nat.mod_lt _ (by decide))
theorem drop_lt {x n : Nat} (h : x < 18446744073709551616) : dropW x n < 18446744073709551616 := pk_lt (hd_lt h) (Nat.mod_lt _ (by decide))
theorem stp_lt {q x : Nat} {d : Int} (h : x < 18446744073709551616) : stp q x d < 18446744073709551616 := by
  unfold stp
  split
  · exact gain_lt
  · split
    · exact gain_lt
    · split
      · split
        · exact grow_lt h
        · exact h
      · split
        · split
          · exact h
          · exact drop_lt h
        · exact h
theorem fold_lt {q : Nat} (l : List Int) : ∀ {x : Nat}, x < 18446744073709551616 → l.foldl (stp q) x < 18446744073709551616 := by
  induction l with
  | nil => intro x h; exact h
  | cons d l ih => intro x h; exact ih (stp_lt h)
theorem do_lt {x : Nat} {q : Int} {l : List Int} (h : x < 18446744073709551616) : doW x q l < 18446744073709551616 := by
  unfold doW; split
  · exact fold_lt l h
  · exact h

theorem or_pack (h t : Nat) (b : t < 4294967296) : (h * 4294967296) ||| t = pk h t := by
  have := Nat.shiftLeft_add_eq_or_of_lt (i := 32) (b := t) b h
  rw [Nat.shiftLeft_eq] at this
  exact this.symm

/-- powers of two -/
theorem and_pred (n : Nat) : ∀ q, q ≤ n → 1 ≤ q → q &&& (q - 1) = 0 → ∃ k, q = 2 ^ k := by
  induction n with
  | zero => intro q h1 h2; omega
  | succ n ih =>
    intro q h1 h2 h
    by_cases e : q % 2 = 0
    · obtain ⟨m, rfl⟩ : ∃ m, q = 2 * m := ⟨q / 2, by omega⟩
      have h3 : (2 * m &&& (2 * m - 1)) / 2 = m &&& (m - 1) := by
        rw [Nat.and_div_two, show (2 * m) / 2 = m by omega, show (2 * m - 1) / 2 = m - 1 by omega]
      rw [h] at h3
      obtain ⟨k, hk⟩ := ih m (by omega) (by omega) h3.symm
      exact ⟨k + 1, by rw [hk, Nat.pow_succ, Nat.mul_comm]⟩
    · obtain ⟨m, rfl⟩ : ∃ m, q = 2 * m + 1 := ⟨q / 2, by omega⟩
      have h3 : ((2 * m + 1) &&& (2 * m + 1 - 1)) / 2 = m := by
        rw [Nat.and_div_two, show (2 * m + 1) / 2 = m by omega, show (2 * m + 1 - 1) / 2 = m by omega, Nat.and_self]
      rw [h] at h3
      exact ⟨0, by omega⟩
theorem pow_room (k : Nat) (h1 : 2 ≤ 2 ^ k) (h2 : 2 ^ k ≤ 65536) : room ((2 ^ k : Nat) : Int) = true := by
  have hk : k ≤ 16 := by
    by_cases h : k ≤ 16
    · exact h
    · have : (2 : Nat) ^ 17 ≤ 2 ^ k := Nat.pow_le_pow_right (by decide) (by omega)
      have e : (2 : Nat) ^ 17 = 131072 := by decide
      omega
  have : k = 0 ∨ k = 1 ∨ k = 2 ∨ k = 3 ∨ k = 4 ∨ k = 5 ∨ k = 6 ∨ k = 7 ∨ k = 8 ∨ k = 9 ∨ k = 10 ∨ k = 11 ∨ k = 12 ∨ k = 13 ∨ k = 14 ∨ k = 15 ∨ k = 16 := by omega
  rcases this with rfl | rfl | rfl | rfl | rfl | rfl | rfl | rfl | rfl | rfl | rfl | rfl | rfl | rfl | rfl | rfl | rfl
  · omega
  all_goals decide
theorem room_and {q : Nat} (h1 : 2 ≤ q) (h2 : q ≤ 65536) (h : q &&& (q - 1) = 0) : room (q : Int) = true := by
  obtain ⟨k, rfl⟩ := and_pred q q (Nat.le_refl _) (by omega) h
  exact pow_room k h1 h2
theorem room_cases {q : Int} (h : room q = true) : q = 2 ∨ q = 4 ∨ q = 8 ∨ q = 16 ∨ q = 32 ∨ q = 64 ∨ q = 128 ∨ q = 256 ∨ q = 512 ∨ q = 1024 ∨ q = 2048 ∨ q = 4096 ∨ q = 8192 ∨ q = 16384 ∨ q = 32768 ∨ q = 65536 := by
  unfold room at h; simp at h; omega
theorem room_bd {q : Int} (h : room q = true) : 2 ≤ q ∧ q ≤ 65536 := by rcases room_cases h with h | h | h | h | h | h | h | h | h | h | h | h | h | h | h | h <;> omega
theorem room_and' {q : Nat} (h : room (q : Int) = true) : q &&& (q - 1) = 0 := by
  have : q = 2 ∨ q = 4 ∨ q = 8 ∨ q = 16 ∨ q = 32 ∨ q = 64 ∨ q = 128 ∨ q = 256 ∨ q = 512 ∨ q = 1024 ∨ q = 2048 ∨ q = 4096 ∨ q = 8192 ∨ q = 16384 ∨ q = 32768 ∨ q = 65536 := by
    rcases room_cases h with h | h | h | h | h | h | h | h | h | h | h | h | h | h | h | h <;> omega
  rcases this with h | h | h | h | h | h | h | h | h | h | h | h | h | h | h | h <;> subst h <;> decide

theorem gain_zero {x : Nat} (h : x < 18446744073709551616) : gainW x 0 = x := by
  unfold gainW; rw [Nat.add_zero, Nat.mod_eq_of_lt (hd_lt h), pk_eta]
theorem stp_get1 {q x : Nat} (h : 0 < ln x) : stp q x 1 = gainW x 1 := by
  unfold stp; rw [if_pos rfl, Nat.min_eq_left h]
theorem stp_get0 {q x : Nat} (hx : x < 18446744073709551616) (h : ¬ 0 < ln x) : stp q x 1 = x := by
  unfold stp; rw [if_pos rfl, show ln x = 0 by omega, Nat.min_eq_right (by decide)]; exact gain_zero hx
theorem stp_two {q x : Nat} : stp q x 2 = gainW x (older (ln x)) := by unfold stp; simp
theorem stp_put1 {q x : Nat} (h : ln x < q) : stp q x 3 = growW x 1 := by unfold stp; simp [h]
theorem stp_put0 {q x : Nat} (h : ¬ ln x < q) : stp q x 3 = x := by unfold stp; simp [h]
theorem stp_cut1 {q x : Nat} (h : ¬ ln x < q) : stp q x 4 = dropW x (q / 2) := by unfold stp; simp [h]
theorem stp_cut0 {q x : Nat} (h : ln x < q) : stp q x 4 = x := by unfold stp; simp [h]
theorem stp_other {q x : Nat} {d : Int} (h : ¬ (1 ≤ d ∧ d ≤ 4)) : stp q x d = x := by
  unfold stp; rw [if_neg (by omega), if_neg (by omega), if_neg (by omega), if_neg (by omega)]
theorem hd_gain {x n : Nat} : hd (gainW x n) = (hd x + n) % 4294967296 := hd_pk (tl_lt x)
theorem tl_gain {x n : Nat} : tl (gainW x n) = tl x := tl_pk (tl_lt x)
theorem hd_grow {x n : Nat} : hd (growW x n) = hd x := hd_pk (Nat.mod_lt _ (by decide))
theorem tl_grow {x n : Nat} : tl (growW x n) = (tl x + n) % 4294967296 := tl_pk (Nat.mod_lt _ (by decide))
theorem hd_drop {x n : Nat} : hd (dropW x n) = hd x := hd_pk (Nat.mod_lt _ (by decide))
theorem tl_drop {x n : Nat} : tl (dropW x n) = (tl x + 4294967296 - n) % 4294967296 := tl_pk (Nat.mod_lt _ (by decide))

/-- a word's places from its from-th on, n at most -/
def pnum (x fr n : Nat) : Nat := if 65536 < ln x then 0 else min n (ln x - fr)
def pat (x fr j : Nat) : Nat := (hd x + fr + j) % 4294967296
def pls (x fr n : Nat) : List Int := (List.range (pnum x fr n)).map fun j => ((pat x fr j : Nat) : Int)
theorem pls_length (x fr n : Nat) : (pls x fr n).length = pnum x fr n := by unfold pls; simp
theorem pnum_zero {x fr n : Nat} (h : 65536 < ln x ∨ ln x ≤ fr) : pnum x fr n = 0 := by
  unfold pnum
  by_cases c : 65536 < ln x
  · rw [if_pos c]
  · rw [if_neg c]; omega
theorem pls_none {x fr n : Nat} (h : 65536 < ln x ∨ ln x ≤ fr) : pls x fr n = [] := by
  unfold pls; rw [pnum_zero h, List.range_zero, List.map_nil]
theorem pls_some {x fr n : Nat} (h : ¬ 65536 < ln x) : pls x fr n = (List.range (min n (ln x - fr))).map fun j => ((pat x fr j : Nat) : Int) := by
  unfold pls pnum; rw [if_neg h]
theorem pnum_le (x fr n : Nat) : pnum x fr n ≤ 65536 := by unfold pnum; split <;> omega
end Go.Wd

/- The plain mathematics of the stage's theorem: a word that comes back kept its older part. It imports nothing of the dump. -/
namespace Go.Wd

theorem ln_gain {x n : Nat} (hx : x < 18446744073709551616) (hn : n ≤ ln x) : ln (gainW x n) = ln x - n := by
  have h1 := hd_lt hx
  have h2 := tl_lt x
  have e : ln (gainW x n) = (tl (gainW x n) + 4294967296 - hd (gainW x n)) % 4294967296 := rfl
  have e2 : ln x = (tl x + 4294967296 - hd x) % 4294967296 := rfl
  rw [hd_gain, tl_gain] at e
  generalize hd x = a at *
  generalize tl x = b at *
  omega
theorem ln_grow {x : Nat} (hx : x < 18446744073709551616) (hn : ln x < 4294967295) : ln (growW x 1) = ln x + 1 := by
  have h1 := hd_lt hx
  have h2 := tl_lt x
  have e : ln (growW x 1) = (tl (growW x 1) + 4294967296 - hd (growW x 1)) % 4294967296 := rfl
  have e2 : ln x = (tl x + 4294967296 - hd x) % 4294967296 := rfl
  rw [hd_grow, tl_grow] at e
  generalize hd x = a at *
  generalize tl x = b at *
  omega
theorem ln_drop {x n : Nat} (hx : x < 18446744073709551616) (hn : n ≤ ln x) : ln (dropW x n) = ln x - n := by
  have h1 := hd_lt hx
  have h2 := tl_lt x
  have e : ln (dropW x n) = (tl (dropW x n) + 4294967296 - hd (dropW x n)) % 4294967296 := rfl
  have e2 : ln x = (tl x + 4294967296 - hd x) % 4294967296 := rfl
  rw [hd_drop, tl_drop] at e
  generalize hd x = a at *
  generalize tl x = b at *
  omega

/-- what holds behind i things done: G places were gained in all; as long as none was, no more than the younger half of a full ring went -/
structure Inv (q n0 h0 i x least : Nat) (gained : Bool) : Prop where
  lt : x < 18446744073709551616
  len : ln x ≤ q
  g : ∃ G, G ≤ 64 * i ∧ hd x = (h0 + G) % 4294967296 ∧ gained = decide (0 < G) ∧ (G = 0 → min n0 (q / 2) ≤ least ∧ min n0 (q / 2) ≤ ln x)

theorem Inv.start {q x : Nat} (hx : x < 18446744073709551616) (hl : ln x ≤ q) : Inv q (ln x) (hd x) 0 x (ln x) false :=
  ⟨hx, hl, 0, by omega, by have := hd_lt hx; omega, rfl, fun _ => ⟨Nat.min_le_left _ _, Nat.min_le_left _ _⟩⟩

theorem Inv.gain {q n0 h0 i x least : Nat} {gained : Bool} (h : Inv q n0 h0 i x least gained) (hq : q ≤ 64) (n : Nat) (hn : n ≤ ln x) :
    Inv q n0 h0 (i + 1) (gainW x n) (min least (ln (gainW x n))) (gained || !(hd (gainW x n) == hd x)) := by
  have hlen := h.len
  obtain ⟨G, h1, h2, h3, h4⟩ := h.g
  have hl := ln_gain h.lt hn
  have hb := hd_lt h.lt
  refine ⟨gain_lt, by omega, G + n, by omega, by rw [hd_gain, h2]; omega, ?_, fun h0 => ?_⟩
  · rw [hd_gain, h3]
    by_cases c : n = 0
    · subst c
      rw [Nat.add_zero, Nat.mod_eq_of_lt hb, Nat.add_zero]; simp
    · have e : ((hd x + n) % 4294967296 == hd x) = false := by
        cases hc : ((hd x + n) % 4294967296 == hd x) with
        | false => rfl
        | true => have := eq_of_beq hc; omega
      rw [e, decide_eq_true (show 0 < G + n by omega)]; simp
  · have hn0 : n = 0 := by omega
    obtain ⟨a, b⟩ := h4 (by omega)
    rw [hl, hn0]; omega
theorem Inv.keep {q n0 h0 i x y least : Nat} {gained : Bool} (h : Inv q n0 h0 i x least gained) (hy : y < 18446744073709551616) (hd1 : hd y = hd x) (hl1 : ln y ≤ q) (hl2 : min n0 (q / 2) ≤ ln x → min n0 (q / 2) ≤ ln y) :
    Inv q n0 h0 (i + 1) y (min least (ln y)) (gained || !(hd y == hd x)) := by
  obtain ⟨G, h1, h2, h3, h4⟩ := h.g
  refine ⟨hy, hl1, G, by omega, by rw [hd1, h2], ?_, fun h0 => ?_⟩
  · rw [hd1]; simp [h3]
  · obtain ⟨a, b⟩ := h4 h0
    have := hl2 b
    omega
theorem Inv.step {q n0 h0 i x least : Nat} {gained : Bool} (h : Inv q n0 h0 i x least gained) (hq : q ≤ 64) (he : q % 2 = 0) (d : Int) :
    Inv q n0 h0 (i + 1) (stp q x d) (min least (ln (stp q x d))) (gained || !(hd (stp q x d) == hd x)) := by
  have hlen := h.len
  by_cases e : 1 ≤ d ∧ d ≤ 4
  · have : d = 1 ∨ d = 2 ∨ d = 3 ∨ d = 4 := by omega
    rcases this with rfl | rfl | rfl | rfl
    · by_cases c : 0 < ln x
      · rw [stp_get1 c]; exact h.gain hq 1 (by omega)
      · rw [stp_get0 h.lt c]; exact h.keep h.lt rfl hlen id
    · rw [stp_two]; exact h.gain hq _ (by unfold older; omega)
    · by_cases c : ln x < q
      · rw [stp_put1 c]
        have := ln_grow h.lt (by omega)
        exact h.keep (grow_lt h.lt) hd_grow (by omega) (by omega)
      · rw [stp_put0 c]; exact h.keep h.lt rfl hlen id
    · by_cases c : ln x < q
      · rw [stp_cut0 c]; exact h.keep h.lt rfl hlen id
      · rw [stp_cut1 c]
        have := ln_drop (n := q / 2) h.lt (by omega)
        exact h.keep (drop_lt h.lt) hd_drop (by omega) (by omega)
  · rw [stp_other e]; exact h.keep h.lt rfl hlen id
theorem Inv.back {q i x0 least : Nat} {gained : Bool} (h : Inv q (ln x0) (hd x0) i x0 least gained) (hi : i ≤ 200) (hx : x0 < 18446744073709551616) (he : q % 2 = 0) : gained = false ∧ older (ln x0) ≤ least := by
  have hlen := h.len
  obtain ⟨G, h1, h2, h3, h4⟩ := h.g
  have hb := hd_lt hx
  have hG : G = 0 := by omega
  subst hG
  refine ⟨h3, ?_⟩
  obtain ⟨a, _⟩ := h4 rfl
  unfold older
  omega
end Go.Wd

/- Plain: accesses of cells, done and done again (layer 6). -/
namespace Go.Ce

/-- an access: its kind, its address, what stood there, what stands there -/
structure Acc where
  k : Int
  a : Int
  o : Int
  n : Int
instance : Inhabited Acc := ⟨⟨0, 0, 0, 0⟩⟩
/-- what stands in a cell behind accesses -/
def atV (xs : List Acc) (a : Int) : Int := xs.foldl (fun v x => if x.a = a then x.n else v) 0
theorem atV_nil (a : Int) : atV [] a = 0 := rfl
theorem atV_more (xs : List Acc) (x : Acc) (a : Int) : atV (xs ++ [x]) a = if x.a = a then x.n else atV xs a := by
  unfold atV; rw [List.foldl_append]; rfl
theorem atV_tail (xs ys : List Acc) (a : Int) (h : ∀ y ∈ ys, y.a ≠ a) : atV (xs ++ ys) a = atV xs a := by
  induction ys generalizing xs with
  | nil => rw [List.append_nil]
  | cons y r ih =>
    rw [show xs ++ y :: r = (xs ++ [y]) ++ r by simp, ih _ (fun z hz => h z (List.mem_cons_of_mem _ hz)), atV_more, if_neg (h y List.mem_cons_self)]
theorem atV_hit {xs : List Acc} {a : Int} {i : Nat} (hi : i < xs.length) (hx : (xs.getD i default).a = a) (h : ∀ j, i < j → j < xs.length → (xs.getD j default).a ≠ a) : atV xs a = (xs.getD i default).n := by
  have e : xs = (xs.take i ++ [xs.getD i default]) ++ xs.drop (i + 1) := by
    have h1 : xs.take i ++ [xs.getD i default] = xs.take (i + 1) := by
      rw [List.take_succ_eq_append_getElem hi]; simp [List.getD, hi]
    rw [h1, List.take_append_drop]
  have h2 : ∀ y ∈ xs.drop (i + 1), y.a ≠ a := by
    intro y hy
    obtain ⟨j, hj, rfl⟩ := List.mem_iff_getElem.1 hy
    rw [List.length_drop] at hj
    have := h (i + 1 + j) (by omega) (by omega)
    rw [List.getElem_drop]
    have hl : i + 1 + j < xs.length := by omega
    simpa [List.getD, hl] using this
  rw [e, atV_tail _ _ _ h2, atV_more, if_pos hx, ← e]
theorem atV_miss {xs : List Acc} {a : Int} (h : ∀ j, j < xs.length → (xs.getD j default).a ≠ a) : atV xs a = 0 := by
  have := atV_tail [] xs a (fun y hy => by
    obtain ⟨j, hj, rfl⟩ := List.mem_iff_getElem.1 hy
    have := h j hj
    simpa [List.getD, hj] using this)
  rw [List.nil_append] at this
  exact this
/-- is there such an address, and such a kind? -/
def Bad (N : Int) (k a : Int) : Prop := a < 0 ∨ N ≤ a ∨ k < 1 ∨ 4 < k
instance (N k a : Int) : Decidable (Bad N k a) := by unfold Bad; infer_instance
/-- the access -/
def accV (xs : List Acc) (k a old x : Int) : Acc :=
  ⟨k, a, atV xs a, if k = 2 ∨ k = 3 ∧ atV xs a = old then x else if k = 4 then IntKind.u64.wrap (atV xs a + x) else atV xs a⟩
/-- behind it -/
def doL (N : Int) (xs : List Acc) (k a old x : Int) : List Acc := if Bad N k a then xs else xs ++ [accV xs k a old x]
def doE (N : Int) (xs : List Acc) (k a old x : Int) : Acc := if Bad N k a then ⟨0, 0, 0, 0⟩ else accV xs k a old x
theorem doL_bad {N k a : Int} (h : Bad N k a) (xs : List Acc) (old x : Int) : doL N xs k a old x = xs := by unfold doL; rw [if_pos h]
theorem doL_ok {N k a : Int} (h : ¬ Bad N k a) (xs : List Acc) (old x : Int) : doL N xs k a old x = xs ++ [accV xs k a old x] := by unfold doL; rw [if_neg h]
theorem doE_bad {N k a : Int} (h : Bad N k a) (xs : List Acc) (old x : Int) : doE N xs k a old x = ⟨0, 0, 0, 0⟩ := by unfold doE; rw [if_pos h]
theorem doE_ok {N k a : Int} (h : ¬ Bad N k a) (xs : List Acc) (old x : Int) : doE N xs k a old x = accV xs k a old x := by unfold doE; rw [if_neg h]
theorem doL_len (N : Int) (xs : List Acc) (k a old x : Int) : (doL N xs k a old x).length ≤ xs.length + 1 := by
  unfold doL; split
  · omega
  · simp
/-- may an access be done again? -/
def Stuck (N : Int) (xs : List Acc) (e : Acc) : Prop := Bad N e.k e.a ∨ atV xs e.a ≠ e.o ∨ e.k = 1 ∧ e.n ≠ e.o
instance (N : Int) (xs : List Acc) (e : Acc) : Decidable (Stuck N xs e) := by unfold Stuck; infer_instance
/-- what is told when it is done again -/
def tellV (e : Acc) : Int := if e.k = 4 then IntKind.u64.wrap (e.n - e.o) else e.n
/-- done again: the accesses behind it, and how many were done -/
def redoV (N : Int) (xs : List Acc) : List Acc → List Acc × Nat
  | [] => (xs, 0)
  | e :: l => if Stuck N xs e then (xs, 0) else
    let r := redoV N (doL N xs e.k e.a e.o (tellV e)) l
    (r.1, r.2 + 1)
theorem redoV_nil (N : Int) (xs : List Acc) : redoV N xs [] = (xs, 0) := rfl
theorem redoV_stuck {N : Int} {xs : List Acc} {e : Acc} (h : Stuck N xs e) (l : List Acc) : redoV N xs (e :: l) = (xs, 0) := by unfold redoV; rw [if_pos h]
theorem redoV_go {N : Int} {xs : List Acc} {e : Acc} (h : ¬ Stuck N xs e) (l : List Acc) : redoV N xs (e :: l) = ((redoV N (doL N xs e.k e.a e.o (tellV e)) l).1, (redoV N (doL N xs e.k e.a e.o (tellV e)) l).2 + 1) := by
  rw [redoV, if_neg h]
theorem redoV_len (N : Int) (xs l : List Acc) : (redoV N xs l).1.length ≤ xs.length + l.length ∧ (redoV N xs l).2 ≤ l.length := by
  induction l generalizing xs with
  | nil => simp [redoV]
  | cons e l ih =>
    by_cases h : Stuck N xs e
    · rw [redoV_stuck h]; simp
    · rw [redoV_go h]
      have := ih (doL N xs e.k e.a e.o (tellV e))
      have h2 := doL_len N xs e.k e.a e.o (tellV e)
      simp only [List.length_cons]
      omega
/-- cells, as a row of numbers: what all accesses left there -/
def setV (cs : List Int) (a : Int) (v : Int) : List Int := cs.set a.toNat v
def allV (N : Nat) (xs : List Acc) : List Int := xs.foldl (fun cs x => setV cs x.a x.n) (List.replicate N 0)
theorem allV_more (N : Nat) (xs : List Acc) (x : Acc) : allV N (xs ++ [x]) = setV (allV N xs) x.a x.n := by unfold allV; rw [List.foldl_append]; rfl
theorem allV_length (N : Nat) (xs : List Acc) : (allV N xs).length = N := by
  unfold allV
  have : ∀ (cs : List Int), (xs.foldl (fun cs x => setV cs x.a x.n) cs).length = cs.length := by
    induction xs with
    | nil => intro cs; rfl
    | cons x r ih => intro cs; rw [List.foldl_cons, ih]; unfold setV; simp
  rw [this]; simp
/-- all accesses have addresses that there are -/
def InN (N : Nat) (xs : List Acc) : Prop := ∀ x ∈ xs, 0 ≤ x.a ∧ x.a < N
theorem allV_at {N : Nat} {xs : List Acc} (h : InN N xs) (i : Nat) (hi : i < N) : (allV N xs).getD i 0 = atV xs i := by
  obtain ⟨ys, rfl⟩ : ∃ ys, xs = ys.reverse := ⟨xs.reverse, by simp⟩
  induction ys with
  | nil => simp [allV, atV, List.getD, hi]
  | cons x r ih =>
    rw [List.reverse_cons] at h ⊢
    have hr : InN N r.reverse := fun y hy => h y (List.mem_append_left _ hy)
    have hx := h x (by simp)
    rw [allV_more, atV_more]
    unfold setV
    by_cases e : x.a = i
    · rw [if_pos e]
      have : x.a.toNat = i := by omega
      rw [this]
      have hl := allV_length N r.reverse
      simp [List.getD, hl, hi]
    · rw [if_neg e, ← ih hr]
      have : x.a.toNat ≠ i := by omega
      simp [List.getD, this]
end Go.Ce

/- Plain: a memory as it lies (cells, counts, a ring of accesses), and how it goes beside the row of all accesses (layer 6). -/
namespace Go.Ce

/-- counts -/
structure Cnt where
  l : Nat
  s : Nat
  w : Nat
  f : Nat
  a : Nat
def Cnt.ops (k : Cnt) : Nat := k.l + k.s + k.w + k.f + k.a
def cnt0 : Cnt := ⟨0, 0, 0, 0, 0⟩
/-- a memory: its cells, its counts, its ring -/
structure PM where
  cs : List Int
  k : Cnt
  L : List Acc
def PM.new (N : Nat) : PM := ⟨List.replicate N 0, cnt0, List.replicate 256 default⟩
/-- is there such an address? -/
def PM.Has (m : PM) (a : Int) : Prop := 0 ≤ a ∧ a < m.cs.length
instance (m : PM) (a : Int) : Decidable (m.Has a) := by unfold PM.Has; infer_instance
def PM.at (m : PM) (a : Int) : Int := m.cs.getD a.toNat 0
/-- behind an access that leaves v, with new counts -/
def PM.acc (m : PM) (kind a v : Int) (j : Cnt) : PM := ⟨m.cs.set a.toNat v, j, m.L.set (m.k.ops % 256) ⟨kind, a, m.at a, v⟩⟩
def PM.load (m : PM) (a : Int) : PM := if m.Has a then m.acc 1 a (m.at a) { m.k with l := m.k.l + 1 } else m
def PM.store (m : PM) (a v : Int) : PM := if m.Has a then m.acc 2 a v { m.k with s := m.k.s + 1 } else m
def PM.cas (m : PM) (a old v : Int) : PM := if m.Has a then (if m.at a = old then m.acc 3 a v { m.k with w := m.k.w + 1 } else m.acc 3 a (m.at a) { m.k with f := m.k.f + 1 }) else m
def PM.add (m : PM) (a d : Int) : PM := if m.Has a then m.acc 4 a (IntKind.u64.wrap (m.at a + d)) { m.k with a := m.k.a + 1 } else m
def PM.ans (m : PM) (a : Int) : Int := if m.Has a then m.at a else 0
def PM.hit (m : PM) (a old : Int) : Prop := m.Has a ∧ m.at a = old
instance (m : PM) (a old : Int) : Decidable (m.hit a old) := by unfold PM.hit; infer_instance
/-- what one call does -/
def PM.go (m : PM) (kind a old x : Int) : PM := if kind = 1 then m.load a else if kind = 2 then m.store a x else if kind = 3 then m.cas a old x else if kind = 4 then m.add a x else m

theorem acc_len (m : PM) (kind a v : Int) (j : Cnt) : (m.acc kind a v j).cs.length = m.cs.length ∧ (m.acc kind a v j).L.length = m.L.length := by unfold PM.acc; simp
theorem load_no {m : PM} {a : Int} (h : ¬ m.Has a) : m.load a = m := by unfold PM.load; rw [if_neg h]
theorem load_yes {m : PM} {a : Int} (h : m.Has a) : m.load a = m.acc 1 a (m.at a) { m.k with l := m.k.l + 1 } := by unfold PM.load; rw [if_pos h]
theorem store_no {m : PM} {a : Int} (h : ¬ m.Has a) (v : Int) : m.store a v = m := by unfold PM.store; rw [if_neg h]
theorem store_yes {m : PM} {a : Int} (h : m.Has a) (v : Int) : m.store a v = m.acc 2 a v { m.k with s := m.k.s + 1 } := by unfold PM.store; rw [if_pos h]
theorem cas_no {m : PM} {a : Int} (h : ¬ m.Has a) (old v : Int) : m.cas a old v = m := by unfold PM.cas; rw [if_neg h]
theorem cas_hit {m : PM} {a : Int} (h : m.Has a) {old : Int} (he : m.at a = old) (v : Int) : m.cas a old v = m.acc 3 a v { m.k with w := m.k.w + 1 } := by unfold PM.cas; rw [if_pos h, if_pos he]
theorem cas_miss {m : PM} {a : Int} (h : m.Has a) {old : Int} (he : m.at a ≠ old) (v : Int) : m.cas a old v = m.acc 3 a (m.at a) { m.k with f := m.k.f + 1 } := by unfold PM.cas; rw [if_pos h, if_neg he]
theorem add_no {m : PM} {a : Int} (h : ¬ m.Has a) (d : Int) : m.add a d = m := by unfold PM.add; rw [if_neg h]
theorem add_yes {m : PM} {a : Int} (h : m.Has a) (d : Int) : m.add a d = m.acc 4 a (IntKind.u64.wrap (m.at a + d)) { m.k with a := m.k.a + 1 } := by unfold PM.add; rw [if_pos h]
theorem go_len (m : PM) (kind a old x : Int) : (m.go kind a old x).cs.length = m.cs.length := by
  unfold PM.go PM.load PM.store PM.cas PM.add
  repeat' split
  all_goals first | rfl | exact (acc_len ..).1
theorem go_ll (m : PM) (kind a old x : Int) : (m.go kind a old x).L.length = m.L.length := by
  unfold PM.go PM.load PM.store PM.cas PM.add
  repeat' split
  all_goals first | rfl | exact (acc_len ..).2
theorem go_ops (m : PM) (kind a old x : Int) : (m.go kind a old x).k.ops ≤ m.k.ops + 1 ∧ m.k.ops ≤ (m.go kind a old x).k.ops := by
  unfold PM.go PM.load PM.store PM.cas PM.add PM.acc
  repeat' split
  all_goals (simp only [Cnt.ops]; omega)

/-- beside all accesses -/
structure Tied (m : PM) (N : Nat) (xs : List Acc) : Prop where
  len : m.cs.length = N
  ll : m.L.length = 256
  ops : m.k.ops = xs.length
  cs : ∀ i : Nat, i < N → m.cs.getD i 0 = atV xs i
  log : ∀ j, j < xs.length → xs.length ≤ j + 256 → m.L.getD (j % 256) default = xs.getD j default
  inn : InN N xs
theorem Tied.new (N : Nat) : Tied (PM.new N) N [] := by
  refine ⟨List.length_replicate .., List.length_replicate .., rfl, fun i hi => ?_, fun j hj => by simp at hj, fun x hx => by simp at hx⟩
  show (List.replicate N (0 : Int)).getD i 0 = 0
  simp [List.getD, hi]
theorem Tied.has {m : PM} {N : Nat} {xs : List Acc} (h : Tied m N xs) (a : Int) : m.Has a ↔ 0 ≤ a ∧ a < N := by unfold PM.Has; rw [h.len]
theorem Tied.at {m : PM} {N : Nat} {xs : List Acc} (h : Tied m N xs) {a : Int} (ha : 0 ≤ a ∧ a < N) : m.at a = atV xs a := by
  unfold PM.at; rw [h.cs _ (by omega), Int.toNat_of_nonneg ha.1]
theorem Tied.more {m : PM} {N : Nat} {xs : List Acc} (h : Tied m N xs) {a : Int} (ha : 0 ≤ a ∧ a < N) (kind v : Int) (j : Cnt) (hj : j.ops = m.k.ops + 1) : Tied (m.acc kind a v j) N (xs ++ [⟨kind, a, atV xs a, v⟩]) := by
  have hat := h.at ha
  refine ⟨by rw [(acc_len ..).1, h.len], by rw [(acc_len ..).2, h.ll], by show j.ops = _; rw [hj, h.ops]; simp, fun i hi => ?_, fun q hq hq2 => ?_, fun x hx => ?_⟩
  · show (m.cs.set a.toNat v).getD i 0 = _
    rw [atV_more]
    by_cases e : a = i
    · rw [if_pos (show (⟨kind, a, atV xs a, v⟩ : Acc).a = i from e)]
      have : a.toNat = i := by omega
      rw [this]; simp [List.getD, h.len, hi]
    · rw [if_neg (show ¬ (⟨kind, a, atV xs a, v⟩ : Acc).a = i from e), ← h.cs i hi]
      have : a.toNat ≠ i := by omega
      simp [List.getD, this]
  · simp only [List.length_append, List.length_singleton] at hq hq2
    show (m.L.set (m.k.ops % 256) ⟨kind, a, m.at a, v⟩).getD (q % 256) default = _
    rw [hat, h.ops]
    by_cases e : q = xs.length
    · subst e
      have : xs.length % 256 < m.L.length := by rw [h.ll]; omega
      simp [List.getD, this]
    · have h1 : xs.length % 256 ≠ q % 256 := by omega
      have h2 := h.log q (by omega) (by omega)
      rw [List.getD_eq_getElem?_getD, List.getElem?_set_ne h1, ← List.getD_eq_getElem?_getD, h2]
      have : q < xs.length := by omega
      simp [List.getD, this, List.getElem?_append_left]
  · rcases List.mem_append.1 hx with hx | hx
    · exact h.inn x hx
    · simp at hx; subst hx; exact ha
/-- one call, and the reference's -/
theorem Tied.go {m : PM} {N : Nat} {xs : List Acc} (h : Tied m N xs) (kind a old x : Int) : Tied (m.go kind a old x) N (doL N xs kind a old x) := by
  by_cases hb : Bad N kind a
  · rw [doL_bad hb]
    have hc : ¬ m.Has a ∨ (kind ≠ 1 ∧ kind ≠ 2 ∧ kind ≠ 3 ∧ kind ≠ 4) := by rw [h.has]; unfold Bad at hb; omega
    have : m.go kind a old x = m := by
      unfold PM.go
      rcases hc with hc | hc
      · rw [load_no hc, store_no hc, cas_no hc, add_no hc]; repeat' split
        all_goals rfl
      · rw [if_neg hc.1, if_neg hc.2.1, if_neg hc.2.2.1, if_neg hc.2.2.2]
    rw [this]; exact h
  · rw [doL_ok hb]
    have ha : 0 ≤ a ∧ a < N := by unfold Bad at hb; omega
    have hh : m.Has a := (h.has a).2 ha
    have hat := h.at ha
    have hk : kind = 1 ∨ kind = 2 ∨ kind = 3 ∨ kind = 4 := by unfold Bad at hb; omega
    rcases hk with rfl | rfl | rfl | rfl
    · have e : m.go 1 a old x = m.acc 1 a (atV xs a) { m.k with l := m.k.l + 1 } := by unfold PM.go; rw [if_pos rfl, load_yes hh, hat]
      have e2 : accV xs 1 a old x = ⟨1, a, atV xs a, atV xs a⟩ := by unfold accV; simp
      rw [e, e2]; exact h.more ha _ _ _ (by simp only [Cnt.ops]; omega)
    · have e : m.go 2 a old x = m.acc 2 a x { m.k with s := m.k.s + 1 } := by unfold PM.go; rw [if_neg (by decide), if_pos rfl, store_yes hh]
      have e2 : accV xs 2 a old x = ⟨2, a, atV xs a, x⟩ := by unfold accV; simp
      rw [e, e2]; exact h.more ha _ _ _ (by simp only [Cnt.ops]; omega)
    · by_cases he : atV xs a = old
      · have e : m.go 3 a old x = m.acc 3 a x { m.k with w := m.k.w + 1 } := by unfold PM.go; rw [if_neg (by decide), if_neg (by decide), if_pos rfl, cas_hit hh (by rw [hat]; exact he)]
        have e2 : accV xs 3 a old x = ⟨3, a, atV xs a, x⟩ := by unfold accV; simp [he]
        rw [e, e2]; exact h.more ha _ _ _ (by simp only [Cnt.ops]; omega)
      · have e : m.go 3 a old x = m.acc 3 a (atV xs a) { m.k with f := m.k.f + 1 } := by unfold PM.go; rw [if_neg (by decide), if_neg (by decide), if_pos rfl, cas_miss hh (by rw [hat]; exact he), hat]
        have e2 : accV xs 3 a old x = ⟨3, a, atV xs a, atV xs a⟩ := by unfold accV; simp [he]
        rw [e, e2]; exact h.more ha _ _ _ (by simp only [Cnt.ops]; omega)
    · have e : m.go 4 a old x = m.acc 4 a (IntKind.u64.wrap (atV xs a + x)) { m.k with a := m.k.a + 1 } := by unfold PM.go; rw [if_neg (by decide), if_neg (by decide), if_neg (by decide), if_pos rfl, add_yes hh, hat]
      have e2 : accV xs 4 a old x = ⟨4, a, atV xs a, IntKind.u64.wrap (atV xs a + x)⟩ := by unfold accV; simp
      rw [e, e2]; exact h.more ha _ _ _ (by simp only [Cnt.ops]; omega)
/-- the cells are the reference's -/
theorem Tied.all {m : PM} {N : Nat} {xs : List Acc} (h : Tied m N xs) : m.cs = allV N xs := by
  apply List.ext_getElem?
  intro i
  by_cases hi : i < N
  · have h1 := h.cs i hi
    rw [← allV_at h.inn i hi] at h1
    have l1 : i < m.cs.length := by rw [h.len]; exact hi
    have l2 : i < (allV N xs).length := by rw [allV_length]; exact hi
    simpa [List.getD, l1, l2] using h1
  · rw [List.getElem?_eq_none (by rw [h.len]; omega), List.getElem?_eq_none (by rw [allV_length]; omega)]
/-- what is answered -/
theorem Tied.ans {m : PM} {N : Nat} {xs : List Acc} (h : Tied m N xs) (kind a old x : Int) (hk : 1 ≤ kind ∧ kind ≤ 4) : m.ans a = (doE N xs kind a old x).o := by
  unfold PM.ans
  by_cases ha : 0 ≤ a ∧ a < N
  · rw [if_pos ((h.has a).2 ha), h.at ha, doE_ok (by unfold Bad; omega)]; rfl
  · rw [if_neg (fun hh => ha ((h.has a).1 hh)), doE_bad (by unfold Bad; omega)]
theorem Tied.hit {m : PM} {N : Nat} {xs : List Acc} (h : Tied m N xs) (a old x : Int) : m.hit a old ↔ (¬ Bad N 3 a ∧ (doE N xs 3 a old x).k = 3 ∧ (doE N xs 3 a old x).o = old) := by
  unfold PM.hit
  by_cases ha : 0 ≤ a ∧ a < N
  · have hb : ¬ Bad N 3 a := by unfold Bad; omega
    rw [doE_ok hb, h.at ha, h.has]
    show _ ↔ _ ∧ (3 : Int) = 3 ∧ atV xs a = old
    simp [ha, hb]
  · have hb : Bad N 3 a := by unfold Bad; omega
    rw [h.has]; simp [ha, hb]
end Go.Ce

/- Plain: a memory's cells and number of accesses, as the reference goes (layer 6). -/
namespace Go.Ce

theorem set_same (cs : List Int) (i : Nat) : cs.set i (cs.getD i 0) = cs := by
  by_cases h : i < cs.length
  · simp [List.getD, h]
  · rw [List.set_eq_of_length_le (by omega)]
theorem go_load {m : PM} {a o x : Int} (h : m.Has a) : (m.go 1 a o x).cs = m.cs ∧ (m.go 1 a o x).k.ops = m.k.ops + 1 := by
  have e : m.go 1 a o x = m.acc 1 a (m.at a) { m.k with l := m.k.l + 1 } := by unfold PM.go; rw [if_pos rfl, load_yes h]
  rw [e]
  exact ⟨set_same m.cs a.toNat, by simp only [PM.acc, Cnt.ops]; omega⟩
theorem go_store {m : PM} {a o x : Int} (h : m.Has a) : (m.go 2 a o x).cs = m.cs.set a.toNat x ∧ (m.go 2 a o x).k.ops = m.k.ops + 1 := by
  have e : m.go 2 a o x = m.acc 2 a x { m.k with s := m.k.s + 1 } := by unfold PM.go; rw [if_neg (by decide), if_pos rfl, store_yes h]
  rw [e]
  exact ⟨rfl, by simp only [PM.acc, Cnt.ops]; omega⟩
theorem go_hit {m : PM} {a o x : Int} (h : m.Has a) (he : m.at a = o) : (m.go 3 a o x).cs = m.cs.set a.toNat x ∧ (m.go 3 a o x).k.ops = m.k.ops + 1 := by
  have e : m.go 3 a o x = m.acc 3 a x { m.k with w := m.k.w + 1 } := by unfold PM.go; rw [if_neg (by decide), if_neg (by decide), if_pos rfl, cas_hit h he]
  rw [e]
  exact ⟨rfl, by simp only [PM.acc, Cnt.ops]; omega⟩
theorem go_miss {m : PM} {a o x : Int} (h : m.Has a) (he : m.at a ≠ o) : (m.go 3 a o x).cs = m.cs ∧ (m.go 3 a o x).k.ops = m.k.ops + 1 := by
  have e : m.go 3 a o x = m.acc 3 a (m.at a) { m.k with f := m.k.f + 1 } := by unfold PM.go; rw [if_neg (by decide), if_neg (by decide), if_pos rfl, cas_miss h he]
  rw [e]
  exact ⟨set_same m.cs a.toNat, by simp only [PM.acc, Cnt.ops]; omega⟩
theorem go_add {m : PM} {a o x : Int} (h : m.Has a) : (m.go 4 a o x).cs = m.cs.set a.toNat (IntKind.u64.wrap (m.at a + x)) ∧ (m.go 4 a o x).k.ops = m.k.ops + 1 := by
  have e : m.go 4 a o x = m.acc 4 a (IntKind.u64.wrap (m.at a + x)) { m.k with a := m.k.a + 1 } := by unfold PM.go; rw [if_neg (by decide), if_neg (by decide), if_neg (by decide), if_pos rfl, add_yes h]
  rw [e]
  exact ⟨rfl, by simp only [PM.acc, Cnt.ops]; omega⟩
theorem go_not {m : PM} {k a o x : Int} (h : ¬ m.Has a ∨ (k ≠ 1 ∧ k ≠ 2 ∧ k ≠ 3 ∧ k ≠ 4)) : m.go k a o x = m := by
  unfold PM.go
  rcases h with hc | hc
  · rw [load_no hc, store_no hc, cas_no hc, add_no hc]; repeat' split
    all_goals rfl
  · rw [if_neg hc.1, if_neg hc.2.1, if_neg hc.2.2.1, if_neg hc.2.2.2]
end Go.Ce

/- Plain: a put and a lay, step by step, beside a memory; a ring's numbers (layer 9). It imports nothing of the dump. -/
namespace Go.Pu
open Go.Ce Go.Cg Go.Wd

/-- the address of a P's word, and of its slot of place i -/
def aW (c : Cfg) (p : Int) : Int := 4 + p * (6 + c.q)
def aS (c : Cfg) (p : Int) (i : Nat) : Int := 4 + p * (6 + c.q) + 6 + (i : Int) % c.q
/-- is there such a P? -/
def rB (c : Cfg) : Bool := decide ((c.q = 2 ∨ c.q = 4 ∨ c.q = 8 ∨ c.q = 16 ∨ c.q = 32 ∨ c.q = 64) ∧ (1 ≤ c.n ∧ c.n ≤ 8) ∧ (1 ≤ c.g ∧ c.g ≤ 256) ∧ (c.n < c.m ∧ c.m ≤ 16) ∧ (2 ≤ c.t ∧ c.t ≤ 200) ∧ (0 ≤ c.s ∧ c.s ≤ 1000))
theorem rB_iff {c : Cfg} : rB c = true ↔ Right c := by
  unfold rB
  rw [decide_eq_true_iff]
  exact ⟨fun ⟨a, b, d, e, f, g⟩ => ⟨a, b, d, e, f, g⟩, fun ⟨a, b, d, e, f, g⟩ => ⟨a, b, d, e, f, g⟩⟩
def thB (c : Cfg) (p : Int) : Bool := rB c && decide (0 ≤ p ∧ p < c.n)
theorem thB_iff {c : Cfg} {p : Int} : thB c p = true ↔ Right c ∧ 0 ≤ p ∧ p < c.n := by
  unfold thB
  rw [Bool.and_eq_true, rB_iff, decide_eq_true_iff]
theorem aW_pl {c : Cfg} {p : Int} (h : Right c ∧ 0 ≤ p ∧ p < c.n) : plV c p 0 = aW c p := by rw [plV_yes h]; unfold aW; simp
theorem aS_sl {c : Cfg} {p : Int} (h : Right c ∧ 0 ≤ p ∧ p < c.n) (i : Nat) : slP c p i = aS c p i := by rw [slP_yes h]; rfl

/-- a put: a is where it is (0 done, 1 look, 2 lay, 3 swing, 4 take, 5 cut) -/
structure PS where
  c : Cfg
  p : Int
  g : Int
  a : Nat
  w : Nat
  t : List Int
  h : List Int
def cfg0 : Cfg := ⟨0, 0, 0, 0, 0, 0⟩
def PS.zero : PS := ⟨cfg0, 0, 0, 0, 0, [], []⟩
def newP (c : Cfg) (p g : Int) : PS := if thB c p = true ∧ 0 ≤ g then ⟨c, p, g, 1, 0, [], [g]⟩ else PS.zero
def PS.wa (x : PS) : Int := aW x.c x.p
def PS.q (x : PS) : Nat := x.c.q.toNat
/-- the place that is taken next -/
def PS.tp (x : PS) : Nat := (tl x.w + 4294967296 - x.q / 2 + x.t.length) % 4294967296
def PS.over (x : PS) : List Int := if x.a = 0 then x.h else []
def stepP (x : PS) (m : PM) : PS × PM :=
  if x.a = 1 then ({ x with w := (m.ans x.wa).toNat, t := [], a := if ln (m.ans x.wa).toNat < x.q then 2 else 4 }, m.load x.wa)
  else if x.a = 2 then ({ x with a := 3 }, m.store (aS x.c x.p (tl x.w)) (IntKind.u64.wrap x.g))
  else if x.a = 3 then (if m.hit x.wa x.w then { x with a := 0, h := [] } else { x with a := 1 }, m.cas x.wa x.w (growW x.w 1))
  else if x.a = 4 then ({ x with t := x.t ++ [IntKind.i64.wrap (m.ans (aS x.c x.p x.tp))], a := if x.t.length + 1 = x.q / 2 then 5 else 4 }, m.load (aS x.c x.p x.tp))
  else if x.a = 5 then (if m.hit x.wa x.w then { x with a := 0, h := x.t ++ [x.g] } else { x with a := 1 }, m.cas x.wa x.w (dropW x.w (x.q / 2)))
  else (x, m)
theorem step0 {x : PS} (h : x.a = 0) (m : PM) : stepP x m = (x, m) := by unfold stepP; simp [h]
theorem step1 {x : PS} (h : x.a = 1) (m : PM) : stepP x m = ({ x with w := (m.ans x.wa).toNat, t := [], a := if ln (m.ans x.wa).toNat < x.q then 2 else 4 }, m.load x.wa) := by unfold stepP; rw [if_pos h]
theorem step2 {x : PS} (h : x.a = 2) (m : PM) : stepP x m = ({ x with a := 3 }, m.store (aS x.c x.p (tl x.w)) (IntKind.u64.wrap x.g)) := by unfold stepP; rw [if_neg (by omega), if_pos h]
theorem step3 {x : PS} (h : x.a = 3) (m : PM) : stepP x m = (if m.hit x.wa x.w then { x with a := 0, h := [] } else { x with a := 1 }, m.cas x.wa x.w (growW x.w 1)) := by unfold stepP; rw [if_neg (by omega), if_neg (by omega), if_pos h]
theorem step4 {x : PS} (h : x.a = 4) (m : PM) : stepP x m = ({ x with t := x.t ++ [IntKind.i64.wrap (m.ans (aS x.c x.p x.tp))], a := if x.t.length + 1 = x.q / 2 then 5 else 4 }, m.load (aS x.c x.p x.tp)) := by unfold stepP; rw [if_neg (by omega), if_neg (by omega), if_neg (by omega), if_pos h]
theorem step5 {x : PS} (h : x.a = 5) (m : PM) : stepP x m = (if m.hit x.wa x.w then { x with a := 0, h := x.t ++ [x.g] } else { x with a := 1 }, m.cas x.wa x.w (dropW x.w (x.q / 2))) := by unfold stepP; rw [if_neg (by omega), if_neg (by omega), if_neg (by omega), if_neg (by omega), if_pos h]
/-- what holds of a put at all times -/
structure PS.Ok (x : PS) : Prop where
  a : x.a ≤ 5
  th : x.a ≠ 0 → (Right x.c ∧ 0 ≤ x.p ∧ x.p < x.c.n) ∧ 0 ≤ x.g
  w : x.w < 18446744073709551616
  t4 : x.a = 4 → x.t.length < x.q / 2
  t5 : x.a = 5 → x.t.length = x.q / 2
  few : x.t.length ≤ 32
/-- all numbers are such of 64 digits -/
def U64 (m : PM) : Prop := ∀ z ∈ m.cs, 0 ≤ z ∧ z < 18446744073709551616
theorem U64.at {m : PM} (h : U64 m) (a : Int) : 0 ≤ m.at a ∧ m.at a < 18446744073709551616 := by
  unfold PM.at
  rcases Nat.lt_or_ge a.toNat m.cs.length with hl | hl
  · have e : m.cs.getD a.toNat 0 = m.cs[a.toNat] := by simp [List.getD, hl]
    rw [e]; exact h _ (List.getElem_mem hl)
  · have e : m.cs.getD a.toNat 0 = 0 := by simp [List.getD, hl]
    rw [e]; omega
theorem U64.ans {m : PM} (h : U64 m) (a : Int) : 0 ≤ m.ans a ∧ m.ans a < 18446744073709551616 := by
  unfold PM.ans; split
  · exact h.at a
  · omega
theorem U64.acc {m : PM} (h : U64 m) (kind a v : Int) (k : Cnt) (hv : 0 ≤ v ∧ v < 18446744073709551616) : U64 (m.acc kind a v k) := by
  intro z hz
  have hz' : z ∈ m.cs.set a.toNat v := hz
  rcases List.mem_or_eq_of_mem_set hz' with h1 | rfl
  · exact h z h1
  · exact hv
theorem U64.load {m : PM} (h : U64 m) (a : Int) : U64 (m.load a) := by
  unfold PM.load; split
  · exact h.acc _ _ _ _ (h.at a)
  · exact h
theorem U64.store {m : PM} (h : U64 m) (a v : Int) (hv : 0 ≤ v ∧ v < 18446744073709551616) : U64 (m.store a v) := by
  unfold PM.store; split
  · exact h.acc _ _ _ _ hv
  · exact h
theorem U64.cas {m : PM} (h : U64 m) (a o v : Int) (hv : 0 ≤ v ∧ v < 18446744073709551616) : U64 (m.cas a o v) := by
  unfold PM.cas; split
  · split
    · exact h.acc _ _ _ _ hv
    · exact h.acc _ _ _ _ (h.at a)
  · exact h
theorem u64_rng (z : Int) : 0 ≤ IntKind.u64.wrap z ∧ IntKind.u64.wrap z < 18446744073709551616 := by
  have e : IntKind.u64.wrap z = z % 18446744073709551616 := by simp [IntKind.wrap, IntKind.bits, IntKind.signed]
  rw [e]; omega
theorem wd_rng {n : Nat} (h : n < 18446744073709551616) : 0 ≤ (n : Int) ∧ (n : Int) < 18446744073709551616 := by omega
theorem newP_ok (c : Cfg) (p g : Int) : (newP c p g).Ok := by
  unfold newP
  split
  · rename_i h
    refine ⟨by simp, fun _ => ⟨thB_iff.1 h.1, h.2⟩, by simp, fun h => ?_, fun h => ?_, by simp⟩
    · have e : (1 : Nat) = 4 := h
      omega
    · have e : (1 : Nat) = 5 := h
      omega
  · refine ⟨Nat.zero_le _, fun h => absurd rfl h, Nat.zero_lt_succ _, fun h => ?_, fun h => ?_, Nat.zero_le _⟩
    · have e : (0 : Nat) = 4 := h
      omega
    · have e : (0 : Nat) = 5 := h
      omega
theorem q_le {c : Cfg} (h : Right c) : 2 ≤ c.q.toNat ∧ c.q.toNat ≤ 64 ∧ (c.q.toNat : Int) = c.q ∧ 1 ≤ c.q.toNat / 2 := by
  have := h.q
  omega
theorem mem_load (m : PM) (a : Int) : (m.load a).cs.length = m.cs.length ∧ m.k.ops ≤ (m.load a).k.ops ∧ (m.load a).k.ops ≤ m.k.ops + 1 := by
  have h1 := go_len m 1 a 0 0; have h2 := go_ops m 1 a 0 0
  unfold PM.go at h1 h2; rw [if_pos rfl] at h1 h2
  exact ⟨h1, h2.2, h2.1⟩
theorem mem_store (m : PM) (a v : Int) : (m.store a v).cs.length = m.cs.length ∧ m.k.ops ≤ (m.store a v).k.ops ∧ (m.store a v).k.ops ≤ m.k.ops + 1 := by
  have h1 := go_len m 2 a 0 v; have h2 := go_ops m 2 a 0 v
  unfold PM.go at h1 h2; rw [if_neg (by decide), if_pos rfl] at h1 h2
  exact ⟨h1, h2.2, h2.1⟩
theorem mem_cas (m : PM) (a o v : Int) : (m.cas a o v).cs.length = m.cs.length ∧ m.k.ops ≤ (m.cas a o v).k.ops ∧ (m.cas a o v).k.ops ≤ m.k.ops + 1 := by
  have h1 := go_len m 3 a o v; have h2 := go_ops m 3 a o v
  unfold PM.go at h1 h2; rw [if_neg (by decide), if_neg (by decide), if_pos rfl] at h1 h2
  exact ⟨h1, h2.2, h2.1⟩
def StepOk (x y : PS) (m m' : PM) : Prop := y.Ok ∧ U64 m' ∧ m'.cs.length = m.cs.length ∧ m.k.ops ≤ m'.k.ops ∧ m'.k.ops ≤ m.k.ops + 1
theorem ok_at {x : PS} (h : x.Ok) (a : Nat) (ha : a = 0 ∨ a = 1 ∨ a = 3) (h0 : x.a ≠ 0) (l : List Int) : PS.Ok { x with a := a, h := l } := by
  refine ⟨?_, fun _ => h.th h0, h.w, ?_, ?_, h.few⟩
  · show a ≤ 5
    omega
  · intro e
    have e' : a = 4 := e
    omega
  · intro e
    have e' : a = 5 := e
    omega
theorem ok1 {x : PS} (h : x.Ok) {m : PM} (hm : U64 m) (h1 : x.a = 1) : StepOk x { x with w := (m.ans x.wa).toNat, t := [], a := if ln (m.ans x.wa).toNat < x.q then 2 else 4 } m (m.load x.wa) := by
  have hw := hm.ans x.wa
  have hth := h.th (by omega)
  have hq := q_le hth.1.1
  obtain ⟨z, hz⟩ : ∃ z, (m.ans x.wa).toNat = z := ⟨_, rfl⟩
  have hz2 : z < 18446744073709551616 := by omega
  rw [hz]
  obtain ⟨a, ha⟩ : ∃ a, (if ln z < x.q then 2 else 4) = a := ⟨_, rfl⟩
  have ha2 : a = 2 ∨ a = 4 := by rw [← ha]; split <;> simp
  rw [ha]
  refine ⟨⟨?_, fun _ => hth, hz2, fun _ => ?_, ?_, Nat.zero_le _⟩, hm.load _, mem_load _ _⟩
  · show a ≤ 5
    omega
  · exact hq.2.2.2
  · intro e
    have e' : a = 5 := e
    omega
theorem ok4 {x : PS} (h : x.Ok) {m : PM} (hm : U64 m) (h4 : x.a = 4) (z : Int) (ad : Int) : StepOk x { x with t := x.t ++ [z], a := if x.t.length + 1 = x.q / 2 then 5 else 4 } m (m.load ad) := by
  have hth := h.th (by omega)
  have hq := q_le hth.1.1
  have ht := h.t4 h4
  have e : x.q = x.c.q.toNat := rfl
  obtain ⟨a, ha⟩ : ∃ a, (if x.t.length + 1 = x.q / 2 then 5 else 4) = a := ⟨_, rfl⟩
  have ha2 : (a = 5 ∧ x.t.length + 1 = x.q / 2) ∨ (a = 4 ∧ x.t.length + 1 ≠ x.q / 2) := by
    rw [← ha]; split
    · exact .inl ⟨rfl, by assumption⟩
    · exact .inr ⟨rfl, by assumption⟩
  rw [ha]
  have hl : (x.t ++ [z]).length = x.t.length + 1 := by simp
  refine ⟨⟨?_, fun _ => hth, h.w, ?_, ?_, ?_⟩, hm.load _, mem_load _ _⟩
  · show a ≤ 5
    omega
  · intro e4
    have e' : a = 4 := e4
    show (x.t ++ [z]).length < x.q / 2
    omega
  · intro e5
    have e' : a = 5 := e5
    show (x.t ++ [z]).length = x.q / 2
    omega
  · show (x.t ++ [z]).length ≤ 32
    omega
theorem step_ok {x : PS} (h : x.Ok) {m : PM} (hm : U64 m) : StepOk x (stepP x m).1 m (stepP x m).2 := by
  by_cases h1 : x.a = 1
  · rw [step1 h1]; exact ok1 h hm h1
  · by_cases h2 : x.a = 2
    · rw [step2 h2]
      exact ⟨ok_at h 3 (by simp) (by omega) x.h, hm.store _ _ (u64_rng _), mem_store _ _ _⟩
    · by_cases h3 : x.a = 3
      · rw [step3 h3]
        refine ⟨?_, hm.cas _ _ _ (wd_rng (grow_lt h.w)), mem_cas _ _ _ _⟩
        show PS.Ok (if m.hit x.wa x.w then { x with a := 0, h := [] } else { x with a := 1 })
        split
        · exact ok_at h 0 (by simp) (by omega) _
        · exact ok_at h 1 (by simp) (by omega) x.h
      · by_cases h4 : x.a = 4
        · rw [step4 h4]; exact ok4 h hm h4 _ _
        · by_cases h5 : x.a = 5
          · rw [step5 h5]
            refine ⟨?_, hm.cas _ _ _ (wd_rng (drop_lt h.w)), mem_cas _ _ _ _⟩
            show PS.Ok (if m.hit x.wa x.w then { x with a := 0, h := x.t ++ [x.g] } else { x with a := 1 })
            split
            · exact ok_at h 0 (by simp) (by omega) _
            · exact ok_at h 1 (by simp) (by omega) x.h
          · have := h.a
            rw [step0 (by omega)]
            exact ⟨h, hm, rfl, Nat.le_refl _, Nat.le_succ _⟩
end Go.Pu

/- Plain: a ring's numbers, what takes some of the older ones, and a put that ends (layer 9, PutKeeps). It imports nothing of the dump. -/
namespace Go.Pu
open Go.Ce Go.Cg Go.Wd

def wdN (c : Cfg) (p : Int) (m : PM) : Nat := (m.at (aW c p)).toNat
def cellF (c : Cfg) (p : Int) (m : PM) (i : Nat) : Int := IntKind.i64.wrap (m.at (aS c p i))
def rngW (f : Nat → Int) (w : Nat) : List Int := (List.range (ln w)).map fun j => f ((hd w + j) % 4294967296)
/-- what is in a ring, in order; of one that is longer than its room nothing -/
def rng (c : Cfg) (p : Int) (m : PM) : List Int := if ln (wdN c p m) ≤ c.q.toNat then rngW (cellF c p m) (wdN c p m) else []
theorem rngW_length (f : Nat → Int) (w : Nat) : (rngW f w).length = ln w := by unfold rngW; simp
theorem rngW_at (f : Nat → Int) (w : Nat) {j : Nat} (h : j < ln w) : (rngW f w)[j]? = some (f ((hd w + j) % 4294967296)) := by unfold rngW; simp [h]
theorem tl_eq {w : Nat} (h : w < 18446744073709551616) : tl w = (hd w + ln w) % 4294967296 := by
  have h1 := hd_lt h
  have h2 := tl_lt w
  unfold ln
  omega
theorem rngW_gain (f : Nat → Int) {w n : Nat} (hw : w < 18446744073709551616) (hn : n ≤ ln w) : rngW f (gainW w n) = (rngW f w).drop n := by
  apply List.ext_getElem?
  intro j
  rw [List.getElem?_drop]
  by_cases h : j < ln w - n
  · rw [rngW_at _ _ (by rw [ln_gain hw hn]; exact h), rngW_at _ _ (by omega), hd_gain]
    congr 2
    omega
  · rw [List.getElem?_eq_none (by rw [rngW_length, ln_gain hw hn]; omega), List.getElem?_eq_none (by rw [rngW_length]; omega)]
theorem rngW_grow (f : Nat → Int) {w : Nat} (hw : w < 18446744073709551616) (hn : ln w < 4294967295) : rngW f (growW w 1) = rngW f w ++ [f (tl w)] := by
  apply List.ext_getElem?
  intro j
  have hl := ln_grow hw hn
  by_cases h : j < ln w
  · rw [rngW_at _ _ (by omega), List.getElem?_append_left (by rw [rngW_length]; exact h), rngW_at _ _ h, hd_grow]
  · by_cases h2 : j = ln w
    · subst h2
      rw [rngW_at _ _ (by omega), List.getElem?_append_right (by rw [rngW_length]; exact Nat.le_refl _), rngW_length, Nat.sub_self, hd_grow, tl_eq hw]
      rfl
    · rw [List.getElem?_eq_none (by rw [rngW_length]; omega), List.getElem?_eq_none (by rw [List.length_append, rngW_length, List.length_singleton]; omega)]
theorem rngW_drop (f : Nat → Int) {w n : Nat} (hw : w < 18446744073709551616) (hn : n ≤ ln w) : rngW f (dropW w n) = (rngW f w).take (ln w - n) := by
  apply List.ext_getElem?
  intro j
  rw [List.getElem?_take]
  have hl := ln_drop hw hn
  by_cases h : j < ln w - n
  · rw [if_pos h, rngW_at _ _ (by omega), rngW_at _ _ (by omega), hd_drop]
  · rw [if_neg h, List.getElem?_eq_none (by rw [rngW_length]; omega)]
theorem rngW_congr {f g : Nat → Int} {w : Nat} (h : ∀ j, j < ln w → f ((hd w + j) % 4294967296) = g ((hd w + j) % 4294967296)) : rngW f w = rngW g w := by
  unfold rngW
  exact List.map_congr_left fun j hj => h j (by simpa using hj)

/-- a memory of a config that is right, and one of its Ps -/
structure Mk (c : Cfg) (p : Int) (m : PM) : Prop where
  th : Right c ∧ 0 ≤ p ∧ p < c.n
  len : m.cs.length = ccN c
  u : U64 m
theorem aS_lt {c : Cfg} {p : Int} (h : Right c ∧ 0 ≤ p ∧ p < c.n) (i : Nat) : aW c p < aS c p i ∧ 4 ≤ aW c p ∧ aS c p i < (ccN c : Int) ∧ aW c p < (ccN c : Int) := by
  have hq := h.1.q
  have hm := Int.emod_nonneg (i : Int) (show c.q ≠ 0 by omega)
  have hm2 := Int.emod_lt_of_pos (i : Int) (show 0 < c.q by omega)
  have h1 := pl_lt (k := 6 + (i : Int) % c.q) h (by omega) (by omega)
  have h2 := pl_lt (k := 0) h (by omega) (by omega)
  unfold aW aS
  omega
theorem Mk.hasW {c : Cfg} {p : Int} {m : PM} (h : Mk c p m) : m.Has (aW c p) := by
  have := aS_lt h.th 0
  exact ⟨by omega, by rw [h.len]; omega⟩
theorem Mk.hasS {c : Cfg} {p : Int} {m : PM} (h : Mk c p m) (i : Nat) : m.Has (aS c p i) := by
  have := aS_lt h.th i
  exact ⟨by omega, by rw [h.len]; omega⟩
theorem at_same {m : PM} {kind a v : Int} {k : Cnt} (h : m.Has a) : (m.acc kind a v k).at a = v := by
  obtain ⟨h0, h1⟩ := h
  have e : a.toNat < m.cs.length := by omega
  show (m.cs.set a.toNat v).getD a.toNat 0 = v
  simp [List.getD, e]
theorem at_other {m : PM} {kind a b v : Int} {k : Cnt} (ha : 0 ≤ a) (hb : 0 ≤ b) (hne : a ≠ b) : (m.acc kind a v k).at b = m.at b := by
  have e : a.toNat ≠ b.toNat := by omega
  show (m.cs.set a.toNat v).getD b.toNat 0 = m.cs.getD b.toNat 0
  simp [List.getD, e]
theorem at_load (m : PM) (a b : Int) (hb : 0 ≤ b) : (m.load a).at b = m.at b := by
  by_cases h : m.Has a
  · rw [load_yes h]
    by_cases e : a = b
    · subst e; exact at_same h
    · exact at_other h.1 hb e
  · rw [load_no h]
theorem wd_lt {c : Cfg} {p : Int} {m : PM} (h : Mk c p m) : wdN c p m < 18446744073709551616 := by
  have := h.u.at (aW c p)
  unfold wdN; omega
theorem wd_at {c : Cfg} {p : Int} {m : PM} (h : Mk c p m) : m.at (aW c p) = (wdN c p m : Int) := by
  have := h.u.at (aW c p)
  unfold wdN; omega
theorem ans_W {c : Cfg} {p : Int} {m : PM} (h : Mk c p m) : (m.ans (aW c p)).toNat = wdN c p m := by
  unfold PM.ans wdN; rw [if_pos h.hasW]
/-- the same cells: the same ring -/
theorem rng_same {c : Cfg} {p : Int} {m m' : PM} (h1 : wdN c p m' = wdN c p m) (h2 : ∀ i, cellF c p m' i = cellF c p m i) : rng c p m' = rng c p m := by
  unfold rng
  rw [h1, show cellF c p m' = cellF c p m from funext h2]
theorem load_same {c : Cfg} {p : Int} {m : PM} (h : Mk c p m) (a : Int) : wdN c p (m.load a) = wdN c p m ∧ (∀ i, cellF c p (m.load a) i = cellF c p m i) ∧ Mk c p (m.load a) := by
  have hb := aS_lt h.th
  refine ⟨by unfold wdN; rw [at_load _ _ _ (by have := hb 0; omega)], fun i => by unfold cellF; rw [at_load _ _ _ (by have := hb i; omega)], h.th, by rw [(mem_load m a).1]; exact h.len, h.u.load a⟩
/-- a new word alone -/
theorem word_set {c : Cfg} {p : Int} {m : PM} (h : Mk c p m) (kind : Int) (k : Cnt) {w : Nat} (hw : w < 18446744073709551616) : wdN c p (m.acc kind (aW c p) w k) = w ∧ (∀ i, cellF c p (m.acc kind (aW c p) w k) i = cellF c p m i) ∧ Mk c p (m.acc kind (aW c p) w k) := by
  have hb := aS_lt h.th
  refine ⟨by unfold wdN; rw [at_same h.hasW]; rfl, fun i => by unfold cellF; rw [at_other (by have := hb i; omega) (by have := hb i; omega) (by have := hb i; omega)], h.th, by rw [(acc_len ..).1]; exact h.len, h.u.acc _ _ _ _ (wd_rng hw)⟩
theorem rng_of {c : Cfg} {p : Int} {m : PM} (h : ln (wdN c p m) ≤ c.q.toNat) : rng c p m = rngW (cellF c p m) (wdN c p m) := by unfold rng; rw [if_pos h]
theorem rng_length {c : Cfg} {p : Int} {m : PM} (h : ln (wdN c p m) ≤ c.q.toNat) : (rng c p m).length = ln (wdN c p m) := by rw [rng_of h, rngW_length]
theorem slot_ne {c : Cfg} {p : Int} (h : Right c) {i j : Nat} (hne : i % c.q.toNat ≠ j % c.q.toNat) : aS c p i ≠ aS c p j := by
  have hq := q_le h
  unfold aS
  rw [← hq.2.2.1]
  intro e
  apply hne
  have e2 : (i : Int) % (c.q.toNat : Int) = (j : Int) % (c.q.toNat : Int) := by omega
  exact_mod_cast e2
theorem q_dvd {c : Cfg} (h : Right c) : c.q.toNat ∣ 4294967296 := by
  have := h.q
  rcases this with h | h | h | h | h | h <;> rw [h] <;> decide
theorem place_ne {q h i j : Nat} (hq : q ∣ 4294967296) (hi : i < j) (hj : j < q + i) : (h + i) % 4294967296 % q ≠ (h + j) % 4294967296 % q := by
  rw [Nat.mod_mod_of_dvd _ hq, Nat.mod_mod_of_dvd _ hq]
  intro e
  have h0 := Nat.sub_mod_eq_zero_of_mod_eq e.symm
  rw [show h + j - (h + i) = j - i by omega, Nat.mod_eq_of_lt (by omega)] at h0
  omega
/-- what is taken of the older ones at once -/
def thN (l : List Int) (most : Nat) : Nat := min most (l.length - l.length / 2)
def thiefM (c : Cfg) (p : Int) (m : PM) (most : Nat) : PM := if thN (rng c p m) most = 0 then m else (m.load (aW c p)).store (aW c p) (gainW (wdN c p m) (thN (rng c p m) most))
theorem thief_ring {c : Cfg} {p : Int} {m : PM} (h : Mk c p m) (hs : ln (wdN c p m) ≤ c.q.toNat) (most : Nat) :
    ∃ n, n = thN (rng c p m) most ∧ n ≤ ln (wdN c p m) ∧ wdN c p (thiefM c p m most) = gainW (wdN c p m) n ∧ (∀ i, cellF c p (thiefM c p m most) i = cellF c p m i) ∧ Mk c p (thiefM c p m most) ∧ rng c p (thiefM c p m most) = (rng c p m).drop n ∧ ln (wdN c p (thiefM c p m most)) = ln (wdN c p m) - n := by
  have hw := wd_lt h
  have hle : thN (rng c p m) most ≤ ln (wdN c p m) := by unfold thN; rw [rng_length hs]; omega
  refine ⟨_, rfl, hle, ?_⟩
  obtain ⟨n, hn⟩ : ∃ n, thN (rng c p m) most = n := ⟨_, rfl⟩
  unfold thiefM
  rw [hn] at hle ⊢
  by_cases h0 : n = 0
  · subst h0
    rw [if_pos rfl, List.drop_zero, gain_zero hw, Nat.sub_zero]
    exact ⟨rfl, fun _ => rfl, h, rfl, rfl⟩
  · rw [if_neg h0]
    obtain ⟨a1, a2, a3⟩ := load_same h (aW c p)
    have hs1 : (m.load (aW c p)).store (aW c p) (gainW (wdN c p m) n) = (m.load (aW c p)).acc 2 (aW c p) (gainW (wdN c p m) n) { (m.load (aW c p)).k with s := (m.load (aW c p)).k.s + 1 } := store_yes a3.hasW _
    rw [hs1]
    obtain ⟨b1, b2, b3⟩ := word_set a3 2 { (m.load (aW c p)).k with s := (m.load (aW c p)).k.s + 1 } (w := gainW (wdN c p m) n) gain_lt
    have hl := ln_gain hw hle
    have hc : ∀ i, cellF c p ((m.load (aW c p)).acc 2 (aW c p) (gainW (wdN c p m) n) { (m.load (aW c p)).k with s := (m.load (aW c p)).k.s + 1 }) i = cellF c p m i := fun i => (b2 i).trans (a2 i)
    refine ⟨b1, hc, b3, ?_, by rw [b1, hl]⟩
    rw [rng_of (by rw [b1, hl]; omega), b1, show cellF c p _ = cellF c p m from funext hc, rngW_gain _ hw hle, rng_of hs]
theorem cas_hit_new' {c : Cfg} {p : Int} {m : PM} (h : Mk c p m) {w v : Nat} (he : wdN c p m = w) (hv : v < 18446744073709551616) : wdN c p (m.cas (aW c p) w v) = v ∧ (∀ i, cellF c p (m.cas (aW c p) w v) i = cellF c p m i) ∧ Mk c p (m.cas (aW c p) w v) ∧ m.hit (aW c p) w := by
  have hat := wd_at h
  have he2 : m.at (aW c p) = (w : Int) := by rw [hat, he]
  rw [cas_hit h.hasW he2]
  obtain ⟨a, b, d⟩ := word_set h 3 { m.k with w := m.k.w + 1 } (w := v) hv
  exact ⟨a, b, d, h.hasW, he2⟩
end Go.Pu

/- Plain: cells that Filled may answer (layer 9). It imports nothing of the dump. -/
namespace Go.Pu
open Go.Ce Go.Cg Go.Wd

/-- as many as a config has, of 64 digits, each ring's length at most its room -/
structure FOk (c : Cfg) (zs : List Int) : Prop where
  len : zs.length = ccN c
  u : ∀ z ∈ zs, 0 ≤ z ∧ z < 18446744073709551616
  w : ∀ p : Int, Right c ∧ 0 ≤ p ∧ p < c.n → ln (zs.getD (aW c p).toNat 0).toNat ≤ c.q.toNat
theorem FOk.zero (c : Cfg) : FOk c (List.replicate (ccN c) 0) := by
  refine ⟨List.length_replicate .., fun z hz => ?_, fun p hp => ?_⟩
  · rw [List.mem_replicate] at hz
    omega
  · have e : (List.replicate (ccN c) (0 : Int)).getD (aW c p).toNat 0 = 0 := by
      rw [List.getD, List.getElem?_replicate]
      split <;> rfl
    rw [e]
    have e2 : ln (0 : Int).toNat = 0 := by decide
    rw [e2]
    exact Nat.zero_le _
theorem FOk.set {c : Cfg} {zs : List Int} (h : FOk c zs) (a : Nat) (v : Int) (hv : 0 ≤ v ∧ v < 18446744073709551616) (hw : ∀ p : Int, Right c ∧ 0 ≤ p ∧ p < c.n → (aW c p).toNat = a → ln v.toNat ≤ c.q.toNat) : FOk c (zs.set a v) := by
  refine ⟨by rw [List.length_set]; exact h.len, fun z hz => ?_, fun p hp => ?_⟩
  · rcases List.mem_or_eq_of_mem_set hz with h1 | rfl
    · exact h.u z h1
    · exact hv
  · have hl := aS_lt hp 0
    have hlt : (aW c p).toNat < zs.length := by rw [h.len]; omega
    by_cases e : (aW c p).toNat = a
    · have e2 : (zs.set a v).getD (aW c p).toNat 0 = v := by rw [e] at hlt ⊢; simp [List.getD, hlt]
      rw [e2]; exact hw p hp e
    · have e2 : (zs.set a v).getD (aW c p).toNat 0 = zs.getD (aW c p).toNat 0 := by
        have e' : a ≠ (aW c p).toNat := fun h => e h.symm
        simp [List.getD, e']
      rw [e2]; exact h.w p hp
/-- another place is no word -/
theorem not_word {c : Cfg} {p k : Int} (h : Right c ∧ 0 ≤ p ∧ p < c.n) (h0 : 1 ≤ k) (h1 : k < 6 + c.q) (p' : Int) (h' : Right c ∧ 0 ≤ p' ∧ p' < c.n) : (aW c p').toNat ≠ (4 + p * (6 + c.q) + k).toNat := by
  obtain ⟨hR, hp, hn⟩ := h
  obtain ⟨-, hp', hn'⟩ := h'
  obtain ⟨a, b, g, m, t, s, rfl, h2, h3, -⟩ := hR.small
  obtain ⟨i, rfl⟩ : ∃ i : Nat, p = i := ⟨p.toNat, by omega⟩
  obtain ⟨i', rfl⟩ : ∃ i : Nat, p' = i := ⟨p'.toNat, by omega⟩
  obtain ⟨j, rfl⟩ : ∃ j : Nat, k = j := ⟨k.toNat, by omega⟩
  unfold aW
  simp only at h1 ⊢
  have e1 : (4 + (i' : Int) * (6 + (b : Int))).toNat = 4 + i' * (6 + b) := by
    have : (4 + (i' : Int) * (6 + (b : Int))) = ((4 + i' * (6 + b) : Nat) : Int) := by push_cast; rfl
    rw [this]; rfl
  have e2 : (4 + (i : Int) * (6 + (b : Int)) + (j : Int)).toNat = 4 + i * (6 + b) + j := by
    have : (4 + (i : Int) * (6 + (b : Int)) + (j : Int)) = ((4 + i * (6 + b) + j : Nat) : Int) := by push_cast; rfl
    rw [this]; rfl
  rw [e1, e2]
  intro e
  have hm1 : (i' * (6 + b)) % (6 + b) = 0 := Nat.mul_mod_left _ _
  have hm2 : (i * (6 + b) + j) % (6 + b) = j := by
    rw [Nat.mul_comm, Nat.mul_add_mod]
    exact Nat.mod_eq_of_lt (by omega)
  have e3 : i' * (6 + b) = i * (6 + b) + j := by omega
  rw [← e3, hm1] at hm2
  omega
theorem ln_pack {h n q : Nat} (hh : h < 4294967296) (hn : n ≤ q) (hq : q ≤ 64) : ln (pk h ((h + n) % 4294967296)) ≤ q ∧ pk h ((h + n) % 4294967296) < 18446744073709551616 := by
  refine ⟨?_, pk_lt hh (Nat.mod_lt _ (by decide))⟩
  unfold ln
  rw [hd_pk (Nat.mod_lt _ (by decide)), tl_pk (Nat.mod_lt _ (by decide))]
  omega
end Go.Pu

/- Plain: a put ends, and keeps all, whatever is taken of the older ones between its steps (layer 9, PutKeeps). It imports nothing of the dump. -/
namespace Go.Pu
open Go.Ce Go.Cg Go.Wd

/-- since it looked, some of the oldest were taken, and nothing else -/
def Since (c : Cfg) (p : Int) (x : PS) (m : PM) : Prop := ∃ n, n ≤ ln x.w ∧ wdN c p m = gainW x.w n
/-- what was loaded is the younger half, as far as it has come -/
def Taken (c : Cfg) (p : Int) (x : PS) (m : PM) : Prop := ∀ j, j < x.t.length → x.t.getD j 0 = cellF c p m ((tl x.w + 4294967296 - c.q.toNat / 2 + j) % 4294967296)
def StP (c : Cfg) (p : Int) (x : PS) (m : PM) : Prop :=
  x.a = 1 ∨ (x.a = 2 ∧ Since c p x m ∧ ln x.w < c.q.toNat) ∨ (x.a = 3 ∧ Since c p x m ∧ ln x.w < c.q.toNat ∧ cellF c p m (tl x.w) = x.g) ∨
    (x.a = 4 ∧ Since c p x m ∧ ln x.w = c.q.toNat ∧ x.t.length < c.q.toNat / 2 ∧ Taken c p x m) ∨ (x.a = 5 ∧ Since c p x m ∧ ln x.w = c.q.toNat ∧ x.t.length = c.q.toNat / 2 ∧ Taken c p x m)
structure KI (c : Cfg) (p : Int) (was gone : List Int) (x : PS) (m : PM) : Prop where
  mem : Mk c p m
  sz : ln (wdN c p m) ≤ c.q.toNat
  all : gone ++ rng c p m = was
  xc : x.c = c
  xp : x.p = p
  xg : 0 ≤ x.g ∧ x.g < 9223372036854775808
  xw : x.w < 18446744073709551616
  st : StP c p x m
def remN (c : Cfg) (x : PS) : Nat := if x.a = 1 then c.q.toNat / 2 + 2 else if x.a = 2 then 2 else if x.a = 4 then c.q.toNat / 2 - x.t.length + 1 else 1
def flagN (c : Cfg) (p : Int) (x : PS) (m : PM) : Nat := if x.a = 1 ∨ wdN c p m = x.w then 0 else 1
/-- how many steps there still may be -/
def muN (c : Cfg) (p : Int) (x : PS) (m : PM) : Nat := (ln (wdN c p m) + flagN c p x m) * (c.q.toNat / 2 + 2) + remN c x
theorem gain_ne {w n : Nat} (hw : w < 18446744073709551616) (hn : n ≤ ln w) (h : gainW w n = w) : n = 0 := by
  have h1 := ln_gain hw hn
  rw [h] at h1
  omega
theorem since_ln {c : Cfg} {p : Int} {x : PS} {m : PM} (h : Since c p x m) (hw : x.w < 18446744073709551616) : ln (wdN c p m) ≤ ln x.w := by
  obtain ⟨n, hn, e⟩ := h
  rw [e, ln_gain hw hn]; omega
/-- some are taken -/
theorem KI.thief {c : Cfg} {p : Int} {was gone : List Int} {x : PS} {m : PM} (h : KI c p was gone x m) (most : Nat) :
    KI c p was (gone ++ (rng c p m).take (thN (rng c p m) most)) x (thiefM c p m most) ∧ muN c p x (thiefM c p m most) ≤ muN c p x m := by
  obtain ⟨n, hn, hle, e1, e2, e3, e4, e5⟩ := thief_ring h.mem h.sz most
  rw [← hn]
  have hS : ∀ k, Since c p x m → k = wdN c p (thiefM c p m most) → ∃ n, n ≤ ln x.w ∧ k = gainW x.w n := by
    rintro k ⟨a, ha, hb⟩ rfl
    have hl := ln_gain h.xw ha
    refine ⟨a + n, by rw [hb] at hle; omega, ?_⟩
    rw [e1, hb]
    unfold gainW
    rw [hd_pk (tl_lt _), tl_pk (tl_lt _)]
    congr 1
    omega
  refine ⟨⟨e3, by rw [e5]; have := h.sz; omega, ?_, h.xc, h.xp, h.xg, h.xw, ?_⟩, ?_⟩
  · rw [e4, List.append_assoc, List.take_append_drop]; exact h.all
  · rcases h.st with s | ⟨s, t, r⟩ | ⟨s, t, r, r2⟩ | ⟨s, t, r, r2, r3⟩ | ⟨s, t, r, r2, r3⟩
    · exact .inl s
    · exact .inr (.inl ⟨s, hS _ t rfl, r⟩)
    · exact .inr (.inr (.inl ⟨s, hS _ t rfl, r, by rw [e2]; exact r2⟩))
    · exact .inr (.inr (.inr (.inl ⟨s, hS _ t rfl, r, r2, fun j hj => by rw [e2]; exact r3 j hj⟩)))
    · exact .inr (.inr (.inr (.inr ⟨s, hS _ t rfl, r, r2, fun j hj => by rw [e2]; exact r3 j hj⟩)))
  · unfold muN
    refine Nat.add_le_add_right (Nat.mul_le_mul_right _ ?_) _
    rw [e5]
    by_cases h0 : n = 0
    · have e6 : wdN c p (thiefM c p m most) = wdN c p m := by rw [e1, h0, gain_zero (wd_lt h.mem)]
      unfold flagN
      rw [e6, h0, Nat.sub_zero]
      exact Nat.le_refl _
    · have hf : flagN c p x (thiefM c p m most) ≤ 1 := by unfold flagN; split <;> omega
      omega
/-- it is done: all is kept -/
structure KD (c : Cfg) (p : Int) (was gone : List Int) (x0 x : PS) (m0 m : PM) : Prop where
  mem : Mk c p m
  all : gone ++ rng c p m ++ x.over = was ++ [x0.g]
  sz : ln (wdN c p m) ≤ c.q.toNat
  cut : x.over ≠ [] → (rng c p m0).length = c.q.toNat ∧ x.over.length = c.q.toNat / 2 + 1 ∧ (rng c p m).length = c.q.toNat / 2
theorem keep_cells {c : Cfg} {p : Int} {m m' : PM} (h1 : wdN c p m' = wdN c p m) (h2 : ∀ i, cellF c p m' i = cellF c p m i) {x y : PS} (hw : y.w = x.w) (ht : y.t = x.t) : (Since c p x m → Since c p y m') ∧ (Taken c p x m → Taken c p y m') := by
  refine ⟨fun ⟨n, a, b⟩ => ⟨n, by rw [hw]; exact a, by rw [h1, hw]; exact b⟩, fun h j hj => ?_⟩
  rw [ht] at hj ⊢
  rw [h2, hw]; exact h j hj
theorem cas_miss_same {c : Cfg} {p : Int} {m : PM} (h : Mk c p m) {w : Nat} (hne : wdN c p m ≠ w) (v : Int) : wdN c p (m.cas (aW c p) w v) = wdN c p m ∧ (∀ i, cellF c p (m.cas (aW c p) w v) i = cellF c p m i) ∧ Mk c p (m.cas (aW c p) w v) ∧ ¬ m.hit (aW c p) w := by
  have hat := wd_at h
  have hne2 : m.at (aW c p) ≠ (w : Int) := by rw [hat]; omega
  rw [cas_miss h.hasW hne2, hat]
  obtain ⟨a, b, d⟩ := word_set h 3 { m.k with f := m.k.f + 1 } (w := wdN c p m) (wd_lt h)
  exact ⟨a, b, d, fun hh => hne2 hh.2⟩
theorem cas_hit_new {c : Cfg} {p : Int} {m : PM} (h : Mk c p m) {w v : Nat} (he : wdN c p m = w) (hv : v < 18446744073709551616) : wdN c p (m.cas (aW c p) w v) = v ∧ (∀ i, cellF c p (m.cas (aW c p) w v) i = cellF c p m i) ∧ Mk c p (m.cas (aW c p) w v) ∧ m.hit (aW c p) w := by
  have hat := wd_at h
  have he2 : m.at (aW c p) = (w : Int) := by rw [hat, he]
  rw [cas_hit h.hasW he2]
  obtain ⟨a, b, d⟩ := word_set h 3 { m.k with w := m.k.w + 1 } (w := v) hv
  exact ⟨a, b, d, h.hasW, he2⟩
theorem rem1 {c : Cfg} {x : PS} (h : x.a = 1) : remN c x = c.q.toNat / 2 + 2 := by unfold remN; rw [if_pos h]
theorem rem2 {c : Cfg} {x : PS} (h : x.a = 2) : remN c x = 2 := by unfold remN; rw [if_neg (by omega), if_pos h]
theorem rem4 {c : Cfg} {x : PS} (h : x.a = 4) : remN c x = c.q.toNat / 2 - x.t.length + 1 := by unfold remN; rw [if_neg (by omega), if_neg (by omega), if_pos h]
theorem rem35 {c : Cfg} {x : PS} (h : x.a = 3 ∨ x.a = 5) : remN c x = 1 := by unfold remN; rw [if_neg (by omega), if_neg (by omega), if_neg (by omega)]
theorem mu_less {c : Cfg} {p : Int} {x y : PS} {m m' : PM} {L f r r' : Nat} (h1 : ln (wdN c p m) = L) (h2 : ln (wdN c p m') = L) (h3 : flagN c p x m = f) (h4 : flagN c p y m' ≤ f) (h5 : remN c x = r) (h6 : remN c y = r') (h : r' + 1 ≤ r) : muN c p y m' + 1 ≤ muN c p x m := by
  unfold muN
  rw [h1, h2, h3, h5, h6]
  have := Nat.mul_le_mul_right (c.q.toNat / 2 + 2) (Nat.add_le_add_left h4 L)
  generalize (L + flagN c p y m') * (c.q.toNat / 2 + 2) = P at this ⊢
  generalize (L + f) * (c.q.toNat / 2 + 2) = R at this ⊢
  omega
theorem mu_again {c : Cfg} {p : Int} {x y : PS} {m m' : PM} {L : Nat} (h1 : ln (wdN c p m) = L) (h2 : ln (wdN c p m') = L) (h3 : flagN c p x m = 1) (h4 : flagN c p y m' = 0) (h5 : remN c x = 1) (h6 : remN c y = c.q.toNat / 2 + 2) : muN c p y m' + 1 ≤ muN c p x m := by
  unfold muN
  rw [h1, h2, h3, h4, h5, h6, Nat.add_mul L 0, Nat.zero_mul, Nat.add_mul L 1, Nat.one_mul]
  omega
/-- a step -/
theorem KI.step {c : Cfg} {p : Int} {was gone : List Int} {x : PS} {m : PM} (h : KI c p was gone x m) :
    ((stepP x m).1.a ≠ 0 ∧ KI c p was gone (stepP x m).1 (stepP x m).2 ∧ muN c p (stepP x m).1 (stepP x m).2 + 1 ≤ muN c p x m) ∨ ((stepP x m).1.a = 0 ∧ KD c p was gone x (stepP x m).1 m (stepP x m).2) := by
  have hq := q_le h.mem.th.1
  have hwl := wd_lt h.mem
  have hxa : x.wa = aW c p := by unfold PS.wa; rw [h.xc, h.xp]
  have hxq : x.q = c.q.toNat := by unfold PS.q; rw [h.xc]
  rcases h.st with s | ⟨s, t, r⟩ | ⟨s, t, r, r2⟩ | ⟨s, t, r, r2, r3⟩ | ⟨s, t, r, r2, r3⟩
  · -- look
    left
    rw [step1 s, hxa, hxq, ans_W h.mem]
    obtain ⟨a1, a2, a3⟩ := load_same h.mem (aW c p)
    have hsz := h.sz
    by_cases hlt : ln (wdN c p m) < c.q.toNat
    · rw [if_pos hlt]
      refine ⟨by simp, ⟨a3, by rw [a1]; exact h.sz, by rw [rng_same a1 a2]; exact h.all, h.xc, h.xp, h.xg, hwl, .inr (.inl ⟨rfl, ⟨0, Nat.zero_le _, by rw [a1]; exact (gain_zero hwl).symm⟩, hlt⟩)⟩, ?_⟩
      exact mu_less (r' := 2) rfl (by rw [a1]) (if_pos (.inl s)) (Nat.le_of_eq (if_pos (.inr a1))) (rem1 s) (rem2 rfl) (by omega)
    · rw [if_neg hlt]
      refine ⟨by simp, ⟨a3, by rw [a1]; exact h.sz, by rw [rng_same a1 a2]; exact h.all, h.xc, h.xp, h.xg, hwl, .inr (.inr (.inr (.inl ⟨rfl, ⟨0, Nat.zero_le _, by rw [a1]; exact (gain_zero hwl).symm⟩, by show ln (wdN c p m) = _; omega, by show 0 < _; omega, fun j hj => absurd hj (Nat.not_lt_zero _)⟩)))⟩, ?_⟩
      exact mu_less (r' := c.q.toNat / 2 - 0 + 1) rfl (by rw [a1]) (if_pos (.inl s)) (Nat.le_of_eq (if_pos (.inr a1))) (rem1 s) (rem4 rfl) (by omega)
  · -- lay
    left
    rw [step2 s, h.xc, h.xp]
    have hg : IntKind.u64.wrap x.g = x.g := by
      have e : IntKind.u64.wrap x.g = x.g % 18446744073709551616 := by simp [IntKind.wrap, IntKind.bits, IntKind.signed]
      have := h.xg
      rw [e]; omega
    rw [hg]
    have hS := h.mem.hasS (tl x.w)
    have hb := aS_lt h.mem.th
    have hst : m.store (aS c p (tl x.w)) x.g = m.acc 2 (aS c p (tl x.w)) x.g { m.k with s := m.k.s + 1 } := store_yes hS _
    rw [hst]
    have b1 : wdN c p (m.acc 2 (aS c p (tl x.w)) x.g { m.k with s := m.k.s + 1 }) = wdN c p m := by
      unfold wdN; rw [at_other hS.1 (by have := hb 0; omega) (by have := hb (tl x.w); omega)]
    have b2 : cellF c p (m.acc 2 (aS c p (tl x.w)) x.g { m.k with s := m.k.s + 1 }) (tl x.w) = x.g := by
      unfold cellF
      rw [at_same hS]
      exact IntWalk.i64_in _ (by have := h.xg; omega)
    have b3 : Mk c p (m.acc 2 (aS c p (tl x.w)) x.g { m.k with s := m.k.s + 1 }) := ⟨h.mem.th, by rw [(acc_len ..).1]; exact h.mem.len, h.mem.u.acc _ _ _ _ (by have := h.xg; omega)⟩
    have b4 : rng c p (m.acc 2 (aS c p (tl x.w)) x.g { m.k with s := m.k.s + 1 }) = rng c p m := by
      rw [rng_of (by rw [b1]; exact h.sz), rng_of h.sz, b1]
      refine rngW_congr fun j hj => ?_
      unfold cellF
      obtain ⟨n, hn, en⟩ := t
      have hl := ln_gain h.xw hn
      have hh := @hd_gain x.w n
      rw [← en] at hl hh
      have e1 : (hd (wdN c p m) + j) % 4294967296 = (hd x.w + (n + j)) % 4294967296 := by rw [hh]; omega
      rw [at_other hS.1 (by have := hb ((hd (wdN c p m) + j) % 4294967296); omega) (slot_ne h.mem.th.1 ?_)]
      rw [e1, tl_eq h.xw]
      exact fun e => place_ne (q_dvd h.mem.th.1) (h := hd x.w) (i := n + j) (j := ln x.w) (by omega) (by omega) e.symm
    refine ⟨by simp, ⟨b3, by rw [b1]; exact h.sz, by rw [b4]; exact h.all, rfl, rfl, h.xg, h.xw, .inr (.inr (.inl ⟨rfl, by obtain ⟨n, hn, en⟩ := t; exact ⟨n, hn, by rw [b1]; exact en⟩, r, b2⟩))⟩, ?_⟩
    refine mu_less (r' := 1) rfl (by rw [b1]) rfl (Nat.le_of_eq ?_) (rem2 s) (rem35 (.inl rfl)) (Nat.le_refl _)
    unfold flagN
    rw [b1, s]
    simp
  · -- swing
    rw [step3 s, hxa]
    by_cases hw : wdN c p m = x.w
    · right
      obtain ⟨a1, a2, a3, a4⟩ := cas_hit_new h.mem hw (grow_lt (n := 1) h.xw)
      rw [if_pos a4]
      have hl := ln_grow h.xw (by omega)
      refine ⟨rfl, a3, ?_, by rw [a1, hl]; omega, fun hn => absurd rfl hn⟩
      show gone ++ rng c p _ ++ [] = was ++ [x.g]
      rw [List.append_nil, rng_of (by rw [a1, hl]; omega), a1, show cellF c p (m.cas (aW c p) x.w (growW x.w 1)) = cellF c p m from funext a2, rngW_grow _ h.xw (by omega), r2, ← List.append_assoc, ← h.all, rng_of h.sz, hw]
    · left
      obtain ⟨a1, a2, a3, a4⟩ := cas_miss_same h.mem hw (growW x.w 1)
      rw [if_neg a4]
      refine ⟨by simp, ⟨a3, by rw [a1]; exact h.sz, by rw [rng_same a1 a2]; exact h.all, h.xc, h.xp, h.xg, h.xw, .inl rfl⟩, ?_⟩
      exact mu_again rfl (by rw [a1]) (if_neg (by rintro (e | e); omega; exact hw e)) (if_pos (.inl rfl)) (rem35 (.inl s)) (rem1 rfl)
  · -- take
    left
    obtain ⟨a1, a2, a3⟩ := load_same h.mem (aS x.c x.p x.tp)
    rw [step4 s]
    have hcell : IntKind.i64.wrap (m.ans (aS x.c x.p x.tp)) = cellF c p m ((tl x.w + 4294967296 - c.q.toNat / 2 + x.t.length) % 4294967296) := by
      have e : x.tp = (tl x.w + 4294967296 - c.q.toNat / 2 + x.t.length) % 4294967296 := by unfold PS.tp; rw [hxq]
      rw [h.xc, h.xp, e]
      unfold PM.ans cellF
      rw [if_pos (h.mem.hasS _)]
    rw [hcell]
    obtain ⟨z, hz⟩ : ∃ z, cellF c p m ((tl x.w + 4294967296 - c.q.toNat / 2 + x.t.length) % 4294967296) = z := ⟨_, rfl⟩
    rw [hz, hxq]
    have hT : Taken c p { x with t := x.t ++ [z], a := if x.t.length + 1 = c.q.toNat / 2 then 5 else 4 } (m.load (aS x.c x.p x.tp)) := by
      intro j hj
      show (x.t ++ [z]).getD j 0 = _
      rw [a2]
      have hj' : j < (x.t ++ [z]).length := hj
      rw [List.length_append, List.length_singleton] at hj'
      by_cases e : j = x.t.length
      · subst e
        show _ = cellF c p m ((tl x.w + 4294967296 - c.q.toNat / 2 + x.t.length) % 4294967296)
        rw [hz]
        simp [List.getD]
      · have := r3 j (by omega)
        show _ = cellF c p m ((tl x.w + 4294967296 - c.q.toNat / 2 + j) % 4294967296)
        rw [← this]
        simp [List.getD, List.getElem?_append_left (show j < x.t.length by omega)]
    have hSi : Since c p { x with t := x.t ++ [z], a := if x.t.length + 1 = c.q.toNat / 2 then 5 else 4 } (m.load (aS x.c x.p x.tp)) := by
      obtain ⟨n, hn, en⟩ := t
      exact ⟨n, hn, by rw [a1]; exact en⟩
    have hlen : (x.t ++ [z]).length = x.t.length + 1 := by simp
    by_cases h5 : x.t.length + 1 = c.q.toNat / 2
    · rw [if_pos h5] at hT hSi ⊢
      refine ⟨by simp, ⟨a3, by rw [a1]; exact h.sz, by rw [rng_same a1 a2]; exact h.all, h.xc, h.xp, h.xg, h.xw, .inr (.inr (.inr (.inr ⟨rfl, hSi, r, by rw [← h5]; exact hlen, hT⟩)))⟩, ?_⟩
      unfold muN flagN remN
      rw [a1]
      simp only [s]
      simp
      omega
    · rw [if_neg h5] at hT hSi ⊢
      refine ⟨by simp, ⟨a3, by rw [a1]; exact h.sz, by rw [rng_same a1 a2]; exact h.all, h.xc, h.xp, h.xg, h.xw, .inr (.inr (.inr (.inl ⟨rfl, hSi, r, by show (x.t ++ [z]).length < _; omega, hT⟩)))⟩, ?_⟩
      unfold muN flagN remN
      rw [a1]
      simp only [s]
      simp
      omega
  · -- cut
    rw [step5 s, hxa, hxq]
    by_cases hw : wdN c p m = x.w
    · right
      obtain ⟨a1, a2, a3, a4⟩ := cas_hit_new h.mem hw (drop_lt (n := c.q.toNat / 2) h.xw)
      rw [if_pos a4]
      have hl := ln_drop (n := c.q.toNat / 2) h.xw (by omega)
      have hring : rng c p (m.cas (aW c p) x.w (dropW x.w (c.q.toNat / 2))) = (rngW (cellF c p m) x.w).take (c.q.toNat - c.q.toNat / 2) := by
        rw [rng_of (by rw [a1, hl]; omega), a1, show cellF c p (m.cas (aW c p) x.w (dropW x.w (c.q.toNat / 2))) = cellF c p m from funext a2, rngW_drop _ h.xw (by omega), r]
      have ht : x.t = (rngW (cellF c p m) x.w).drop (c.q.toNat - c.q.toNat / 2) := by
        apply List.ext_getElem?
        intro j
        rw [List.getElem?_drop]
        by_cases hj : j < c.q.toNat / 2
        · have h1 := r3 j (by omega)
          rw [rngW_at _ _ (by omega)]
          rw [List.getD, List.getElem?_eq_getElem (by omega), Option.getD_some] at h1
          rw [List.getElem?_eq_getElem (by omega), h1]
          congr 2
          have e1 := tl_eq h.xw
          have h2 := hd_lt h.xw
          omega
        · rw [List.getElem?_eq_none (by omega), List.getElem?_eq_none (by rw [rngW_length]; omega)]
      have heven : c.q.toNat - c.q.toNat / 2 = c.q.toNat / 2 := by have := h.mem.th.1.q; omega
      refine ⟨rfl, a3, ?_, by rw [a1, hl]; omega, fun _ => ⟨by rw [rng_length h.sz, hw]; exact r, ?_, ?_⟩⟩
      · show gone ++ rng c p _ ++ (x.t ++ [x.g]) = was ++ [x.g]
        rw [hring, ← List.append_assoc, List.append_assoc gone, ht, List.take_append_drop, ← h.all, rng_of h.sz, hw]
      · show (x.t ++ [x.g]).length = _
        rw [List.length_append, List.length_singleton, r2]
      · rw [hring, List.length_take, rngW_length]; omega
    · left
      obtain ⟨a1, a2, a3, a4⟩ := cas_miss_same h.mem hw (dropW x.w (c.q.toNat / 2))
      rw [if_neg a4]
      refine ⟨by simp, ⟨a3, by rw [a1]; exact h.sz, by rw [rng_same a1 a2]; exact h.all, h.xc, h.xp, h.xg, h.xw, .inl rfl⟩, ?_⟩
      exact mu_again rfl (by rw [a1]) (if_neg (by rintro (e | e); omega; exact hw e)) (if_pos (.inl rfl)) (rem35 (.inr s)) (rem1 rfl)
/-- at first -/
theorem KI.start {c : Cfg} {p g : Int} {m : PM} (h : Mk c p m) (hs : ln (wdN c p m) ≤ c.q.toNat) (hg : 0 ≤ g ∧ g < 9223372036854775808) : KI c p (rng c p m) [] (newP c p g) m ∧ (newP c p g).g = g ∧ muN c p (newP c p g) m = ln (wdN c p m) * (c.q.toNat / 2 + 2) + (c.q.toNat / 2 + 2) := by
  have e : newP c p g = ⟨c, p, g, 1, 0, [], [g]⟩ := by unfold newP; rw [if_pos ⟨thB_iff.2 h.th, hg.1⟩]
  obtain ⟨x, hx⟩ : ∃ x : PS, x = ⟨c, p, g, 1, 0, [], [g]⟩ := ⟨_, rfl⟩
  rw [e, ← hx]
  have h1 : x.c = c := by rw [hx]
  have h2 : x.p = p := by rw [hx]
  have h3 : x.g = g := by rw [hx]
  have h4 : x.w = 0 := by rw [hx]
  have h5 : x.a = 1 := by rw [hx]
  clear hx e
  refine ⟨⟨h, hs, List.nil_append _, h1, h2, by rw [h3]; exact hg, by rw [h4]; omega, .inl h5⟩, h3, ?_⟩
  unfold muN flagN remN
  rw [if_pos h5, if_pos (.inl h5), Nat.add_zero]
end Go.Pu

/- Plain: a get, step by step, beside a memory (layer 10). It imports nothing of the dump. -/
namespace Go.Pu
open Go.Ce Go.Cg Go.Wd

/-- a get: a is where it is (0 done, 1 look, 2 copy, 3 gain), w the word, s what was copied, h whether it has it, t how often its CAS failed -/
structure GS where
  c : Cfg
  p : Int
  a : Nat
  w : Nat
  s : Int
  h : Bool
  t : Nat
def GS.zero : GS := ⟨cfg0, 0, 0, 0, 0, false, 0⟩
def newG (c : Cfg) (p : Int) : GS := if thB c p = true then ⟨c, p, 1, 0, 0, false, 0⟩ else GS.zero
def GS.wa (x : GS) : Int := aW x.c x.p
def GS.sa (x : GS) : Int := aS x.c x.p (hd x.w)
def GS.q (x : GS) : Nat := x.c.q.toNat
def GS.got (x : GS) : Int := if x.h = true then x.s else 0
def GS.hands (x : GS) : List Int := if x.h = true then [x.s] else []
/-- where a look leads -/
def lookA (l q : Nat) : Nat := if l = 0 ∨ q < l then 0 else 2
def gStep (x : GS) (m : PM) : GS × PM :=
  if x.a = 1 then ({ x with w := (m.ans x.wa).toNat, a := lookA (ln (m.ans x.wa).toNat) x.q }, m.load x.wa)
  else if x.a = 2 then ({ x with s := IntKind.i64.wrap (m.ans x.sa), a := 3 }, m.load x.sa)
  else if x.a = 3 then (if m.hit x.wa x.w then { x with a := 0, h := true } else { x with a := 1, t := x.t + 1 }, m.cas x.wa x.w (gainW x.w 1))
  else (x, m)
theorem gstep0 {x : GS} (h : x.a = 0) (m : PM) : gStep x m = (x, m) := by unfold gStep; simp [h]
theorem gstep1 {x : GS} (h : x.a = 1) (m : PM) : gStep x m = ({ x with w := (m.ans x.wa).toNat, a := lookA (ln (m.ans x.wa).toNat) x.q }, m.load x.wa) := by unfold gStep; rw [if_pos h]
theorem gstep2 {x : GS} (h : x.a = 2) (m : PM) : gStep x m = ({ x with s := IntKind.i64.wrap (m.ans x.sa), a := 3 }, m.load x.sa) := by unfold gStep; rw [if_neg (by omega), if_pos h]
theorem gstep3 {x : GS} (h : x.a = 3) (m : PM) : gStep x m = (if m.hit x.wa x.w then { x with a := 0, h := true } else { x with a := 1, t := x.t + 1 }, m.cas x.wa x.w (gainW x.w 1)) := by unfold gStep; rw [if_neg (by omega), if_neg (by omega), if_pos h]
/-- what holds of a get at all times -/
structure GS.Ok (x : GS) : Prop where
  a : x.a ≤ 3
  th : x.a ≠ 0 → Right x.c ∧ 0 ≤ x.p ∧ x.p < x.c.n
  w : x.w < 18446744073709551616
  h : x.a ≠ 0 → x.h = false
theorem newG_ok (c : Cfg) (p : Int) : (newG c p).Ok := by
  unfold newG
  split
  · rename_i h
    exact ⟨by simp, fun _ => thB_iff.1 h, by simp, fun _ => rfl⟩
  · exact ⟨Nat.zero_le _, fun h => absurd rfl h, Nat.zero_lt_succ _, fun h => absurd rfl h⟩
def GStepOk (x y : GS) (m m' : PM) : Prop := y.Ok ∧ U64 m' ∧ m'.cs.length = m.cs.length ∧ m.k.ops ≤ m'.k.ops ∧ m'.k.ops ≤ m.k.ops + 1 ∧ y.t ≤ x.t + 1 ∧ (x.a ≠ 0 → y.c = x.c ∧ y.p = x.p)
theorem lookA_two (l q : Nat) : lookA l q = 0 ∨ lookA l q = 2 := by
  unfold lookA
  split
  · exact .inl rfl
  · exact .inr rfl
theorem gstep_ok {x : GS} (h : x.Ok) {m : PM} (hm : U64 m) : GStepOk x (gStep x m).1 m (gStep x m).2 := by
  by_cases h1 : x.a = 1
  · rw [gstep1 h1]
    have hw := hm.ans x.wa
    obtain ⟨a, ha⟩ : ∃ a, lookA (ln (m.ans x.wa).toNat) x.q = a := ⟨_, rfl⟩
    have ha2 := lookA_two (ln (m.ans x.wa).toNat) x.q
    rw [ha] at ha2 ⊢
    obtain ⟨i1, i2, i3⟩ := mem_load m x.wa
    refine ⟨⟨?_, fun _ => h.th (by omega), ?_, fun _ => h.h (by omega)⟩, hm.load _, i1, i2, i3, Nat.le_succ _, fun _ => ⟨rfl, rfl⟩⟩
    · show a ≤ 3
      omega
    · show (m.ans x.wa).toNat < _
      omega
  · by_cases h2 : x.a = 2
    · rw [gstep2 h2]
      obtain ⟨i1, i2, i3⟩ := mem_load m x.sa
      exact ⟨⟨Nat.le_refl _, fun _ => h.th (by omega), h.w, fun _ => h.h (by omega)⟩, hm.load _, i1, i2, i3, Nat.le_succ _, fun _ => ⟨rfl, rfl⟩⟩
    · by_cases h3 : x.a = 3
      · rw [gstep3 h3]
        obtain ⟨i1, i2, i3⟩ := mem_cas m x.wa x.w (gainW x.w 1)
        have hth := h.th (by omega)
        have hh := h.h (by omega)
        by_cases hi : m.hit x.wa x.w
        · rw [if_pos hi]
          exact ⟨⟨Nat.zero_le _, fun e => absurd rfl e, h.w, fun e => absurd rfl e⟩, hm.cas _ _ _ (wd_rng gain_lt), i1, i2, i3, Nat.le_succ _, fun _ => ⟨rfl, rfl⟩⟩
        · rw [if_neg hi]
          exact ⟨⟨by show 1 ≤ 3; omega, fun _ => hth, h.w, fun _ => hh⟩, hm.cas _ _ _ (wd_rng gain_lt), i1, i2, i3, Nat.le_refl _, fun _ => ⟨rfl, rfl⟩⟩
      · have := h.a
        rw [gstep0 (by omega)]
        exact ⟨h, hm, rfl, Nat.le_refl _, Nat.le_succ _, Nat.le_succ _, fun _ => ⟨rfl, rfl⟩⟩
theorem gs_parts {c : Cfg} {p : Int} {a w : Nat} {s : Int} {h : Bool} {t : Nat} {X : GS} (hX : X = ⟨c, p, a, w, s, h, t⟩) : X.c = c ∧ X.p = p ∧ X.a = a ∧ X.w = w ∧ X.s = s ∧ X.h = h ∧ X.t = t := by subst hX; exact ⟨rfl, rfl, rfl, rfl, rfl, rfl, rfl⟩
end Go.Pu

/- Plain: one get behind the other; a get whose ring loses some of its oldest between its steps (layer 10). It imports nothing of the dump. -/
namespace Go.Pu
open Go.Ce Go.Cg Go.Wd

def runG : Nat → GS → PM → GS × PM
  | 0, x, m => (x, m)
  | n + 1, x, m => if x.a = 0 then (x, m) else runG n (gStep x m).1 (gStep x m).2
/-- a get from its beginning to its end, nobody beside it -/
def finG (c : Cfg) (p : Int) (m : PM) : GS × PM := runG 3 (newG c p) m
/-- gets, one behind the other -/
def gotN (c : Cfg) (p : Int) : Nat → PM → List Int × PM
  | 0, m => ([], m)
  | n + 1, m => if (finG c p m).1.h = true then ((finG c p m).1.s :: (gotN c p n (finG c p m).2).1, (gotN c p n (finG c p m).2).2) else ([], (finG c p m).2)
theorem runG_done (n : Nat) {x : GS} (h : x.a = 0) (m : PM) : runG n x m = (x, m) := by
  cases n with
  | zero => rfl
  | succ n => unfold runG; rw [if_pos h]
theorem runG_next (n : Nat) {x : GS} (h : x.a ≠ 0) (m : PM) : runG (n + 1) x m = runG n (gStep x m).1 (gStep x m).2 := by rw [runG, if_neg h]
/-- on the way from a get's beginning to its end -/
structure GWay (c : Cfg) (p : Int) (m : PM) (k : Nat) (x : GS) (mm : PM) : Prop where
  run : runG k x mm = finG c p m
  st : x.a = 0 ∨ (x.a = 1 ∧ k = 3) ∨ (x.a = 2 ∧ k = 2 ∧ mm.hit x.wa x.w) ∨ (x.a = 3 ∧ k = 1 ∧ mm.hit x.wa x.w)
  ok : x.Ok
  u : U64 mm
  len : mm.cs.length = m.cs.length
  ops : mm.k.ops + k ≤ m.k.ops + 3
  t : x.t = 0
theorem GWay.start (c : Cfg) (p : Int) {m : PM} (hu : U64 m) : GWay c p m 3 (newG c p) m := by
  refine ⟨rfl, ?_, newG_ok c p, hu, rfl, Nat.le_refl _, ?_⟩
  · unfold newG
    split
    · exact .inr (.inl ⟨rfl, rfl⟩)
    · exact .inl rfl
  · unfold newG
    split <;> rfl
theorem hit_load {m : PM} {a : Int} {o : Int} (b : Int) (h : m.hit a o) : (m.load b).hit a o := by
  obtain ⟨⟨h0, h1⟩, h2⟩ := h
  exact ⟨⟨h0, by rw [(mem_load m b).1]; exact h1⟩, by rw [at_load _ _ _ h0]; exact h2⟩
theorem ln_zero : ln 0 = 0 := by decide
theorem way_hit {mm : PM} {a : Int} {w : Nat} (hu : U64 mm) (hw : (mm.ans a).toNat = w) (h0 : ln w ≠ 0) : mm.hit a w := by
  have hHas : mm.Has a := by
    apply Classical.byContradiction
    intro hn
    apply h0
    have e : mm.ans a = 0 := by unfold PM.ans; rw [if_neg hn]
    rw [e] at hw
    have e2 : w = 0 := hw.symm
    rw [e2]
    exact ln_zero
  have h1 := hu.at a
  have h3 : mm.ans a = mm.at a := by unfold PM.ans; rw [if_pos hHas]
  rw [h3] at hw
  exact ⟨hHas, by omega⟩
theorem wa_of {x y : GS} (h1 : y.c = x.c) (h2 : y.p = x.p) : y.wa = x.wa := by unfold GS.wa; rw [h1, h2]
theorem GWay.step {c : Cfg} {p : Int} {m mm : PM} {k : Nat} {x : GS} (h : GWay c p m k x mm) (h0 : x.a ≠ 0) : ∃ k', k = k' + 1 ∧ GWay c p m k' (gStep x mm).1 (gStep x mm).2 ∧ ((gStep x mm).1.a = 0 ∨ (gStep x mm).1.a = x.a + 1) := by
  obtain ⟨k', hk'⟩ : ∃ k', k = k' + 1 := by
    rcases h.st with e | ⟨_, e⟩ | ⟨_, e, _⟩ | ⟨_, e, _⟩
    · exact absurd e h0
    · exact ⟨2, e⟩
    · exact ⟨1, e⟩
    · exact ⟨0, e⟩
  subst hk'
  obtain ⟨i1, i2, i3, i4, i5, i6, i7⟩ := gstep_ok h.ok h.u
  obtain ⟨i8, i9⟩ := i7 h0
  have hrun : runG k' (gStep x mm).1 (gStep x mm).2 = finG c p m := by rw [← h.run, runG_next _ h0]
  have hops := h.ops
  have hht := h.t
  obtain ⟨⟨X, M⟩, hXM⟩ : ∃ P, gStep x mm = P := ⟨_, rfl⟩
  rw [hXM] at hrun i1 i2 i3 i4 i5 i8 i9 ⊢
  show ∃ k'', k' + 1 = k'' + 1 ∧ GWay c p m k'' X M ∧ (X.a = 0 ∨ X.a = x.a + 1)
  change X.Ok at i1
  change U64 M at i2
  change M.cs.length = mm.cs.length at i3
  change M.k.ops ≤ mm.k.ops + 1 at i5
  change X.c = x.c at i8
  change X.p = x.p at i9
  change runG k' X M = finG c p m at hrun
  have hwa := wa_of i8 i9
  rcases h.st with e | ⟨e, ek⟩ | ⟨e, ek, eh⟩ | ⟨e, ek, eh⟩
  · exact absurd e h0
  · have hs := hXM.symm.trans (gstep1 e mm)
    obtain ⟨w, hw⟩ : ∃ w, (mm.ans x.wa).toNat = w := ⟨_, rfl⟩
    obtain ⟨A, hA⟩ : ∃ A, lookA (ln w) x.q = A := ⟨_, rfl⟩
    rw [hw, hA] at hs
    have hX : X = ⟨x.c, x.p, A, w, x.s, x.h, x.t⟩ := congrArg Prod.fst hs
    have hM : M = mm.load x.wa := congrArg Prod.snd hs
    obtain ⟨q1, q2, q3, q4, q5, q6, q7⟩ := gs_parts hX
    have hA2 := lookA_two (ln w) x.q
    rw [hA] at hA2
    refine ⟨k', rfl, ⟨hrun, ?_, i1, i2, i3.trans h.len, by omega, by rw [q7]; exact hht⟩, by rw [q3]; omega⟩
    rw [q3, q4, hwa, hM]
    rcases hA2 with h1 | h1
    · exact .inl h1
    · refine .inr (.inr (.inl ⟨h1, by omega, hit_load _ (way_hit h.u hw ?_)⟩))
      intro e0
      unfold lookA at hA
      rw [if_pos (.inl e0)] at hA
      omega
  · have hs := hXM.symm.trans (gstep2 e mm)
    have hX : X = ⟨x.c, x.p, 3, x.w, IntKind.i64.wrap (mm.ans x.sa), x.h, x.t⟩ := congrArg Prod.fst hs
    have hM : M = mm.load x.sa := congrArg Prod.snd hs
    obtain ⟨q1, q2, q3, q4, q5, q6, q7⟩ := gs_parts hX
    refine ⟨k', rfl, ⟨hrun, ?_, i1, i2, i3.trans h.len, by omega, by rw [q7]; exact hht⟩, by rw [q3]; omega⟩
    rw [q3, q4, hwa, hM]
    exact .inr (.inr (.inr ⟨rfl, by omega, hit_load _ eh⟩))
  · have hs := hXM.symm.trans (gstep3 e mm)
    rw [if_pos eh] at hs
    have hX : X = ⟨x.c, x.p, 0, x.w, x.s, true, x.t⟩ := congrArg Prod.fst hs
    obtain ⟨q1, q2, q3, q4, q5, q6, q7⟩ := gs_parts hX
    exact ⟨k', rfl, ⟨hrun, .inl q3, i1, i2, i3.trans h.len, by omega, by rw [q7]; exact hht⟩, .inl q3⟩
theorem GWay.fin {c : Cfg} {p : Int} {m mm : PM} {k : Nat} {x : GS} (h : GWay c p m k x mm) (h0 : x.a = 0) : finG c p m = (x, mm) := by rw [← h.run, runG_done _ h0]
/-- where a get ends -/
theorem finG_ok (c : Cfg) (p : Int) {m : PM} (hu : U64 m) : (finG c p m).1.a = 0 ∧ (finG c p m).1.Ok ∧ U64 (finG c p m).2 ∧ (finG c p m).2.cs.length = m.cs.length ∧ (finG c p m).2.k.ops ≤ m.k.ops + 3 := by
  have key : ∀ (n k : Nat) (x : GS) (mm : PM), k ≤ n → GWay c p m k x mm → ∃ x' mm' k', GWay c p m k' x' mm' ∧ x'.a = 0 := by
    intro n
    induction n with
    | zero =>
      intro k x mm hk h
      by_cases h0 : x.a = 0
      · exact ⟨x, mm, k, h, h0⟩
      · obtain ⟨k', e, -⟩ := h.step h0
        omega
    | succ n ih =>
      intro k x mm hk h
      by_cases h0 : x.a = 0
      · exact ⟨x, mm, k, h, h0⟩
      · obtain ⟨k', e, h', -⟩ := h.step h0
        exact ih k' _ _ (by omega) h'
  obtain ⟨x', mm', k', h, h0⟩ := key 3 3 _ _ (Nat.le_refl _) (GWay.start c p hu)
  rw [h.fin h0]
  have := h.ops
  exact ⟨h0, h.ok, h.u, h.len, by show mm'.k.ops ≤ _; omega⟩
/-- gets of a ring, one behind the other, get all that is in it -/
theorem got_rng {c : Cfg} {p : Int} : ∀ (n : Nat) (m : PM), Mk c p m → ln (wdN c p m) ≤ c.q.toNat → ln (wdN c p m) < n → (gotN c p n m).1 = rng c p m := by
  intro n
  induction n with
  | zero => intro m _ _ h; omega
  | succ n ih =>
    intro m hm hq hl
    have hnew : newG c p = ⟨c, p, 1, 0, 0, false, 0⟩ := by unfold newG; rw [if_pos (thB_iff.2 hm.th)]
    have hw := wd_lt hm
    obtain ⟨a1, a2, a3⟩ := load_same hm (aW c p)
    have s1 : gStep (newG c p) m = (⟨c, p, lookA (ln (wdN c p m)) c.q.toNat, wdN c p m, 0, false, 0⟩, m.load (aW c p)) := by
      rw [hnew, gstep1 rfl]
      show ((⟨c, p, lookA (ln (m.ans (aW c p)).toNat) c.q.toNat, (m.ans (aW c p)).toNat, 0, false, 0⟩ : GS), m.load (aW c p)) = _
      rw [ans_W hm]
    have hna : (newG c p).a ≠ 0 := by rw [hnew]; exact Nat.succ_ne_zero _
    have hfin : finG c p m = runG 2 ⟨c, p, lookA (ln (wdN c p m)) c.q.toNat, wdN c p m, 0, false, 0⟩ (m.load (aW c p)) := by
      unfold finG
      rw [runG_next 2 hna, s1]
    by_cases h0 : ln (wdN c p m) = 0
    · have hA : lookA (ln (wdN c p m)) c.q.toNat = 0 := by unfold lookA; rw [if_pos (.inl h0)]
      rw [hA, runG_done _ rfl] at hfin
      have hr : rng c p m = [] := by
        apply List.eq_nil_of_length_eq_zero
        rw [rng_length hq, h0]
      rw [hr, gotN, hfin]
      exact congrArg Prod.fst (if_neg Bool.false_ne_true)
    · have hA : lookA (ln (wdN c p m)) c.q.toNat = 2 := by unfold lookA; rw [if_neg (by omega)]
      rw [hA] at hfin
      obtain ⟨m1, hm1⟩ : ∃ m1, m.load (aW c p) = m1 := ⟨_, rfl⟩
      rw [hm1] at hfin a1 a2 a3
      obtain ⟨w, hwd⟩ : ∃ w, wdN c p m = w := ⟨_, rfl⟩
      rw [hwd] at hfin h0 hq hl a1 hw
      have hwi := hwd
      obtain ⟨b1, b2, b3⟩ := load_same a3 (aS c p (hd w))
      have hcell : IntKind.i64.wrap (m1.ans (aS c p (hd w))) = cellF c p m (hd w) := by
        rw [← a2]
        unfold PM.ans cellF
        rw [if_pos (a3.hasS _)]
      rw [runG_next 1 (by show (2 : Nat) ≠ 0; omega), gstep2 rfl] at hfin
      change finG c p m = runG 1 ⟨c, p, 3, w, IntKind.i64.wrap (m1.ans (aS c p (hd w))), false, 0⟩ (m1.load (aS c p (hd w))) at hfin
      rw [hcell] at hfin
      obtain ⟨m2, hm2⟩ : ∃ m2, m1.load (aS c p (hd w)) = m2 := ⟨_, rfl⟩
      rw [hm2] at hfin b1 b2 b3
      have hw2 : wdN c p m2 = w := b1.trans a1
      obtain ⟨d1, d2, d3, d4⟩ := cas_hit_new' b3 hw2 (gain_lt (x := w) (n := 1))
      rw [runG_next 0 (by show (3 : Nat) ≠ 0; omega), gstep3 rfl] at hfin
      have d4' : m2.hit (GS.wa ⟨c, p, 3, w, cellF c p m (hd w), false, 0⟩) w := d4
      rw [if_pos d4'] at hfin
      change finG c p m = ((⟨c, p, 0, w, cellF c p m (hd w), true, 0⟩ : GS), m2.cas (aW c p) w (gainW w 1)) at hfin
      obtain ⟨m3, hm3⟩ : ∃ m3, m2.cas (aW c p) w (gainW w 1) = m3 := ⟨_, rfl⟩
      rw [hm3] at hfin d1 d2 d3
      have hl3 := ln_gain hw (show 1 ≤ ln w by omega)
      have hih := ih m3 d3 (by rw [d1, hl3]; omega) (by rw [d1, hl3]; omega)
      rw [gotN, hfin, if_pos rfl]
      show cellF c p m (hd w) :: (gotN c p n m3).1 = rng c p m
      rw [hih, rng_of (by rw [d1, hl3]; omega), d1, show cellF c p m3 = cellF c p m from funext fun i => (d2 i).trans ((b2 i).trans (a2 i)), rngW_gain _ hw (by omega), rng_of (by rw [hwi]; exact hq), hwi]
      have h1 := rngW_at (cellF c p m) w (j := 0) (by omega)
      have hh := hd_lt hw
      rw [Nat.add_zero, Nat.mod_eq_of_lt hh] at h1
      cases hr : rngW (cellF c p m) w with
      | nil => rw [hr] at h1; cases h1
      | cons y ys =>
        rw [hr] at h1
        have e : y = cellF c p m (hd w) := by simpa using h1
        rw [e]
        rfl
theorem got_bound (c : Cfg) (p : Int) : ∀ (n : Nat) (m : PM), (gotN c p n m).1.length ≤ n := by
  intro n
  induction n with
  | zero => intro m; exact Nat.le_refl _
  | succ n ih =>
    intro m
    rw [gotN]
    split
    · show (gotN c p n _).1.length + 1 ≤ n + 1
      exact Nat.succ_le_succ (ih _)
    · exact Nat.zero_le _

/-- since it looked, n of the oldest were taken, and nothing else; a CAS that will fail is counted -/
def SinceG (c : Cfg) (p : Int) (w t gains : Nat) (m : PM) : Prop := ∃ n, n ≤ ln w ∧ wdN c p m = gainW w n ∧ 0 < ln w ∧ ln w ≤ c.q.toNat ∧ (0 < n → t + 1 ≤ gains)
structure OI (c : Cfg) (p : Int) (all out : List Int) (gains : Nat) (x : GS) (m : PM) : Prop where
  mem : Mk c p m
  sz : ln (wdN c p m) ≤ c.q.toNat
  all : out ++ rng c p m = all
  xc : x.c = c
  xp : x.p = p
  xw : x.w < 18446744073709551616
  t : x.t ≤ gains
  st : x.a = 1 ∨ (x.a = 2 ∧ SinceG c p x.w x.t gains m) ∨ (x.a = 3 ∧ SinceG c p x.w x.t gains m ∧ x.s = cellF c p m (hd x.w))
def remG (x : GS) : Nat := if x.a = 1 then 3 else if x.a = 2 then 2 else 1
def flagG (c : Cfg) (p : Int) (x : GS) (m : PM) : Nat := if x.a = 1 ∨ wdN c p m = x.w then 0 else 1
/-- how many steps there still may be -/
def muG (c : Cfg) (p : Int) (x : GS) (m : PM) : Nat := (ln (wdN c p m) + flagG c p x m) * 3 + remG x
/-- some are taken -/
theorem OI.thief {c : Cfg} {p : Int} {all out : List Int} {gains : Nat} {x : GS} {m : PM} (h : OI c p all out gains x m) (most : Nat) :
    OI c p all (out ++ (rng c p m).take (thN (rng c p m) most)) (if 0 < ((rng c p m).take (thN (rng c p m) most)).length then gains + 1 else gains) x (thiefM c p m most) ∧ muG c p x (thiefM c p m most) ≤ muG c p x m := by
  obtain ⟨n, hn, hle, e1, e2, e3, e4, e5⟩ := thief_ring h.mem h.sz most
  rw [← hn]
  have hlen : ((rng c p m).take n).length = n := by rw [List.length_take, rng_length h.sz]; omega
  rw [hlen]
  obtain ⟨G, hG⟩ : ∃ G, (if 0 < n then gains + 1 else gains) = G := ⟨_, rfl⟩
  have hG2 : gains ≤ G ∧ (0 < n → gains + 1 ≤ G) := by rw [← hG]; split <;> omega
  rw [hG]
  have hS : SinceG c p x.w x.t gains m → SinceG c p x.w x.t G (thiefM c p m most) := by
    rintro ⟨a, ha, hb, hc, hd', he⟩
    have hl := ln_gain h.xw ha
    have ht := h.t
    refine ⟨a + n, by rw [hb] at hle; omega, ?_, hc, hd', fun h0 => ?_⟩
    · rw [e1, hb]
      unfold gainW
      rw [hd_pk (tl_lt _), tl_pk (tl_lt _)]
      congr 1
      omega
    · by_cases h1 : 0 < a
      · have := he h1; omega
      · have := hG2.2 (by omega); omega
  refine ⟨⟨e3, by rw [e5]; have := h.sz; omega, ?_, h.xc, h.xp, h.xw, Nat.le_trans h.t hG2.1, ?_⟩, ?_⟩
  · rw [e4, List.append_assoc, List.take_append_drop]; exact h.all
  · rcases h.st with s | ⟨s, t⟩ | ⟨s, t, r⟩
    · exact .inl s
    · exact .inr (.inl ⟨s, hS t⟩)
    · exact .inr (.inr ⟨s, hS t, by rw [e2]; exact r⟩)
  · unfold muG
    refine Nat.add_le_add_right (Nat.mul_le_mul_right _ ?_) _
    rw [e5]
    by_cases h0 : n = 0
    · have e6 : wdN c p (thiefM c p m most) = wdN c p m := by rw [e1, h0, gain_zero (wd_lt h.mem)]
      unfold flagG
      rw [e6, h0, Nat.sub_zero]
      exact Nat.le_refl _
    · have hf : flagG c p x (thiefM c p m most) ≤ 1 := by unfold flagG; split <;> omega
      omega
/-- it is done -/
structure OD (c : Cfg) (p : Int) (all out : List Int) (gains : Nat) (x : GS) (m0 m : PM) : Prop where
  mem : Mk c p m
  sz : ln (wdN c p m) ≤ c.q.toNat
  all : out ++ x.hands ++ rng c p m = all
  t : x.t ≤ gains
  hs : x.h = decide (0 < (rng c p m0).length)
  got : x.h = true → (rng c p m0) = x.s :: rng c p m
theorem hands_no {x : GS} (h : x.h = false) : x.hands = [] := by unfold GS.hands; rw [if_neg (by rw [h]; decide)]
theorem hands_yes {x : GS} (h : x.h = true) : x.hands = [x.s] := by unfold GS.hands; rw [if_pos h]
theorem muG_of {c : Cfg} {p : Int} {x : GS} {m : PM} {l f r : Nat} (h1 : ln (wdN c p m) = l) (h2 : flagG c p x m = f) (h3 : remG x = r) : muG c p x m = (l + f) * 3 + r := by unfold muG; rw [h1, h2, h3]
theorem flag_yes {c : Cfg} {p : Int} {x : GS} {m : PM} (h : x.a = 1 ∨ wdN c p m = x.w) : flagG c p x m = 0 := if_pos h
theorem flag_no {c : Cfg} {p : Int} {x : GS} {m : PM} (h : x.a ≠ 1) (h2 : wdN c p m ≠ x.w) : flagG c p x m = 1 := if_neg (by rintro (e | e); exact h e; exact h2 e)
theorem flag_same {c : Cfg} {p : Int} {x y : GS} {m m' : PM} (hx : x.a ≠ 1) (hy : y.a ≠ 1) (hw : y.w = x.w) (hm : wdN c p m' = wdN c p m) : flagG c p y m' = flagG c p x m := by
  by_cases h : wdN c p m = x.w
  · rw [flag_yes (.inr h), flag_yes (.inr (by rw [hm, hw]; exact h))]
  · rw [flag_no hx h, flag_no hy (by rw [hm, hw]; exact h)]
theorem rem_1 {x : GS} (h : x.a = 1) : remG x = 3 := if_pos h
theorem rem_2 {x : GS} (h : x.a = 2) : remG x = 2 := by unfold remG; rw [if_neg (by omega), if_pos h]
theorem rem_3 {x : GS} (h : x.a = 3) : remG x = 1 := by unfold remG; rw [if_neg (by omega), if_neg (by omega)]
def OIS (c : Cfg) (p : Int) (all out : List Int) (gains : Nat) (x : GS) (m : PM) (X : GS) (M : PM) : Prop :=
  (X.a ≠ 0 ∧ OI c p all out gains X M ∧ rng c p M = rng c p m ∧ muG c p X M + 1 ≤ muG c p x m ∧ X.h = false) ∨ (X.a = 0 ∧ OD c p all out gains X m M)
section
variable {c : Cfg} {p : Int} {all out : List Int} {gains : Nat} {x X : GS} {m M : PM}
theorem oi_look (h : OI c p all out gains x m) (hh : x.h = false) (s : x.a = 1) {A : Nat} (hA : lookA (ln (wdN c p m)) c.q.toNat = A) (hX : X = ⟨x.c, x.p, A, wdN c p m, x.s, x.h, x.t⟩) (hM : M = m.load (aW c p)) : OIS c p all out gains x m X M := by
  have hwl := wd_lt h.mem
  have hxt := h.t
  obtain ⟨a1, a2, a3⟩ := load_same h.mem (aW c p)
  have hsz := h.sz
  have hal := h.all
  rw [← hM] at a1 a2 a3
  have hrs := rng_same a1 a2
  obtain ⟨q1, q2, q3, q4, q5, q6, q7⟩ := gs_parts hX
  obtain ⟨l, hl⟩ : ∃ l, ln (wdN c p m) = l := ⟨_, rfl⟩
  by_cases h0 : l = 0
  · right
    have hA0 : A = 0 := by rw [← hA]; unfold lookA; rw [if_pos (.inl (by rw [hl]; exact h0))]
    have hr : rng c p m = [] := List.eq_nil_of_length_eq_zero (by rw [rng_length hsz, hl, h0])
    rw [hr, List.append_nil] at hal
    rw [hr] at hrs
    refine ⟨by rw [q3]; exact hA0, a3, by rw [a1]; exact hsz, ?_, by rw [q7]; exact hxt, ?_, fun e => ?_⟩
    · rw [hrs, List.append_nil, hands_no (by rw [q6]; exact hh), List.append_nil]
      exact hal
    · rw [q6, hh, hr]
      rfl
    · rw [q6, hh] at e
      cases e
  · left
    have hA2 : A = 2 := by rw [← hA]; unfold lookA; rw [if_neg (by rw [hl]; rintro (e | e); exact h0 e; omega)]
    subst hA2
    refine ⟨by rw [q3]; decide, ⟨a3, by rw [a1]; exact hsz, by rw [hrs]; exact hal, q1.trans h.xc, q2.trans h.xp, by rw [q4]; exact hwl, by rw [q7]; exact hxt, .inr (.inl ⟨q3, 0, Nat.zero_le _, by rw [a1, q4]; exact (gain_zero hwl).symm, by rw [q4, hl]; omega, by rw [q4]; exact hsz, fun e => absurd e (Nat.lt_irrefl _)⟩)⟩, hrs, ?_, by rw [q6]; exact hh⟩
    rw [muG_of (l := l) (by rw [a1]; exact hl) (flag_yes (.inr (by rw [a1, q4]))) (rem_2 q3), muG_of hl (flag_yes (.inl s)) (rem_1 s)]
    exact Nat.le_refl _
theorem oi_copy (h : OI c p all out gains x m) (hh : x.h = false) (s : x.a = 2) (t : SinceG c p x.w x.t gains m) (hX : X = ⟨x.c, x.p, 3, x.w, IntKind.i64.wrap (m.ans (aS c p (hd x.w))), x.h, x.t⟩) (hM : M = m.load (aS c p (hd x.w))) : OIS c p all out gains x m X M := by
  have hxt := h.t
  obtain ⟨a1, a2, a3⟩ := load_same h.mem (aS c p (hd x.w))
  have hsz := h.sz
  have hal := h.all
  rw [← hM] at a1 a2 a3
  have hrs := rng_same a1 a2
  obtain ⟨q1, q2, q3, q4, q5, q6, q7⟩ := gs_parts hX
  obtain ⟨n, hn, e1, e2, e3, e4⟩ := t
  have hcell : IntKind.i64.wrap (m.ans (aS c p (hd x.w))) = cellF c p m (hd x.w) := by
    unfold PM.ans cellF
    rw [if_pos (h.mem.hasS _)]
  left
  refine ⟨by rw [q3]; decide, ⟨a3, by rw [a1]; exact hsz, by rw [hrs]; exact hal, q1.trans h.xc, q2.trans h.xp, by rw [q4]; exact h.xw, by rw [q7]; exact hxt, .inr (.inr ⟨q3, ⟨n, by rw [q4]; exact hn, by rw [a1, q4]; exact e1, by rw [q4]; exact e2, by rw [q4]; exact e3, by rw [q7]; exact e4⟩, ?_⟩)⟩, hrs, ?_, by rw [q6]; exact hh⟩
  · rw [a2, q4, q5]; exact hcell
  · rw [muG_of (by rw [a1]) (flag_same (by omega) (by omega) q4 a1) (rem_3 q3), muG_of rfl rfl (rem_2 s)]
    omega
theorem oi_gain (h : OI c p all out gains x m) (hh : x.h = false) (s : x.a = 3) (t : SinceG c p x.w x.t gains m) (r : x.s = cellF c p m (hd x.w)) (hX : X = if m.hit (aW c p) x.w then ⟨x.c, x.p, 0, x.w, x.s, true, x.t⟩ else ⟨x.c, x.p, 1, x.w, x.s, x.h, x.t + 1⟩) (hM : M = m.cas (aW c p) x.w (gainW x.w 1)) : OIS c p all out gains x m X M := by
  obtain ⟨n, hn, e1, e2, e3, e4⟩ := t
  have hxt := h.t
  have hsz := h.sz
  have hal := h.all
  by_cases hw : wdN c p m = x.w
  · right
    obtain ⟨a1, a2, a3, a4⟩ := cas_hit_new h.mem hw (gain_lt (x := x.w) (n := 1))
    rw [if_pos a4] at hX
    rw [← hM] at a1 a2 a3
    obtain ⟨q1, q2, q3, q4, q5, q6, q7⟩ := gs_parts hX
    have e2' : 1 ≤ ln x.w := by omega
    have hl := ln_gain h.xw e2'
    have hle : ln (wdN c p M) ≤ c.q.toNat := by rw [a1, hl]; omega
    have hring : rng c p m = x.s :: rng c p M := by
      rw [rng_of hsz, rng_of hle, a1, show cellF c p M = cellF c p m from funext a2, rngW_gain _ h.xw e2', hw]
      have h1 := rngW_at (cellF c p m) x.w (j := 0) e2
      have hh2 := hd_lt h.xw
      rw [Nat.add_zero, Nat.mod_eq_of_lt hh2, ← r] at h1
      cases hr : rngW (cellF c p m) x.w with
      | nil => rw [hr] at h1; cases h1
      | cons y ys =>
        rw [hr] at h1
        have e : y = x.s := by simpa using h1
        rw [e]
        rfl
    refine ⟨q3, a3, hle, ?_, by rw [q7]; exact hxt, ?_, fun _ => by rw [q5]; exact hring⟩
    · rw [hands_yes q6, q5, ← hal, hring, List.append_assoc, List.singleton_append]
    · rw [q6, hring, List.length_cons]
      exact (decide_eq_true (Nat.succ_pos _)).symm
  · left
    obtain ⟨a1, a2, a3, a4⟩ := cas_miss_same h.mem hw (gainW x.w 1)
    rw [if_neg a4] at hX
    rw [← hM] at a1 a2 a3
    have hrs := rng_same a1 a2
    obtain ⟨q1, q2, q3, q4, q5, q6, q7⟩ := gs_parts hX
    have hn0 : 0 < n := by
      rcases Nat.eq_zero_or_pos n with e0 | e0
      · rw [e0, gain_zero h.xw] at e1; exact absurd e1 hw
      · exact e0
    refine ⟨by rw [q3]; decide, ⟨a3, by rw [a1]; exact hsz, by rw [hrs]; exact hal, q1.trans h.xc, q2.trans h.xp, by rw [q4]; exact h.xw, by rw [q7]; exact e4 hn0, .inl q3⟩, hrs, ?_, by rw [q6]; exact hh⟩
    rw [muG_of (by rw [a1]) (flag_yes (.inl q3)) (rem_1 q3), muG_of rfl (flag_no (by omega) hw) (rem_3 s)]
    omega
end
/-- a step -/
theorem OI.step {c : Cfg} {p : Int} {all out : List Int} {gains : Nat} {x : GS} {m : PM} (h : OI c p all out gains x m) (hh : x.h = false) {X : GS} {M : PM} (hXM : gStep x m = (X, M)) : OIS c p all out gains x m X M := by
  have hxa : x.wa = aW c p := by unfold GS.wa; rw [h.xc, h.xp]
  have hxq : x.q = c.q.toNat := by unfold GS.q; rw [h.xc]
  rcases h.st with s | ⟨s, t⟩ | ⟨s, t, r⟩
  · have hs := hXM.symm.trans (gstep1 s m)
    rw [hxa, hxq, ans_W h.mem] at hs
    exact oi_look h hh s rfl (congrArg Prod.fst hs) (congrArg Prod.snd hs)
  · have hs := hXM.symm.trans (gstep2 s m)
    have hsa : x.sa = aS c p (hd x.w) := by unfold GS.sa; rw [h.xc, h.xp]
    rw [hsa] at hs
    exact oi_copy h hh s t (congrArg Prod.fst hs) (congrArg Prod.snd hs)
  · have hs := hXM.symm.trans (gstep3 s m)
    rw [hxa] at hs
    exact oi_gain h hh s t r (congrArg Prod.fst hs) (congrArg Prod.snd hs)
/-- at first -/
theorem OI.start {c : Cfg} {p : Int} {m : PM} (h : Mk c p m) (hs : ln (wdN c p m) ≤ c.q.toNat) : OI c p (rng c p m) [] 0 (newG c p) m ∧ muG c p (newG c p) m ≤ c.q.toNat * 3 + 3 ∧ (newG c p).h = false ∧ (newG c p).a = 1 := by
  have hnew : newG c p = ⟨c, p, 1, 0, 0, false, 0⟩ := by unfold newG; rw [if_pos (thB_iff.2 h.th)]
  obtain ⟨X, hX⟩ : ∃ X, newG c p = X := ⟨_, rfl⟩
  rw [hX] at hnew ⊢
  obtain ⟨q1, q2, q3, q4, q5, q6, q7⟩ := gs_parts hnew
  refine ⟨⟨h, hs, List.nil_append _, q1, q2, by rw [q4]; decide, by rw [q7]; exact Nat.le_refl _, .inl q3⟩, ?_, q6, q3⟩
  rw [muG_of rfl (flag_yes (.inl q3)) (rem_1 q3)]
  omega
end Go.Pu

/- Plain: the chapter's examples (layer 10). It imports nothing of the dump. -/
namespace Go.Pu
open Go.Ce Go.Cg Go.Wd

def cGk : Cfg := ⟨2, 4, 9, 3, 2, 0⟩
def mGk : PM := (((PM.new 24).store 20 5).store 21 6).store 14 2
theorem rightG : Right cGk := by
  refine ⟨?_, ?_, ?_, ?_, ?_, ?_⟩ <;> unfold cGk <;> simp
theorem thG : Right cGk ∧ 0 ≤ (1 : Int) ∧ (1 : Int) < cGk.n := ⟨rightG, by decide, by decide⟩
theorem ccG : ccN cGk = 24 := by rw [ccN_yes rightG]; rfl
/-- the first run -/
def gk : Nat → GS × PM
  | 0 => (newG cGk 1, mGk)
  | k + 1 => gStep (gk k).1 (gk k).2
/-- the second run, from its thief on -/
def hk0 : PM := thiefM cGk 1 (gk 1).2 1
def hk : Nat → GS × PM
  | 0 => ((gk 1).1, hk0)
  | k + 1 => gStep (hk k).1 (hk k).2
theorem newN_u64 (n : Nat) : U64 (PM.new n) := by
  intro z hz
  have h : z ∈ List.replicate n (0 : Int) := hz
  rw [List.mem_replicate] at h
  omega
theorem mGk_mk : Mk cGk 1 mGk := by
  refine ⟨thG, by rw [ccG]; decide +kernel, ?_⟩
  exact (((newN_u64 24).store _ _ (by decide)).store _ _ (by decide)).store _ _ (by decide)
theorem mk_gstep {c : Cfg} {p : Int} {x : GS} {m : PM} (h : Mk c p m) (hx : x.Ok) : Mk c p (gStep x m).2 := by
  obtain ⟨_, h2, h3, _⟩ := gstep_ok hx h.u
  exact ⟨h.th, by rw [h3]; exact h.len, h2⟩
theorem gk_ok (k : Nat) : (gk k).1.Ok ∧ Mk cGk 1 (gk k).2 := by
  induction k with
  | zero => exact ⟨newG_ok cGk 1, mGk_mk⟩
  | succ k ih => exact ⟨(gstep_ok ih.1 ih.2.u).1, mk_gstep ih.2 ih.1⟩
theorem hk0_mk : Mk cGk 1 hk0 := by
  unfold hk0
  obtain ⟨n, _, _, _, _, h, _⟩ := thief_ring (c := cGk) (p := 1) (gk_ok 1).2 (by decide +kernel) 1
  exact h
theorem hk_ok (k : Nat) : (hk k).1.Ok ∧ Mk cGk 1 (hk k).2 := by
  induction k with
  | zero =>
    have e1 : (hk 0).1 = (gk 1).1 := by simp only [hk]
    have e2 : (hk 0).2 = hk0 := by simp only [hk]
    rw [e1, e2]
    exact ⟨(gk_ok 1).1, hk0_mk⟩
  | succ k ih => exact ⟨(gstep_ok ih.1 ih.2.u).1, mk_gstep ih.2 ih.1⟩
theorem gk_run : decide ((gk 1).1.a = 0) = false ∧ decide ((gk 2).1.a = 0) = false ∧ decide ((gk 3).1.a = 0) = true ∧ (gk 3).1.got = 5 ∧ (gk 3).1.h = true ∧ rng cGk 1 (gk 3).2 = [6] ∧ rng cGk 1 mGk = [5, 6] ∧ ln (wdN cGk 1 mGk) = 2 := by decide +kernel
theorem hk_run : decide ((hk 1).1.a = 0) = false ∧ decide ((hk 2).1.a = 0) = false ∧ decide ((hk 3).1.a = 0) = false ∧ decide ((hk 4).1.a = 0) = false ∧ decide ((hk 5).1.a = 0) = true ∧ (hk 5).1.got = 6 ∧ (hk 5).1.h = true ∧ (hk 5).1.t = 1 := by decide +kernel
theorem gk_ops (k : Nat) (h : k ≤ 3) : (gk k).2.k.ops ≤ 100 ∧ (gk k).1.t ≤ 100 := by
  have : ∀ k, k < 4 → (gk k).2.k.ops ≤ 100 ∧ (gk k).1.t ≤ 100 := by decide +kernel
  exact this k (by omega)
theorem hk_ops (k : Nat) (h : k ≤ 5) : (hk k).2.k.ops ≤ 100 ∧ (hk k).1.t ≤ 100 := by
  have : ∀ k, k < 6 → (hk k).2.k.ops ≤ 100 ∧ (hk k).1.t ≤ 100 := by decide +kernel
  exact this k (by omega)
theorem gk_all : (gotN cGk 1 65536 mGk).1 = [5, 6] := by
  have h := gk_run
  rw [got_rng 65536 mGk mGk_mk (by rw [h.2.2.2.2.2.2.2]; decide) (by rw [h.2.2.2.2.2.2.2]; decide)]
  exact h.2.2.2.2.2.2.1
theorem mGk_ops : mGk.k.ops ≤ 100 := by decide +kernel
end Go.Pu
