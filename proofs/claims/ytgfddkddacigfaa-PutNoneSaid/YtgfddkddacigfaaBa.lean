/- Plain: configs, words, memories, puts and lays; it imports nothing of the dump. -/
import Derived.WalkKit
import GoSem.Claim
set_option linter.unusedSimpArgs false
set_option linter.unusedVariables false
/- Plain: a config, what is right, and where its cells are (layer 5), without names. It imports nothing of the dump. -/
namespace Go.Cg
/-- a config -/
structure Cfg where
  n : Int
  q : Int
  g : Int
  m : Int
  t : Int
  s : Int
structure Right (c : Cfg) : Prop where
  q : c.q = 2 ∨ c.q = 4 ∨ c.q = 8 ∨ c.q = 16 ∨ c.q = 32 ∨ c.q = 64
  n : 1 ≤ c.n ∧ c.n ≤ 8
  g : 1 ≤ c.g ∧ c.g ≤ 256
  m : c.n < c.m ∧ c.m ≤ 16
  t : 2 ≤ c.t ∧ c.t ≤ 200
  s : 0 ≤ c.s ∧ c.s ≤ 1000
theorem Right.small {c : Cfg} (h : Right c) : ∃ a b g m t s : Nat, c = ⟨a, b, g, m, t, s⟩ ∧ a ≤ 8 ∧ b ≤ 64 ∧ g ≤ 256 ∧ m ≤ 16 ∧ t ≤ 200 ∧ s ≤ 1000 := by
  obtain ⟨h1, h2, h3, h4, h5, h6⟩ := h
  obtain ⟨n, q, g, m, t, s⟩ := c
  simp only at h1 h2 h3 h4 h5 h6
  refine ⟨n.toNat, q.toNat, g.toNat, m.toNat, t.toNat, s.toNat, ?_, by omega, by omega, by omega, by omega, by omega, by omega⟩
  congr 1 <;> omega
open Classical in
/-- the address of what P p has at place k, or -1 -/
noncomputable def plV (c : Cfg) (p : Int) (k : Nat) : Int := if Right c ∧ 0 ≤ p ∧ p < c.n then 4 + p * (6 + c.q) + k else -1
theorem plV_no {c : Cfg} {p : Int} {k : Nat} (h : ¬ (Right c ∧ 0 ≤ p ∧ p < c.n)) : plV c p k = -1 := by unfold plV; rw [if_neg h]
theorem plV_yes {c : Cfg} {p : Int} {k : Nat} (h : Right c ∧ 0 ≤ p ∧ p < c.n) : plV c p k = 4 + p * (6 + c.q) + k := by unfold plV; rw [if_pos h]
open Classical in
/-- the address of the slot of place i, or -1 -/
noncomputable def slP (c : Cfg) (p : Int) (i : Nat) : Int := if Right c ∧ 0 ≤ p ∧ p < c.n then 4 + p * (6 + c.q) + 6 + (i : Int) % c.q else -1
theorem slP_no {c : Cfg} {p : Int} {i : Nat} (h : ¬ (Right c ∧ 0 ≤ p ∧ p < c.n)) : slP c p i = -1 := by unfold slP; rw [if_neg h]
theorem slP_yes {c : Cfg} {p : Int} {i : Nat} (h : Right c ∧ 0 ≤ p ∧ p < c.n) : slP c p i = 4 + p * (6 + c.q) + 6 + (i : Int) % c.q := by unfold slP; rw [if_pos h]
open Classical in
/-- how many cells -/
noncomputable def ccN (c : Cfg) : Nat := if Right c then 4 + c.n.toNat * (6 + c.q.toNat) else 0
theorem ccN_no {c : Cfg} (h : ¬ Right c) : ccN c = 0 := by unfold ccN; rw [if_neg h]
theorem ccN_yes {c : Cfg} (h : Right c) : ccN c = 4 + c.n.toNat * (6 + c.q.toNat) := by unfold ccN; rw [if_pos h]
theorem ccN_le (c : Cfg) : ccN c ≤ 564 := by
  by_cases h : Right c
  · rw [ccN_yes h]
    obtain ⟨a, b, g, m, t, s, rfl, h1, h2, -⟩ := h.small
    have := Nat.mul_le_mul (show a ≤ 8 from h1) (show 6 + b ≤ 70 by omega)
    show 4 + a * (6 + b) ≤ 564
    omega
  · rw [ccN_no h]; omega
/-- an address of a P is below -/
theorem pl_lt {c : Cfg} {p : Int} {k : Int} (h : Right c ∧ 0 ≤ p ∧ p < c.n) (h0 : 0 ≤ k) (h1 : k < 6 + c.q) : 4 ≤ 4 + p * (6 + c.q) + k ∧ 4 + p * (6 + c.q) + k < (ccN c : Int) := by
  obtain ⟨hR, hp, hn⟩ := h
  rw [ccN_yes hR]
  obtain ⟨a, b, g, m, t, s, rfl, h2, h3, -⟩ := hR.small
  obtain ⟨i, rfl⟩ : ∃ i : Nat, p = i := ⟨p.toNat, by omega⟩
  obtain ⟨j, rfl⟩ : ∃ j : Nat, k = j := ⟨k.toNat, by omega⟩
  simp only at hn h1 ⊢
  show 4 ≤ 4 + (i : Int) * (6 + (b : Int)) + j ∧ 4 + (i : Int) * (6 + (b : Int)) + j < ((4 + a * (6 + b) : Nat) : Int)
  have hia : i + 1 ≤ a := by omega
  have hm := Nat.mul_le_mul_right (6 + b) hia
  rw [Nat.succ_mul] at hm
  have e : (i : Int) * (6 + (b : Int)) = ((i * (6 + b) : Nat) : Int) := by push_cast; rfl
  rw [e]
  omega
end Go.Cg

/- The plain mathematics of a word: head, tail, length, what is done. It imports nothing of the dump. -/
namespace Go.Wd

/-- 2^32 -/
abbrev B32 : Nat := 4294967296
def hd (x : Nat) : Nat := x / 4294967296
def tl (x : Nat) : Nat := x % 4294967296
def pk (h t : Nat) : Nat := h * 4294967296 + t
def ln (x : Nat) : Nat := (tl x + 4294967296 - hd x) % 4294967296
def older (n : Nat) : Nat := n - n / 2
def gainW (x n : Nat) : Nat := pk ((hd x + n) % 4294967296) (tl x)
def growW (x n : Nat) : Nat := pk (hd x) ((tl x + n) % 4294967296)
def dropW (x n : Nat) : Nat := pk (hd x) ((tl x + 4294967296 - n) % 4294967296)
def room (q : Int) : Bool := q == 2 || q == 4 || q == 8 || q == 16 || q == 32 || q == 64 || q == 128 || q == 256 || q == 512 || q == 1024 || q == 2048 || q == 4096 || q == 8192 || q == 16384 || q == 32768 || q == 65536
def slot (p : Nat) (q : Int) : Int := if room q then (p % q.toNat : Nat) else 0
def has (x p : Nat) : Bool := decide ((p + 4294967296 - hd x) % 4294967296 < ln x)
/-- one thing is done, of a room q -/
def stp (q : Nat) (x : Nat) (d : Int) : Nat :=
  if d = 1 then gainW x (min 1 (ln x)) else if d = 2 then gainW x (older (ln x)) else if d = 3 then (if ln x < q then growW x 1 else x) else if d = 4 then (if ln x < q then x else dropW x (q / 2)) else x
def doW (x : Nat) (q : Int) (l : List Int) : Nat := if room q then l.foldl (stp q.toNat) x else x

theorem hd_lt {x : Nat} (h : x < 18446744073709551616) : hd x < 4294967296 := by unfold hd; omega
theorem tl_lt (x : Nat) : tl x < 4294967296 := by unfold tl; omega
theorem ln_lt (x : Nat) : ln x < 4294967296 := by unfold ln; omega
theorem pk_lt {h t : Nat} (a : h < 4294967296) (b : t < 4294967296) : pk h t < 18446744073709551616 := by unfold pk; omega
theorem hd_pk {h t : Nat} (b : t < 4294967296) : hd (pk h t) = h := by unfold hd pk; omega
theorem tl_pk {h t : Nat} (b : t < 4294967296) : tl (pk h t) = t := by unfold tl pk; omega
theorem pk_eta (x : Nat) : pk (hd x) (tl x) = x := by unfold pk hd tl; omega
theorem gain_lt {x n : Nat} : gainW x n < 18446744073709551616 := pk_lt (Nat.mod_lt _ (by decide)) (tl_lt x)
theorem grow_lt {x n : Nat} (h : x < 18446744073709551616) : growW x n < 18446744073709551616 := pk_lt (hd_lt h) (Nat.mod_lt _ (by decide))
theorem drop_lt {x n : Nat} (h : x < 18446744073709551616) : dropW x n < 18446744073709551616 := pk_lt (hd_lt h) (Nat.mod_lt _ (by decide))
theorem stp_lt {q x : Nat} {d : Int} (h : x < 18446744073709551616) : stp q x d < 18446744073709551616 := by
  unfold stp
  split
  · exact gain_lt
  · split
    · exact gain_lt
    · split
      · split
        · exact grow_lt h
        · exact h
      · split
        · split
          · exact h
          · exact drop_lt h
        · exact h
theorem fold_lt {q : Nat} (l : List Int) : ∀ {x : Nat}, x < 18446744073709551616 → l.foldl (stp q) x < 18446744073709551616 := by
  induction l with
  | nil => intro x h; exact h
  | cons d l ih => intro x h; exact ih (stp_lt h)
theorem do_lt {x : Nat} {q : Int} {l : List Int} (h : x < 18446744073709551616) : doW x q l < 18446744073709551616 := by
  unfold doW; split
  · exact fold_lt l h
  · exact h

theorem or_pack (h t : Nat) (b : t < 4294967296) : (h * 4294967296) ||| t = pk h t := by
  have := Nat.shiftLeft_add_eq_or_of_lt (i := 32) (b := t) b h
  rw [Nat.shiftLeft_eq] at this
  exact this.symm

/-- powers of two -/
theorem and_pred (n : Nat) : ∀ q, q ≤ n → 1 ≤ q → q &&& (q - 1) = 0 → ∃ k, q = 2 ^ k := by
  induction n with
  | zero => intro q h1 h2; omega
  | succ n ih =>
    intro q h1 h2 h
    by_cases e : q % 2 = 0
    · obtain ⟨m, rfl⟩ : ∃ m, q = 2 * m := ⟨q / 2, by omega⟩
      have h3 : (2 * m &&& (2 * m - 1)) / 2 = m &&& (m - 1) := by
        rw [Nat.and_div_two, show (2 * m) / 2 = m by omega, show (2 * m - 1) / 2 = m - 1 by omega]
      rw [h] at h3
      obtain ⟨k, hk⟩ := ih m (by omega) (by omega) h3.symm
      exact ⟨k + 1, by rw [hk, Nat.pow_succ, Nat.mul_comm]⟩
    · obtain ⟨m, rfl⟩ : ∃ m, q = 2 * m + 1 := ⟨q / 2, by omega⟩
      have h3 : ((2 * m + 1) &&& (2 * m + 1 - 1)) / 2 = m := by
        rw [Nat.and_div_two, show (2 * m + 1) / 2 = m by omega, show (2 * m + 1 - 1) / 2 = m by omega, Nat.and_self]
      rw [h] at h3
      exact ⟨0, by omega⟩
theorem pow_room (k : Nat) (h1 : 2 ≤ 2 ^ k) (h2 : 2 ^ k ≤ 65536) : room ((2 ^ k : Nat) : Int) = true := by
  have hk : k ≤ 16 := by
    by_cases h : k ≤ 16
    · exact h
    · have : (2 : Nat) ^ 17 ≤ 2 ^ k := Nat.pow_le_pow_right (by decide) (by omega)
      have e : (2 : Nat) ^ 17 = 131072 := by decide
      omega
  have : k = 0 ∨ k = 1 ∨ k = 2 ∨ k = 3 ∨ k = 4 ∨ k = 5 ∨ k = 6 ∨ k = 7 ∨ k = 8 ∨ k = 9 ∨ k = 10 ∨ k = 11 ∨ k = 12 ∨ k = 13 ∨ k = 14 ∨ k = 15 ∨ k = 16 := by omega
  rcases this with rfl | rfl | rfl | rfl | rfl | rfl | rfl | rfl | rfl | rfl | rfl | rfl | rfl | rfl | rfl | rfl | rfl
  · omega
  all_goals decide
theorem room_and {q : Nat} (h1 : 2 ≤ q) (h2 : q ≤ 65536) (h : q &&& (q - 1) = 0) : room (q : Int) = true := by
  obtain ⟨k, rfl⟩ := and_pred q q (Nat.le_refl _) (by omega) h
  exact pow_room k h1 h2
theorem room_cases {q : Int} (h : room q = true) : q = 2 ∨ q = 4 ∨ q = 8 ∨ q = 16 ∨ q = 32 ∨ q = 64 ∨ q = 128 ∨ q = 256 ∨ q = 512 ∨ q = 1024 ∨ q = 2048 ∨ q = 4096 ∨ q = 8192 ∨ q = 16384 ∨ q = 32768 ∨ q = 65536 := by
  unfold room at h; simp at h; omega
theorem room_bd {q : Int} (h : room q = true) : 2 ≤ q ∧ q ≤ 65536 := by rcases room_cases h with h | h | h | h | h | h | h | h | h | h | h | h | h | h | h | h <;> omega
theorem room_and' {q : Nat} (h : room (q : Int) = true) : q &&& (q - 1) = 0 := by
  have : q = 2 ∨ q = 4 ∨ q = 8 ∨ q = 16 ∨ q = 32 ∨ q = 64 ∨ q = 128 ∨ q = 256 ∨ q = 512 ∨ q = 1024 ∨ q = 2048 ∨ q = 4096 ∨ q = 8192 ∨ q = 16384 ∨ q = 32768 ∨ q = 65536 := by
    rcases room_cases h with h | h | h | h | h | h | h | h | h | h | h | h | h | h | h | h <;> omega
  rcases this with h | h | h | h | h | h | h | h | h | h | h | h | h | h | h | h <;> subst h <;> decide

theorem gain_zero {x : Nat} (h : x < 18446744073709551616) : gainW x 0 = x := by
  unfold gainW; rw [Nat.add_zero, Nat.mod_eq_of_lt (hd_lt h), pk_eta]
theorem stp_get1 {q x : Nat} (h : 0 < ln x) : stp q x 1 = gainW x 1 := by
  unfold stp; rw [if_pos rfl, Nat.min_eq_left h]
theorem stp_get0 {q x : Nat} (hx : x < 18446744073709551616) (h : ¬ 0 < ln x) : stp q x 1 = x := by
  unfold stp; rw [if_pos rfl, show ln x = 0 by omega, Nat.min_eq_right (by decide)]; exact gain_zero hx
theorem stp_two {q x : Nat} : stp q x 2 = gainW x (older (ln x)) := by unfold stp; simp
theorem stp_put1 {q x : Nat} (h : ln x < q) : stp q x 3 = growW x 1 := by unfold stp; simp [h]
theorem stp_put0 {q x : Nat} (h : ¬ ln x < q) : stp q x 3 = x := by unfold stp; simp [h]
theorem stp_cut1 {q x : Nat} (h : ¬ ln x < q) : stp q x 4 = dropW x (q / 2) := by unfold stp; simp [h]
theorem stp_cut0 {q x : Nat} (h : ln x < q) : stp q x 4 = x := by unfold stp; simp [h]
theorem stp_other {q x : Nat} {d : Int} (h : ¬ (1 ≤ d ∧ d ≤ 4)) : stp q x d = x := by
  unfold stp; rw [if_neg (by omega), if_neg (by omega), if_neg (by omega), if_neg (by omega)]
theorem hd_gain {x n : Nat} : hd (gainW x n) = (hd x + n) % 4294967296 := hd_pk (tl_lt x)
theorem tl_gain {x n : Nat} : tl (gainW x n) = tl x := tl_pk (tl_lt x)
theorem hd_grow {x n : Nat} : hd (growW x n) = hd x := hd_pk (Nat.mod_lt _ (by decide))
theorem tl_grow {x n : Nat} : tl (growW x n) = (tl x + n) % 4294967296 := tl_pk (Nat.mod_lt _ (by decide))
theorem hd_drop {x n : Nat} : hd (dropW x n) = hd x := hd_pk (Nat.mod_lt _ (by decide))
theorem tl_drop {x n : Nat} : tl (dropW x n) = (tl x + 4294967296 - n) % 4294967296 := tl_pk (Nat.mod_lt _ (by decide))

/-- a word's places from its from-th on, n at most -/
def pnum (x fr n : Nat) : Nat := if 65536 < ln x then 0 else min n (ln x - fr)
def pat (x fr j : Nat) : Nat := (hd x + fr + j) % 4294967296
def pls (x fr n : Nat) : List Int := (List.range (pnum x fr n)).map fun j => ((pat x fr j : Nat) : Int)
theorem pls_length (x fr n : Nat) : (pls x fr n).length = pnum x fr n := by unfold pls; simp
theorem pnum_zero {x fr n : Nat} (h : 65536 < ln x ∨ ln x ≤ fr) : pnum x fr n = 0 := by
  unfold pnum
  by_cases c : 65536 < ln x
  · rw [if_pos c]
  · rw [if_neg c]; omega
theorem pls_none {x fr n : Nat} (h : 65536 < ln x ∨ ln x ≤ fr) : pls x fr n = [] := by
  unfold pls; rw [pnum_zero h, List.range_zero, List.map_nil]
theorem pls_some {x fr n : Nat} (h : ¬ 65536 < ln x) : pls x fr n = (List.range (min n (ln x - fr))).map fun j => ((pat x fr j : Nat) : Int) := by
  unfold pls pnum; rw [if_neg h]
theorem pnum_le (x fr n : Nat) : pnum x fr n ≤ 65536 := by unfold pnum; split <;> omega
end Go.Wd

/- The plain mathematics of the stage's theorem: a word that comes back kept its older part. It imports nothing of the dump. -/
namespace Go.Wd

theorem ln_gain {x n : Nat} (hx : x < 18446744073709551616) (hn : n ≤ ln x) : ln (gainW x n) = ln x - n := by
  have h1 := hd_lt hx
  have h2 := tl_lt x
  have e : ln (gainW x n) = (tl (gainW x n) + 4294967296 - hd (gainW x n)) % 4294967296 := rfl
  have e2 : ln x = (tl x + 4294967296 - hd x) % 4294967296 := rfl
  rw [hd_gain, tl_gain] at e
  generalize hd x = a at *
  generalize tl x = b at *
  omega
theorem ln_grow {x : Nat} (hx : x < 18446744073709551616) (hn : ln x < 4294967295) : ln (growW x 1) = ln x + 1 := by
  have h1 := hd_lt hx
  have h2 := tl_lt x
  have e : ln (growW x 1) = (tl (growW x 1) + 4294967296 - hd (growW x 1)) % 4294967296 := rfl
  have e2 : ln x = (tl x + 4294967296 - hd x) % 4294967296 := rfl
  rw [hd_grow, tl_grow] at e
  generalize hd x = a at *
  generalize tl x = b at *
  omega
theorem ln_drop {x n : Nat} (hx : x < 18446744073709551616) (hn : n ≤ ln x) : ln (dropW x n) = ln x - n := by
  have h1 := hd_lt hx
  have h2 := tl_lt x
  have e : ln (dropW x n) = (tl (dropW x n) + 4294967296 - hd (dropW x n)) % 4294967296 := rfl
  have e2 : ln x = (tl x + 4294967296 - hd x) % 4294967296 := rfl
  rw [hd_drop, tl_drop] at e
  generalize hd x = a at *
  generalize tl x = b at *
  omega

/-- what holds behind i things done: G places were gained in all; as long as none was, no more than the younger half of a full ring went -/
structure Inv (q n0 h0 i x least : Nat) (gained : Bool) : Prop where
  lt : x < 18446744073709551616
  len : ln x ≤ q
  g : ∃ G, G ≤ 64 * i ∧ hd x = (h0 + G) % 4294967296 ∧ gained = decide (0 < G) ∧ (G = 0 → min n0 (q / 2) ≤ least ∧ min n0 (q / 2) ≤ ln x)

theorem Inv.start {q x : Nat} (hx : x < 18446744073709551616) (hl : ln x ≤ q) : Inv q (ln x) (hd x) 0 x (ln x) false :=
  ⟨hx, hl, 0, by omega, by have := hd_lt hx; omega, rfl, fun _ => ⟨Nat.min_le_left _ _, Nat.min_le_left _ _⟩⟩

theorem Inv.gain {q n0 h0 i x least : Nat} {gained : Bool} (h : Inv q n0 h0 i x least gained) (hq : q ≤ 64) (n : Nat) (hn : n ≤ ln x) :
    Inv q n0 h0 (i + 1) (gainW x n) (min least (ln (gainW x n))) (gained || !(hd (gainW x n) == hd x)) := by
  have hlen := h.len
  obtain ⟨G, h1, h2, h3, h4⟩ := h.g
  have hl := ln_gain h.lt hn
  have hb := hd_lt h.lt
  refine ⟨gain_lt, by omega, G + n, by omega, by rw [hd_gain, h2]; omega, ?_, fun h0 => ?_⟩
  · rw [hd_gain, h3]
    by_cases c : n = 0
    · subst c
      rw [Nat.add_zero, Nat.mod_eq_of_lt hb, Nat.add_zero]; simp
    · have e : ((hd x + n) % 4294967296 == hd x) = false := by
        cases hc : ((hd x + n) % 4294967296 == hd x) with
        | false => rfl
        | true => have := eq_of_beq hc; omega
      rw [e, decide_eq_true (show 0 < G + n by omega)]; simp
  · have hn0 : n = 0 := by omega
    obtain ⟨a, b⟩ := h4 (by omega)
    rw [hl, hn0]; omega
theorem Inv.keep {q n0 h0 i x y least : Nat} {gained : Bool} (h : Inv q n0 h0 i x least gained) (hy : y < 18446744073709551616) (hd1 : hd y = hd x) (hl1 : ln y ≤ q) (hl2 : min n0 (q / 2) ≤ ln x → min n0 (q / 2) ≤ ln y) :
    Inv q n0 h0 (i + 1) y (min least (ln y)) (gained || !(hd y == hd x)) := by
  obtain ⟨G, h1, h2, h3, h4⟩ := h.g
  refine ⟨hy, hl1, G, by omega, by rw [hd1, h2], ?_, fun h0 => ?_⟩
  · rw [hd1]; simp [h3]
  · obtain ⟨a, b⟩ := h4 h0
    have := hl2 b
    omega
theorem Inv.step {q n0 h0 i x least : Nat} {gained : Bool} (h : Inv q n0 h0 i x least gained) (hq : q ≤ 64) (he : q % 2 = 0) (d : Int) :
    Inv q n0 h0 (i + 1) (stp q x d) (min least (ln (stp q x d))) (gained || !(hd (stp q x d) == hd x)) := by
  have hlen := h.len
  by_cases e : 1 ≤ d ∧ d ≤ 4
  · have : d = 1 ∨ d = 2 ∨ d = 3 ∨ d = 4 := by omega
    rcases this with rfl | rfl | rfl | rfl
    · by_cases c : 0 < ln x
      · rw [stp_get1 c]; exact h.gain hq 1 (by omega)
      · rw [stp_get0 h.lt c]; exact h.keep h.lt rfl hlen id
    · rw [stp_two]; exact h.gain hq _ (by unfold older; omega)
    · by_cases c : ln x < q
      · rw [stp_put1 c]
        have := ln_grow h.lt (by omega)
        exact h.keep (grow_lt h.lt) hd_grow (by omega) (by omega)
      · rw [stp_put0 c]; exact h.keep h.lt rfl hlen id
    · by_cases c : ln x < q
      · rw [stp_cut0 c]; exact h.keep h.lt rfl hlen id
      · rw [stp_cut1 c]
        have := ln_drop (n := q / 2) h.lt (by omega)
        exact h.keep (drop_lt h.lt) hd_drop (by omega) (by omega)
  · rw [stp_other e]; exact h.keep h.lt rfl hlen id
theorem Inv.back {q i x0 least : Nat} {gained : Bool} (h : Inv q (ln x0) (hd x0) i x0 least gained) (hi : i ≤ 200) (hx : x0 < 18446744073709551616) (he : q % 2 = 0) : gained = false ∧ older (ln x0) ≤ least := by
  have hlen := h.len
  obtain ⟨G, h1, h2, h3, h4⟩ := h.g
  have hb := hd_lt hx
  have hG : G = 0 := by omega
  subst hG
  refine ⟨h3, ?_⟩
  obtain ⟨a, _⟩ := h4 rfl
  unfold older
  omega
end Go.Wd

/- Plain: accesses of cells, done and done again (layer 6). -/
namespace Go.Ce

/-- an access: its kind, its address, what stood there, what stands there -/
structure Acc where
  k : Int
  a : Int
  o : Int
  n : Int
instance : Inhabited Acc := ⟨⟨0, 0, 0, 0⟩⟩
/-- what stands in a cell behind accesses -/
def atV (xs : List Acc) (a : Int) : Int := xs.foldl (fun v x => if x.a = a then x.n else v) 0
theorem atV_nil (a : Int) : atV [] a = 0 := rfl
theorem atV_more (xs : List Acc) (x : Acc) (a : Int) : atV (xs ++ [x]) a = if x.a = a then x.n else atV xs a := by
  unfold atV; rw [List.foldl_append]; rfl
theorem atV_tail (xs ys : List Acc) (a : Int) (h : ∀ y ∈ ys, y.a ≠ a) : atV (xs ++ ys) a = atV xs a := by
  induction ys generalizing xs with
  | nil => rw [List.append_nil]
  | cons y r ih =>
    rw [show xs ++ y :: r = (xs ++ [y]) ++ r by simp, ih _ (fun z hz => h z (List.mem_cons_of_mem _ hz)), atV_more, if_neg (h y List.mem_cons_self)]
theorem atV_hit {xs : List Acc} {a : Int} {i : Nat} (hi : i < xs.length) (hx : (xs.getD i default).a = a) (h : ∀ j, i < j → j < xs.length → (xs.getD j default).a ≠ a) : atV xs a = (xs.getD i default).n := by
  have e : xs = (xs.take i ++ [xs.getD i default]) ++ xs.drop (i + 1) := by
    have h1 : xs.take i ++ [xs.getD i default] = xs.take (i + 1) := by
      rw [List.take_succ_eq_append_getElem hi]; simp [List.getD, hi]
    rw [h1, List.take_append_drop]
  have h2 : ∀ y ∈ xs.drop (i + 1), y.a ≠ a := by
    intro y hy
    obtain ⟨j, hj, rfl⟩ := List.mem_iff_getElem.1 hy
    rw [List.length_drop] at hj
    have := h (i + 1 + j) (by omega) (by omega)
    rw [List.getElem_drop]
    have hl : i + 1 + j < xs.length := by omega
    simpa [List.getD, hl] using this
  rw [e, atV_tail _ _ _ h2, atV_more, if_pos hx, ← e]
theorem atV_miss {xs : List Acc} {a : Int} (h : ∀ j, j < xs.length → (xs.getD j default).a ≠ a) : atV xs a = 0 := by
  have := atV_tail [] xs a (fun y hy => by
    obtain ⟨j, hj, rfl⟩ := List.mem_iff_getElem.1 hy
    have := h j hj
    simpa [List.getD, hj] using this)
  rw [List.nil_append] at this
  exact this
/-- is there such an address, and such a kind? -/
def Bad (N : Int) (k a : Int) : Prop := a < 0 ∨ N ≤ a ∨ k < 1 ∨ 4 < k
instance (N k a : Int) : Decidable (Bad N k a) := by unfold Bad; infer_instance
/-- the access -/
def accV (xs : List Acc) (k a old x : Int) : Acc :=
  ⟨k, a, atV xs a, if k = 2 ∨ k = 3 ∧ atV xs a = old then x else if k = 4 then IntKind.u64.wrap (atV xs a + x) else atV xs a⟩
/-- behind it -/
def doL (N : Int) (xs : List Acc) (k a old x : Int) : List Acc := if Bad N k a then xs else xs ++ [accV xs k a old x]
def doE (N : Int) (xs : List Acc) (k a old x : Int) : Acc := if Bad N k a then ⟨0, 0, 0, 0⟩ else accV xs k a old x
theorem doL_bad {N k a : Int} (h : Bad N k a) (xs : List Acc) (old x : Int) : doL N xs k a old x = xs := by unfold doL; rw [if_pos h]
theorem doL_ok {N k a : Int} (h : ¬ Bad N k a) (xs : List Acc) (old x : Int) : doL N xs k a old x = xs ++ [accV xs k a old x] := by unfold doL; rw [if_neg h]
theorem doE_bad {N k a : Int} (h : Bad N k a) (xs : List Acc) (old x : Int) : doE N xs k a old x = ⟨0, 0, 0, 0⟩ := by unfold doE; rw [if_pos h]
theorem doE_ok {N k a : Int} (h : ¬ Bad N k a) (xs : List Acc) (old x : Int) : doE N xs k a old x = accV xs k a old x := by unfold doE; rw [if_neg h]
theorem doL_len (N : Int) (xs : List Acc) (k a old x : Int) : (doL N xs k a old x).length ≤ xs.length + 1 := by
  unfold doL; split
  · omega
  · simp
/-- may an access be done again? -/
def Stuck (N : Int) (xs : List Acc) (e : Acc) : Prop := Bad N e.k e.a ∨ atV xs e.a ≠ e.o ∨ e.k = 1 ∧ e.n ≠ e.o
instance (N : Int) (xs : List Acc) (e : Acc) : Decidable (Stuck N xs e) := by unfold Stuck; infer_instance
/-- what is told when it is done again -/
def tellV (e : Acc) : Int := if e.k = 4 then IntKind.u64.wrap (e.n - e.o) else e.n
/-- done again: the accesses behind it, and how many were done -/
def redoV (N : Int) (xs : List Acc) : List Acc → List Acc × Nat
  | [] => (xs, 0)
  | e :: l => if Stuck N xs e then (xs, 0) else
    let r := redoV N (doL N xs e.k e.a e.o (tellV e)) l
    (r.1, r.2 + 1)
theorem redoV_nil (N : Int) (xs : List Acc) : redoV N xs [] = (xs, 0) := rfl
theorem redoV_stuck {N : Int} {xs : List Acc} {e : Acc} (h : Stuck N xs e) (l : List Acc) : redoV N xs (e :: l) = (xs, 0) := by unfold redoV; rw [if_pos h]
theorem redoV_go {N : Int} {xs : List Acc} {e : Acc} (h : ¬ Stuck N xs e) (l : List Acc) : redoV N xs (e :: l) = ((redoV N (doL N xs e.k e.a e.o (tellV e)) l).1, (redoV N (doL N xs e.k e.a e.o (tellV e)) l).2 + 1) := by
  rw [redoV, if_neg h]
theorem redoV_len (N : Int) (xs l : List Acc) : (redoV N xs l).1.length ≤ xs.length + l.length ∧ (redoV N xs l).2 ≤ l.length := by
  induction l generalizing xs with
  | nil => simp [redoV]
  | cons e l ih =>
    by_cases h : Stuck N xs e
    · rw [redoV_stuck h]; simp
    · rw [redoV_go h]
      have := ih (doL N xs e.k e.a e.o (tellV e))
      have h2 := doL_len N xs e.k e.a e.o (tellV e)
      simp only [List.length_cons]
      omega
/-- cells, as a row of numbers: what all accesses left there -/
def setV (cs : List Int) (a : Int) (v : Int) : List Int := cs.set a.toNat v
def allV (N : Nat) (xs : List Acc) : List Int := xs.foldl (fun cs x => setV cs x.a x.n) (List.replicate N 0)
theorem allV_more (N : Nat) (xs : List Acc) (x : Acc) : allV N (xs ++ [x]) = setV (allV N xs) x.a x.n := by unfold allV; rw [List.foldl_append]; rfl
theorem allV_length (N : Nat) (xs : List Acc) : (allV N xs).length = N := by
  unfold allV
  have : ∀ (cs : List Int), (xs.foldl (fun cs x => setV cs x.a x.n) cs).length = cs.length := by
    induction xs with
    | nil => intro cs; rfl
    | cons x r ih => intro cs; rw [List.foldl_cons, ih]; unfold setV; simp
  rw [this]; simp
/-- all accesses have addresses that there are -/
def InN (N : Nat) (xs : List Acc) : Prop := ∀ x ∈ xs, 0 ≤ x.a ∧ x.a < N
theorem allV_at {N : Nat} {xs : List Acc} (h : InN N xs) (i : Nat) (hi : i < N) : (allV N xs).getD i 0 = atV xs i := by
  obtain ⟨ys, rfl⟩ : ∃ ys, xs = ys.reverse := ⟨xs.reverse, by simp⟩
  induction ys with
  | nil => simp [allV, atV, List.getD, hi]
  | cons x r ih =>
    rw [List.reverse_cons] at h ⊢
    have hr : InN N r.reverse := fun y hy => h y (List.mem_append_left _ hy)
    have hx := h x (by simp)
    rw [allV_more, atV_more]
    unfold setV
    by_cases e : x.a = i
    · rw [if_pos e]
      have : x.a.toNat = i := by omega
      rw [this]
      have hl := allV_length N r.reverse
      simp [List.getD, hl, hi]
    · rw [if_neg e, ← ih hr]
      have : x.a.toNat ≠ i := by omega
      simp [List.getD, this]
end Go.Ce

/- Plain: a memory as it lies (cells, counts, a ring of accesses), and how it goes beside the row of all accesses (layer 6). -/
namespace Go.Ce

/-- counts -/
structure Cnt where
  l : Nat
  s : Nat
  w : Nat
  f : Nat
  a : Nat
def Cnt.ops (k : Cnt) : Nat := k.l + k.s + k.w + k.f + k.a
def cnt0 : Cnt := ⟨0, 0, 0, 0, 0⟩
/-- a memory: its cells, its counts, its ring -/
structure PM where
  cs : List Int
  k : Cnt
  L : List Acc
def PM.new (N : Nat) : PM := ⟨List.replicate N 0, cnt0, List.replicate 256 default⟩
/-- is there such an address? -/
def PM.Has (m : PM) (a : Int) : Prop := 0 ≤ a ∧ a < m.cs.length
instance (m : PM) (a : Int) : Decidable (m.Has a) := by unfold PM.Has; infer_instance
def PM.at (m : PM) (a : Int) : Int := m.cs.getD a.toNat 0
/-- behind an access that leaves v, with new counts -/
def PM.acc (m : PM) (kind a v : Int) (j : Cnt) : PM := ⟨m.cs.set a.toNat v, j, m.L.set (m.k.ops % 256) ⟨kind, a, m.at a, v⟩⟩
def PM.load (m : PM) (a : Int) : PM := if m.Has a then m.acc 1 a (m.at a) { m.k with l := m.k.l + 1 } else m
def PM.store (m : PM) (a v : Int) : PM := if m.Has a then m.acc 2 a v { m.k with s := m.k.s + 1 } else m
def PM.cas (m : PM) (a old v : Int) : PM := if m.Has a then (if m.at a = old then m.acc 3 a v { m.k with w := m.k.w + 1 } else m.acc 3 a (m.at a) { m.k with f := m.k.f + 1 }) else m
def PM.add (m : PM) (a d : Int) : PM := if m.Has a then m.acc 4 a (IntKind.u64.wrap (m.at a + d)) { m.k with a := m.k.a + 1 } else m
def PM.ans (m : PM) (a : Int) : Int := if m.Has a then m.at a else 0
def PM.hit (m : PM) (a old : Int) : Prop := m.Has a ∧ m.at a = old
instance (m : PM) (a old : Int) : Decidable (m.hit a old) := by unfold PM.hit; infer_instance
/-- what one call does -/
def PM.go (m : PM) (kind a old x : Int) : PM := if kind = 1 then m.load a else if kind = 2 then m.store a x else if kind = 3 then m.cas a old x else if kind = 4 then m.add a x else m

theorem acc_len (m : PM) (kind a v : Int) (j : Cnt) : (m.acc kind a v j).cs.length = m.cs.length ∧ (m.acc kind a v j).L.length = m.L.length := by unfold PM.acc; simp
theorem load_no {m : PM} {a : Int} (h : ¬ m.Has a) : m.load a = m := by unfold PM.load; rw [if_neg h]
theorem load_yes {m : PM} {a : Int} (h : m.Has a) : m.load a = m.acc 1 a (m.at a) { m.k with l := m.k.l + 1 } := by unfold PM.load; rw [if_pos h]
theorem store_no {m : PM} {a : Int} (h : ¬ m.Has a) (v : Int) : m.store a v = m := by unfold PM.store; rw [if_neg h]
theorem store_yes {m : PM} {a : Int} (h : m.Has a) (v : Int) : m.store a v = m.acc 2 a v { m.k with s := m.k.s + 1 } := by unfold PM.store; rw [if_pos h]
theorem cas_no {m : PM} {a : Int} (h : ¬ m.Has a) (old v : Int) : m.cas a old v = m := by unfold PM.cas; rw [if_neg h]
theorem cas_hit {m : PM} {a : Int} (h : m.Has a) {old : Int} (he : m.at a = old) (v : Int) : m.cas a old v = m.acc 3 a v { m.k with w := m.k.w + 1 } := by unfold PM.cas; rw [if_pos h, if_pos he]
theorem cas_miss {m : PM} {a : Int} (h : m.Has a) {old : Int} (he : m.at a ≠ old) (v : Int) : m.cas a old v = m.acc 3 a (m.at a) { m.k with f := m.k.f + 1 } := by unfold PM.cas; rw [if_pos h, if_neg he]
theorem add_no {m : PM} {a : Int} (h : ¬ m.Has a) (d : Int) : m.add a d = m := by unfold PM.add; rw [if_neg h]
theorem add_yes {m : PM} {a : Int} (h : m.Has a) (d : Int) : m.add a d = m.acc 4 a (IntKind.u64.wrap (m.at a + d)) { m.k with a := m.k.a + 1 } := by unfold PM.add; rw [if_pos h]
theorem go_len (m : PM) (kind a old x : Int) : (m.go kind a old x).cs.length = m.cs.length := by
  unfold PM.go PM.load PM.store PM.cas PM.add
  repeat' split
  all_goals first | rfl | exact (acc_len ..).1
theorem go_ll (m : PM) (kind a old x : Int) : (m.go kind a old x).L.length = m.L.length := by
  unfold PM.go PM.load PM.store PM.cas PM.add
  repeat' split
  all_goals first | rfl | exact (acc_len ..).2
theorem go_ops (m : PM) (kind a old x : Int) : (m.go kind a old x).k.ops ≤ m.k.ops + 1 ∧ m.k.ops ≤ (m.go kind a old x).k.ops := by
  unfold PM.go PM.load PM.store PM.cas PM.add PM.acc
  repeat' split
  all_goals (simp only [Cnt.ops]; omega)

/-- beside all accesses -/
structure Tied (m : PM) (N : Nat) (xs : List Acc) : Prop where
  len : m.cs.length = N
  ll : m.L.length = 256
  ops : m.k.ops = xs.length
  cs : ∀ i : Nat, i < N → m.cs.getD i 0 = atV xs i
  log : ∀ j, j < xs.length → xs.length ≤ j + 256 → m.L.getD (j % 256) default = xs.getD j default
  inn : InN N xs
theorem Tied.new (N : Nat) : Tied (PM.new N) N [] := by
  refine ⟨List.length_replicate .., List.length_replicate .., rfl, fun i hi => ?_, fun j hj => by simp at hj, fun x hx => by simp at hx⟩
  show (List.replicate N (0 : Int)).getD i 0 = 0
  simp [List.getD, hi]
theorem Tied.has {m : PM} {N : Nat} {xs : List Acc} (h : Tied m N xs) (a : Int) : m.Has a ↔ 0 ≤ a ∧ a < N := by unfold PM.Has; rw [h.len]
theorem Tied.at {m : PM} {N : Nat} {xs : List Acc} (h : Tied m N xs) {a : Int} (ha : 0 ≤ a ∧ a < N) : m.at a = atV xs a := by
  unfold PM.at; rw [h.cs _ (by omega), Int.toNat_of_nonneg ha.1]
theorem Tied.more {m : PM} {N : Nat} {xs : List Acc} (h : Tied m N xs) {a : Int} (ha : 0 ≤ a ∧ a < N) (kind v : Int) (j : Cnt) (hj : j.ops = m.k.ops + 1) : Tied (m.acc kind a v j) N (xs ++ [⟨kind, a, atV xs a, v⟩]) := by
  have hat := h.at ha
  refine ⟨by rw [(acc_len ..).1, h.len], by rw [(acc_len ..).2, h.ll], by show j.ops = _; rw [hj, h.ops]; simp, fun i hi => ?_, fun q hq hq2 => ?_, fun x hx => ?_⟩
  · show (m.cs.set a.toNat v).getD i 0 = _
    rw [atV_more]
    by_cases e : a = i
    · rw [if_pos (show (⟨kind, a, atV xs a, v⟩ : Acc).a = i from e)]
      have : a.toNat = i := by omega
      rw [this]; simp [List.getD, h.len, hi]
    · rw [if_neg (show ¬ (⟨kind, a, atV xs a, v⟩ : Acc).a = i from e), ← h.cs i hi]
      have : a.toNat ≠ i := by omega
      simp [List.getD, this]
  · simp only [List.length_append, List.length_singleton] at hq hq2
    show (m.L.set (m.k.ops % 256) ⟨kind, a, m.at a, v⟩).getD (q % 256) default = _
    rw [hat, h.ops]
    by_cases e : q = xs.length
    · subst e
      have : xs.length % 256 < m.L.length := by rw [h.ll]; omega
      simp [List.getD, this]
    · have h1 : xs.length % 256 ≠ q % 256 := by omega
      have h2 := h.log q (by omega) (by omega)
      rw [List.getD_eq_getElem?_getD, List.getElem?_set_ne h1, ← List.getD_eq_getElem?_getD, h2]
      have : q < xs.length := by omega
      simp [List.getD, this, List.getElem?_append_left]
  · rcases List.mem_append.1 hx with hx | hx
    · exact h.inn x hx
    · simp at hx; subst hx; exact ha
/-- one call, and the reference's -/
theorem Tied.go {m : PM} {N : Nat} {xs : List Acc} (h : Tied m N xs) (kind a old x : Int) : Tied (m.go kind a old x) N (doL N xs kind a old x) := by
  by_cases hb : Bad N kind a
  · rw [doL_bad hb]
    have hc : ¬ m.Has a ∨ (kind ≠ 1 ∧ kind ≠ 2 ∧ kind ≠ 3 ∧ kind ≠ 4) := by rw [h.has]; unfold Bad at hb; omega
    have : m.go kind a old x = m := by
      unfold PM.go
      rcases hc with hc | hc
      · rw [load_no hc, store_no hc, cas_no hc, add_no hc]; repeat' split
        all_goals rfl
      · rw [if_neg hc.1, if_neg hc.2.1, if_neg hc.2.2.1, if_neg hc.2.2.2]
    rw [this]; exact h
  · rw [doL_ok hb]
    have ha : 0 ≤ a ∧ a < N := by unfold Bad at hb; omega
    have hh : m.Has a := (h.has a).2 ha
    have hat := h.at ha
    have hk : kind = 1 ∨ kind = 2 ∨ kind = 3 ∨ kind = 4 := by unfold Bad at hb; omega
    rcases hk with rfl | rfl | rfl | rfl
    · have e : m.go 1 a old x = m.acc 1 a (atV xs a) { m.k with l := m.k.l + 1 } := by unfold PM.go; rw [if_pos rfl, load_yes hh, hat]
      have e2 : accV xs 1 a old x = ⟨1, a, atV xs a, atV xs a⟩ := by unfold accV; simp
      rw [e, e2]; exact h.more ha _ _ _ (by simp only [Cnt.ops]; omega)
    · have e : m.go 2 a old x = m.acc 2 a x { m.k with s := m.k.s + 1 } := by unfold PM.go; rw [if_neg (by decide), if_pos rfl, store_yes hh]
      have e2 : accV xs 2 a old x = ⟨2, a, atV xs a, x⟩ := by unfold accV; simp
      rw [e, e2]; exact h.more ha _ _ _ (by simp only [Cnt.ops]; omega)
    · by_cases he : atV xs a = old
      · have e : m.go 3 a old x = m.acc 3 a x { m.k with w := m.k.w + 1 } := by unfold PM.go; rw [if_neg (by decide), if_neg (by decide), if_pos rfl, cas_hit hh (by rw [hat]; exact he)]
        have e2 : accV xs 3 a old x = ⟨3, a, atV xs a, x⟩ := by unfold accV; simp [he]
        rw [e, e2]; exact h.more ha _ _ _ (by simp only [Cnt.ops]; omega)
      · have e : m.go 3 a old x = m.acc 3 a (atV xs a) { m.k with f := m.k.f + 1 } := by unfold PM.go; rw [if_neg (by decide), if_neg (by decide), if_pos rfl, cas_miss hh (by rw [hat]; exact he), hat]
        have e2 : accV xs 3 a old x = ⟨3, a, atV xs a, atV xs a⟩ := by unfold accV; simp [he]
        rw [e, e2]; exact h.more ha _ _ _ (by simp only [Cnt.ops]; omega)
    · have e : m.go 4 a old x = m.acc 4 a (IntKind.u64.wrap (atV xs a + x)) { m.k with a := m.k.a + 1 } := by unfold PM.go; rw [if_neg (by decide), if_neg (by decide), if_neg (by decide), if_pos rfl, add_yes hh, hat]
      have e2 : accV xs 4 a old x = ⟨4, a, atV xs a, IntKind.u64.wrap (atV xs a + x)⟩ := by unfold accV; simp
      rw [e, e2]; exact h.more ha _ _ _ (by simp only [Cnt.ops]; omega)
/-- the cells are the reference's -/
theorem Tied.all {m : PM} {N : Nat} {xs : List Acc} (h : Tied m N xs) : m.cs = allV N xs := by
  apply List.ext_getElem?
  intro i
  by_cases hi : i < N
  · have h1 := h.cs i hi
    rw [← allV_at h.inn i hi] at h1
    have l1 : i < m.cs.length := by rw [h.len]; exact hi
    have l2 : i < (allV N xs).length := by rw [allV_length]; exact hi
    simpa [List.getD, l1, l2] using h1
  · rw [List.getElem?_eq_none (by rw [h.len]; omega), List.getElem?_eq_none (by rw [allV_length]; omega)]
/-- what is answered -/
theorem Tied.ans {m : PM} {N : Nat} {xs : List Acc} (h : Tied m N xs) (kind a old x : Int) (hk : 1 ≤ kind ∧ kind ≤ 4) : m.ans a = (doE N xs kind a old x).o := by
  unfold PM.ans
  by_cases ha : 0 ≤ a ∧ a < N
  · rw [if_pos ((h.has a).2 ha), h.at ha, doE_ok (by unfold Bad; omega)]; rfl
  · rw [if_neg (fun hh => ha ((h.has a).1 hh)), doE_bad (by unfold Bad; omega)]
theorem Tied.hit {m : PM} {N : Nat} {xs : List Acc} (h : Tied m N xs) (a old x : Int) : m.hit a old ↔ (¬ Bad N 3 a ∧ (doE N xs 3 a old x).k = 3 ∧ (doE N xs 3 a old x).o = old) := by
  unfold PM.hit
  by_cases ha : 0 ≤ a ∧ a < N
  · have hb : ¬ Bad N 3 a := by unfold Bad; omega
    rw [doE_ok hb, h.at ha, h.has]
    show _ ↔ _ ∧ (3 : Int) = 3 ∧ atV xs a = old
    simp [ha, hb]
  · have hb : Bad N 3 a := by unfold Bad; omega
    rw [h.has]; simp [ha, hb]
end Go.Ce

/- Plain: a memory's cells and number of accesses, as the reference goes (layer 6). -/
namespace Go.Ce

theorem set_same (cs : List Int) (i : Nat) : cs.set i (cs.getD i 0) = cs := by
  by_cases h : i < cs.length
  · simp [List.getD, h]
  · rw [List.set_eq_of_length_le (by omega)]
theorem go_load {m : PM} {a o x : Int} (h : m.Has a) : (m.go 1 a o x).cs = m.cs ∧ (m.go 1 a o x).k.ops = m.k.ops + 1 := by
  have e : m.go 1 a o x = m.acc 1 a (m.at a) { m.k with l := m.k.l + 1 } := by unfold PM.go; rw [if_pos rfl, load_yes h]
  rw [e]
  exact ⟨set_same m.cs a.toNat, by simp only [PM.acc, Cnt.ops]; omega⟩
theorem go_store {m : PM} {a o x : Int} (h : m.Has a) : (m.go 2 a o x).cs = m.cs.set a.toNat x ∧ (m.go 2 a o x).k.ops = m.k.ops + 1 := by
  have e : m.go 2 a o x = m.acc 2 a x { m.k with s := m.k.s + 1 } := by unfold PM.go; rw [if_neg (by decide), if_pos rfl, store_yes h]
  rw [e]
  exact ⟨rfl, by simp only [PM.acc, Cnt.ops]; omega⟩
theorem go_hit {m : PM} {a o x : Int} (h : m.Has a) (he : m.at a = o) : (m.go 3 a o x).cs = m.cs.set a.toNat x ∧ (m.go 3 a o x).k.ops = m.k.ops + 1 := by
  have e : m.go 3 a o x = m.acc 3 a x { m.k with w := m.k.w + 1 } := by unfold PM.go; rw [if_neg (by decide), if_neg (by decide), if_pos rfl, cas_hit h he]
  rw [e]
  exact ⟨rfl, by simp only [PM.acc, Cnt.ops]; omega⟩
theorem go_miss {m : PM} {a o x : Int} (h : m.Has a) (he : m.at a ≠ o) : (m.go 3 a o x).cs = m.cs ∧ (m.go 3 a o x).k.ops = m.k.ops + 1 := by
  have e : m.go 3 a o x = m.acc 3 a (m.at a) { m.k with f := m.k.f + 1 } := by unfold PM.go; rw [if_neg (by decide), if_neg (by decide), if_pos rfl, cas_miss h he]
  rw [e]
  exact ⟨set_same m.cs a.toNat, by simp only [PM.acc, Cnt.ops]; omega⟩
theorem go_add {m : PM} {a o x : Int} (h : m.Has a) : (m.go 4 a o x).cs = m.cs.set a.toNat (IntKind.u64.wrap (m.at a + x)) ∧ (m.go 4 a o x).k.ops = m.k.ops + 1 := by
  have e : m.go 4 a o x = m.acc 4 a (IntKind.u64.wrap (m.at a + x)) { m.k with a := m.k.a + 1 } := by unfold PM.go; rw [if_neg (by decide), if_neg (by decide), if_neg (by decide), if_pos rfl, add_yes h]
  rw [e]
  exact ⟨rfl, by simp only [PM.acc, Cnt.ops]; omega⟩
theorem go_not {m : PM} {k a o x : Int} (h : ¬ m.Has a ∨ (k ≠ 1 ∧ k ≠ 2 ∧ k ≠ 3 ∧ k ≠ 4)) : m.go k a o x = m := by
  unfold PM.go
  rcases h with hc | hc
  · rw [load_no hc, store_no hc, cas_no hc, add_no hc]; repeat' split
    all_goals rfl
  · rw [if_neg hc.1, if_neg hc.2.1, if_neg hc.2.2.1, if_neg hc.2.2.2]
end Go.Ce

/- Plain: a put and a lay, step by step, beside a memory; a ring's numbers (layer 9). It imports nothing of the dump. -/
namespace Go.Pu
open Go.Ce Go.Cg Go.Wd

/-- the address of a P's word, and of its slot of place i -/
def aW (c : Cfg) (p : Int) : Int := 4 + p * (6 + c.q)
def aS (c : Cfg) (p : Int) (i : Nat) : Int := 4 + p * (6 + c.q) + 6 + (i : Int) % c.q
/-- is there such a P? -/
def rB (c : Cfg) : Bool := decide ((c.q = 2 ∨ c.q = 4 ∨ c.q = 8 ∨ c.q = 16 ∨ c.q = 32 ∨ c.q = 64) ∧ (1 ≤ c.n ∧ c.n ≤ 8) ∧ (1 ≤ c.g ∧ c.g ≤ 256) ∧ (c.n < c.m ∧ c.m ≤ 16) ∧ (2 ≤ c.t ∧ c.t ≤ 200) ∧ (0 ≤ c.s ∧ c.s ≤ 1000))
theorem rB_iff {c : Cfg} : rB c = true ↔ Right c := by
  unfold rB
  rw [decide_eq_true_iff]
  exact ⟨fun ⟨a, b, d, e, f, g⟩ => ⟨a, b, d, e, f, g⟩, fun ⟨a, b, d, e, f, g⟩ => ⟨a, b, d, e, f, g⟩⟩
def thB (c : Cfg) (p : Int) : Bool := rB c && decide (0 ≤ p ∧ p < c.n)
theorem thB_iff {c : Cfg} {p : Int} : thB c p = true ↔ Right c ∧ 0 ≤ p ∧ p < c.n := by
  unfold thB
  rw [Bool.and_eq_true, rB_iff, decide_eq_true_iff]
theorem aW_pl {c : Cfg} {p : Int} (h : Right c ∧ 0 ≤ p ∧ p < c.n) : plV c p 0 = aW c p := by rw [plV_yes h]; unfold aW; simp
theorem aS_sl {c : Cfg} {p : Int} (h : Right c ∧ 0 ≤ p ∧ p < c.n) (i : Nat) : slP c p i = aS c p i := by rw [slP_yes h]; rfl

/-- a put: a is where it is (0 done, 1 look, 2 lay, 3 swing, 4 take, 5 cut) -/
structure PS where
  c : Cfg
  p : Int
  g : Int
  a : Nat
  w : Nat
  t : List Int
  h : List Int
def cfg0 : Cfg := ⟨0, 0, 0, 0, 0, 0⟩
def PS.zero : PS := ⟨cfg0, 0, 0, 0, 0, [], []⟩
def newP (c : Cfg) (p g : Int) : PS := if thB c p = true ∧ 0 ≤ g then ⟨c, p, g, 1, 0, [], [g]⟩ else PS.zero
def PS.wa (x : PS) : Int := aW x.c x.p
def PS.q (x : PS) : Nat := x.c.q.toNat
/-- the place that is taken next -/
def PS.tp (x : PS) : Nat := (tl x.w + 4294967296 - x.q / 2 + x.t.length) % 4294967296
def PS.over (x : PS) : List Int := if x.a = 0 then x.h else []
def stepP (x : PS) (m : PM) : PS × PM :=
  if x.a = 1 then ({ x with w := (m.ans x.wa).toNat, t := [], a := if ln (m.ans x.wa).toNat < x.q then 2 else 4 }, m.load x.wa)
  else if x.a = 2 then ({ x with a := 3 }, m.store (aS x.c x.p (tl x.w)) (IntKind.u64.wrap x.g))
  else if x.a = 3 then (if m.hit x.wa x.w then { x with a := 0, h := [] } else { x with a := 1 }, m.cas x.wa x.w (growW x.w 1))
  else if x.a = 4 then ({ x with t := x.t ++ [IntKind.i64.wrap (m.ans (aS x.c x.p x.tp))], a := if x.t.length + 1 = x.q / 2 then 5 else 4 }, m.load (aS x.c x.p x.tp))
  else if x.a = 5 then (if m.hit x.wa x.w then { x with a := 0, h := x.t ++ [x.g] } else { x with a := 1 }, m.cas x.wa x.w (dropW x.w (x.q / 2)))
  else (x, m)
theorem step0 {x : PS} (h : x.a = 0) (m : PM) : stepP x m = (x, m) := by unfold stepP; simp [h]
theorem step1 {x : PS} (h : x.a = 1) (m : PM) : stepP x m = ({ x with w := (m.ans x.wa).toNat, t := [], a := if ln (m.ans x.wa).toNat < x.q then 2 else 4 }, m.load x.wa) := by unfold stepP; rw [if_pos h]
theorem step2 {x : PS} (h : x.a = 2) (m : PM) : stepP x m = ({ x with a := 3 }, m.store (aS x.c x.p (tl x.w)) (IntKind.u64.wrap x.g)) := by unfold stepP; rw [if_neg (by omega), if_pos h]
theorem step3 {x : PS} (h : x.a = 3) (m : PM) : stepP x m = (if m.hit x.wa x.w then { x with a := 0, h := [] } else { x with a := 1 }, m.cas x.wa x.w (growW x.w 1)) := by unfold stepP; rw [if_neg (by omega), if_neg (by omega), if_pos h]
theorem step4 {x : PS} (h : x.a = 4) (m : PM) : stepP x m = ({ x with t := x.t ++ [IntKind.i64.wrap (m.ans (aS x.c x.p x.tp))], a := if x.t.length + 1 = x.q / 2 then 5 else 4 }, m.load (aS x.c x.p x.tp)) := by unfold stepP; rw [if_neg (by omega), if_neg (by omega), if_neg (by omega), if_pos h]
theorem step5 {x : PS} (h : x.a = 5) (m : PM) : stepP x m = (if m.hit x.wa x.w then { x with a := 0, h := x.t ++ [x.g] } else { x with a := 1 }, m.cas x.wa x.w (dropW x.w (x.q / 2))) := by unfold stepP; rw [if_neg (by omega), if_neg (by omega), if_neg (by omega), if_neg (by omega), if_pos h]
/-- what holds of a put at all times -/
structure PS.Ok (x : PS) : Prop where
  a : x.a ≤ 5
  th : x.a ≠ 0 → (Right x.c ∧ 0 ≤ x.p ∧ x.p < x.c.n) ∧ 0 ≤ x.g
  w : x.w < 18446744073709551616
  t4 : x.a = 4 → x.t.length < x.q / 2
  t5 : x.a = 5 → x.t.length = x.q / 2
  few : x.t.length ≤ 32
/-- all numbers are such of 64 digits -/
def U64 (m : PM) : Prop := ∀ z ∈ m.cs, 0 ≤ z ∧ z < 18446744073709551616
theorem U64.at {m : PM} (h : U64 m) (a : Int) : 0 ≤ m.at a ∧ m.at a < 18446744073709551616 := by
  unfold PM.at
  rcases Nat.lt_or_ge a.toNat m.cs.length with hl | hl
  · have e : m.cs.getD a.toNat 0 = m.cs[a.toNat] := by simp [List.getD, hl]
    rw [e]; exact h _ (List.getElem_mem hl)
  · have e : m.cs.getD a.toNat 0 = 0 := by simp [List.getD, hl]
    rw [e]; omega
theorem U64.ans {m : PM} (h : U64 m) (a : Int) : 0 ≤ m.ans a ∧ m.ans a < 18446744073709551616 := by
  unfold PM.ans; split
  · exact h.at a
  · omega
theorem U64.acc {m : PM} (h : U64 m) (kind a v : Int) (k : Cnt) (hv : 0 ≤ v ∧ v < 18446744073709551616) : U64 (m.acc kind a v k) := by
  intro z hz
  have hz' : z ∈ m.cs.set a.toNat v := hz
  rcases List.mem_or_eq_of_mem_set hz' with h1 | rfl
  · exact h z h1
  · exact hv
theorem U64.load {m : PM} (h : U64 m) (a : Int) : U64 (m.load a) := by
  unfold PM.load; split
  · exact h.acc _ _ _ _ (h.at a)
  · exact h
theorem U64.store {m : PM} (h : U64 m) (a v : Int) (hv : 0 ≤ v ∧ v < 18446744073709551616) : U64 (m.store a v) := by
  unfold PM.store; split
  · exact h.acc _ _ _ _ hv
  · exact h
theorem U64.cas {m : PM} (h : U64 m) (a o v : Int) (hv : 0 ≤ v ∧ v < 18446744073709551616) : U64 (m.cas a o v) := by
  unfold PM.cas; split
  · split
    · exact h.acc _ _ _ _ hv
    · exact h.acc _ _ _ _ (h.at a)
  · exact h
theorem u64_rng (z : Int) : 0 ≤ IntKind.u64.wrap z ∧ IntKind.u64.wrap z < 18446744073709551616 := by
  have e : IntKind.u64.wrap z = z % 18446744073709551616 := by simp [IntKind.wrap, IntKind.bits, IntKind.signed]
  rw [e]; omega
theorem wd_rng {n : Nat} (h : n < 18446744073709551616) : 0 ≤ (n : Int) ∧ (n : Int) < 18446744073709551616 := by omega
theorem newP_ok (c : Cfg) (p g : Int) : (newP c p g).Ok := by
  unfold newP
  split
  · rename_i h
    refine ⟨by simp, fun _ => ⟨thB_iff.1 h.1, h.2⟩, by simp, fun h => ?_, fun h => ?_, by simp⟩
    · have e : (1 : Nat) = 4 := h
      omega
    · have e : (1 : Nat) = 5 := h
      omega
  · refine ⟨Nat.zero_le _, fun h => absurd rfl h, Nat.zero_lt_succ _, fun h => ?_, fun h => ?_, Nat.zero_le _⟩
    · have e : (0 : Nat) = 4 := h
      omega
    · have e : (0 : Nat) = 5 := h
      omega
theorem q_le {c : Cfg} (h : Right c) : 2 ≤ c.q.toNat ∧ c.q.toNat ≤ 64 ∧ (c.q.toNat : Int) = c.q ∧ 1 ≤ c.q.toNat / 2 := by
  have := h.q
  omega
theorem mem_load (m : PM) (a : Int) : (m.load a).cs.length = m.cs.length ∧ m.k.ops ≤ (m.load a).k.ops ∧ (m.load a).k.ops ≤ m.k.ops + 1 := by
  have h1 := go_len m 1 a 0 0; have h2 := go_ops m 1 a 0 0
  unfold PM.go at h1 h2; rw [if_pos rfl] at h1 h2
  exact ⟨h1, h2.2, h2.1⟩
theorem mem_store (m : PM) (a v : Int) : (m.store a v).cs.length = m.cs.length ∧ m.k.ops ≤ (m.store a v).k.ops ∧ (m.store a v).k.ops ≤ m.k.ops + 1 := by
  have h1 := go_len m 2 a 0 v; have h2 := go_ops m 2 a 0 v
  unfold PM.go at h1 h2; rw [if_neg (by decide), if_pos rfl] at h1 h2
  exact ⟨h1, h2.2, h2.1⟩
theorem mem_cas (m : PM) (a o v : Int) : (m.cas a o v).cs.length = m.cs.length ∧ m.k.ops ≤ (m.cas a o v).k.ops ∧ (m.cas a o v).k.ops ≤ m.k.ops + 1 := by
  have h1 := go_len m 3 a o v; have h2 := go_ops m 3 a o v
  unfold PM.go at h1 h2; rw [if_neg (by decide), if_neg (by decide), if_pos rfl] at h1 h2
  exact ⟨h1, h2.2, h2.1⟩
def StepOk (x y : PS) (m m' : PM) : Prop := y.Ok ∧ U64 m' ∧ m'.cs.length = m.cs.length ∧ m.k.ops ≤ m'.k.ops ∧ m'.k.ops ≤ m.k.ops + 1
theorem ok_at {x : PS} (h : x.Ok) (a : Nat) (ha : a = 0 ∨ a = 1 ∨ a = 3) (h0 : x.a ≠ 0) (l : List Int) : PS.Ok { x with a := a, h := l } := by
  refine ⟨?_, fun _ => h.th h0, h.w, ?_, ?_, h.few⟩
  · show a ≤ 5
    omega
  · intro e
    have e' : a = 4 := e
    omega
  · intro e
    have e' : a = 5 := e
    omega
theorem ok1 {x : PS} (h : x.Ok) {m : PM} (hm : U64 m) (h1 : x.a = 1) : StepOk x { x with w := (m.ans x.wa).toNat, t := [], a := if ln (m.ans x.wa).toNat < x.q then 2 else 4 } m (m.load x.wa) := by
  have hw := hm.ans x.wa
  have hth := h.th (by omega)
  have hq := q_le hth.1.1
  obtain ⟨z, hz⟩ : ∃ z, (m.ans x.wa).toNat = z := ⟨_, rfl⟩
  have hz2 : z < 18446744073709551616 := by omega
  rw [hz]
  obtain ⟨a, ha⟩ : ∃ a, (if ln z < x.q then 2 else 4) = a := ⟨_, rfl⟩
  have ha2 : a = 2 ∨ a = 4 := by rw [← ha]; split <;> simp
  rw [ha]
  refine ⟨⟨?_, fun _ => hth, hz2, fun _ => ?_, ?_, Nat.zero_le _⟩, hm.load _, mem_load _ _⟩
  · show a ≤ 5
    omega
  · exact hq.2.2.2
  · intro e
    have e' : a = 5 := e
    omega
theorem ok4 {x : PS} (h : x.Ok) {m : PM} (hm : U64 m) (h4 : x.a = 4) (z : Int) (ad : Int) : StepOk x { x with t := x.t ++ [z], a := if x.t.length + 1 = x.q / 2 then 5 else 4 } m (m.load ad) := by
  have hth := h.th (by omega)
  have hq := q_le hth.1.1
  have ht := h.t4 h4
  have e : x.q = x.c.q.toNat := rfl
  obtain ⟨a, ha⟩ : ∃ a, (if x.t.length + 1 = x.q / 2 then 5 else 4) = a := ⟨_, rfl⟩
  have ha2 : (a = 5 ∧ x.t.length + 1 = x.q / 2) ∨ (a = 4 ∧ x.t.length + 1 ≠ x.q / 2) := by
    rw [← ha]; split
    · exact .inl ⟨rfl, by assumption⟩
    · exact .inr ⟨rfl, by assumption⟩
  rw [ha]
  have hl : (x.t ++ [z]).length = x.t.length + 1 := by simp
  refine ⟨⟨?_, fun _ => hth, h.w, ?_, ?_, ?_⟩, hm.load _, mem_load _ _⟩
  · show a ≤ 5
    omega
  · intro e4
    have e' : a = 4 := e4
    show (x.t ++ [z]).length < x.q / 2
    omega
  · intro e5
    have e' : a = 5 := e5
    show (x.t ++ [z]).length = x.q / 2
    omega
  · show (x.t ++ [z]).length ≤ 32
    omega
theorem step_ok {x : PS} (h : x.Ok) {m : PM} (hm : U64 m) : StepOk x (stepP x m).1 m (stepP x m).2 := by
  by_cases h1 : x.a = 1
  · rw [step1 h1]; exact ok1 h hm h1
  · by_cases h2 : x.a = 2
    · rw [step2 h2]
      exact ⟨ok_at h 3 (by simp) (by omega) x.h, hm.store _ _ (u64_rng _), mem_store _ _ _⟩
    · by_cases h3 : x.a = 3
      · rw [step3 h3]
        refine ⟨?_, hm.cas _ _ _ (wd_rng (grow_lt h.w)), mem_cas _ _ _ _⟩
        show PS.Ok (if m.hit x.wa x.w then { x with a := 0, h := [] } else { x with a := 1 })
        split
        · exact ok_at h 0 (by simp) (by omega) _
        · exact ok_at h 1 (by simp) (by omega) x.h
      · by_cases h4 : x.a = 4
        · rw [step4 h4]; exact ok4 h hm h4 _ _
        · by_cases h5 : x.a = 5
          · rw [step5 h5]
            refine ⟨?_, hm.cas _ _ _ (wd_rng (drop_lt h.w)), mem_cas _ _ _ _⟩
            show PS.Ok (if m.hit x.wa x.w then { x with a := 0, h := x.t ++ [x.g] } else { x with a := 1 })
            split
            · exact ok_at h 0 (by simp) (by omega) _
            · exact ok_at h 1 (by simp) (by omega) x.h
          · have := h.a
            rw [step0 (by omega)]
            exact ⟨h, hm, rfl, Nat.le_refl _, Nat.le_succ _⟩
end Go.Pu

/- Plain: a ring's numbers, what takes some of the older ones, and a put that ends (layer 9, PutKeeps). It imports nothing of the dump. -/
namespace Go.Pu
open Go.Ce Go.Cg Go.Wd

def wdN (c : Cfg) (p : Int) (m : PM) : Nat := (m.at (aW c p)).toNat
def cellF (c : Cfg) (p : Int) (m : PM) (i : Nat) : Int := IntKind.i64.wrap (m.at (aS c p i))
def rngW (f : Nat → Int) (w : Nat) : List Int := (List.range (ln w)).map fun j => f ((hd w + j) % 4294967296)
/-- what is in a ring, in order; of one that is longer than its room nothing -/
def rng (c : Cfg) (p : Int) (m : PM) : List Int := if ln (wdN c p m) ≤ c.q.toNat then rngW (cellF c p m) (wdN c p m) else []
theorem rngW_length (f : Nat → Int) (w : Nat) : (rngW f w).length = ln w := by unfold rngW; simp
theorem rngW_at (f : Nat → Int) (w : Nat) {j : Nat} (h : j < ln w) : (rngW f w)[j]? = some (f ((hd w + j) % 4294967296)) := by unfold rngW; simp [h]
theorem tl_eq {w : Nat} (h : w < 18446744073709551616) : tl w = (hd w + ln w) % 4294967296 := by
  have h1 := hd_lt h
  have h2 := tl_lt w
  unfold ln
  omega
theorem rngW_gain (f : Nat → Int) {w n : Nat} (hw : w < 18446744073709551616) (hn : n ≤ ln w) : rngW f (gainW w n) = (rngW f w).drop n := by
  apply List.ext_getElem?
  intro j
  rw [List.getElem?_drop]
  by_cases h : j < ln w - n
  · rw [rngW_at _ _ (by rw [ln_gain hw hn]; exact h), rngW_at _ _ (by omega), hd_gain]
    congr 2
    omega
  · rw [List.getElem?_eq_none (by rw [rngW_length, ln_gain hw hn]; omega), List.getElem?_eq_none (by rw [rngW_length]; omega)]
theorem rngW_grow (f : Nat → Int) {w : Nat} (hw : w < 18446744073709551616) (hn : ln w < 4294967295) : rngW f (growW w 1) = rngW f w ++ [f (tl w)] := by
  apply List.ext_getElem?
  intro j
  have hl := ln_grow hw hn
  by_cases h : j < ln w
  · rw [rngW_at _ _ (by omega), List.getElem?_append_left (by rw [rngW_length]; exact h), rngW_at _ _ h, hd_grow]
  · by_cases h2 : j = ln w
    · subst h2
      rw [rngW_at _ _ (by omega), List.getElem?_append_right (by rw [rngW_length]; exact Nat.le_refl _), rngW_length, Nat.sub_self, hd_grow, tl_eq hw]
      rfl
    · rw [List.getElem?_eq_none (by rw [rngW_length]; omega), List.getElem?_eq_none (by rw [List.length_append, rngW_length, List.length_singleton]; omega)]
theorem rngW_drop (f : Nat → Int) {w n : Nat} (hw : w < 18446744073709551616) (hn : n ≤ ln w) : rngW f (dropW w n) = (rngW f w).take (ln w - n) := by
  apply List.ext_getElem?
  intro j
  rw [List.getElem?_take]
  have hl := ln_drop hw hn
  by_cases h : j < ln w - n
  · rw [if_pos h, rngW_at _ _ (by omega), rngW_at _ _ (by omega), hd_drop]
  · rw [if_neg h, List.getElem?_eq_none (by rw [rngW_length]; omega)]
theorem rngW_congr {f g : Nat → Int} {w : Nat} (h : ∀ j, j < ln w → f ((hd w + j) % 4294967296) = g ((hd w + j) % 4294967296)) : rngW f w = rngW g w := by
  unfold rngW
  exact List.map_congr_left fun j hj => h j (by simpa using hj)

/-- a memory of a config that is right, and one of its Ps -/
structure Mk (c : Cfg) (p : Int) (m : PM) : Prop where
  th : Right c ∧ 0 ≤ p ∧ p < c.n
  len : m.cs.length = ccN c
  u : U64 m
theorem aS_lt {c : Cfg} {p : Int} (h : Right c ∧ 0 ≤ p ∧ p < c.n) (i : Nat) : aW c p < aS c p i ∧ 4 ≤ aW c p ∧ aS c p i < (ccN c : Int) ∧ aW c p < (ccN c : Int) := by
  have hq := h.1.q
  have hm := Int.emod_nonneg (i : Int) (show c.q ≠ 0 by omega)
  have hm2 := Int.emod_lt_of_pos (i : Int) (show 0 < c.q by omega)
  have h1 := pl_lt (k := 6 + (i : Int) % c.q) h (by omega) (by omega)
  have h2 := pl_lt (k := 0) h (by omega) (by omega)
  unfold aW aS
  omega
theorem Mk.hasW {c : Cfg} {p : Int} {m : PM} (h : Mk c p m) : m.Has (aW c p) := by
  have := aS_lt h.th 0
  exact ⟨by omega, by rw [h.len]; omega⟩
theorem Mk.hasS {c : Cfg} {p : Int} {m : PM} (h : Mk c p m) (i : Nat) : m.Has (aS c p i) := by
  have := aS_lt h.th i
  exact ⟨by omega, by rw [h.len]; omega⟩
theorem at_same {m : PM} {kind a v : Int} {k : Cnt} (h : m.Has a) : (m.acc kind a v k).at a = v := by
  obtain ⟨h0, h1⟩ := h
  have e : a.toNat < m.cs.length := by omega
  show (m.cs.set a.toNat v).getD a.toNat 0 = v
  simp [List.getD, e]
theorem at_other {m : PM} {kind a b v : Int} {k : Cnt} (ha : 0 ≤ a) (hb : 0 ≤ b) (hne : a ≠ b) : (m.acc kind a v k).at b = m.at b := by
  have e : a.toNat ≠ b.toNat := by omega
  show (m.cs.set a.toNat v).getD b.toNat 0 = m.cs.getD b.toNat 0
  simp [List.getD, e]
theorem at_load (m : PM) (a b : Int) (hb : 0 ≤ b) : (m.load a).at b = m.at b := by
  by_cases h : m.Has a
  · rw [load_yes h]
    by_cases e : a = b
    · subst e; exact at_same h
    · exact at_other h.1 hb e
  · rw [load_no h]
theorem wd_lt {c : Cfg} {p : Int} {m : PM} (h : Mk c p m) : wdN c p m < 18446744073709551616 := by
  have := h.u.at (aW c p)
  unfold wdN; omega
theorem wd_at {c : Cfg} {p : Int} {m : PM} (h : Mk c p m) : m.at (aW c p) = (wdN c p m : Int) := by
  have := h.u.at (aW c p)
  unfold wdN; omega
theorem ans_W {c : Cfg} {p : Int} {m : PM} (h : Mk c p m) : (m.ans (aW c p)).toNat = wdN c p m := by
  unfold PM.ans wdN; rw [if_pos h.hasW]
/-- the same cells: the same ring -/
theorem rng_same {c : Cfg} {p : Int} {m m' : PM} (h1 : wdN c p m' = wdN c p m) (h2 : ∀ i, cellF c p m' i = cellF c p m i) : rng c p m' = rng c p m := by
  unfold rng
  rw [h1, show cellF c p m' = cellF c p m from funext h2]
theorem load_same {c : Cfg} {p : Int} {m : PM} (h : Mk c p m) (a : Int) : wdN c p (m.load a) = wdN c p m ∧ (∀ i, cellF c p (m.load a) i = cellF c p m i) ∧ Mk c p (m.load a) := by
  have hb := aS_lt h.th
  refine ⟨by unfold wdN; rw [at_load _ _ _ (by have := hb 0; omega)], fun i => by unfold cellF; rw [at_load _ _ _ (by have := hb i; omega)], h.th, by rw [(mem_load m a).1]; exact h.len, h.u.load a⟩
/-- a new word alone -/
theorem word_set {c : Cfg} {p : Int} {m : PM} (h : Mk c p m) (kind : Int) (k : Cnt) {w : Nat} (hw : w < 18446744073709551616) : wdN c p (m.acc kind (aW c p) w k) = w ∧ (∀ i, cellF c p (m.acc kind (aW c p) w k) i = cellF c p m i) ∧ Mk c p (m.acc kind (aW c p) w k) := by
  have hb := aS_lt h.th
  refine ⟨by unfold wdN; rw [at_same h.hasW]; rfl, fun i => by unfold cellF; rw [at_other (by have := hb i; omega) (by have := hb i; omega) (by have := hb i; omega)], h.th, by rw [(acc_len ..).1]; exact h.len, h.u.acc _ _ _ _ (wd_rng hw)⟩
theorem rng_of {c : Cfg} {p : Int} {m : PM} (h : ln (wdN c p m) ≤ c.q.toNat) : rng c p m = rngW (cellF c p m) (wdN c p m) := by unfold rng; rw [if_pos h]
theorem rng_length {c : Cfg} {p : Int} {m : PM} (h : ln (wdN c p m) ≤ c.q.toNat) : (rng c p m).length = ln (wdN c p m) := by rw [rng_of h, rngW_length]
theorem slot_ne {c : Cfg} {p : Int} (h : Right c) {i j : Nat} (hne : i % c.q.toNat ≠ j % c.q.toNat) : aS c p i ≠ aS c p j := by
  have hq := q_le h
  unfold aS
  rw [← hq.2.2.1]
  intro e
  apply hne
  have e2 : (i : Int) % (c.q.toNat : Int) = (j : Int) % (c.q.toNat : Int) := by omega
  exact_mod_cast e2
theorem q_dvd {c : Cfg} (h : Right c) : c.q.toNat ∣ 4294967296 := by
  have := h.q
  rcases this with h | h | h | h | h | h <;> rw [h] <;> decide
theorem place_ne {q h i j : Nat} (hq : q ∣ 4294967296) (hi : i < j) (hj : j < q + i) : (h + i) % 4294967296 % q ≠ (h + j) % 4294967296 % q := by
  rw [Nat.mod_mod_of_dvd _ hq, Nat.mod_mod_of_dvd _ hq]
  intro e
  have h0 := Nat.sub_mod_eq_zero_of_mod_eq e.symm
  rw [show h + j - (h + i) = j - i by omega, Nat.mod_eq_of_lt (by omega)] at h0
  omega
/-- what is taken of the older ones at once -/
def thN (l : List Int) (most : Nat) : Nat := min most (l.length - l.length / 2)
def thiefM (c : Cfg) (p : Int) (m : PM) (most : Nat) : PM := if thN (rng c p m) most = 0 then m else (m.load (aW c p)).store (aW c p) (gainW (wdN c p m) (thN (rng c p m) most))
theorem thief_ring {c : Cfg} {p : Int} {m : PM} (h : Mk c p m) (hs : ln (wdN c p m) ≤ c.q.toNat) (most : Nat) :
    ∃ n, n = thN (rng c p m) most ∧ n ≤ ln (wdN c p m) ∧ wdN c p (thiefM c p m most) = gainW (wdN c p m) n ∧ (∀ i, cellF c p (thiefM c p m most) i = cellF c p m i) ∧ Mk c p (thiefM c p m most) ∧ rng c p (thiefM c p m most) = (rng c p m).drop n ∧ ln (wdN c p (thiefM c p m most)) = ln (wdN c p m) - n := by
  have hw := wd_lt h
  have hle : thN (rng c p m) most ≤ ln (wdN c p m) := by unfold thN; rw [rng_length hs]; omega
  refine ⟨_, rfl, hle, ?_⟩
  obtain ⟨n, hn⟩ : ∃ n, thN (rng c p m) most = n := ⟨_, rfl⟩
  unfold thiefM
  rw [hn] at hle ⊢
  by_cases h0 : n = 0
  · subst h0
    rw [if_pos rfl, List.drop_zero, gain_zero hw, Nat.sub_zero]
    exact ⟨rfl, fun _ => rfl, h, rfl, rfl⟩
  · rw [if_neg h0]
    obtain ⟨a1, a2, a3⟩ := load_same h (aW c p)
    have hs1 : (m.load (aW c p)).store (aW c p) (gainW (wdN c p m) n) = (m.load (aW c p)).acc 2 (aW c p) (gainW (wdN c p m) n) { (m.load (aW c p)).k with s := (m.load (aW c p)).k.s + 1 } := store_yes a3.hasW _
    rw [hs1]
    obtain ⟨b1, b2, b3⟩ := word_set a3 2 { (m.load (aW c p)).k with s := (m.load (aW c p)).k.s + 1 } (w := gainW (wdN c p m) n) gain_lt
    have hl := ln_gain hw hle
    have hc : ∀ i, cellF c p ((m.load (aW c p)).acc 2 (aW c p) (gainW (wdN c p m) n) { (m.load (aW c p)).k with s := (m.load (aW c p)).k.s + 1 }) i = cellF c p m i := fun i => (b2 i).trans (a2 i)
    refine ⟨b1, hc, b3, ?_, by rw [b1, hl]⟩
    rw [rng_of (by rw [b1, hl]; omega), b1, show cellF c p _ = cellF c p m from funext hc, rngW_gain _ hw hle, rng_of hs]
theorem cas_hit_new' {c : Cfg} {p : Int} {m : PM} (h : Mk c p m) {w v : Nat} (he : wdN c p m = w) (hv : v < 18446744073709551616) : wdN c p (m.cas (aW c p) w v) = v ∧ (∀ i, cellF c p (m.cas (aW c p) w v) i = cellF c p m i) ∧ Mk c p (m.cas (aW c p) w v) ∧ m.hit (aW c p) w := by
  have hat := wd_at h
  have he2 : m.at (aW c p) = (w : Int) := by rw [hat, he]
  rw [cas_hit h.hasW he2]
  obtain ⟨a, b, d⟩ := word_set h 3 { m.k with w := m.k.w + 1 } (w := v) hv
  exact ⟨a, b, d, h.hasW, he2⟩
end Go.Pu

/- Plain: cells that Filled may answer (layer 9). It imports nothing of the dump. -/
namespace Go.Pu
open Go.Ce Go.Cg Go.Wd

/-- as many as a config has, of 64 digits, each ring's length at most its room -/
structure FOk (c : Cfg) (zs : List Int) : Prop where
  len : zs.length = ccN c
  u : ∀ z ∈ zs, 0 ≤ z ∧ z < 18446744073709551616
  w : ∀ p : Int, Right c ∧ 0 ≤ p ∧ p < c.n → ln (zs.getD (aW c p).toNat 0).toNat ≤ c.q.toNat
theorem FOk.zero (c : Cfg) : FOk c (List.replicate (ccN c) 0) := by
  refine ⟨List.length_replicate .., fun z hz => ?_, fun p hp => ?_⟩
  · rw [List.mem_replicate] at hz
    omega
  · have e : (List.replicate (ccN c) (0 : Int)).getD (aW c p).toNat 0 = 0 := by
      rw [List.getD, List.getElem?_replicate]
      split <;> rfl
    rw [e]
    have e2 : ln (0 : Int).toNat = 0 := by decide
    rw [e2]
    exact Nat.zero_le _
theorem FOk.set {c : Cfg} {zs : List Int} (h : FOk c zs) (a : Nat) (v : Int) (hv : 0 ≤ v ∧ v < 18446744073709551616) (hw : ∀ p : Int, Right c ∧ 0 ≤ p ∧ p < c.n → (aW c p).toNat = a → ln v.toNat ≤ c.q.toNat) : FOk c (zs.set a v) := by
  refine ⟨by rw [List.length_set]; exact h.len, fun z hz => ?_, fun p hp => ?_⟩
  · rcases List.mem_or_eq_of_mem_set hz with h1 | rfl
    · exact h.u z h1
    · exact hv
  · have hl := aS_lt hp 0
    have hlt : (aW c p).toNat < zs.length := by rw [h.len]; omega
    by_cases e : (aW c p).toNat = a
    · have e2 : (zs.set a v).getD (aW c p).toNat 0 = v := by rw [e] at hlt ⊢; simp [List.getD, hlt]
      rw [e2]; exact hw p hp e
    · have e2 : (zs.set a v).getD (aW c p).toNat 0 = zs.getD (aW c p).toNat 0 := by
        have e' : a ≠ (aW c p).toNat := fun h => e h.symm
        simp [List.getD, e']
      rw [e2]; exact h.w p hp
/-- another place is no word -/
theorem not_word {c : Cfg} {p k : Int} (h : Right c ∧ 0 ≤ p ∧ p < c.n) (h0 : 1 ≤ k) (h1 : k < 6 + c.q) (p' : Int) (h' : Right c ∧ 0 ≤ p' ∧ p' < c.n) : (aW c p').toNat ≠ (4 + p * (6 + c.q) + k).toNat := by
  obtain ⟨hR, hp, hn⟩ := h
  obtain ⟨-, hp', hn'⟩ := h'
  obtain ⟨a, b, g, m, t, s, rfl, h2, h3, -⟩ := hR.small
  obtain ⟨i, rfl⟩ : ∃ i : Nat, p = i := ⟨p.toNat, by omega⟩
  obtain ⟨i', rfl⟩ : ∃ i : Nat, p' = i := ⟨p'.toNat, by omega⟩
  obtain ⟨j, rfl⟩ : ∃ j : Nat, k = j := ⟨k.toNat, by omega⟩
  unfold aW
  simp only at h1 ⊢
  have e1 : (4 + (i' : Int) * (6 + (b : Int))).toNat = 4 + i' * (6 + b) := by
    have : (4 + (i' : Int) * (6 + (b : Int))) = ((4 + i' * (6 + b) : Nat) : Int) := by push_cast; rfl
    rw [this]; rfl
  have e2 : (4 + (i : Int) * (6 + (b : Int)) + (j : Int)).toNat = 4 + i * (6 + b) + j := by
    have : (4 + (i : Int) * (6 + (b : Int)) + (j : Int)) = ((4 + i * (6 + b) + j : Nat) : Int) := by push_cast; rfl
    rw [this]; rfl
  rw [e1, e2]
  intro e
  have hm1 : (i' * (6 + b)) % (6 + b) = 0 := Nat.mul_mod_left _ _
  have hm2 : (i * (6 + b) + j) % (6 + b) = j := by
    rw [Nat.mul_comm, Nat.mul_add_mod]
    exact Nat.mod_eq_of_lt (by omega)
  have e3 : i' * (6 + b) = i * (6 + b) + j := by omega
  rw [← e3, hm1] at hm2
  omega
theorem ln_pack {h n q : Nat} (hh : h < 4294967296) (hn : n ≤ q) (hq : q ≤ 64) : ln (pk h ((h + n) % 4294967296)) ≤ q ∧ pk h ((h + n) % 4294967296) < 18446744073709551616 := by
  refine ⟨?_, pk_lt hh (Nat.mod_lt _ (by decide))⟩
  unfold ln
  rw [hd_pk (Nat.mod_lt _ (by decide)), tl_pk (Nat.mod_lt _ (by decide))]
  omega
end Go.Pu

/- Plain: a put ends, and keeps all, whatever is taken of the older ones between its steps (layer 9, PutKeeps). It imports nothing of the dump. -/
namespace Go.Pu
open Go.Ce Go.Cg Go.Wd

/-- since it looked, some of the oldest were taken, and nothing else -/
def Since (c : Cfg) (p : Int) (x : PS) (m : PM) : Prop := ∃ n, n ≤ ln x.w ∧ wdN c p m = gainW x.w n
/-- what was loaded is the younger half, as far as it has come -/
def Taken (c : Cfg) (p : Int) (x : PS) (m : PM) : Prop := ∀ j, j < x.t.length → x.t.getD j 0 = cellF c p m ((tl x.w + 4294967296 - c.q.toNat / 2 + j) % 4294967296)
def StP (c : Cfg) (p : Int) (x : PS) (m : PM) : Prop :=
  x.a = 1 ∨ (x.a = 2 ∧ Since c p x m ∧ ln x.w < c.q.toNat) ∨ (x.a = 3 ∧ Since c p x m ∧ ln x.w < c.q.toNat ∧ cellF c p m (tl x.w) = x.g) ∨
    (x.a = 4 ∧ Since c p x m ∧ ln x.w = c.q.toNat ∧ x.t.length < c.q.toNat / 2 ∧ Taken c p x m) ∨ (x.a = 5 ∧ Since c p x m ∧ ln x.w = c.q.toNat ∧ x.t.length = c.q.toNat / 2 ∧ Taken c p x m)
structure KI (c : Cfg) (p : Int) (was gone : List Int) (x : PS) (m : PM) : Prop where
  mem : Mk c p m
  sz : ln (wdN c p m) ≤ c.q.toNat
  all : gone ++ rng c p m = was
  xc : x.c = c
  xp : x.p = p
  xg : 0 ≤ x.g ∧ x.g < 9223372036854775808
  xw : x.w < 18446744073709551616
  st : StP c p x m
def remN (c : Cfg) (x : PS) : Nat := if x.a = 1 then c.q.toNat / 2 + 2 else if x.a = 2 then 2 else if x.a = 4 then c.q.toNat / 2 - x.t.length + 1 else 1
def flagN (c : Cfg) (p : Int) (x : PS) (m : PM) : Nat := if x.a = 1 ∨ wdN c p m = x.w then 0 else 1
/-- how many steps there still may be -/
def muN (c : Cfg) (p : Int) (x : PS) (m : PM) : Nat := (ln (wdN c p m) + flagN c p x m) * (c.q.toNat / 2 + 2) + remN c x
theorem gain_ne {w n : Nat} (hw : w < 18446744073709551616) (hn : n ≤ ln w) (h : gainW w n = w) : n = 0 := by
  have h1 := ln_gain hw hn
  rw [h] at h1
  omega
theorem since_ln {c : Cfg} {p : Int} {x : PS} {m : PM} (h : Since c p x m) (hw : x.w < 18446744073709551616) : ln (wdN c p m) ≤ ln x.w := by
  obtain ⟨n, hn, e⟩ := h
  rw [e, ln_gain hw hn]; omega
/-- some are taken -/
theorem KI.thief {c : Cfg} {p : Int} {was gone : List Int} {x : PS} {m : PM} (h : KI c p was gone x m) (most : Nat) :
    KI c p was (gone ++ (rng c p m).take (thN (rng c p m) most)) x (thiefM c p m most) ∧ muN c p x (thiefM c p m most) ≤ muN c p x m := by
  obtain ⟨n, hn, hle, e1, e2, e3, e4, e5⟩ := thief_ring h.mem h.sz most
  rw [← hn]
  have hS : ∀ k, Since c p x m → k = wdN c p (thiefM c p m most) → ∃ n, n ≤ ln x.w ∧ k = gainW x.w n := by
    rintro k ⟨a, ha, hb⟩ rfl
    have hl := ln_gain h.xw ha
    refine ⟨a + n, by rw [hb] at hle; omega, ?_⟩
    rw [e1, hb]
    unfold gainW
    rw [hd_pk (tl_lt _), tl_pk (tl_lt _)]
    congr 1
    omega
  refine ⟨⟨e3, by rw [e5]; have := h.sz; omega, ?_, h.xc, h.xp, h.xg, h.xw, ?_⟩, ?_⟩
  · rw [e4, List.append_assoc, List.take_append_drop]; exact h.all
  · rcases h.st with s | ⟨s, t, r⟩ | ⟨s, t, r, r2⟩ | ⟨s, t, r, r2, r3⟩ | ⟨s, t, r, r2, r3⟩
    · exact .inl s
    · exact .inr (.inl ⟨s, hS _ t rfl, r⟩)
    · exact .inr (.inr (.inl ⟨s, hS _ t rfl, r, by rw [e2]; exact r2⟩))
    · exact .inr (.inr (.inr (.inl ⟨s, hS _ t rfl, r, r2, fun j hj => by rw [e2]; exact r3 j hj⟩)))
    · exact .inr (.inr (.inr (.inr ⟨s, hS _ t rfl, r, r2, fun j hj => by rw [e2]; exact r3 j hj⟩)))
  · unfold muN
    refine Nat.add_le_add_right (Nat.mul_le_mul_right _ ?_) _
    rw [e5]
    by_cases h0 : n = 0
    · have e6 : wdN c p (thiefM c p m most) = wdN c p m := by rw [e1, h0, gain_zero (wd_lt h.mem)]
      unfold flagN
      rw [e6, h0, Nat.sub_zero]
      exact Nat.le_refl _
    · have hf : flagN c p x (thiefM c p m most) ≤ 1 := by unfold flagN; split <;> omega
      omega
/-- it is done: all is kept -/
structure KD (c : Cfg) (p : Int) (was gone : List Int) (x0 x : PS) (m0 m : PM) : Prop where
  mem : Mk c p m
  all : gone ++ rng c p m ++ x.over = was ++ [x0.g]
  sz : ln (wdN c p m) ≤ c.q.toNat
  cut : x.over ≠ [] → (rng c p m0).length = c.q.toNat ∧ x.over.length = c.q.toNat / 2 + 1 ∧ (rng c p m).length = c.q.toNat / 2
theorem keep_cells {c : Cfg} {p : Int} {m m' : PM} (h1 : wdN c p m' = wdN c p m) (h2 : ∀ i, cellF c p m' i = cellF c p m i) {x y : PS} (hw : y.w = x.w) (ht : y.t = x.t) : (Since c p x m → Since c p y m') ∧ (Taken c p x m → Taken c p y m') := by
  refine ⟨fun ⟨n, a, b⟩ => ⟨n, by rw [hw]; exact a, by rw [h1, hw]; exact b⟩, fun h j hj => ?_⟩
  rw [ht] at hj ⊢
  rw [h2, hw]; exact h j hj
theorem cas_miss_same {c : Cfg} {p : Int} {m : PM} (h : Mk c p m) {w : Nat} (hne : wdN c p m ≠ w) (v : Int) : wdN c p (m.cas (aW c p) w v) = wdN c p m ∧ (∀ i, cellF c p (m.cas (aW c p) w v) i = cellF c p m i) ∧ Mk c p (m.cas (aW c p) w v) ∧ ¬ m.hit (aW c p) w := by
  have hat := wd_at h
  have hne2 : m.at (aW c p) ≠ (w : Int) := by rw [hat]; omega
  rw [cas_miss h.hasW hne2, hat]
  obtain ⟨a, b, d⟩ := word_set h 3 { m.k with f := m.k.f + 1 } (w := wdN c p m) (wd_lt h)
  exact ⟨a, b, d, fun hh => hne2 hh.2⟩
theorem cas_hit_new {c : Cfg} {p : Int} {m : PM} (h : Mk c p m) {w v : Nat} (he : wdN c p m = w) (hv : v < 18446744073709551616) : wdN c p (m.cas (aW c p) w v) = v ∧ (∀ i, cellF c p (m.cas (aW c p) w v) i = cellF c p m i) ∧ Mk c p (m.cas (aW c p) w v) ∧ m.hit (aW c p) w := by
  have hat := wd_at h
  have he2 : m.at (aW c p) = (w : Int) := by rw [hat, he]
  rw [cas_hit h.hasW he2]
  obtain ⟨a, b, d⟩ := word_set h 3 { m.k with w := m.k.w + 1 } (w := v) hv
  exact ⟨a, b, d, h.hasW, he2⟩
theorem rem1 {c : Cfg} {x : PS} (h : x.a = 1) : remN c x = c.q.toNat / 2 + 2 := by unfold remN; rw [if_pos h]
theorem rem2 {c : Cfg} {x : PS} (h : x.a = 2) : remN c x = 2 := by unfold remN; rw [if_neg (by omega), if_pos h]
theorem rem4 {c : Cfg} {x : PS} (h : x.a = 4) : remN c x = c.q.toNat / 2 - x.t.length + 1 := by unfold remN; rw [if_neg (by omega), if_neg (by omega), if_pos h]
theorem rem35 {c : Cfg} {x : PS} (h : x.a = 3 ∨ x.a = 5) : remN c x = 1 := by unfold remN; rw [if_neg (by omega), if_neg (by omega), if_neg (by omega)]
theorem mu_less {c : Cfg} {p : Int} {x y : PS} {m m' : PM} {L f r r' : Nat} (h1 : ln (wdN c p m) = L) (h2 : ln (wdN c p m') = L) (h3 : flagN c p x m = f) (h4 : flagN c p y m' ≤ f) (h5 : remN c x = r) (h6 : remN c y = r') (h : r' + 1 ≤ r) : muN c p y m' + 1 ≤ muN c p x m := by
  unfold muN
  rw [h1, h2, h3, h5, h6]
  have := Nat.mul_le_mul_right (c.q.toNat / 2 + 2) (Nat.add_le_add_left h4 L)
  generalize (L + flagN c p y m') * (c.q.toNat / 2 + 2) = P at this ⊢
  generalize (L + f) * (c.q.toNat / 2 + 2) = R at this ⊢
  omega
theorem mu_again {c : Cfg} {p : Int} {x y : PS} {m m' : PM} {L : Nat} (h1 : ln (wdN c p m) = L) (h2 : ln (wdN c p m') = L) (h3 : flagN c p x m = 1) (h4 : flagN c p y m' = 0) (h5 : remN c x = 1) (h6 : remN c y = c.q.toNat / 2 + 2) : muN c p y m' + 1 ≤ muN c p x m := by
  unfold muN
  rw [h1, h2, h3, h4, h5, h6, Nat.add_mul L 0, Nat.zero_mul, Nat.add_mul L 1, Nat.one_mul]
  omega
/-- a step -/
theorem KI.step {c : Cfg} {p : Int} {was gone : List Int} {x : PS} {m : PM} (h : KI c p was gone x m) :
    ((stepP x m).1.a ≠ 0 ∧ KI c p was gone (stepP x m).1 (stepP x m).2 ∧ muN c p (stepP x m).1 (stepP x m).2 + 1 ≤ muN c p x m) ∨ ((stepP x m).1.a = 0 ∧ KD c p was gone x (stepP x m).1 m (stepP x m).2) := by
  have hq := q_le h.mem.th.1
  have hwl := wd_lt h.mem
  have hxa : x.wa = aW c p := by unfold PS.wa; rw [h.xc, h.xp]
  have hxq : x.q = c.q.toNat := by unfold PS.q; rw [h.xc]
  rcases h.st with s | ⟨s, t, r⟩ | ⟨s, t, r, r2⟩ | ⟨s, t, r, r2, r3⟩ | ⟨s, t, r, r2, r3⟩
  · -- look
    left
    rw [step1 s, hxa, hxq, ans_W h.mem]
    obtain ⟨a1, a2, a3⟩ := load_same h.mem (aW c p)
    have hsz := h.sz
    by_cases hlt : ln (wdN c p m) < c.q.toNat
    · rw [if_pos hlt]
      refine ⟨by simp, ⟨a3, by rw [a1]; exact h.sz, by rw [rng_same a1 a2]; exact h.all, h.xc, h.xp, h.xg, hwl, .inr (.inl ⟨rfl, ⟨0, Nat.zero_le _, by rw [a1]; exact (gain_zero hwl).symm⟩, hlt⟩)⟩, ?_⟩
      exact mu_less (r' := 2) rfl (by rw [a1]) (if_pos (.inl s)) (Nat.le_of_eq (if_pos (.inr a1))) (rem1 s) (rem2 rfl) (by omega)
    · rw [if_neg hlt]
      refine ⟨by simp, ⟨a3, by rw [a1]; exact h.sz, by rw [rng_same a1 a2]; exact h.all, h.xc, h.xp, h.xg, hwl, .inr (.inr (.inr (.inl ⟨rfl, ⟨0, Nat.zero_le _, by rw [a1]; exact (gain_zero hwl).symm⟩, by show ln (wdN c p m) = _; omega, by show 0 < _; omega, fun j hj => absurd hj (Nat.not_lt_zero _)⟩)))⟩, ?_⟩
      exact mu_less (r' := c.q.toNat / 2 - 0 + 1) rfl (by rw [a1]) (if_pos (.inl s)) (Nat.le_of_eq (if_pos (.inr a1))) (rem1 s) (rem4 rfl) (by omega)
  · -- lay
    left
    rw [step2 s, h.xc, h.xp]
    have hg : IntKind.u64.wrap x.g = x.g := by
      have e : IntKind.u64.wrap x.g = x.g % 18446744073709551616 := by simp [IntKind.wrap, IntKind.bits, IntKind.signed]
      have := h.xg
      rw [e]; omega
    rw [hg]
    have hS := h.mem.hasS (tl x.w)
    have hb := aS_lt h.mem.th
    have hst : m.store (aS c p (tl x.w)) x.g = m.acc 2 (aS c p (tl x.w)) x.g { m.k with s := m.k.s + 1 } := store_yes hS _
    rw [hst]
    have b1 : wdN c p (m.acc 2 (aS c p (tl x.w)) x.g { m.k with s := m.k.s + 1 }) = wdN c p m := by
      unfold wdN; rw [at_other hS.1 (by have := hb 0; omega) (by have := hb (tl x.w); omega)]
    have b2 : cellF c p (m.acc 2 (aS c p (tl x.w)) x.g { m.k with s := m.k.s + 1 }) (tl x.w) = x.g := by
      unfold cellF
      rw [at_same hS]
      exact IntWalk.i64_in _ (by have := h.xg; omega)
    have b3 : Mk c p (m.acc 2 (aS c p (tl x.w)) x.g { m.k with s := m.k.s + 1 }) := ⟨h.mem.th, by rw [(acc_len ..).1]; exact h.mem.len, h.mem.u.acc _ _ _ _ (by have := h.xg; omega)⟩
    have b4 : rng c p (m.acc 2 (aS c p (tl x.w)) x.g { m.k with s := m.k.s + 1 }) = rng c p m := by
      rw [rng_of (by rw [b1]; exact h.sz), rng_of h.sz, b1]
      refine rngW_congr fun j hj => ?_
      unfold cellF
      obtain ⟨n, hn, en⟩ := t
      have hl := ln_gain h.xw hn
      have hh := @hd_gain x.w n
      rw [← en] at hl hh
      have e1 : (hd (wdN c p m) + j) % 4294967296 = (hd x.w + (n + j)) % 4294967296 := by rw [hh]; omega
      rw [at_other hS.1 (by have := hb ((hd (wdN c p m) + j) % 4294967296); omega) (slot_ne h.mem.th.1 ?_)]
      rw [e1, tl_eq h.xw]
      exact fun e => place_ne (q_dvd h.mem.th.1) (h := hd x.w) (i := n + j) (j := ln x.w) (by omega) (by omega) e.symm
    refine ⟨by simp, ⟨b3, by rw [b1]; exact h.sz, by rw [b4]; exact h.all, rfl, rfl, h.xg, h.xw, .inr (.inr (.inl ⟨rfl, by obtain ⟨n, hn, en⟩ := t; exact ⟨n, hn, by rw [b1]; exact en⟩, r, b2⟩))⟩, ?_⟩
    refine mu_less (r' := 1) rfl (by rw [b1]) rfl (Nat.le_of_eq ?_) (rem2 s) (rem35 (.inl rfl)) (Nat.le_refl _)
    unfold flagN
    rw [b1, s]
    simp
  · -- swing
    rw [step3 s, hxa]
    by_cases hw : wdN c p m = x.w
    · right
      obtain ⟨a1, a2, a3, a4⟩ := cas_hit_new h.mem hw (grow_lt (n := 1) h.xw)
      rw [if_pos a4]
      have hl := ln_grow h.xw (by omega)
      refine ⟨rfl, a3, ?_, by rw [a1, hl]; omega, fun hn => absurd rfl hn⟩
      show gone ++ rng c p _ ++ [] = was ++ [x.g]
      rw [List.append_nil, rng_of (by rw [a1, hl]; omega), a1, show cellF c p (m.cas (aW c p) x.w (growW x.w 1)) = cellF c p m from funext a2, rngW_grow _ h.xw (by omega), r2, ← List.append_assoc, ← h.all, rng_of h.sz, hw]
    · left
      obtain ⟨a1, a2, a3, a4⟩ := cas_miss_same h.mem hw (growW x.w 1)
      rw [if_neg a4]
      refine ⟨by simp, ⟨a3, by rw [a1]; exact h.sz, by rw [rng_same a1 a2]; exact h.all, h.xc, h.xp, h.xg, h.xw, .inl rfl⟩, ?_⟩
      exact mu_again rfl (by rw [a1]) (if_neg (by rintro (e | e); omega; exact hw e)) (if_pos (.inl rfl)) (rem35 (.inl s)) (rem1 rfl)
  · -- take
    left
    obtain ⟨a1, a2, a3⟩ := load_same h.mem (aS x.c x.p x.tp)
    rw [step4 s]
    have hcell : IntKind.i64.wrap (m.ans (aS x.c x.p x.tp)) = cellF c p m ((tl x.w + 4294967296 - c.q.toNat / 2 + x.t.length) % 4294967296) := by
      have e : x.tp = (tl x.w + 4294967296 - c.q.toNat / 2 + x.t.length) % 4294967296 := by unfold PS.tp; rw [hxq]
      rw [h.xc, h.xp, e]
      unfold PM.ans cellF
      rw [if_pos (h.mem.hasS _)]
    rw [hcell]
    obtain ⟨z, hz⟩ : ∃ z, cellF c p m ((tl x.w + 4294967296 - c.q.toNat / 2 + x.t.length) % 4294967296) = z := ⟨_, rfl⟩
    rw [hz, hxq]
    have hT : Taken c p { x with t := x.t ++ [z], a := if x.t.length + 1 = c.q.toNat / 2 then 5 else 4 } (m.load (aS x.c x.p x.tp)) := by
      intro j hj
      show (x.t ++ [z]).getD j 0 = _
      rw [a2]
      have hj' : j < (x.t ++ [z]).length := hj
      rw [List.length_append, List.length_singleton] at hj'
      by_cases e : j = x.t.length
      · subst e
        show _ = cellF c p m ((tl x.w + 4294967296 - c.q.toNat / 2 + x.t.length) % 4294967296)
        rw [hz]
        simp [List.getD]
      · have := r3 j (by omega)
        show _ = cellF c p m ((tl x.w + 4294967296 - c.q.toNat / 2 + j) % 4294967296)
        rw [← this]
        simp [List.getD, List.getElem?_append_left (show j < x.t.length by omega)]
    have hSi : Since c p { x with t := x.t ++ [z], a := if x.t.length + 1 = c.q.toNat / 2 then 5 else 4 } (m.load (aS x.c x.p x.tp)) := by
      obtain ⟨n, hn, en⟩ := t
      exact ⟨n, hn, by rw [a1]; exact en⟩
    have hlen : (x.t ++ [z]).length = x.t.length + 1 := by simp
    by_cases h5 : x.t.length + 1 = c.q.toNat / 2
    · rw [if_pos h5] at hT hSi ⊢
      refine ⟨by simp, ⟨a3, by rw [a1]; exact h.sz, by rw [rng_same a1 a2]; exact h.all, h.xc, h.xp, h.xg, h.xw, .inr (.inr (.inr (.inr ⟨rfl, hSi, r, by rw [← h5]; exact hlen, hT⟩)))⟩, ?_⟩
      unfold muN flagN remN
      rw [a1]
      simp only [s]
      simp
      omega
    · rw [if_neg h5] at hT hSi ⊢
      refine ⟨by simp, ⟨a3, by rw [a1]; exact h.sz, by rw [rng_same a1 a2]; exact h.all, h.xc, h.xp, h.xg, h.xw, .inr (.inr (.inr (.inl ⟨rfl, hSi, r, by show (x.t ++ [z]).length < _; omega, hT⟩)))⟩, ?_⟩
      unfold muN flagN remN
      rw [a1]
      simp only [s]
      simp
      omega
  · -- cut
    rw [step5 s, hxa, hxq]
    by_cases hw : wdN c p m = x.w
    · right
      obtain ⟨a1, a2, a3, a4⟩ := cas_hit_new h.mem hw (drop_lt (n := c.q.toNat / 2) h.xw)
      rw [if_pos a4]
      have hl := ln_drop (n := c.q.toNat / 2) h.xw (by omega)
      have hring : rng c p (m.cas (aW c p) x.w (dropW x.w (c.q.toNat / 2))) = (rngW (cellF c p m) x.w).take (c.q.toNat - c.q.toNat / 2) := by
        rw [rng_of (by rw [a1, hl]; omega), a1, show cellF c p (m.cas (aW c p) x.w (dropW x.w (c.q.toNat / 2))) = cellF c p m from funext a2, rngW_drop _ h.xw (by omega), r]
      have ht : x.t = (rngW (cellF c p m) x.w).drop (c.q.toNat - c.q.toNat / 2) := by
        apply List.ext_getElem?
        intro j
        rw [List.getElem?_drop]
        by_cases hj : j < c.q.toNat / 2
        · have h1 := r3 j (by omega)
          rw [rngW_at _ _ (by omega)]
          rw [List.getD, List.getElem?_eq_getElem (by omega), Option.getD_some] at h1
          rw [List.getElem?_eq_getElem (by omega), h1]
          congr 2
          have e1 := tl_eq h.xw
          have h2 := hd_lt h.xw
          omega
        · rw [List.getElem?_eq_none (by omega), List.getElem?_eq_none (by rw [rngW_length]; omega)]
      have heven : c.q.toNat - c.q.toNat / 2 = c.q.toNat / 2 := by have := h.mem.th.1.q; omega
      refine ⟨rfl, a3, ?_, by rw [a1, hl]; omega, fun _ => ⟨by rw [rng_length h.sz, hw]; exact r, ?_, ?_⟩⟩
      · show gone ++ rng c p _ ++ (x.t ++ [x.g]) = was ++ [x.g]
        rw [hring, ← List.append_assoc, List.append_assoc gone, ht, List.take_append_drop, ← h.all, rng_of h.sz, hw]
      · show (x.t ++ [x.g]).length = _
        rw [List.length_append, List.length_singleton, r2]
      · rw [hring, List.length_take, rngW_length]; omega
    · left
      obtain ⟨a1, a2, a3, a4⟩ := cas_miss_same h.mem hw (dropW x.w (c.q.toNat / 2))
      rw [if_neg a4]
      refine ⟨by simp, ⟨a3, by rw [a1]; exact h.sz, by rw [rng_same a1 a2]; exact h.all, h.xc, h.xp, h.xg, h.xw, .inl rfl⟩, ?_⟩
      exact mu_again rfl (by rw [a1]) (if_neg (by rintro (e | e); omega; exact hw e)) (if_pos (.inl rfl)) (rem35 (.inr s)) (rem1 rfl)
/-- at first -/
theorem KI.start {c : Cfg} {p g : Int} {m : PM} (h : Mk c p m) (hs : ln (wdN c p m) ≤ c.q.toNat) (hg : 0 ≤ g ∧ g < 9223372036854775808) : KI c p (rng c p m) [] (newP c p g) m ∧ (newP c p g).g = g ∧ muN c p (newP c p g) m = ln (wdN c p m) * (c.q.toNat / 2 + 2) + (c.q.toNat / 2 + 2) := by
  have e : newP c p g = ⟨c, p, g, 1, 0, [], [g]⟩ := by unfold newP; rw [if_pos ⟨thB_iff.2 h.th, hg.1⟩]
  obtain ⟨x, hx⟩ : ∃ x : PS, x = ⟨c, p, g, 1, 0, [], [g]⟩ := ⟨_, rfl⟩
  rw [e, ← hx]
  have h1 : x.c = c := by rw [hx]
  have h2 : x.p = p := by rw [hx]
  have h3 : x.g = g := by rw [hx]
  have h4 : x.w = 0 := by rw [hx]
  have h5 : x.a = 1 := by rw [hx]
  clear hx e
  refine ⟨⟨h, hs, List.nil_append _, h1, h2, by rw [h3]; exact hg, by rw [h4]; omega, .inl h5⟩, h3, ?_⟩
  unfold muN flagN remN
  rw [if_pos h5, if_pos (.inl h5), Nat.add_zero]
end Go.Pu

/- Plain: a lay, step by step (layer 9). It imports nothing of the dump. -/
namespace Go.Pu
open Go.Ce Go.Cg Go.Wd

/-- a lay: a is where it is (0 done, 1 look, 2 store, 3 swing) -/
structure LS where
  c : Cfg
  p : Int
  l : List Int
  a : Nat
  w : Nat
  n : Nat
  k : Nat
def LS.zero : LS := ⟨cfg0, 0, [], 0, 0, 0, 0⟩
def newL (c : Cfg) (p : Int) (l : List Int) : LS := if thB c p = true then ⟨c, p, l.filter (fun z => decide (0 ≤ z)), 1, 0, 0, 0⟩ else LS.zero
def LS.wa (x : LS) : Int := aW x.c x.p
def LS.q (x : LS) : Nat := x.c.q.toNat
/-- how many it lays, of a word w -/
def LS.nn (x : LS) (w : Nat) : Nat := if ln w < x.q then min x.l.length (x.q - ln w) else 0
def stepL (x : LS) (m : PM) : LS × PM :=
  if x.a = 0 then (x, m)
  else if x.l = [] then ({ x with a := 0 }, m)
  else if x.a = 1 then ({ x with w := (m.ans x.wa).toNat, k := 0, n := x.nn (m.ans x.wa).toNat, a := if x.nn (m.ans x.wa).toNat = 0 then 0 else 2 }, m.load x.wa)
  else if x.a = 2 then ({ x with k := x.k + 1, a := if x.k + 1 = x.n then 3 else 2 }, m.store (aS x.c x.p ((tl x.w + x.k) % 4294967296)) (IntKind.u64.wrap (x.l.getD x.k 0)))
  else if x.a = 3 then (if m.hit x.wa x.w then { x with a := 0, l := x.l.drop x.n } else { x with a := 1 }, m.cas x.wa x.w (growW x.w x.n))
  else (x, m)
theorem lay0 {x : LS} (h : x.a = 0) (m : PM) : stepL x m = (x, m) := by unfold stepL; rw [if_pos h]
theorem layE {x : LS} (h : x.a ≠ 0) (hl : x.l = []) (m : PM) : stepL x m = ({ x with a := 0 }, m) := by unfold stepL; rw [if_neg h, if_pos hl]
theorem lay1 {x : LS} (h : x.a = 1) (hl : x.l ≠ []) (m : PM) : stepL x m = ({ x with w := (m.ans x.wa).toNat, k := 0, n := x.nn (m.ans x.wa).toNat, a := if x.nn (m.ans x.wa).toNat = 0 then 0 else 2 }, m.load x.wa) := by unfold stepL; rw [if_neg (by omega), if_neg hl, if_pos h]
theorem lay2 {x : LS} (h : x.a = 2) (hl : x.l ≠ []) (m : PM) : stepL x m = ({ x with k := x.k + 1, a := if x.k + 1 = x.n then 3 else 2 }, m.store (aS x.c x.p ((tl x.w + x.k) % 4294967296)) (IntKind.u64.wrap (x.l.getD x.k 0))) := by unfold stepL; rw [if_neg (by omega), if_neg hl, if_neg (by omega), if_pos h]
theorem lay3 {x : LS} (h : x.a = 3) (hl : x.l ≠ []) (m : PM) : stepL x m = (if m.hit x.wa x.w then { x with a := 0, l := x.l.drop x.n } else { x with a := 1 }, m.cas x.wa x.w (growW x.w x.n)) := by unfold stepL; rw [if_neg (by omega), if_neg hl, if_neg (by omega), if_neg (by omega), if_pos h]
/-- what holds of a lay at all times -/
structure LS.Ok (x : LS) : Prop where
  a : x.a ≤ 3
  th : x.a ≠ 0 → Right x.c ∧ 0 ≤ x.p ∧ x.p < x.c.n
  w : x.w < 18446744073709551616
  k2 : x.a = 2 → x.k < x.n
  n : x.a ≠ 0 → x.n ≤ x.l.length ∧ x.n ≤ 64
  k : x.k ≤ x.n
  few : x.l.length ≤ 1000
theorem newL_ok (c : Cfg) (p : Int) {l : List Int} (hl : l.length ≤ 1000) : (newL c p l).Ok := by
  unfold newL
  split
  · rename_i h
    have hf := List.length_filter_le (fun z => decide (0 ≤ z)) l
    refine ⟨by simp, fun _ => thB_iff.1 h, Nat.zero_lt_succ _, fun e => ?_, fun _ => ⟨Nat.zero_le _, Nat.zero_le _⟩, Nat.le_refl _, Nat.le_trans hf hl⟩
    have e' : (1 : Nat) = 2 := e
    omega
  · refine ⟨Nat.zero_le _, fun h => absurd rfl h, Nat.zero_lt_succ _, fun e => ?_, fun h => absurd rfl h, Nat.le_refl _, Nat.zero_le _⟩
    have e' : (0 : Nat) = 2 := e
    omega
def LayOk (y : LS) (m m' : PM) : Prop := y.Ok ∧ U64 m' ∧ m'.cs.length = m.cs.length ∧ m.k.ops ≤ m'.k.ops ∧ m'.k.ops ≤ m.k.ops + 1
theorem nn_le (x : LS) (w : Nat) : x.nn w ≤ x.l.length ∧ x.nn w ≤ x.q := by unfold LS.nn; split <;> omega
theorem lok1 {x : LS} (h : x.Ok) {m : PM} (hm : U64 m) (h1 : x.a = 1) : LayOk { x with w := (m.ans x.wa).toNat, k := 0, n := x.nn (m.ans x.wa).toNat, a := if x.nn (m.ans x.wa).toNat = 0 then 0 else 2 } m (m.load x.wa) := by
  have hw := hm.ans x.wa
  have hth := h.th (by omega)
  have hq := q_le hth.1
  obtain ⟨z, hz⟩ : ∃ z, (m.ans x.wa).toNat = z := ⟨_, rfl⟩
  have hz2 : z < 18446744073709551616 := by omega
  rw [hz]
  have hn := nn_le x z
  obtain ⟨n, hn'⟩ : ∃ n, x.nn z = n := ⟨_, rfl⟩
  rw [hn'] at hn ⊢
  have hq2 : x.q = x.c.q.toNat := rfl
  obtain ⟨a, ha⟩ : ∃ a, (if n = 0 then 0 else 2) = a := ⟨_, rfl⟩
  have ha2 : (a = 0 ∧ n = 0) ∨ (a = 2 ∧ n ≠ 0) := by
    rw [← ha]; split
    · exact .inl ⟨rfl, by assumption⟩
    · exact .inr ⟨rfl, by assumption⟩
  rw [ha]
  refine ⟨⟨?_, fun _ => hth, hz2, fun e => ?_, fun _ => ⟨hn.1, ?_⟩, Nat.zero_le _, h.few⟩, hm.load _, mem_load _ _⟩
  · show a ≤ 3
    omega
  · have e' : a = 2 := e
    show 0 < n
    omega
  · show n ≤ 64
    omega
theorem lok2 {x : LS} (h : x.Ok) {m : PM} (hm : U64 m) (h2 : x.a = 2) (ad v : Int) (hv : 0 ≤ v ∧ v < 18446744073709551616) : LayOk { x with k := x.k + 1, a := if x.k + 1 = x.n then 3 else 2 } m (m.store ad v) := by
  have hk := h.k2 h2
  have hn := h.n (by omega)
  obtain ⟨a, ha⟩ : ∃ a, (if x.k + 1 = x.n then 3 else 2) = a := ⟨_, rfl⟩
  have ha2 : (a = 3 ∧ x.k + 1 = x.n) ∨ (a = 2 ∧ x.k + 1 ≠ x.n) := by
    rw [← ha]; split
    · exact .inl ⟨rfl, by assumption⟩
    · exact .inr ⟨rfl, by assumption⟩
  rw [ha]
  refine ⟨⟨?_, fun _ => h.th (by omega), h.w, fun e => ?_, fun _ => hn, ?_, h.few⟩, hm.store _ _ hv, mem_store _ _ _⟩
  · show a ≤ 3
    omega
  · have e' : a = 2 := e
    show x.k + 1 < x.n
    omega
  · show x.k + 1 ≤ x.n
    omega
theorem lay_ok {x : LS} (h : x.Ok) {m : PM} (hm : U64 m) : LayOk (stepL x m).1 m (stepL x m).2 := by
  by_cases h0 : x.a = 0
  · rw [lay0 h0]; exact ⟨h, hm, rfl, Nat.le_refl _, Nat.le_succ _⟩
  · by_cases hl : x.l = []
    · rw [layE h0 hl]
      refine ⟨⟨Nat.zero_le _, fun e => absurd rfl e, h.w, fun e => ?_, fun e => absurd rfl e, h.k, h.few⟩, hm, rfl, Nat.le_refl _, Nat.le_succ _⟩
      have e' : (0 : Nat) = 2 := e
      omega
    · by_cases h1 : x.a = 1
      · rw [lay1 h1 hl]; exact lok1 h hm h1
      · by_cases h2 : x.a = 2
        · rw [lay2 h2 hl]; exact lok2 h hm h2 _ _ (u64_rng _)
        · have h3 : x.a = 3 := by have := h.a; omega
          rw [lay3 h3 hl]
          refine ⟨?_, hm.cas _ _ _ (wd_rng (grow_lt h.w)), mem_cas _ _ _ _⟩
          show LS.Ok (if m.hit x.wa x.w then { x with a := 0, l := x.l.drop x.n } else { x with a := 1 })
          split
          · refine ⟨Nat.zero_le _, fun e => absurd rfl e, h.w, fun e => ?_, fun e => absurd rfl e, h.k, ?_⟩
            · have e' : (0 : Nat) = 2 := e
              omega
            · show (x.l.drop x.n).length ≤ 1000
              rw [List.length_drop]
              have := h.few
              omega
          · refine ⟨by simp, fun _ => h.th h0, h.w, fun e => ?_, fun _ => h.n h0, h.k, h.few⟩
            have e' : (1 : Nat) = 2 := e
            omega
/-- a lay of a whole list into an empty ring, i steps done -/
structure LI (c : Cfg) (p : Int) (l : List Int) (h : Nat) (i : Nat) (x : LS) (m : PM) : Prop where
  mem : Mk c p m
  xc : x.c = c
  xp : x.p = p
  xl : x.l = l
  wd : wdN c p m = pk h h
  hh : h < 4294967296
  few : 0 < l.length ∧ l.length ≤ c.q.toNat
  pos : ∀ z ∈ l, 0 ≤ z ∧ z < 9223372036854775808
  cells : ∀ j, j < i - 1 → cellF c p m ((h + j) % 4294967296) = l.getD j 0
  st : (i = 0 ∧ x.a = 1) ∨ (0 < i ∧ i ≤ l.length ∧ x.a = 2 ∧ x.k = i - 1 ∧ x.n = l.length ∧ x.w = pk h h) ∨ (i = l.length + 1 ∧ x.a = 3 ∧ x.n = l.length ∧ x.w = pk h h)
theorem ln_pk {h : Nat} (hh : h < 4294967296) : ln (pk h h) = 0 := by
  unfold ln
  rw [hd_pk hh, tl_pk hh]
  omega
theorem rngW_grow_n (f : Nat → Int) {h n : Nat} (hh : h < 4294967296) (hn : n ≤ 64) : rngW f (growW (pk h h) n) = (List.range n).map fun j => f ((h + j) % 4294967296) := by
  have e1 : hd (growW (pk h h) n) = h := by rw [hd_grow, hd_pk hh]
  have e2 : ln (growW (pk h h) n) = n := by
    unfold ln
    rw [tl_grow, hd_grow, hd_pk hh, tl_pk hh]
    omega
  unfold rngW
  rw [e1, e2]
theorem LI.step {c : Cfg} {p : Int} {l : List Int} {h i : Nat} {x : LS} {m : PM} (H : LI c p l h i x m) :
    (i ≤ l.length ∧ (stepL x m).1.a ≠ 0 ∧ LI c p l h (i + 1) (stepL x m).1 (stepL x m).2) ∨ (i = l.length + 1 ∧ (stepL x m).1.a = 0 ∧ (stepL x m).1.l = [] ∧ rng c p (stepL x m).2 = l ∧ Mk c p (stepL x m).2) := by
  have hq := q_le H.mem.th.1
  have hl : x.l ≠ [] := by rw [H.xl]; exact fun e => by have := H.few.1; rw [e] at this; simp at this
  have hxa : x.wa = aW c p := by unfold LS.wa; rw [H.xc, H.xp]
  have hhp : hd (pk h h) = h := hd_pk H.hh
  have htp : tl (pk h h) = h := tl_pk H.hh
  rcases H.st with ⟨rfl, s⟩ | ⟨s0, s1, s, sk, sn, sw⟩ | ⟨rfl, s, sn, sw⟩
  · left
    obtain ⟨a1, a2, a3⟩ := load_same H.mem (aW c p)
    have hn : x.nn (pk h h) = l.length := by
      unfold LS.nn LS.q
      rw [ln_pk H.hh, H.xc, H.xl, if_pos (by omega)]
      have := H.few.2
      omega
    rw [lay1 s hl, hxa, ans_W H.mem, H.wd, hn, if_neg (by have := H.few.1; omega)]
    exact ⟨Nat.zero_le _, by simp, a3, H.xc, H.xp, H.xl, by rw [a1]; exact H.wd, H.hh, H.few, H.pos, fun j hj => absurd hj (by omega), .inr (.inl ⟨Nat.succ_pos _, H.few.1, rfl, rfl, rfl, rfl⟩)⟩
  · left
    rw [lay2 s hl, H.xc, H.xp, H.xl, sw, htp, sk, sn]
    have hlt : i - 1 < l.length := by omega
    obtain ⟨z, hz⟩ : ∃ z, l.getD (i - 1) 0 = z := ⟨_, rfl⟩
    have hzp : 0 ≤ z ∧ z < 9223372036854775808 := by
      rw [← hz, List.getD, List.getElem?_eq_getElem hlt]; exact H.pos _ (List.getElem_mem hlt)
    have hg : IntKind.u64.wrap z = z := by
      have e : IntKind.u64.wrap z = z % 18446744073709551616 := by simp [IntKind.wrap, IntKind.bits, IntKind.signed]
      rw [e]; omega
    rw [hz, hg]
    obtain ⟨P, hP⟩ : ∃ P, (h + (i - 1)) % 4294967296 = P := ⟨_, rfl⟩
    rw [hP]
    have hS := H.mem.hasS P
    have hb := aS_lt H.mem.th
    rw [store_yes hS]
    have b1 : wdN c p (m.acc 2 (aS c p P) z { m.k with s := m.k.s + 1 }) = wdN c p m := by
      unfold wdN; rw [at_other hS.1 (by have := hb 0; omega) (by have := hb P; omega)]
    have b3 : Mk c p (m.acc 2 (aS c p P) z { m.k with s := m.k.s + 1 }) := ⟨H.mem.th, by rw [(acc_len ..).1]; exact H.mem.len, H.mem.u.acc _ _ _ _ (by omega)⟩
    have b4 : ∀ j, j < i → cellF c p (m.acc 2 (aS c p P) z { m.k with s := m.k.s + 1 }) ((h + j) % 4294967296) = l.getD j 0 := by
      intro j hj
      unfold cellF
      by_cases e : j = i - 1
      · subst e
        rw [hP, at_same hS, hz]
        exact IntWalk.i64_in _ (by omega)
      · have := H.cells j (by omega)
        unfold cellF at this
        rw [at_other hS.1 (by have := hb ((h + j) % 4294967296); omega) (slot_ne H.mem.th.1 ?_)]
        · exact this
        · rw [← hP]
          have hf := H.few.2
          exact fun e2 => place_ne (q_dvd H.mem.th.1) (h := h) (i := j) (j := i - 1) (by omega) (by omega) e2.symm
    by_cases hlast : i - 1 + 1 = l.length
    · rw [if_pos hlast]
      exact ⟨by omega, by simp, b3, rfl, rfl, rfl, by rw [b1]; exact H.wd, H.hh, H.few, H.pos, fun j hj => b4 j (by omega), .inr (.inr ⟨by omega, rfl, rfl, rfl⟩)⟩
    · rw [if_neg hlast]
      exact ⟨by omega, by simp, b3, rfl, rfl, rfl, by rw [b1]; exact H.wd, H.hh, H.few, H.pos, fun j hj => b4 j (by omega), .inr (.inl ⟨by omega, by omega, rfl, by show i - 1 + 1 = i + 1 - 1; omega, rfl, rfl⟩)⟩
  · right
    rw [lay3 s hl, hxa, sw, sn]
    obtain ⟨a1, a2, a3, a4⟩ := cas_hit_new' H.mem H.wd (grow_lt (n := l.length) (pk_lt H.hh H.hh))
    rw [if_pos a4]
    refine ⟨rfl, rfl, ?_, ?_, a3⟩
    · show x.l.drop l.length = []
      rw [H.xl, List.drop_length]
    · have hf := H.few.2
      have e2 : ln (growW (pk h h) l.length) = l.length := by
        unfold ln
        rw [tl_grow, hd_grow, hhp, htp]
        have := H.hh
        omega
      rw [rng_of (by rw [a1, e2]; exact hf), a1, show cellF c p (m.cas (aW c p) (pk h h : Nat) (growW (pk h h) l.length)) = cellF c p m from funext a2, rngW_grow_n _ H.hh (by omega)]
      apply List.ext_getElem
      · simp
      · intro j h1 h2
        have := H.cells j (by omega)
        simp only [List.getElem_map, List.getElem_range]
        rw [this]
        simp [List.getD, h2]
end Go.Pu

/- Plain: the chapter's examples (layer 9). It imports nothing of the dump. -/
namespace Go.Pu
open Go.Ce Go.Cg Go.Wd

def cWk : Cfg := ⟨1, 2, 9, 2, 2, 0⟩
def mWk : PM := (((PM.new 12).store 10 5).store 11 6).store 4 2
theorem rightW : Right cWk := by
  refine ⟨?_, ?_, ?_, ?_, ?_, ?_⟩ <;> unfold cWk <;> simp
theorem thW : Right cWk ∧ 0 ≤ (0 : Int) ∧ (0 : Int) < cWk.n := ⟨rightW, by decide, by decide⟩
theorem ccW : ccN cWk = 12 := by rw [ccN_yes rightW]; rfl
def wk1 : PS × PM := stepP (newP cWk 0 7) mWk
def wk2 : PS × PM := stepP wk1.1 wk1.2
def wk3 : PS × PM := stepP wk2.1 wk2.2
def vk0 : PM := thiefM cWk 0 wk1.2 1
def vk1 : PS × PM := stepP wk1.1 vk0
def vk2 : PS × PM := stepP vk1.1 vk1.2
def vk3 : PS × PM := stepP vk2.1 vk2.2
def vk4 : PS × PM := stepP vk3.1 vk3.2
def vk5 : PS × PM := stepP vk4.1 vk4.2
theorem wk_run : decide (wk1.1.a = 0) = false ∧ decide (wk2.1.a = 0) = false ∧ decide (wk3.1.a = 0) = true ∧ wk3.1.over = [6, 7] ∧ rng cWk 0 wk3.2 = [5] := by decide +kernel
theorem vk_run : decide (vk1.1.a = 0) = false ∧ decide (vk2.1.a = 0) = false ∧ decide (vk3.1.a = 0) = false ∧ decide (vk4.1.a = 0) = false ∧ decide (vk5.1.a = 0) = true ∧ vk5.1.over = [] ∧ rng cWk 0 vk5.2 = [6, 7] := by decide +kernel
theorem newN_u64 (n : Nat) : U64 (PM.new n) := by
  intro z hz
  have h : z ∈ List.replicate n (0 : Int) := hz
  rw [List.mem_replicate] at h
  omega
theorem mWk_mk : Mk cWk 0 mWk := by
  refine ⟨thW, by rw [ccW]; decide +kernel, ?_⟩
  exact (((newN_u64 12).store _ _ (by decide)).store _ _ (by decide)).store _ _ (by decide)
theorem mk_step {c : Cfg} {p : Int} {x : PS} {m : PM} (h : Mk c p m) (hx : x.Ok) : Mk c p (stepP x m).2 := by
  obtain ⟨_, h2, h3, _⟩ := step_ok hx h.u
  exact ⟨h.th, by rw [h3]; exact h.len, h2⟩
theorem wk_mk : Mk cWk 0 wk3.2 ∧ Mk cWk 0 wk1.2 := by
  have o0 := newP_ok cWk 0 7
  have m1 := mk_step mWk_mk o0
  have o1 := (step_ok o0 mWk_mk.u).1
  have m2 := mk_step m1 o1
  have o2 := (step_ok o1 m1.u).1
  exact ⟨mk_step m2 o2, m1⟩
theorem vk_mk : Mk cWk 0 vk5.2 ∧ Mk cWk 0 vk0 := by
  have o0 := newP_ok cWk 0 7
  have o1 := (step_ok o0 mWk_mk.u).1
  have m0 : Mk cWk 0 vk0 := by
    obtain ⟨n, _, _, _, _, h, _⟩ := thief_ring (c := cWk) (p := 0) wk_mk.2 (by decide +kernel) 1
    exact h
  have m1 := mk_step m0 o1
  have o2 := (step_ok o1 m0.u).1
  have m2 := mk_step m1 o2
  have o3 := (step_ok o2 m1.u).1
  have m3 := mk_step m2 o3
  have o4 := (step_ok o3 m2.u).1
  have m4 := mk_step m3 o4
  have o5 := (step_ok o4 m3.u).1
  exact ⟨mk_step m4 o5, m0⟩
theorem wk_ops : mWk.k.ops = 3 ∧ wk1.2.k.ops ≤ 100 ∧ wk2.2.k.ops ≤ 100 ∧ vk0.k.ops ≤ 100 ∧ vk1.2.k.ops ≤ 100 ∧ vk2.2.k.ops ≤ 100 ∧ vk3.2.k.ops ≤ 100 ∧ vk4.2.k.ops ≤ 100 := by decide +kernel
end Go.Pu
