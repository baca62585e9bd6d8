/- The plain mathematics of the stage's theorem: a word that comes back kept its older part. It imports nothing of the dump. -/
import Derived.Test.YtjdbmedealhbjaaMa
namespace Go.Wd

theorem ln_gain {x n : Nat} (hx : x < 18446744073709551616) (hn : n ≤ ln x) : ln (gainW x n) = ln x - n := by
  have h1 := hd_lt hx
  have h2 := tl_lt x
  have e : ln (gainW x n) = (tl (gainW x n) + 4294967296 - hd (gainW x n)) % 4294967296 := rfl
  have e2 : ln x = (tl x + 4294967296 - hd x) % 4294967296 := rfl
  rw [hd_gain, tl_gain] at e
  generalize hd x = a at *
  generalize tl x = b at *
  omega
theorem ln_grow {x : Nat} (hx : x < 18446744073709551616) (hn : ln x < 4294967295) : ln (growW x 1) = ln x + 1 := by
  have h1 := hd_lt hx
  have h2 := tl_lt x
  have e : ln (growW x 1) = (tl (growW x 1) + 4294967296 - hd (growW x 1)) % 4294967296 := rfl
  have e2 : ln x = (tl x + 4294967296 - hd x) % 4294967296 := rfl
  rw [hd_grow, tl_grow] at e
  generalize hd x = a at *
  generalize tl x = b at *
  omega
theorem ln_drop {x n : Nat} (hx : x < 18446744073709551616) (hn : n ≤ ln x) : ln (dropW x n) = ln x - n := by
  have h1 := hd_lt hx
  have h2 := tl_lt x
  have e : ln (dropW x n) = (tl (dropW x n) + 4294967296 - hd (dropW x n)) % 4294967296 := rfl
  have e2 : ln x = (tl x + 4294967296 - hd x) % 4294967296 := rfl
  rw [hd_drop, tl_drop] at e
  generalize hd x = a at *
  generalize tl x = b at *
  omega

/-- what holds behind i things done: G places were gained in all; as long as none was, no more than the younger half of a full ring went -/
structure Inv (q n0 h0 i x least : Nat) (gained : Bool) : Prop where
  lt : x < 18446744073709551616
  len : ln x ≤ q
  g : ∃ G, G ≤ 64 * i ∧ hd x = (h0 + G) % 4294967296 ∧ gained = decide (0 < G) ∧ (G = 0 → min n0 (q / 2) ≤ least ∧ min n0 (q / 2) ≤ ln x)

theorem Inv.start {q x : Nat} (hx : x < 18446744073709551616) (hl : ln x ≤ q) : Inv q (ln x) (hd x) 0 x (ln x) false :=
  ⟨hx, hl, 0, by omega, by have := hd_lt hx; omega, rfl, fun _ => ⟨Nat.min_le_left _ _, Nat.min_le_left _ _⟩⟩

theorem Inv.gain {q n0 h0 i x least : Nat} {gained : Bool} (h : Inv q n0 h0 i x least gained) (hq : q ≤ 64) (n : Nat) (hn : n ≤ ln x) :
    Inv q n0 h0 (i + 1) (gainW x n) (min least (ln (gainW x n))) (gained || !(hd (gainW x n) == hd x)) := by
  have hlen := h.len
  obtain ⟨G, h1, h2, h3, h4⟩ := h.g
  have hl := ln_gain h.lt hn
  have hb := hd_lt h.lt
  refine ⟨gain_lt, by omega, G + n, by omega, by rw [hd_gain, h2]; omega, ?_, fun h0 => ?_⟩
  · rw [hd_gain, h3]
    by_cases c : n = 0
    · subst c
      rw [Nat.add_zero, Nat.mod_eq_of_lt hb, Nat.add_zero]; simp
    · have e : ((hd x + n) % 4294967296 == hd x) = false := by
        cases hc : ((hd x + n) % 4294967296 == hd x) with
        | false => rfl
        | true => have := eq_of_beq hc; omega
      rw [e, decide_eq_true (show 0 < G + n by omega)]; simp
  · have hn0 : n = 0 := by omega
    obtain ⟨a, b⟩ := h4 (by omega)
    rw [hl, hn0]; omega
theorem Inv.keep {q n0 h0 i x y least : Nat} {gained : Bool} (h : Inv q n0 h0 i x least gained) (hy : y < 18446744073709551616) (hd1 : hd y = hd x) (hl1 : ln y ≤ q) (hl2 : min n0 (q / 2) ≤ ln x → min n0 (q / 2) ≤ ln y) :
    Inv q n0 h0 (i + 1) y (min least (ln y)) (gained || !(hd y == hd x)) := by
  obtain ⟨G, h1, h2, h3, h4⟩ := h.g
  refine ⟨hy, hl1, G, by omega, by rw [hd1, h2], ?_, fun h0 => ?_⟩
  · rw [hd1]; simp [h3]
  · obtain ⟨a, b⟩ := h4 h0
    have := hl2 b
    omega
theorem Inv.step {q n0 h0 i x least : Nat} {gained : Bool} (h : Inv q n0 h0 i x least gained) (hq : q ≤ 64) (he : q % 2 = 0) (d : Int) :
    Inv q n0 h0 (i + 1) (stp q x d) (min least (ln (stp q x d))) (gained || !(hd (stp q x d) == hd x)) := by
  have hlen := h.len
  by_cases e : 1 ≤ d ∧ d ≤ 4
  · have : d = 1 ∨ d = 2 ∨ d = 3 ∨ d = 4 := by omega
    rcases this with rfl | rfl | rfl | rfl
    · by_cases c : 0 < ln x
      · rw [stp_get1 c]; exact h.gain hq 1 (by omega)
      · rw [stp_get0 h.lt c]; exact h.keep h.lt rfl hlen id
    · rw [stp_two]; exact h.gain hq _ (by unfold older; omega)
    · by_cases c : ln x < q
      · rw [stp_put1 c]
        have := ln_grow h.lt (by omega)
        exact h.keep (grow_lt h.lt) hd_grow (by omega) (by omega)
      · rw [stp_put0 c]; exact h.keep h.lt rfl hlen id
    · by_cases c : ln x < q
      · rw [stp_cut0 c]; exact h.keep h.lt rfl hlen id
      · rw [stp_cut1 c]
        have := ln_drop (n := q / 2) h.lt (by omega)
        exact h.keep (drop_lt h.lt) hd_drop (by omega) (by omega)
  · rw [stp_other e]; exact h.keep h.lt rfl hlen id
theorem Inv.back {q i x0 least : Nat} {gained : Bool} (h : Inv q (ln x0) (hd x0) i x0 least gained) (hi : i ≤ 200) (hx : x0 < 18446744073709551616) (he : q % 2 = 0) : gained = false ∧ older (ln x0) ≤ least := by
  have hlen := h.len
  obtain ⟨G, h1, h2, h3, h4⟩ := h.g
  have hb := hd_lt hx
  have hG : G = 0 := by omega
  subst hG
  refine ⟨h3, ?_⟩
  obtain ⟨a, _⟩ := h4 rfl
  unfold older
  omega
end Go.Wd
