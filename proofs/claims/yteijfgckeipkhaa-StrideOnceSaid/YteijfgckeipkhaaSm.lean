/- Strides and orders, plain: greatest divisors, the strides of n, the order of a draw. -/
import Derived.Test.YteijfgckeipkhaaCm
namespace Go.Sd

/-- the greatest number that divides all -/
def gcdL (zs : List Int) : Nat := zs.foldl (fun g z => Nat.gcd g z.natAbs) 0
theorem gcd_fold_one (l : List Int) : l.foldl (fun g z => Nat.gcd g z.natAbs) 1 = 1 := by
  induction l with
  | nil => rfl
  | cons a r ih => simpa using ih
theorem gcdL_nil : gcdL [] = 0 := rfl
theorem gcdL_cons2 (a b : Int) : gcdL [a, b] = Nat.gcd a.natAbs b.natAbs := by simp [gcdL]
theorem gcdL_snoc (l : List Int) (z : Int) : gcdL (l ++ [z]) = Nat.gcd (gcdL l) z.natAbs := by simp [gcdL]
theorem gcdL_take (zs : List Int) (k : Nat) (h : k < zs.length) : gcdL (zs.take (k + 1)) = Nat.gcd (gcdL (zs.take k)) (zs.getD k 0).natAbs := by
  rw [Go.Proofs.Yteijfgckeipkhaa.take_more zs k h, gcdL_snoc]
theorem gcdL_one {zs : List Int} {k : Nat} (h : gcdL (zs.take k) = 1) : gcdL zs = 1 := by
  unfold gcdL at *
  rw [← List.take_append_drop k zs, List.foldl_append, h]
  exact gcd_fold_one _
theorem gcdL_dvd (zs : List Int) (d : Nat) : d ∣ gcdL zs ↔ ∀ z ∈ zs, d ∣ z.natAbs := by
  have key : ∀ (l : List Int) (g : Nat), d ∣ l.foldl (fun g z => Nat.gcd g z.natAbs) g ↔ d ∣ g ∧ ∀ z ∈ l, d ∣ z.natAbs := by
    intro l
    induction l with
    | nil => intro g; simp
    | cons a r ih =>
      intro g
      rw [List.foldl_cons, ih, Nat.dvd_gcd_iff]
      simp [and_assoc]
  have := key zs 0
  unfold gcdL
  rw [this]; simp
theorem gcdL_zero (zs : List Int) : gcdL zs = 0 ↔ ∀ z ∈ zs, z = 0 := by
  have h := gcdL_dvd zs 0
  rw [Nat.zero_dvd] at h
  rw [h]
  constructor
  · intro h z hz; have := h z hz; rw [Nat.zero_dvd] at this; omega
  · intro h z hz; rw [h z hz]; exact Nat.dvd_refl _
theorem gcdL_le {zs : List Int} {z : Int} (h : z ∈ zs) (h0 : z ≠ 0) : gcdL zs ≤ z.natAbs :=
  Nat.le_of_dvd (by omega) ((gcdL_dvd zs _).1 (Nat.dvd_refl _) z h)
theorem gcdL_bd {zs : List Int} {B : Nat} (h : ∀ z ∈ zs, z.natAbs ≤ B) : gcdL zs ≤ B := by
  by_cases h0 : gcdL zs = 0
  · omega
  · obtain ⟨z, hz, hne⟩ : ∃ z ∈ zs, z ≠ 0 := by
      apply Classical.byContradiction
      intro hc
      refine h0 ((gcdL_zero zs).2 fun z hz => ?_)
      apply Classical.byContradiction
      intro hne; exact hc ⟨z, hz, hne⟩
    exact Nat.le_trans (gcdL_le hz hne) (h z hz)

/-- the greatest divisor below j that divides all, as the reference looks for it; 0, if all are noughts -/
structure Best (zs : List Int) (j b : Nat) : Prop where
  no : gcdL zs = 0 → b = 0
  yes : gcdL zs ≠ 0 → (j ≤ 1 ∧ b = 0) ∨ (1 ≤ b ∧ b < j ∧ b ∣ gcdL zs)
  top : ∀ d, 1 ≤ d → d < j → d ∣ gcdL zs → gcdL zs ≠ 0 → d ≤ b
theorem Best.start (zs : List Int) : Best zs 1 0 := ⟨fun _ => rfl, fun _ => .inl ⟨Nat.le_refl _, rfl⟩, fun d h1 h2 => by omega⟩
theorem Best.take {zs : List Int} {j b : Nat} (h : Best zs j b) (hj : 1 ≤ j) (hd : j ∣ gcdL zs) (h0 : gcdL zs ≠ 0) : Best zs (j + 1) j :=
  ⟨fun e => absurd e h0, fun _ => .inr ⟨hj, by omega, hd⟩, fun d _ h2 _ _ => by omega⟩
theorem Best.skip {zs : List Int} {j b : Nat} (h : Best zs j b) (hj : 1 ≤ j) (hd : ¬ (j ∣ gcdL zs ∧ gcdL zs ≠ 0)) : Best zs (j + 1) b := by
  refine ⟨h.no, fun h0 => ?_, fun d h1 h2 h3 h4 => ?_⟩
  · rcases h.yes h0 with ⟨a, c⟩ | ⟨a, c, e⟩
    · exfalso
      have : j = 1 := by omega
      subst this
      exact hd ⟨Nat.one_dvd _, h0⟩
    · exact .inr ⟨a, by omega, e⟩
  · by_cases e : d = j
    · subst e; exact absurd ⟨h3, h4⟩ hd
    · exact h.top d h1 (by omega) h3 h4
theorem Best.done {zs : List Int} {j b : Nat} (h : Best zs j b) (hb : gcdL zs < j) : b = gcdL zs := by
  by_cases h0 : gcdL zs = 0
  · rw [h.no h0, h0]
  · have h1 := h.top (gcdL zs) (by omega) hb (Nat.dvd_refl _) h0
    rcases h.yes h0 with ⟨a, c⟩ | ⟨a, c, e⟩
    · omega
    · have := Nat.le_of_dvd (by omega) e
      omega

/-- the same for two numbers from 1 on -/
structure Two (a b j r : Nat) : Prop where
  pos : 1 ≤ r
  dvd : r ∣ Nat.gcd a b
  top : ∀ d, 1 ≤ d → d < j → d ∣ Nat.gcd a b → d ≤ r
theorem Two.start (a b : Nat) : Two a b 2 1 := ⟨Nat.le_refl _, Nat.one_dvd _, fun d _ h2 _ => by omega⟩
theorem Two.take {a b j r : Nat} (h : Two a b j r) (hj : 1 ≤ j) (h1 : j ∣ a) (h2 : j ∣ b) : Two a b (j + 1) j :=
  ⟨hj, Nat.dvd_gcd h1 h2, fun d _ h2 _ => by omega⟩
theorem Two.skip {a b j r : Nat} (h : Two a b j r) (hd : ¬ (j ∣ a ∧ j ∣ b)) : Two a b (j + 1) r := by
  refine ⟨h.pos, h.dvd, fun d h1 h2 h3 => ?_⟩
  by_cases e : d = j
  · subst e; exact absurd ⟨Nat.dvd_trans h3 (Nat.gcd_dvd_left _ _), Nat.dvd_trans h3 (Nat.gcd_dvd_right _ _)⟩ hd
  · exact h.top d h1 (by omega) h3
theorem Two.done {a b j r : Nat} (h : Two a b j r) (h0 : 1 ≤ Nat.gcd a b) (hb : Nat.gcd a b < j) : r = Nat.gcd a b := by
  have h1 := h.top _ h0 hb (Nat.dvd_refl _)
  have := Nat.le_of_dvd h0 h.dvd
  omega
theorem Two.bd {a b j r : Nat} (h : Two a b j r) (h0 : 1 ≤ a) : r ≤ a :=
  Nat.le_of_dvd h0 (Nat.dvd_trans h.dvd (Nat.gcd_dvd_left _ _))

/-- is k + 1 a stride of n? -/
def isS (n k : Nat) : Bool := Nat.gcd (k + 1) n == 1
/-- the strides of n up to k -/
def str (n k : Nat) : List Int := ((List.range k).filter (isS n)).map fun i => ((i + 1 : Nat) : Int)
theorem str_zero (n : Nat) : str n 0 = [] := rfl
theorem str_yes {n k : Nat} (h : Nat.gcd (k + 1) n = 1) : str n (k + 1) = str n k ++ [((k : Int) + 1)] := by
  have hb : isS n k = true := by unfold isS; simp [h]
  unfold str; rw [List.range_succ, List.filter_append, List.map_append]
  simp [hb]
theorem str_no {n k : Nat} (h : Nat.gcd (k + 1) n ≠ 1) : str n (k + 1) = str n k := by
  have hb : isS n k = false := by unfold isS; simp [h]
  unfold str; rw [List.range_succ, List.filter_append]
  simp [hb]
theorem str_length (n k : Nat) : (str n k).length ≤ k := by
  unfold str; rw [List.length_map]
  exact Nat.le_trans (List.length_filter_le _ _) (by simp)
theorem str_pos {n k : Nat} (h : 1 ≤ k) : 1 ≤ (str n k).length := by
  have : (0 : Nat) ∈ (List.range k).filter (isS n) := by
    rw [List.mem_filter]
    exact ⟨by simp; omega, by simp [isS]⟩
  unfold str; rw [List.length_map]
  exact List.length_pos_of_mem this
theorem str_mem {n k : Nat} {z : Int} : z ∈ str n k ↔ ∃ s : Nat, z = s ∧ 1 ≤ s ∧ s ≤ k ∧ Nat.gcd s n = 1 := by
  unfold str
  simp only [List.mem_map, List.mem_filter, List.mem_range, isS, beq_iff_eq]
  constructor
  · rintro ⟨i, ⟨h1, h2⟩, rfl⟩; exact ⟨i + 1, rfl, by omega, by omega, h2⟩
  · rintro ⟨s, rfl, h1, h2, h3⟩
    exact ⟨s - 1, ⟨by omega, by rw [show s - 1 + 1 = s by omega]; exact h3⟩, by rw [show s - 1 + 1 = s by omega]⟩
theorem str_nodup (n k : Nat) : (str n k).Nodup := by
  unfold str
  have h := (List.nodup_range (n := k)).filter (isS n)
  unfold List.Nodup at *
  rw [List.pairwise_map]
  exact h.imp fun {a b} hab => by omega

/-- the strides of a number of places -/
def strides (n : Int) : List Int := if 64 < n then [] else str n.toNat n.toNat
/-- how many orders -/
def orders (n : Int) : Int := n * (strides n).length
theorem strides_out {n : Int} (h : n < 1 ∨ 64 < n) : strides n = [] := by
  unfold strides
  by_cases h1 : 64 < n
  · rw [if_pos h1]
  · rw [if_neg h1]
    have : n.toNat = 0 := by omega
    rw [this]; rfl
theorem strides_in {n : Nat} (h : n ≤ 64) : strides n = str n n := by unfold strides; rw [if_neg (by omega)]; rfl
theorem strides_len (n : Int) : (strides n).length ≤ 64 := by
  unfold strides
  split
  · simp
  · exact Nat.le_trans (str_length _ _) (by omega)

/-- the order of a draw that has been brought into range: from its start, by its stride -/
def ordS (n st by' : Nat) : List Int := (List.range n).map fun i => (((st + i * by') % n : Nat) : Int)
theorem ordS_length (n st by' : Nat) : (ordS n st by').length = n := by simp [ordS]
theorem ordS_at (n st by' i : Nat) (h : i < n) : (ordS n st by').getD i 0 = (((st + i * by') % n : Nat) : Int) := by
  simp [ordS, List.getD, h]
/-- the draw, brought into range -/
def drw (n : Int) (d : Int) : Nat := (d % orders n).toNat
/-- the order of any draw -/
def order (n d : Int) : List Int := if 1 ≤ n ∧ n ≤ 64 then ordS n.toNat (drw n d % n.toNat) ((strides n).getD (drw n d / n.toNat) 0).toNat else []
theorem order_out {n d : Int} (h : n < 1 ∨ 64 < n) : order n d = [] := by unfold order; rw [if_neg (by omega)]
theorem order_in {n : Nat} {d : Int} (h1 : 1 ≤ n) (h2 : n ≤ 64) : order n d = ordS n (drw n d % n) ((strides n).getD (drw n d / n) 0).toNat := by
  unfold order; rw [if_pos (by omega)]; rfl
theorem order_len {n d : Int} : (order n d).length = if 1 ≤ n ∧ n ≤ 64 then n.toNat else 0 := by
  unfold order
  split
  · exact ordS_length _ _ _
  · rfl
theorem order_le {n d : Int} : (order n d).length ≤ 64 := by
  rw [order_len]; split
  · omega
  · omega

/-- does it stand there? -/
def isIn (wo : List Int) (x : Int) : Bool := wo.contains x
/-- the order without some places -/
def others (n d : Int) (wo : List Int) : List Int := (order n d).filter fun x => !isIn wo x

theorem orders_nat {n : Nat} (h : n ≤ 64) : orders n = ((n * (str n n).length : Nat) : Int) := by
  unfold orders; rw [strides_in h]; simp
theorem mul_bd {n l : Nat} (h1 : 1 ≤ n) (h2 : n ≤ 64) (h3 : 1 ≤ l) (h4 : l ≤ n) : n ≤ n * l ∧ n * l ≤ 4096 := by
  constructor
  · exact Nat.le_mul_of_pos_right n h3
  · exact Nat.le_trans (Nat.mul_le_mul h2 (Nat.le_trans h4 h2)) (by decide)
theorem drw_lt {n : Nat} {d : Int} (h1 : 1 ≤ n) (h2 : n ≤ 64) : drw n d < n * (str n n).length := by
  unfold drw; rw [orders_nat h2]
  have := mul_bd h1 h2 (str_pos (n := n) h1) (str_length n n)
  generalize n * (str n n).length = c at *
  have := Int.emod_lt_of_pos d (show (0 : Int) < (c : Int) by omega)
  have := Int.emod_nonneg d (show (c : Int) ≠ 0 by omega)
  omega
theorem drw_div {n : Nat} {d : Int} (h1 : 1 ≤ n) (h2 : n ≤ 64) : drw n d / n < (str n n).length := by
  rw [Nat.div_lt_iff_lt_mul (by omega), Nat.mul_comm]
  exact drw_lt h1 h2
end Go.Sd
