/- Plain: a config's names and its text, and how they are found and read (layer 5). -/
import Derived.Test.YtkchbnojcfkkhaaDoorATx
namespace Go.Cg
open Go.Lib Go.Tx

/-- a number's digits -/
def dc (n : Nat) : List UInt8 := decDigits n
theorem dc_one {n : Nat} (h : n < 10) : dc n = [dgt n] := by
  unfold dc dgt; rw [decDigits_one h, Nat.mod_eq_of_lt h]
theorem dc_more {n : Nat} (h : ¬ n < 10) : dc n = dc (n / 10) ++ [dgt n] := by
  show decDigits n = decDigits (n / 10) ++ _
  rw [decDigits, dif_neg h]; rfl
theorem dc_digit (n : Nat) : ∀ b ∈ dc n, 48 ≤ b.toNat ∧ b.toNat ≤ 57 := by
  have one (n : Nat) : 48 ≤ (dgt n).toNat ∧ (dgt n).toNat ≤ 57 := by
    rw [dgt_toNat]; have : n % 10 < 10 := Nat.mod_lt _ (by decide); omega
  induction n using Nat.strongRecOn with
  | _ n ih =>
    by_cases h : n < 10
    · rw [dc_one h]; intro b hb; obtain rfl : b = dgt n := by simpa using hb
      exact one n
    · rw [dc_more h]; intro b hb
      rcases List.mem_append.1 hb with hb | hb
      · exact ih _ (by omega) b hb
      · obtain rfl : b = dgt n := by simpa using hb
        exact one n
theorem dc_ne (n : Nat) : dc n ≠ [] := by
  by_cases h : n < 10
  · rw [dc_one h]; simp
  · rw [dc_more h]; simp
theorem dc_inj (a b : Nat) (h : dc a = dc b) : a = b := by
  induction a using Nat.strongRecOn generalizing b with
  | _ a ih =>
    have last {x y : Nat} (e : dgt x = dgt y) : x % 10 = y % 10 := by
      have := congrArg UInt8.toNat e; rw [dgt_toNat, dgt_toNat] at this; omega
    by_cases ha : a < 10 <;> by_cases hb : b < 10
    · rw [dc_one ha, dc_one hb] at h
      have := last (List.cons.inj h).1; omega
    · rw [dc_one ha, dc_more hb] at h
      have h2 := congrArg List.length h
      have h3 := List.length_pos_iff.2 (dc_ne (b / 10))
      simp only [List.length_append, List.length_cons, List.length_nil] at h2; omega
    · rw [dc_more ha, dc_one hb] at h
      have h2 := congrArg List.length h
      have h3 := List.length_pos_iff.2 (dc_ne (a / 10))
      simp only [List.length_append, List.length_cons, List.length_nil] at h2; omega
    · rw [dc_more ha, dc_more hb] at h
      have h2 := List.append_inj' h rfl
      have := ih (a / 10) (by omega) (b / 10) h2.1
      have := last (List.cons.inj h2.2).1
      omega
/-- no blank stands in it -/
def NB (l : List UInt8) : Prop := ∀ b ∈ l, b ≠ 32
theorem dc_nb (n : Nat) : NB (dc n) := fun b hb e => by have := dc_digit n b hb; rw [e] at this; exact absurd this.1 (by decide)
theorem split_nb {x y u v : List UInt8} (hx : NB x) (hu : NB u) (h : x ++ 32 :: y = u ++ 32 :: v) : x = u ∧ y = v := by
  induction x generalizing u with
  | nil =>
    cases u with
    | nil => simpa using h
    | cons b u => exact absurd (List.cons.inj h).1.symm (hu b (List.mem_cons_self))
  | cons a x ih =>
    cases u with
    | nil => exact absurd (List.cons.inj h).1 (hx a (List.mem_cons_self))
    | cons b u =>
      obtain ⟨e1, e2⟩ := List.cons.inj h
      obtain ⟨e3, e4⟩ := ih (fun c hc => hx c (List.mem_cons_of_mem _ hc)) (fun c hc => hu c (List.mem_cons_of_mem _ hc)) e2
      exact ⟨by rw [e1, e3], e4⟩
theorem nb_ne {x u v : List UInt8} (hx : NB x) (h : x = u ++ 32 :: v) : False := hx 32 (by rw [h]; simp) rfl

/-- words -/
def W4 : List (List UInt8) := [[116, 105, 99, 107, 101, 116], [115, 101, 114, 118, 105, 110, 103], [105, 100, 108, 101], [115, 105, 122, 101]]
def W6 : List (List UInt8) := [[119, 111, 114, 100], [110, 101, 120, 116], [115, 116, 97, 116], [116, 105, 99, 107], [115, 121, 115], [102, 108, 97, 103]]
def WS : List UInt8 := [115, 108, 111, 116]
theorem w4_nb (r : Nat) : NB (W4.getD r []) := by
  rcases r with _ | _ | _ | _ | r
  · unfold NB W4; decide
  · unfold NB W4; decide
  · unfold NB W4; decide
  · unfold NB W4; decide
  · intro b hb; simp [W4, List.getD] at hb
theorem w6_nb (r : Nat) : NB (W6.getD r []) := by
  rcases r with _ | _ | _ | _ | _ | _ | r
  · unfold NB W6; decide
  · unfold NB W6; decide
  · unfold NB W6; decide
  · unfold NB W6; decide
  · unfold NB W6; decide
  · unfold NB W6; decide
  · intro b hb; simp [W6, List.getD] at hb
theorem ws_nb : NB WS := by unfold NB WS; decide
theorem w4_inj (a b : Nat) (ha : a < 4) (hb : b < 4) (h : W4.getD a [] = W4.getD b []) : a = b := by
  have key : ∀ a < 4, ∀ b < 4, W4.getD a [] = W4.getD b [] → a = b := by unfold W4; decide
  exact key a ha b hb h
theorem w6_inj (a b : Nat) (ha : a < 6) (hb : b < 6) (h : W6.getD a [] = W6.getD b []) : a = b := by
  have key : ∀ a < 6, ∀ b < 6, W6.getD a [] = W6.getD b [] → a = b := by unfold W6; decide
  exact key a ha b hb h
theorem w6_ws (a : Nat) (h : W6.getD a [] = WS) : False := by
  rcases a with _ | _ | _ | _ | _ | _ | a <;> revert h
  · unfold W6 WS; decide
  · unfold W6 WS; decide
  · unfold W6 WS; decide
  · unfold W6 WS; decide
  · unfold W6 WS; decide
  · unfold W6 WS; decide
  · simp [W6, WS, List.getD]

/-- the name of a P's cell, and of its slot -/
def cellN (r p : Nat) : List UInt8 := W6.getD r [] ++ 32 :: dc p
def slotN (p i : Nat) : List UInt8 := WS ++ 32 :: (dc p ++ 32 :: dc i)
/-- the name of an address -/
def nameAt (Q a : Nat) : List UInt8 :=
  if a < 4 then W4.getD a [] else if (a - 4) % (6 + Q) < 6 then cellN ((a - 4) % (6 + Q)) ((a - 4) / (6 + Q)) else slotN ((a - 4) / (6 + Q)) ((a - 4) % (6 + Q) - 6)
theorem nameAt_four {Q a : Nat} (h : a < 4) : nameAt Q a = W4.getD a [] := by unfold nameAt; rw [if_pos h]
theorem place_div {Q p r : Nat} (hr : r < 6 + Q) : (4 + p * (6 + Q) + r - 4) / (6 + Q) = p ∧ (4 + p * (6 + Q) + r - 4) % (6 + Q) = r := by
  have e : 4 + p * (6 + Q) + r - 4 = (6 + Q) * p + r := by rw [Nat.mul_comm (6 + Q) p]; omega
  rw [e]
  exact ⟨by rw [Nat.mul_add_div (by omega), Nat.div_eq_of_lt hr]; rfl, by rw [Nat.mul_add_mod, Nat.mod_eq_of_lt hr]⟩
theorem nameAt_cell {Q p r : Nat} (hr : r < 6) : nameAt Q (4 + p * (6 + Q) + r) = cellN r p := by
  obtain ⟨h1, h2⟩ := place_div (Q := Q) (p := p) (r := r) (by omega)
  unfold nameAt
  rw [if_neg (by omega), h1, h2, if_pos hr]
theorem nameAt_slot {Q p i : Nat} (hi : i < Q) : nameAt Q (4 + p * (6 + Q) + (6 + i)) = slotN p i := by
  obtain ⟨h1, h2⟩ := place_div (Q := Q) (p := p) (r := 6 + i) (by omega)
  unfold nameAt
  rw [if_neg (by omega), h1, h2, if_neg (by omega), show 6 + i - 6 = i by omega]
theorem place_of {Q a : Nat} (h : ¬ a < 4) : a = 4 + (a - 4) / (6 + Q) * (6 + Q) + (a - 4) % (6 + Q) := by
  have := Nat.div_add_mod (a - 4) (6 + Q)
  rw [Nat.mul_comm] at this
  omega
theorem cellN_inj {r p r' p' : Nat} (hr : r < 6) (hr' : r' < 6) (h : cellN r p = cellN r' p') : r = r' ∧ p = p' := by
  obtain ⟨h1, h2⟩ := split_nb (w6_nb r) (w6_nb r') h
  exact ⟨w6_inj r r' hr hr' h1, dc_inj _ _ h2⟩
theorem slotN_inj {p i p' i' : Nat} (h : slotN p i = slotN p' i') : p = p' ∧ i = i' := by
  obtain ⟨-, h2⟩ := split_nb ws_nb ws_nb h
  obtain ⟨h3, h4⟩ := split_nb (dc_nb p) (dc_nb p') h2
  exact ⟨dc_inj _ _ h3, dc_inj _ _ h4⟩
theorem cell_slot {r p p' i : Nat} (h : cellN r p = slotN p' i) : False := by
  obtain ⟨h1, -⟩ := split_nb (w6_nb r) ws_nb h
  exact w6_ws r h1
/-- EACH NAME IS ONE ADDRESS's -/
theorem nameAt_inj (Q a b : Nat) (h : nameAt Q a = nameAt Q b) : a = b := by
  unfold nameAt at h
  by_cases ha : a < 4 <;> by_cases hb : b < 4
  · rw [if_pos ha, if_pos hb] at h; exact w4_inj a b ha hb h
  · rw [if_pos ha, if_neg hb] at h
    split at h
    · exact (nb_ne (w4_nb a) h).elim
    · exact (nb_ne (w4_nb a) h).elim
  · rw [if_neg ha, if_pos hb] at h
    split at h
    · exact (nb_ne (w4_nb b) h.symm).elim
    · exact (nb_ne (w4_nb b) h.symm).elim
  · rw [if_neg ha, if_neg hb] at h
    have ea := place_of (Q := Q) ha
    have eb := place_of (Q := Q) hb
    have la : (a - 4) % (6 + Q) < 6 + Q := Nat.mod_lt _ (by omega)
    have lb : (b - 4) % (6 + Q) < 6 + Q := Nat.mod_lt _ (by omega)
    generalize (a - 4) % (6 + Q) = ra at *
    generalize (b - 4) % (6 + Q) = rb at *
    generalize (a - 4) / (6 + Q) = pa at *
    generalize (b - 4) / (6 + Q) = pb at *
    by_cases h1 : ra < 6 <;> by_cases h2 : rb < 6
    · rw [if_pos h1, if_pos h2] at h
      obtain ⟨e1, e2⟩ := cellN_inj h1 h2 h
      rw [ea, eb, e1, e2]
    · rw [if_pos h1, if_neg h2] at h; exact (cell_slot h).elim
    · rw [if_neg h1, if_pos h2] at h; exact (cell_slot h.symm).elim
    · rw [if_neg h1, if_neg h2] at h
      obtain ⟨e1, e2⟩ := slotN_inj h
      rw [ea, eb, e1, show ra = rb by omega]

/-- all names -/
def nms (Q k : Nat) : List (List UInt8) := (List.range k).map (nameAt Q)
theorem nms_length (Q k : Nat) : (nms Q k).length = k := by simp [nms]
theorem nms_more (Q k : Nat) : nms Q (k + 1) = nms Q k ++ [nameAt Q k] := by simp [nms, List.range_succ]
theorem nms_at {Q k i : Nat} (h : i < k) : (nms Q k)[i]? = some (nameAt Q i) := by simp [nms, h]
/-- how many cells -/
def cells (N Q : Nat) : Nat := 4 + N * (6 + Q)
/-- where a name stands, or -1 -/
def fnd (Q k : Nat) (x : List UInt8) : Int := if x ∈ nms Q k then ((nms Q k).idxOf x : Nat) else -1
theorem fnd_none {Q k : Nat} {x : List UInt8} (h : ∀ i, i < k → nameAt Q i ≠ x) : fnd Q k x = -1 := by
  unfold fnd
  rw [if_neg]
  intro hm
  obtain ⟨i, hi, e⟩ := List.mem_map.1 hm
  exact h i (List.mem_range.1 hi) e
theorem fnd_some {Q k i : Nat} {x : List UInt8} (hi : i < k) (h : nameAt Q i = x) : fnd Q k x = i := by
  have hm : x ∈ nms Q k := List.mem_map.2 ⟨i, List.mem_range.2 hi, h⟩
  unfold fnd
  rw [if_pos hm]
  have hl := List.idxOf_lt_length_of_mem hm
  have e := List.getElem_idxOf hl
  have e2 : (nms Q k)[(nms Q k).idxOf x]? = some x := by rw [List.getElem?_eq_getElem hl, e]
  rw [nms_length] at hl
  rw [nms_at hl] at e2
  have := nameAt_inj Q _ _ ((Option.some.inj e2).trans h.symm)
  omega
theorem fnd_cell {N Q p r : Nat} (hr : r < 6) : fnd Q (cells N Q) (cellN r p) = if p < N then ((4 + p * (6 + Q) + r : Nat) : Int) else -1 := by
  have hn := nameAt_cell (Q := Q) (p := p) hr
  by_cases hp : p < N
  · rw [if_pos hp]
    refine fnd_some ?_ hn
    have := Nat.mul_le_mul_right (6 + Q) (show p + 1 ≤ N from hp)
    rw [Nat.add_mul] at this
    unfold cells; omega
  · rw [if_neg hp]
    refine fnd_none fun i hi e => ?_
    have := nameAt_inj Q _ _ (e.trans hn.symm)
    have := Nat.mul_le_mul_right (6 + Q) (show N ≤ p by omega)
    unfold cells at hi; omega
theorem fnd_slot {N Q p i : Nat} (hi : i < Q) : fnd Q (cells N Q) (slotN p i) = if p < N then ((4 + p * (6 + Q) + (6 + i) : Nat) : Int) else -1 := by
  have hn := nameAt_slot (Q := Q) (p := p) hi
  by_cases hp : p < N
  · rw [if_pos hp]
    refine fnd_some ?_ hn
    have := Nat.mul_le_mul_right (6 + Q) (show p + 1 ≤ N from hp)
    rw [Nat.add_mul] at this
    unfold cells; omega
  · rw [if_neg hp]
    refine fnd_none fun j hj e => ?_
    have := nameAt_inj Q _ _ (e.trans hn.symm)
    have := Nat.mul_le_mul_right (6 + Q) (show N ≤ p by omega)
    unfold cells at hj; omega
/-- the search, so far -/
theorem fnd_step {Q i : Nat} {x : List UInt8} (h : ∀ j, j < i → nameAt Q j ≠ x) (hx : nameAt Q i ≠ x) : ∀ j, j < i + 1 → nameAt Q j ≠ x := fun j hj => by
  by_cases e : j = i
  · subst e; exact hx
  · exact h j (by omega)

/-- a config -/
structure Cfg where
  n : Int
  q : Int
  g : Int
  m : Int
  t : Int
  s : Int
structure Right (c : Cfg) : Prop where
  q : c.q = 2 ∨ c.q = 4 ∨ c.q = 8 ∨ c.q = 16 ∨ c.q = 32 ∨ c.q = 64
  n : 1 ≤ c.n ∧ c.n ≤ 8
  g : 1 ≤ c.g ∧ c.g ≤ 256
  m : c.n < c.m ∧ c.m ≤ 16
  t : 2 ≤ c.t ∧ c.t ≤ 200
  s : 0 ≤ c.s ∧ c.s ≤ 1000
/-- the text of six numbers -/
def txt6 (a b c d e f : Nat) : List UInt8 := 110 :: 32 :: (dc a ++ (32 :: 113 :: 32 :: (dc b ++ (32 :: 103 :: 32 :: (dc c ++ (32 :: 109 :: 32 :: (dc d ++ (32 :: 116 :: 32 :: (dc e ++ (32 :: 115 :: 32 :: dc f))))))))))
open Classical in
noncomputable def txtC (c : Cfg) : List UInt8 := if Right c then txt6 c.n.toNat c.q.toNat c.g.toNat c.m.toNat c.t.toNat c.s.toNat else []

/-- the numbers that a text's digits tell: one byte more -/
def stp (st : List Int × Int) (b : UInt8) : List Int × Int :=
  if 48 ≤ b.toNat ∧ b.toNat ≤ 57 then (st.1, min (max st.2 0 * 10 + ((b.toNat : Int) - 48)) 1000000) else (if 0 ≤ st.2 then st.1 ++ [st.2] else st.1, -1)
def runs (s : List UInt8) : List Int := (stp (s.foldl stp ([], -1)) 32).1
theorem stp_digit (l : List Int) (z : Int) (n : Nat) : stp (l, z) (dgt n) = (l, min (max z 0 * 10 + (n % 10 : Nat)) 1000000) := by
  unfold stp
  have := dgt_toNat n
  have h : n % 10 < 10 := Nat.mod_lt _ (by decide)
  rw [if_pos (by omega), this]
  congr 2
  omega
theorem fold_dc (l : List Int) (n : Nat) (h : n < 1000000) : (dc n).foldl stp (l, -1) = (l, (n : Int)) := by
  induction n using Nat.strongRecOn with
  | _ n ih =>
    by_cases h10 : n < 10
    · rw [dc_one h10, List.foldl_cons, List.foldl_nil, stp_digit]
      congr 1; omega
    · rw [dc_more h10, List.foldl_append, ih (n / 10) (by omega) (by omega), List.foldl_cons, List.foldl_nil, stp_digit]
      congr 1; omega
theorem stp_push (l : List Int) (n : Nat) (b : UInt8) (hb : b.toNat < 48 ∨ 57 < b.toNat) : stp (l, (n : Int)) b = (l ++ [(n : Int)], -1) := by
  unfold stp
  rw [if_neg (by omega), if_pos (by show (0 : Int) ≤ (n : Int); omega)]
theorem stp_skip (l : List Int) (b : UInt8) (hb : b.toNat < 48 ∨ 57 < b.toNat) : stp (l, -1) b = (l, -1) := by
  unfold stp
  rw [if_neg (by omega), if_neg (by show ¬ (0 : Int) ≤ -1; omega)]
/-- a blank, a letter, a blank, digits -/
theorem fold_part (l : List Int) (n a : Nat) (b : UInt8) (r : List UInt8) (hb : b.toNat < 48 ∨ 57 < b.toNat) (ha : a < 1000000) : (32 :: b :: 32 :: (dc a ++ r)).foldl stp (l, (n : Int)) = r.foldl stp (l ++ [(n : Int)], (a : Int)) := by
  rw [List.foldl_cons, stp_push l n 32 (by decide), List.foldl_cons, stp_skip _ b hb, List.foldl_cons, stp_skip _ 32 (by decide), List.foldl_append, fold_dc _ a ha]
theorem runs_txt6 (a b c d e f : Nat) (ha : a < 1000000) (hb : b < 1000000) (hc : c < 1000000) (hd : d < 1000000) (he : e < 1000000) (hf : f < 1000000) : runs (txt6 a b c d e f) = [(a : Int), b, c, d, e, f] := by
  unfold runs txt6
  rw [List.foldl_cons, stp_skip _ 110 (by decide), List.foldl_cons, stp_skip _ 32 (by decide), List.foldl_append, fold_dc _ a ha, fold_part _ _ b 113 _ (by decide) hb, fold_part _ _ c 103 _ (by decide) hc, fold_part _ _ d 109 _ (by decide) hd, fold_part _ _ e 116 _ (by decide) he]
  have hl := fold_part ([] ++ [(a : Int)] ++ [(b : Int)] ++ [(c : Int)] ++ [(d : Int)]) e f 115 [] (by decide) hf
  rw [List.append_nil] at hl
  rw [hl, List.foldl_nil, stp_push _ f 32 (by decide)]
  rfl
theorem Right.small {c : Cfg} (h : Right c) : ∃ a b g m t s : Nat, c = ⟨a, b, g, m, t, s⟩ ∧ a ≤ 8 ∧ b ≤ 64 ∧ g ≤ 256 ∧ m ≤ 16 ∧ t ≤ 200 ∧ s ≤ 1000 := by
  obtain ⟨h1, h2, h3, h4, h5, h6⟩ := h
  obtain ⟨n, q, g, m, t, s⟩ := c
  simp only at h1 h2 h3 h4 h5 h6
  refine ⟨n.toNat, q.toNat, g.toNat, m.toNat, t.toNat, s.toNat, ?_, by omega, by omega, by omega, by omega, by omega, by omega⟩
  congr 1 <;> omega
theorem txtC_some {c : Cfg} (h : Right c) : txtC c = txt6 c.n.toNat c.q.toNat c.g.toNat c.m.toNat c.t.toNat c.s.toNat := by unfold txtC; rw [if_pos h]
theorem txtC_none {c : Cfg} (h : ¬ Right c) : txtC c = [] := by unfold txtC; rw [if_neg h]
/-- a right config's text has its numbers -/
theorem runs_txtC {c : Cfg} (h : Right c) : runs (txtC c) = [c.n, c.q, c.g, c.m, c.t, c.s] := by
  rw [txtC_some h]
  obtain ⟨a, b, g, m, t, s, rfl, h1, h2, h3, h4, h5, h6⟩ := h.small
  show runs (txt6 a b g m t s) = _
  exact runs_txt6 a b g m t s (by omega) (by omega) (by omega) (by omega) (by omega) (by omega)
/-- what was told is read as it was: no two right configs have one text -/
theorem txtC_inj {c d : Cfg} (hc : Right c) (hd : Right d) (h : txtC c = txtC d) : c = d := by
  have e := (runs_txtC hc).symm.trans ((congrArg runs h).trans (runs_txtC hd))
  obtain ⟨n, q, g, m, t, s⟩ := c
  obtain ⟨n', q', g', m', t', s'⟩ := d
  simp at e
  obtain ⟨rfl, rfl, rfl, rfl, rfl, rfl⟩ := e
  rfl
theorem dc_le {n k : Nat} (h : n < 10 ^ k) (hk : 1 ≤ k) : (dc n).length ≤ k := by
  induction k generalizing n with
  | zero => omega
  | succ k ih =>
    by_cases h10 : n < 10
    · rw [dc_one h10]; simp
    · have h1 : n / 10 < 10 ^ k := by rw [Nat.div_lt_iff_lt_mul (by decide), ← Nat.pow_succ]; exact h
      have : 1 ≤ k := by
        rcases k with _ | k
        · rw [Nat.pow_zero] at h1; omega
        · omega
      have := ih h1 this
      rw [dc_more h10, List.length_append]; simp; omega
theorem txtC_len (c : Cfg) : (txtC c).length ≤ 60 := by
  by_cases h : Right c
  · rw [txtC_some h]
    obtain ⟨a, b, g, m, t, s, rfl, h1, h2, h3, h4, h5, h6⟩ := h.small
    show (txt6 a b g m t s).length ≤ 60
    have l1 := dc_le (n := a) (k := 4) (by omega) (by omega)
    have l2 := dc_le (n := b) (k := 4) (by omega) (by omega)
    have l3 := dc_le (n := g) (k := 4) (by omega) (by omega)
    have l4 := dc_le (n := m) (k := 4) (by omega) (by omega)
    have l5 := dc_le (n := t) (k := 4) (by omega) (by omega)
    have l6 := dc_le (n := s) (k := 4) (by omega) (by omega)
    unfold txt6
    simp only [List.length_cons, List.length_append]
    omega
  · rw [txtC_none h]; simp
open Classical in
/-- a config's names -/
noncomputable def nmsC (c : Cfg) : List (List UInt8) := if Right c then nms c.q.toNat (cells c.n.toNat c.q.toNat) else []
theorem nmsC_some {c : Cfg} (h : Right c) : nmsC c = nms c.q.toNat (cells c.n.toNat c.q.toNat) := by unfold nmsC; rw [if_pos h]
theorem nmsC_none {c : Cfg} (h : ¬ Right c) : nmsC c = [] := by unfold nmsC; rw [if_neg h]
/-- the first place of a text in a row, or -1 -/
def fst1 (l : List (List UInt8)) (x : List UInt8) : Int := if x ∈ l then (l.idxOf x : Nat) else -1
theorem fst1_hit {l : List (List UInt8)} {x : List UInt8} {i : Nat} (hi : l[i]? = some x) (h : ∀ j, j < i → l[j]? ≠ some x) : fst1 l x = i := by
  have hl : i < l.length := by
    rcases Nat.lt_or_ge i l.length with h' | h'
    · exact h'
    · rw [List.getElem?_eq_none h'] at hi; cases hi
  have hm : x ∈ l := List.mem_of_getElem? hi
  unfold fst1
  rw [if_pos hm]
  have h1 := List.idxOf_lt_length_of_mem hm
  have h2 : l[l.idxOf x]? = some x := by rw [List.getElem?_eq_getElem h1, List.getElem_idxOf h1]
  have h3 : ¬ l.idxOf x < i := fun h' => h _ h' h2
  have h4 : ¬ i < l.idxOf x := fun h' => by
    have := List.not_of_lt_findIdx (p := (· == x)) (xs := l) h'
    rw [List.getElem?_eq_getElem hl] at hi
    simp [Option.some.inj hi] at this
  omega
theorem fst1_miss {l : List (List UInt8)} {x : List UInt8} (h : ∀ j, j < l.length → l[j]? ≠ some x) : fst1 l x = -1 := by
  unfold fst1
  rw [if_neg]
  intro hm
  obtain ⟨j, hj, e⟩ := List.mem_iff_getElem.1 hm
  exact h j hj (by rw [List.getElem?_eq_getElem hj, e])
/-- the reference's numbers, as far as its loop has come -/
def rs (s : List UInt8) (i : Nat) : List Int × Int := if i ≤ s.length then (s.take i).foldl stp ([], -1) else stp (s.foldl stp ([], -1)) 32
theorem rs_zero (s : List UInt8) : rs s 0 = ([], -1) := by unfold rs; rw [if_pos (Nat.zero_le _)]; rfl
theorem rs_step {s : List UInt8} {i : Nat} (h : i < s.length) : rs s (i + 1) = stp (rs s i) s[i] := by
  unfold rs
  rw [if_pos (show i + 1 ≤ s.length from h), if_pos (Nat.le_of_lt h), List.take_succ_eq_append_getElem h, List.foldl_append]; rfl
theorem rs_last (s : List UInt8) : rs s (s.length + 1) = stp (rs s s.length) 32 := by
  unfold rs
  rw [if_neg (by omega), if_pos (Nat.le_refl _), List.take_length]
theorem rs_runs (s : List UInt8) : (rs s (s.length + 1)).1 = runs s := by rw [rs_last]; unfold rs runs; rw [if_pos (Nat.le_refl _), List.take_length]
theorem stp_bd (st : List Int × Int) (b : UInt8) (h : -1 ≤ st.2 ∧ st.2 ≤ 1000000) : -1 ≤ (stp st b).2 ∧ (stp st b).2 ≤ 1000000 ∧ (stp st b).1.length ≤ st.1.length + 1 := by
  unfold stp
  by_cases hb : 48 ≤ b.toNat ∧ b.toNat ≤ 57
  · rw [if_pos hb]
    refine ⟨?_, ?_, by simp⟩
    · show -1 ≤ min _ _; omega
    · show min _ _ ≤ _; omega
  · rw [if_neg hb]
    refine ⟨by simp, by simp, ?_⟩
    by_cases h0 : 0 ≤ st.2
    · rw [if_pos h0]; simp
    · rw [if_neg h0]; simp
theorem rs_bd (s : List UInt8) (i : Nat) (hi : i ≤ s.length + 1) : -1 ≤ (rs s i).2 ∧ (rs s i).2 ≤ 1000000 ∧ (rs s i).1.length ≤ i := by
  induction i with
  | zero => rw [rs_zero]; simp
  | succ i ih =>
    obtain ⟨h1, h2, h3⟩ := ih (by omega)
    by_cases h : i < s.length
    · rw [rs_step h]
      obtain ⟨g1, g2, g3⟩ := stp_bd (rs s i) s[i] ⟨h1, h2⟩
      exact ⟨g1, g2, by omega⟩
    · obtain rfl : i = s.length := by omega
      rw [rs_last]
      obtain ⟨g1, g2, g3⟩ := stp_bd (rs s s.length) 32 ⟨h1, h2⟩
      exact ⟨g1, g2, by omega⟩
open Classical in
/-- the config whose text it is; or none -/
noncomputable def rdC (s : List UInt8) : Option Cfg := if h : ∃ c, Right c ∧ txtC c = s then some (Classical.choose h) else none
theorem rdC_some {c : Cfg} (h : Right c) : rdC (txtC c) = some c := by
  have hx : ∃ d, Right d ∧ txtC d = txtC c := ⟨c, h, rfl⟩
  unfold rdC
  rw [dif_pos hx]
  have := Classical.choose_spec hx
  exact congrArg some (txtC_inj this.1 h this.2)
theorem rdC_none {s : List UInt8} (h : ∀ c, Right c → txtC c ≠ s) : rdC s = none := by
  unfold rdC
  rw [dif_neg (by rintro ⟨c, h1, h2⟩; exact h c h1 h2)]
theorem rdC_six {s : List UInt8} (h : (runs s).length ≠ 6) : rdC s = none := rdC_none fun c hc e => by
  rw [← e, runs_txtC hc] at h; exact h rfl
theorem rdC_other {s : List UInt8} {a b c d e f : Int} (h : runs s = [a, b, c, d, e, f]) (ht : txtC ⟨a, b, c, d, e, f⟩ ≠ s) : rdC s = none := rdC_none fun x hx ex => by
  rw [← ex, runs_txtC hx] at h
  obtain ⟨n, q, g, m, t, s'⟩ := x
  simp at h
  obtain ⟨rfl, rfl, rfl, rfl, rfl, rfl⟩ := h
  exact ht ex
theorem rdC_same {s : List UInt8} {a b c d e f : Int} (h : runs s = [a, b, c, d, e, f]) (ht : txtC ⟨a, b, c, d, e, f⟩ = s) : rdC s = some ⟨a, b, c, d, e, f⟩ := by
  by_cases hR : Right ⟨a, b, c, d, e, f⟩
  · rw [← ht]; exact rdC_some hR
  · rw [txtC_none hR] at ht
    rw [← ht] at h
    have e : runs [] = [] := by decide
    rw [e] at h
    cases h
theorem rdC_long {s : List UInt8} (h : 100 ≤ s.length) : rdC s = none := rdC_none fun c _ e => by
  have := txtC_len c
  rw [e] at this; omega
/-- what Read answers -/
noncomputable def rdA (s : List UInt8) : Cfg × Int := match rdC s with
  | some c => (c, 0)
  | none => (⟨0, 0, 0, 0, 0, 0⟩, 2)
theorem rdA_none {s : List UInt8} (h : rdC s = none) : rdA s = (⟨0, 0, 0, 0, 0, 0⟩, 2) := by unfold rdA; rw [h]
theorem rdA_some {s : List UInt8} {c : Cfg} (h : rdC s = some c) : rdA s = (c, 0) := by unfold rdA; rw [h]
theorem fst1_nms (Q k : Nat) (x : List UInt8) : fst1 (nms Q k) x = fnd Q k x := rfl
/-- closed: where a right config's cells are -/
theorem nmsC_len {c : Cfg} (h : Right c) : (nmsC c).length = cells c.n.toNat c.q.toNat := by rw [nmsC_some h, nms_length]
theorem nmsC_at {c : Cfg} {i : Nat} (h : Right c) (hi : i < cells c.n.toNat c.q.toNat) : (nmsC c)[i]? = some (nameAt c.q.toNat i) := by rw [nmsC_some h, nms_at hi]
theorem fst1_cell {c : Cfg} (h : Right c) {r p : Nat} (hr : r < 6) : fst1 (nmsC c) (cellN r p) = if (p : Int) < c.n then 4 + p * (6 + c.q) + r else -1 := by
  rw [nmsC_some h, fst1_nms, fnd_cell hr]
  obtain ⟨a, b, g, m, t, s, rfl, h1, h2, h3, h4, h5, h6⟩ := h.small
  show (if p < a then ((4 + p * (6 + b) + r : Nat) : Int) else -1) = if (p : Int) < (a : Int) then 4 + (p : Int) * (6 + (b : Int)) + (r : Int) else -1
  by_cases hp : p < a
  · rw [if_pos hp, if_pos (by omega)]; push_cast; rfl
  · rw [if_neg hp, if_neg (by omega)]
theorem fst1_slot {c : Cfg} (h : Right c) {p i : Nat} (hi : (i : Int) < c.q) : fst1 (nmsC c) (slotN p i) = if (p : Int) < c.n then 4 + p * (6 + c.q) + 6 + i else -1 := by
  have hq : i < c.q.toNat := by omega
  rw [nmsC_some h, fst1_nms, fnd_slot hq]
  obtain ⟨a, b, g, m, t, s, rfl, h1, h2, h3, h4, h5, h6⟩ := h.small
  show (if p < a then ((4 + p * (6 + b) + (6 + i) : Nat) : Int) else -1) = if (p : Int) < (a : Int) then 4 + (p : Int) * (6 + (b : Int)) + 6 + (i : Int) else -1
  by_cases hp : p < a
  · rw [if_pos hp, if_pos (by omega)]; push_cast; omega
  · rw [if_neg hp, if_neg (by omega)]
theorem fst1_wrong {c : Cfg} (h : ¬ Right c) (x : List UInt8) : fst1 (nmsC c) x = -1 := by
  rw [nmsC_none h]; exact fst1_miss (fun j hj => absurd hj (Nat.not_lt_zero _))
theorem fst1_name {c : Cfg} (h : Right c) {i : Nat} (hi : i < cells c.n.toNat c.q.toNat) : fst1 (nmsC c) (nameAt c.q.toNat i) = i := by
  rw [nmsC_some h, fst1_nms]; exact fnd_some hi rfl
/-- what reads as a config reads so by its text alone -/
theorem rdC_is {s : List UInt8} {c : Cfg} (h : rdC s = some c) : Right c ∧ txtC c = s := by
  unfold rdC at h
  by_cases hx : ∃ c, Right c ∧ txtC c = s
  · rw [dif_pos hx] at h
    have := Classical.choose_spec hx
    rw [Option.some.inj h] at this
    exact this
  · rw [dif_neg hx] at h; cases h
end Go.Cg
