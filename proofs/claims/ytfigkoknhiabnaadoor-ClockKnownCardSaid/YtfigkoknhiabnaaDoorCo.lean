/- Adding in any order, plain; times and laps that never fall. -/
import Derived.Test.YtfigkoknhiabnaaDoorCp
namespace Go.Proofs.YtfigkoknhiabnaaDoor
open Go.Sm

/-- at most Max -/
def cap (x : Int) : Int := if 4611686018427387904 < x then 4611686018427387904 else x
theorem plus_cap {x n : Int} (hx : 0 ≤ x) (hn : 0 ≤ n) : plus (cap x) n = cap (x + clampI n) := by
  unfold plus cap clampI; (repeat' split) <;> omega
theorem S_cap (l : List Int) : S l = cap (T l) := by
  have h := S_eq l 0 (by decide) (by decide)
  unfold S cap; rw [h, Int.zero_add]
theorem cap_bd {x : Int} (hx : 0 ≤ x) : 0 ≤ cap x ∧ cap x ≤ 4611686018427387904 := by unfold cap; split <;> omega

/-- the good ones among the first k -/
def goodU (zs : List Int) (k : Nat) : List Int := (zs.take k).filter fun z => decide (0 ≤ z)
theorem goodU_yes {zs : List Int} {k : Nat} (h : k < zs.length) (hz : 0 ≤ zs.getD k 0) : goodU zs (k + 1) = goodU zs k ++ [zs.getD k 0] := by
  unfold goodU; rw [take_more zs k h, List.filter_append]; simp only [List.filter_cons, List.filter_nil, hz, decide_true]; rfl
theorem goodU_no {zs : List Int} {k : Nat} (h : k < zs.length) (hz : zs.getD k 0 < 0) : goodU zs (k + 1) = goodU zs k := by
  unfold goodU; rw [take_more zs k h, List.filter_append]
  have : decide (0 ≤ zs.getD k 0) = false := decide_eq_false (by omega)
  simp only [List.filter_cons, List.filter_nil, this]; simp
theorem goodU_le (zs : List Int) (k : Nat) : (goodU zs k).length ≤ k := Nat.le_trans (List.length_filter_le _ _) (List.length_take_le _ _)
theorem goodU_pos (zs : List Int) (k : Nat) : ∀ z ∈ goodU zs k, 0 ≤ z := fun z hz => by
  unfold goodU at hz
  have := (List.mem_filter.1 hz).2
  simpa using this
/-- the time when the first k were added -/
def tA (zs : List Int) (k : Nat) : Int := S (goodU zs k)
theorem tA_bd (zs : List Int) (k : Nat) : 0 ≤ tA zs k ∧ tA zs k ≤ 4611686018427387904 := S_bd _
theorem tA_more {zs : List Int} {k : Nat} (h : k < zs.length) : plus (tA zs k) (zs.getD k 0) = tA zs (k + 1) := by
  unfold tA
  by_cases hz : 0 ≤ zs.getD k 0
  · rw [goodU_yes h hz, S_snoc, plus_step hz (S_bd _).1 (S_bd _).2]
  · rw [goodU_no h (by omega), plus_neg (by omega)]

/-- how much the used ones are -/
def uT : List Int → List Bool → Int
  | a :: r, u :: v => (if u then clampI a else 0) + uT r v
  | _, _ => 0
theorem uT_nonneg (zs : List Int) (us : List Bool) : 0 ≤ uT zs us := by
  induction zs generalizing us with
  | nil => cases us <;> exact Int.le_refl _
  | cons a r ih =>
    cases us with
    | nil => exact Int.le_refl _
    | cons u v =>
      have := ih v
      have := clampI_bd a
      unfold uT; split <;> omega
theorem uT_none (zs : List Int) (n : Nat) : uT zs (List.replicate n false) = 0 := by
  induction zs generalizing n with
  | nil => cases n <;> rfl
  | cons a r ih =>
    cases n with
    | zero => rfl
    | succ n => rw [List.replicate_succ]; unfold uT; rw [ih n]; rfl
theorem uT_set {zs : List Int} {us : List Bool} {k : Nat} (hk : k < zs.length) (hu : k < us.length) (h : us.getD k false = false) : uT zs (us.set k true) = uT zs us + clampI (zs.getD k 0) := by
  induction zs generalizing us k with
  | nil => simp at hk
  | cons a r ih =>
    cases us with
    | nil => simp at hu
    | cons u v =>
      cases k with
      | zero =>
        have : u = false := by simpa using h
        subst this
        simp [uT]; omega
      | succ k =>
        have := ih (us := v) (k := k) (by simpa using hk) (by simpa using hu) (by simpa using h)
        simp [uT]
        simp at this
        omega
theorem uT_all {zs : List Int} {us : List Bool} (hl : us.length = zs.length) (h : ∀ i, i < zs.length → us.getD i false = true) : uT zs us = T zs := by
  induction zs generalizing us with
  | nil => cases us <;> rfl
  | cons a r ih =>
    cases us with
    | nil => simp at hl
    | cons u v =>
      have hu : u = true := by simpa using h 0 (by simp)
      subst hu
      have := ih (us := v) (by simpa using hl) (fun i hi => by simpa using h (i + 1) (by simpa using hi))
      have hT : T (a :: r) = clampI a + T r := by
        show List.foldl _ (0 + clampI a) r = _
        rw [T_add]; omega
      unfold uT; rw [this, hT]; rfl

/-- laps that never fall, up to a time -/
structure Rise (l : List Int) (t : Int) : Prop where
  up : ∀ i, i + 1 < l.length → l.getD i 0 ≤ l.getD (i + 1) 0
  top : ∀ i, i < l.length → l.getD i 0 ≤ t
theorem Rise.nil (t : Int) : Rise [] t := ⟨fun i hi => by simp at hi, fun i hi => by simp at hi⟩
theorem Rise.later {l : List Int} {t u : Int} (h : Rise l t) (hu : t ≤ u) : Rise l u := ⟨h.up, fun i hi => Int.le_trans (h.top i hi) hu⟩
theorem Rise.snoc {l : List Int} {t : Int} (h : Rise l t) : Rise (l ++ [t]) t := by
  have e1 : ∀ i, i < l.length → (l ++ [t]).getD i 0 = l.getD i 0 := fun i hi => by simp [List.getD, List.getElem?_append_left hi]
  have e2 : (l ++ [t]).getD l.length 0 = t := by simp [List.getD]
  refine ⟨fun i hi => ?_, fun i hi => ?_⟩
  · have hi' : i + 1 ≤ l.length := by rw [List.length_append] at hi; simp at hi; omega
    rw [e1 i (by omega)]
    rcases Nat.lt_or_ge (i + 1) l.length with h1 | h1
    · rw [e1 _ h1]; exact h.up i h1
    · rw [show i + 1 = l.length by omega, e2]; exact h.top i (by omega)
  · have hi' : i < l.length + 1 := by rw [List.length_append] at hi; simpa using hi
    rcases Nat.lt_or_ge i l.length with h1 | h1
    · rw [e1 _ h1]; exact h.top i h1
    · rw [show i = l.length by omega, e2]; exact Int.le_refl _
theorem Rise.drop {l : List Int} {t : Int} (h : Rise l t) (d : Nat) : Rise (l.drop d) t := by
  have e : ∀ i, (l.drop d).getD i 0 = l.getD (d + i) 0 := fun i => by simp [List.getD, List.getElem?_drop]
  refine ⟨fun i hi => ?_, fun i hi => ?_⟩
  · rw [List.length_drop] at hi
    rw [e, e]; exact h.up (d + i) (by omega)
  · rw [List.length_drop] at hi
    rw [e]; exact h.top _ (by omega)
theorem Rise.mark {l : List Int} {t : Int} (h : Rise l t) : Rise (mark l t) t := by
  unfold Go.Proofs.YtfigkoknhiabnaaDoor.mark; split
  · exact h.snoc.drop 1
  · exact h.snoc
theorem since_mono {t u n : Int} (h : t ≤ u) : since t n ≤ since u n := by
  unfold since; simp only []; (repeat' split) <;> omega
end Go.Proofs.YtfigkoknhiabnaaDoor
