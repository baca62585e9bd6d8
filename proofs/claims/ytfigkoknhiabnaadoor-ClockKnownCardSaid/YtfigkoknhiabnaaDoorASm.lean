namespace Go.Sm
/-- a number as a span -/
def clampI (n : Int) : Int := if n < 0 then 0 else if 4611686018427387904 < n then 4611686018427387904 else n
theorem clampI_bd (n : Int) : 0 ≤ clampI n ∧ clampI n ≤ 4611686018427387904 := by unfold clampI; (repeat' split) <;> omega
def sstep (s n : Int) : Int := if 4611686018427387904 < s + clampI n then 4611686018427387904 else s + clampI n
/-- the document's sum -/
def S (l : List Int) : Int := l.foldl sstep 0
def T (l : List Int) : Int := l.foldl (fun s n => s + clampI n) 0

theorem sstep_bd {s : Int} (n : Int) (h : 0 ≤ s) : 0 ≤ sstep s n ∧ sstep s n ≤ 4611686018427387904 := by
  have := clampI_bd n
  unfold sstep; split <;> omega
theorem S_bd (l : List Int) : 0 ≤ S l ∧ S l ≤ 4611686018427387904 := by
  unfold S
  suffices H : ∀ s, 0 ≤ s → s ≤ 4611686018427387904 → 0 ≤ l.foldl sstep s ∧ l.foldl sstep s ≤ 4611686018427387904 by exact H 0 (by decide) (by decide)
  induction l with
  | nil => intro s h h2; exact ⟨h, h2⟩
  | cons n r ih => intro s h _; have := sstep_bd n h; exact ih _ this.1 this.2
theorem T_add (l : List Int) (s : Int) : l.foldl (fun s n => s + clampI n) s = s + T l := by
  unfold T
  induction l generalizing s with
  | nil => simp
  | cons n r ih => rw [List.foldl_cons, ih, List.foldl_cons, ih (0 + clampI n)]; omega
theorem T_nonneg (l : List Int) : 0 ≤ T l := by
  induction l with
  | nil => decide
  | cons n r ih => unfold T at *; rw [List.foldl_cons, T_add]; unfold T; have := clampI_bd n; omega
theorem S_eq (l : List Int) (s : Int) (h : 0 ≤ s) (h2 : s ≤ 4611686018427387904) : l.foldl sstep s = if 4611686018427387904 < s + T l then 4611686018427387904 else s + T l := by
  induction l generalizing s with
  | nil => simp [T]; omega
  | cons n r ih =>
    have hb := sstep_bd n h
    have hr := T_nonneg r
    have hT : T (n :: r) = clampI n + T r := by
      show List.foldl _ (0 + clampI n) r = _
      rw [T_add]; omega
    rw [List.foldl_cons, ih _ hb.1 hb.2, hT]
    have := clampI_bd n
    unfold sstep
    (repeat' split) <;> omega
theorem T_append (a b : List Int) : T (a ++ b) = T a + T b := by
  show List.foldl _ 0 (a ++ b) = _
  rw [List.foldl_append, T_add]; rfl
theorem T_reverse (l : List Int) : T l.reverse = T l := by
  induction l with
  | nil => rfl
  | cons n r ih =>
    have h1 : T (n :: r) = clampI n + T r := by
      show List.foldl _ (0 + clampI n) r = _
      rw [T_add]; omega
    have h2 : T [n] = clampI n := by show 0 + clampI n = _; omega
    rw [List.reverse_cons, T_append, ih, h1, h2]; omega
theorem S_reverse (l : List Int) : S l.reverse = S l := by
  unfold S
  rw [S_eq _ 0 (by decide) (by decide), S_eq _ 0 (by decide) (by decide), T_reverse]
theorem S_snoc (l : List Int) (n : Int) : S (l ++ [n]) = sstep (S l) n := by unfold S; rw [List.foldl_append]; rfl
/-- what is Max stays so -/
theorem S_max (a b : List Int) (h : S a = 4611686018427387904) : S (a ++ b) = 4611686018427387904 := by
  have e : S (a ++ b) = b.foldl sstep (S a) := by unfold S; rw [List.foldl_append]
  have := T_nonneg b
  rw [e, h, S_eq _ _ (by decide) (by decide)]
  by_cases hd : (4611686018427387904 : Int) < 4611686018427387904 + T b
  · rw [if_pos hd]
  · rw [if_neg hd]; omega
end Go.Sm
