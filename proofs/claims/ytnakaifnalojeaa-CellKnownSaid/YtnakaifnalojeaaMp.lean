/- Plain: accesses of cells, done and done again (layer 6). -/
import GoSem.Claim
namespace Go.Ce

/-- an access: its kind, its address, what stood there, what stands there -/
structure Acc where
  k : Int
  a : Int
  o : Int
  n : Int
instance : Inhabited Acc := ⟨⟨0, 0, 0, 0⟩⟩
/-- what stands in a cell behind accesses -/
def atV (xs : List Acc) (a : Int) : Int := xs.foldl (fun v x => if x.a = a then x.n else v) 0
theorem atV_nil (a : Int) : atV [] a = 0 := rfl
theorem atV_more (xs : List Acc) (x : Acc) (a : Int) : atV (xs ++ [x]) a = if x.a = a then x.n else atV xs a := by
  unfold atV; rw [List.foldl_append]; rfl
theorem atV_tail (xs ys : List Acc) (a : Int) (h : ∀ y ∈ ys, y.a ≠ a) : atV (xs ++ ys) a = atV xs a := by
  induction ys generalizing xs with
  | nil => rw [List.append_nil]
  | cons y r ih =>
    rw [show xs ++ y :: r = (xs ++ [y]) ++ r by simp, ih _ (fun z hz => h z (List.mem_cons_of_mem _ hz)), atV_more, if_neg (h y List.mem_cons_self)]
theorem atV_hit {xs : List Acc} {a : Int} {i : Nat} (hi : i < xs.length) (hx : (xs.getD i default).a = a) (h : ∀ j, i < j → j < xs.length → (xs.getD j default).a ≠ a) : atV xs a = (xs.getD i default).n := by
  have e : xs = (xs.take i ++ [xs.getD i default]) ++ xs.drop (i + 1) := by
    have h1 : xs.take i ++ [xs.getD i default] = xs.take (i + 1) := by
      rw [List.take_succ_eq_append_getElem hi]; simp [List.getD, hi]
    rw [h1, List.take_append_drop]
  have h2 : ∀ y ∈ xs.drop (i + 1), y.a ≠ a := by
    intro y hy
    obtain ⟨j, hj, rfl⟩ := List.mem_iff_getElem.1 hy
    rw [List.length_drop] at hj
    have := h (i + 1 + j) (by omega) (by omega)
    rw [List.getElem_drop]
    have hl : i + 1 + j < xs.length := by omega
    simpa [List.getD, hl] using this
  rw [e, atV_tail _ _ _ h2, atV_more, if_pos hx, ← e]
theorem atV_miss {xs : List Acc} {a : Int} (h : ∀ j, j < xs.length → (xs.getD j default).a ≠ a) : atV xs a = 0 := by
  have := atV_tail [] xs a (fun y hy => by
    obtain ⟨j, hj, rfl⟩ := List.mem_iff_getElem.1 hy
    have := h j hj
    simpa [List.getD, hj] using this)
  rw [List.nil_append] at this
  exact this
/-- is there such an address, and such a kind? -/
def Bad (N : Int) (k a : Int) : Prop := a < 0 ∨ N ≤ a ∨ k < 1 ∨ 4 < k
instance (N k a : Int) : Decidable (Bad N k a) := by unfold Bad; infer_instance
/-- the access -/
def accV (xs : List Acc) (k a old x : Int) : Acc :=
  ⟨k, a, atV xs a, if k = 2 ∨ k = 3 ∧ atV xs a = old then x else if k = 4 then IntKind.u64.wrap (atV xs a + x) else atV xs a⟩
/-- behind it -/
def doL (N : Int) (xs : List Acc) (k a old x : Int) : List Acc := if Bad N k a then xs else xs ++ [accV xs k a old x]
def doE (N : Int) (xs : List Acc) (k a old x : Int) : Acc := if Bad N k a then ⟨0, 0, 0, 0⟩ else accV xs k a old x
theorem doL_bad {N k a : Int} (h : Bad N k a) (xs : List Acc) (old x : Int) : doL N xs k a old x = xs := by unfold doL; rw [if_pos h]
theorem doL_ok {N k a : Int} (h : ¬ Bad N k a) (xs : List Acc) (old x : Int) : doL N xs k a old x = xs ++ [accV xs k a old x] := by unfold doL; rw [if_neg h]
theorem doE_bad {N k a : Int} (h : Bad N k a) (xs : List Acc) (old x : Int) : doE N xs k a old x = ⟨0, 0, 0, 0⟩ := by unfold doE; rw [if_pos h]
theorem doE_ok {N k a : Int} (h : ¬ Bad N k a) (xs : List Acc) (old x : Int) : doE N xs k a old x = accV xs k a old x := by unfold doE; rw [if_neg h]
theorem doL_len (N : Int) (xs : List Acc) (k a old x : Int) : (doL N xs k a old x).length ≤ xs.length + 1 := by
  unfold doL; split
  · omega
  · simp
/-- may an access be done again? -/
def Stuck (N : Int) (xs : List Acc) (e : Acc) : Prop := Bad N e.k e.a ∨ atV xs e.a ≠ e.o ∨ e.k = 1 ∧ e.n ≠ e.o
instance (N : Int) (xs : List Acc) (e : Acc) : Decidable (Stuck N xs e) := by unfold Stuck; infer_instance
/-- what is told when it is done again -/
def tellV (e : Acc) : Int := if e.k = 4 then IntKind.u64.wrap (e.n - e.o) else e.n
/-- done again: the accesses behind it, and how many were done -/
def redoV (N : Int) (xs : List Acc) : List Acc → List Acc × Nat
  | [] => (xs, 0)
  | e :: l => if Stuck N xs e then (xs, 0) else
    let r := redoV N (doL N xs e.k e.a e.o (tellV e)) l
    (r.1, r.2 + 1)
theorem redoV_nil (N : Int) (xs : List Acc) : redoV N xs [] = (xs, 0) := rfl
theorem redoV_stuck {N : Int} {xs : List Acc} {e : Acc} (h : Stuck N xs e) (l : List Acc) : redoV N xs (e :: l) = (xs, 0) := by unfold redoV; rw [if_pos h]
theorem redoV_go {N : Int} {xs : List Acc} {e : Acc} (h : ¬ Stuck N xs e) (l : List Acc) : redoV N xs (e :: l) = ((redoV N (doL N xs e.k e.a e.o (tellV e)) l).1, (redoV N (doL N xs e.k e.a e.o (tellV e)) l).2 + 1) := by
  rw [redoV, if_neg h]
theorem redoV_len (N : Int) (xs l : List Acc) : (redoV N xs l).1.length ≤ xs.length + l.length ∧ (redoV N xs l).2 ≤ l.length := by
  induction l generalizing xs with
  | nil => simp [redoV]
  | cons e l ih =>
    by_cases h : Stuck N xs e
    · rw [redoV_stuck h]; simp
    · rw [redoV_go h]
      have := ih (doL N xs e.k e.a e.o (tellV e))
      have h2 := doL_len N xs e.k e.a e.o (tellV e)
      simp only [List.length_cons]
      omega
/-- cells, as a row of numbers: what all accesses left there -/
def setV (cs : List Int) (a : Int) (v : Int) : List Int := cs.set a.toNat v
def allV (N : Nat) (xs : List Acc) : List Int := xs.foldl (fun cs x => setV cs x.a x.n) (List.replicate N 0)
theorem allV_more (N : Nat) (xs : List Acc) (x : Acc) : allV N (xs ++ [x]) = setV (allV N xs) x.a x.n := by unfold allV; rw [List.foldl_append]; rfl
theorem allV_length (N : Nat) (xs : List Acc) : (allV N xs).length = N := by
  unfold allV
  have : ∀ (cs : List Int), (xs.foldl (fun cs x => setV cs x.a x.n) cs).length = cs.length := by
    induction xs with
    | nil => intro cs; rfl
    | cons x r ih => intro cs; rw [List.foldl_cons, ih]; unfold setV; simp
  rw [this]; simp
/-- all accesses have addresses that there are -/
def InN (N : Nat) (xs : List Acc) : Prop := ∀ x ∈ xs, 0 ≤ x.a ∧ x.a < N
theorem allV_at {N : Nat} {xs : List Acc} (h : InN N xs) (i : Nat) (hi : i < N) : (allV N xs).getD i 0 = atV xs i := by
  obtain ⟨ys, rfl⟩ : ∃ ys, xs = ys.reverse := ⟨xs.reverse, by simp⟩
  induction ys with
  | nil => simp [allV, atV, List.getD, hi]
  | cons x r ih =>
    rw [List.reverse_cons] at h ⊢
    have hr : InN N r.reverse := fun y hy => h y (List.mem_append_left _ hy)
    have hx := h x (by simp)
    rw [allV_more, atV_more]
    unfold setV
    by_cases e : x.a = i
    · rw [if_pos e]
      have : x.a.toNat = i := by omega
      rw [this]
      have hl := allV_length N r.reverse
      simp [List.getD, hl, hi]
    · rw [if_neg e, ← ih hr]
      have : x.a.toNat ≠ i := by omega
      simp [List.getD, this]
end Go.Ce
