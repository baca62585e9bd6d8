/- What is ahead only falls (layer 8), in plain. -/
import Derived.Test.YtjdbmedealhbjaaDm
namespace Go.Dk

/-- numbers that rise, below i -/
def Up (xs : List Int) (i : Nat) : Prop := xs.Pairwise (· < ·) ∧ ∀ x ∈ xs, 0 ≤ x ∧ x < i
theorem Up.nil : Up [] 0 := ⟨.nil, by simp⟩
theorem Up.nodup {xs : List Int} {i : Nat} (h : Up xs i) : xs.Nodup := h.1.imp (fun h => by omega)
theorem Up.sub {xs ys : List Int} {i : Nat} (h : Up xs i) (hs : ys.Sublist xs) : Up ys (i + 1) := ⟨h.1.sublist hs, fun x hx => by have := h.2 x (hs.subset hx); omega⟩
theorem Up.put {xs : List Int} {i : Nat} (h : Up xs i) (q : Nat) : Up (putL q xs i) (i + 1) := by
  unfold putL
  split
  · refine ⟨?_, fun x hx => ?_⟩
    · rw [List.pairwise_append]
      refine ⟨h.1, by simp, fun a ha b hb => ?_⟩
      have := h.2 a ha
      simp at hb; omega
    · rcases List.mem_append.1 hx with hx | hx
      · have := h.2 x hx; omega
      · simp at hx; omega
  · exact h.sub (List.take_sublist _ _)
/-- where a number stands -/
theorem ahead_is {xs : List Int} {k : Nat} (h : xs.Nodup) (hk : k < xs.length) : aheadL xs (xs.getD k 0) = k := by
  have e : xs.getD k 0 = xs[k] := getD_get hk
  unfold aheadL
  rw [e, if_pos (List.getElem_mem hk), List.Nodup.idxOf_getElem h k hk]
theorem ahead_take {xs : List Int} (h : xs.Nodup) (m : Nat) {k : Nat} (hk : k < xs.length) : aheadL (xs.take m) (xs.getD k 0) ≤ k := by
  by_cases hm : k < m
  · have h1 : k < (xs.take m).length := by rw [List.length_take]; omega
    have e : (xs.take m).getD k 0 = xs.getD k 0 := by rw [getD_get h1, getD_get hk]; simp
    have := ahead_le h1
    rw [e] at this
    exact this
  · have hn : xs.getD k 0 ∉ xs.take m := fun hmem => by
      obtain ⟨j, hj, e⟩ := List.getElem_of_mem hmem
      rw [List.length_take] at hj
      rw [getD_get hk, List.getElem_take] at e
      have := (List.getElem_inj (h₀ := by omega) (h₁ := hk) h).1 e
      omega
    unfold aheadL
    rw [if_neg hn]; omega
theorem ahead_drop {xs : List Int} (h : xs.Nodup) (m : Nat) {k : Nat} (hk : k < xs.length) : aheadL (xs.drop m) (xs.getD k 0) ≤ k := by
  by_cases hm : m ≤ k
  · have h1 : k - m < (xs.drop m).length := by rw [List.length_drop]; omega
    have e : (xs.drop m).getD (k - m) 0 = xs.getD k 0 := by rw [getD_get h1, getD_get hk]; simp [List.getElem_drop, show m + (k - m) = k by omega]
    have := ahead_le h1
    rw [e] at this
    omega
  · have hn : xs.getD k 0 ∉ xs.drop m := fun hmem => by
      obtain ⟨j, hj, e⟩ := List.getElem_of_mem hmem
      rw [List.length_drop] at hj
      rw [getD_get hk, List.getElem_drop] at e
      have := (List.getElem_inj (h₀ := by omega) (h₁ := hk) h).1 e
      omega
    unfold aheadL
    rw [if_neg hn]; omega
theorem ahead_app {xs : List Int} (g : Int) {k : Nat} (hk : k < xs.length) : aheadL (xs ++ [g]) (xs.getD k 0) ≤ k := by
  have h1 : k < (xs ++ [g]).length := by rw [List.length_append]; omega
  have e : (xs ++ [g]).getD k 0 = xs.getD k 0 := by rw [getD_get h1, getD_get hk, List.getElem_append_left hk]
  have := ahead_le h1
  rw [e] at this
  exact this
theorem ahead_put {xs : List Int} (h : xs.Nodup) (q : Nat) (g : Int) {k : Nat} (hk : k < xs.length) : aheadL (putL q xs g) (xs.getD k 0) ≤ k := by
  unfold putL
  split
  · exact ahead_app g hk
  · exact ahead_take h _ hk
theorem ahead_tail {xs : List Int} (h : xs.Nodup) {k : Nat} (hk : k < xs.length) : aheadL xs.tail (xs.getD k 0) ≤ k := by
  have := ahead_drop h 1 hk
  rw [List.drop_one] at this
  exact this
theorem ahead_mv {xs : List Int} (h : xs.Nodup) {k : Nat} (hk : k < xs.length) : aheadL (mvF xs []) (xs.getD k 0) ≤ k := by
  unfold mvF
  split
  · exact ahead_drop h _ hk
  · exact ahead_le hk
/-- what Put takes away stands in the younger half -/
theorem over_young {xs : List Int} {i q : Nat} (h : Up xs i) (hl : xs.length ≤ q) {k m : Nat} (hk : k < xs.length) (hm : m < (putO q xs i).length) (e : (putO q xs i).getD m 0 = xs.getD k 0) : ¬ (k < q / 2) := by
  rw [getD_get hm, getD_get hk] at e
  intro hq
  have hmem : (putO q xs i)[m] ∈ putO q xs i := List.getElem_mem hm
  rw [e] at hmem
  unfold putO at hmem
  split at hmem
  · simp at hmem
  · rename_i hlt
    rcases List.mem_append.1 hmem with hx | hx
    · obtain ⟨j, hj, e2⟩ := List.getElem_of_mem hx
      rw [List.length_drop] at hj
      rw [List.getElem_drop] at e2
      have := (List.getElem_inj (h₀ := by omega) (h₁ := hk) h.nodup).1 e2
      omega
    · simp at hx
      have := h.2 _ (List.getElem_mem hk)
      omega
/-- what is moved -/
theorem mv_moved {xs : List Int} {q : Nat} (hl : xs.length ≤ q) : mvT q xs [] = (stO xs).tail := by
  unfold mvT mvB
  by_cases hx : xs = []
  · subst hx; rfl
  · rw [decide_eq_true (And.intro hx rfl), if_pos rfl]
    unfold layL layN
    rw [List.nil_append]
    apply List.take_of_length_le
    have := stO_len xs
    have h2 : stN xs ≤ xs.length := by unfold stN; omega
    simp only [List.length_nil, List.length_tail]
    omega
theorem mv_at {xs : List Int} {k : Nat} (hk : k < (stO xs).tail.length) : (stO xs).tail.getD k 0 = xs.getD (k + 1) 0 ∧ k + 1 < xs.length := by
  have h1 : (stO xs).length = stN xs := stO_len xs
  have h2 : stN xs ≤ xs.length := by unfold stN; omega
  have h3 : k + 1 < (stO xs).length := by rw [List.length_tail] at hk; omega
  refine ⟨?_, by omega⟩
  rw [getD_get hk, getD_get (show k + 1 < xs.length by omega), List.getElem_tail]
  unfold stO
  rw [List.getElem_take]
theorem mv_half {xs : List Int} {q k : Nat} (hl : xs.length ≤ q) (he : q % 2 = 0) (hk : k < (stO xs).tail.length) : k < q / 2 := by
  have h1 : (stO xs).length = stN xs := stO_len xs
  rw [List.length_tail] at hk
  unfold stN at h1
  omega
theorem mv_ahead {xs : List Int} {i k : Nat} (h : Up xs i) (hk : k < (stO xs).tail.length) : aheadL (stO xs).tail ((stO xs).tail.getD k 0) = k ∧ aheadL xs ((stO xs).tail.getD k 0) = (k : Int) + 1 := by
  have hs : (stO xs).tail.Sublist xs := (List.tail_sublist _).trans (List.take_sublist _ _)
  have e := mv_at hk
  refine ⟨ahead_is (h.nodup.sublist hs) hk, ?_⟩
  rw [e.1, ahead_is h.nodup e.2]; omega
theorem Up.mv {xs : List Int} {i : Nat} (h : Up xs i) : Up (mvF xs []) (i + 1) := by
  unfold mvF
  split
  · exact h.sub (List.drop_sublist _ _)
  · exact h.sub (List.Sublist.refl _)
end Go.Dk
