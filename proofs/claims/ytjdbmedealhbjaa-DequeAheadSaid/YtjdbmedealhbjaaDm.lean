/- Deques in plain: nobody is lost, nobody doubled; what is ahead only falls. -/
import Derived.Test.YtjdbmedealhbjaaDq
namespace Go.Dk
theorem getD_get {l : List Int} {k : Nat} (h : k < l.length) : l.getD k 0 = l[k] := by
  rw [List.getD_eq_getElem?_getD, List.getElem?_eq_getElem h]; rfl

/-- the numbers from 0 up to n less 1 -/
def rng (n : Nat) : List Int := (List.range n).map fun (k : Nat) => (k : Int)
theorem rng_succ (n : Nat) : rng (n + 1) = rng n ++ [(n : Int)] := by
  unfold rng; rw [List.range_succ, List.map_append]; rfl
theorem rng_len (n : Nat) : (rng n).length = n := by unfold rng; simp
/-- what is in it, and what was answered, are together what came -/
def NB (xs out : List Int) (n : Nat) : Prop := (xs ++ out).Perm (rng n)
theorem NB.len {xs out : List Int} {n : Nat} (h : NB xs out n) : (xs ++ out).length = n := by rw [h.length_eq, rng_len]
theorem NB.mem {xs out : List Int} {n : Nat} (h : NB xs out n) {x : Int} (hx : x ∈ xs ++ out) : 0 ≤ x ∧ x < n := by
  have := h.mem_iff.1 hx
  unfold rng at this
  obtain ⟨k, hk, rfl⟩ := List.mem_map.1 this
  have := List.mem_range.1 hk
  omega
theorem NB.nodup {xs out : List Int} {n : Nat} (h : NB xs out n) : (xs ++ out).Nodup := by
  refine h.nodup_iff.2 ?_
  unfold rng
  refine List.Pairwise.map _ ?_ (List.nodup_range (n := n))
  intro a b hab e
  exact hab (by omega)
theorem NB.nil : NB [] [] 0 := List.Perm.refl _
theorem put_split (q : Nat) (xs : List Int) (g : Int) : putL q xs g ++ putO q xs g = xs ++ [g] := by
  unfold putL putO
  split
  · simp
  · rw [← List.append_assoc, List.take_append_drop]
theorem NB.put {xs out : List Int} {n : Nat} (h : NB xs out n) (q : Nat) : NB (putL q xs n) (out ++ putO q xs n) (n + 1) := by
  unfold NB at *
  rw [rng_succ]
  have e1 : putL q xs n ++ (out ++ putO q xs n) = (putL q xs n ++ out) ++ putO q xs n := by rw [List.append_assoc]
  rw [e1]
  have p1 : ((putL q xs n ++ out) ++ putO q xs n).Perm ((putL q xs n ++ putO q xs n) ++ out) := by
    rw [List.append_assoc, List.append_assoc]
    exact List.Perm.append_left _ List.perm_append_comm
  refine p1.trans ?_
  rw [put_split]
  have p2 : ((xs ++ [(n : Int)]) ++ out).Perm ((xs ++ out) ++ [(n : Int)]) := by
    rw [List.append_assoc, List.append_assoc]
    exact List.Perm.append_left _ List.perm_append_comm
  exact p2.trans (List.Perm.append_right _ h)
theorem NB.lay {xs out : List Int} {n : Nat} (h : NB xs out n) (m : Nat) (hm : m ≤ 3) : NB (xs ++ [(n : Int), (n : Int) + 1, (n : Int) + 2].take m) out (n + m) := by
  unfold NB at *
  have p2 : ((xs ++ [(n : Int), (n : Int) + 1, (n : Int) + 2].take m) ++ out).Perm ((xs ++ out) ++ [(n : Int), (n : Int) + 1, (n : Int) + 2].take m) := by
    rw [List.append_assoc, List.append_assoc]
    exact List.Perm.append_left _ List.perm_append_comm
  refine p2.trans ?_
  have e : rng (n + m) = rng n ++ [(n : Int), (n : Int) + 1, (n : Int) + 2].take m := by
    rcases (show m = 0 ∨ m = 1 ∨ m = 2 ∨ m = 3 by omega) with rfl | rfl | rfl | rfl
    · simp
    · rw [rng_succ]; rfl
    · rw [show n + 2 = n + 1 + 1 by omega, rng_succ, rng_succ]; simp
    · rw [show n + 3 = n + 1 + 1 + 1 by omega, rng_succ, rng_succ, rng_succ]; simp
  rw [e]
  exact List.Perm.append_right _ h
theorem NB.get {x : Int} {xs out : List Int} {n : Nat} (h : NB (x :: xs) out n) : NB xs (out ++ [x]) n := by
  unfold NB at *
  have e1 : xs ++ (out ++ [x]) = (xs ++ out) ++ [x] := by rw [List.append_assoc]
  rw [e1]
  exact (List.perm_append_comm (l₂ := [x])).trans h
theorem NB.steal {xs out : List Int} {n : Nat} (h : NB xs out n) : NB (stL xs) (out ++ stO xs) n := by
  unfold NB at *
  have e : stO xs ++ stL xs = xs := by unfold stO stL; exact List.take_append_drop _ _
  have p1 : (stL xs ++ (out ++ stO xs)).Perm ((stO xs ++ stL xs) ++ out) := by
    rw [← List.append_assoc]
    refine List.perm_append_comm.trans ?_
    rw [← List.append_assoc]
  rw [e] at p1
  exact p1.trans h

/-! ### what is ahead -/
/-- a number that stands at k stands there or ahead -/
theorem ahead_le {xs : List Int} {k : Nat} (hk : k < xs.length) : aheadL xs (xs.getD k 0) ≤ k := by
  have e : xs.getD k 0 = xs[k] := by simp [List.getD, hk]
  unfold aheadL
  split
  · rw [e]
    have : xs.idxOf xs[k] ≤ k := by
      rcases Nat.lt_or_ge k (xs.idxOf xs[k]) with h | h
      · exfalso
        have := List.not_of_lt_findIdx (p := (· == xs[k])) (xs := xs) h
        simp at this
      · exact h
    omega
  · omega
theorem ahead_mem {xs : List Int} {g : Int} (h : aheadL xs g ≠ -1) : g ∈ xs := by
  unfold aheadL at h
  split at h
  · assumption
  · exact absurd rfl h
/-! ### which numbers were seen -/
theorem NB.at {xs out : List Int} {n : Nat} (h : NB xs out n) {k : Nat} (hk : k < n) : ∃ y : Nat, (xs ++ out).getD k 0 = (y : Int) ∧ y < n := by
  have hl := h.len
  have hk2 : k < (xs ++ out).length := by omega
  have e : (xs ++ out).getD k 0 = (xs ++ out)[k] := getD_get hk2
  have m := h.mem (x := (xs ++ out)[k]) (List.getElem_mem hk2)
  exact ⟨((xs ++ out)[k]).toNat, by rw [e]; omega, by omega⟩
theorem NB.inj {xs out : List Int} {n : Nat} (h : NB xs out n) {i j : Nat} (hi : i < n) (hj : j < n) (e : (xs ++ out).getD i 0 = (xs ++ out).getD j 0) : i = j := by
  have hl := h.len
  have hi2 : i < (xs ++ out).length := by omega
  have hj2 : j < (xs ++ out).length := by omega
  have e1 : (xs ++ out).getD i 0 = (xs ++ out)[i] := getD_get hi2
  have e2 : (xs ++ out).getD j 0 = (xs ++ out)[j] := getD_get hj2
  rw [e1, e2] at e
  exact (List.getElem_inj (h₀ := hi2) (h₁ := hj2) h.nodup).1 e
end Go.Dk
namespace Go.Proofs.Ytjdbmedealhbjaa
open Go.RowKit
/-- what is seen of zs behind k rounds -/
def seenA (zs : List Int) (n k : Nat) : List Value := (List.range n).map fun (v : Nat) => Value.bool ((List.range k).any fun j => zs.getD j 0 == (v : Int))
theorem seenA_len (zs : List Int) (n k : Nat) : (seenA zs n k).length = n := by simp [seenA]
theorem seenA_zero (zs : List Int) (n : Nat) : (madeCells #[Value.bool false] n).toList = seenA zs n 0 := by
  rw [toList_madeCells_one]
  apply List.ext_getElem
  · simp [seenA]
  · intro i h1 h2; simp [seenA]
theorem seenA_at {zs : List Int} {n k y : Nat} (hy : zs.getD k 0 = (y : Int)) (hyn : y < n) (hin : ∀ j, j < k → zs.getD j 0 ≠ zs.getD k 0) : (seenA zs n k)[y]? = some (.bool false) := by
  have h1 : ((List.range k).any fun j => zs.getD j 0 == (y : Int)) = false := by
    rw [List.any_eq_false]
    intro j hj
    have := hin j (List.mem_range.1 hj)
    rw [hy] at this
    simpa using this
  unfold seenA
  rw [List.getElem?_map, List.getElem?_range hyn]
  simp only [Option.map_some]
  rw [h1]
theorem seenA_step {zs : List Int} {n k y : Nat} (hy : zs.getD k 0 = (y : Int)) : (seenA zs n k).set y (.bool true) = seenA zs n (k + 1) := by
  apply List.ext_getElem
  · simp [seenA]
  · intro i h1 h2
    simp only [seenA, List.getElem_set, List.getElem_map, List.getElem_range, List.range_succ, List.any_append, List.any_cons, List.any_nil, Bool.or_false]
    rw [hy]
    by_cases h : y = i
    · subst h; simp
    · rw [if_neg h]
      have : ((y : Int) == (i : Int)) = false := by
        have : ¬ ((y : Int) = (i : Int)) := by omega
        simpa using this
      rw [this, Bool.or_false]
theorem infoBool : (Try.prog.info? 4).map (fun i => (i.zero, i.size, i.bytes)) = some (some (.bool false), 1, 1) := by kernel_rfl
end Go.Proofs.Ytjdbmedealhbjaa
