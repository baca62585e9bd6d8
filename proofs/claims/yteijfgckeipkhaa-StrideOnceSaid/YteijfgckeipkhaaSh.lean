/- The walk of Draw. -/
import Derived.Test.YteijfgckeipkhaaSg
namespace Go.Proofs.Yteijfgckeipkhaa
open Go.RowKit Go.Sd

theorem idx_cases (zs : List Int) (x : Int) : (Lib.idxOf zs x = -1 ∧ ∀ j, j < zs.length → zs.getD j 0 ≠ x) ∨ ∃ k, k < zs.length ∧ Lib.idxOf zs x = (k : Int) ∧ zs.getD k 0 = x := by
  have key : ∀ (l : List Int) (i : Nat), (Lib.idxFrom l x i = -1 ∧ ∀ j, j < l.length → l.getD j 0 ≠ x) ∨ ∃ k, k < l.length ∧ Lib.idxFrom l x i = ((i + k : Nat) : Int) ∧ l.getD k 0 = x := by
    intro l
    induction l with
    | nil => intro i; exact .inl ⟨rfl, fun j hj => absurd hj (Nat.not_lt_zero _)⟩
    | cons a r ih =>
      intro i
      by_cases h : a = x
      · exact .inr ⟨0, by simp, by simp [Lib.idxFrom, h], by simpa using h⟩
      · rcases ih (i + 1) with ⟨e, hn⟩ | ⟨k, hk, e, hg⟩
        · refine .inl ⟨by simp [Lib.idxFrom, h, e], fun j hj => ?_⟩
          cases j with
          | zero => simpa using h
          | succ j => simpa using hn j (by simpa using hj)
        · exact .inr ⟨k + 1, by simpa using hk, by simp only [Lib.idxFrom, if_neg h, e]; omega, by simpa using hg⟩
  rcases key zs 0 with h | ⟨k, h1, h2, h3⟩
  · exact .inl h
  · exact .inr ⟨k, h1, by unfold Lib.idxOf; rw [h2, Nat.zero_add], h3⟩

/-- a draw that is one: its numbers -/
structure DrawnAt (n st by' : Int) (m i s : Nat) : Prop where
  en : n = (m : Int)
  m1 : 1 ≤ m
  m2 : m ≤ 64
  es : st = (s : Int)
  s2 : s < m
  ei : drawI n st by' = (i : Int)
  i2 : i < (str m m).length
  eg : (str m m).getD i 0 = by'
theorem drawnAt {n st by' : Int} (h : drawOk n st by' = true) : ∃ m i s, DrawnAt n st by' m i s := by
  unfold drawOk at h
  simp only [Bool.and_eq_true, decide_eq_true_eq] at h
  obtain ⟨⟨h1, h2⟩, h3⟩ := h
  have hn : ¬ (n < 1 ∨ 64 < n) := by
    intro hc
    unfold drawI at h1
    rw [strides_out hc] at h1
    have : Lib.idxOf [] by' = -1 := rfl
    omega
  obtain ⟨m, rfl⟩ : ∃ m : Nat, n = m := ⟨n.toNat, by omega⟩
  unfold drawI at h1
  rw [strides_in (by omega)] at h1
  rcases idx_cases (str m m) by' with ⟨e, _⟩ | ⟨k, hk, e, hg⟩
  · omega
  · exact ⟨m, k, st.toNat, ⟨rfl, by omega, by omega, by omega, by omega, by unfold drawI; rw [strides_in (by omega)]; exact e, hk, hg⟩⟩
theorem DrawnAt.num {n st by' : Int} {m i s : Nat} (D : DrawnAt n st by' m i s) : wrap64 (wrap64 ((i : Int) * n) + st) = ((i * m + s : Nat) : Int) ∧ i * m + s < m * (str m m).length ∧ i * m + s < 4096 + 64 := by
  have h1 : i * m + s < m * (str m m).length := by
    have a : i * m + s < (i + 1) * m := by rw [Nat.add_mul, Nat.one_mul]; have := D.s2; omega
    have b : (i + 1) * m ≤ (str m m).length * m := Nat.mul_le_mul_right _ D.i2
    rw [Nat.mul_comm m]; omega
  have h2 := mul_bd D.m1 D.m2 (str_pos (n := m) D.m1) (str_length m m)
  refine ⟨?_, h1, by omega⟩
  have e : (i : Int) * n = ((i * m : Nat) : Int) := by rw [D.en]; simp
  have hs := D.s2
  have := D.m2
  have hst := D.es
  generalize i * m = im at *
  rw [e, IntWalk.wrap64_in (im : Int) (by omega), IntWalk.wrap64_in _ (by omega)]
  omega
theorem DrawnAt.is {n st by' : Int} {m i s : Nat} (D : DrawnAt n st by' m i s) (h : drawOk n st by' = true) : drawN n st by' = ((i * m + s : Nat) : Int) := by
  unfold drawN; rw [if_pos h, D.ei, D.en, D.es]; simp
theorem drawN_no {n st by' : Int} (h : drawOk n st by' = false) : drawN n st by' = 0 := by
  unfold drawN; rw [h]; rfl

theorem draw_no (n st by' i : Int) (hi : Hid (Lib.idxOf (strides n) by' = i)) (hl : Hid ((strides n).length ≤ 64)) (h : i < 0 ∨ (0 ≤ i ∧ st < 0) ∨ (0 ≤ i ∧ 0 ≤ st ∧ n ≤ st)) (w : World) :
    Calls Try.prog 19 #[.int .i64 n, .int .i64 st, .int .i64 by'] w (Ans (.tuple #[.int .i64 0, .bool false]) w) := by
  have HS := Lib.hid (strides_any n)
  rcases h with h1 | ⟨h1, h2⟩ | ⟨h1, h2, h3⟩
  all_goals
    go_enter Try.func19, Try.ntmps19
    go_wp2_with fail
    refine (HS.out _).mono ?_
    rintro e w1 ⟨v, rfl, hO, hb⟩
    obtain ⟨p, cap, rfl, hL⟩ := own_lies hO (by have := hl.out; omega)
    have hI := index_any _ p cap by' w1 hL
    rw [hi.out] at hI
    have HI := Lib.hid hI
    have HB := Lib.hid hb
    clear hO hL hI hb
    go_wp2_with fail
    refine HI.out.mono ?_
    rintro e w2 ⟨rfl, rfl⟩
    go_wp2
    go_ret2
    exact ⟨rfl, HB.out⟩
theorem draw_yes (n st by' i r : Int) (hi : Hid (Lib.idxOf (strides n) by' = i)) (hl : Hid ((strides n).length ≤ 64)) (hr : Hid (wrap64 (wrap64 (i * n) + st) = r)) (h1 : 0 ≤ i) (h2 : 0 ≤ st) (h3 : st < n) (w : World) :
    Calls Try.prog 19 #[.int .i64 n, .int .i64 st, .int .i64 by'] w (Ans (.tuple #[.int .i64 r, .bool true]) w) := by
  have HS := Lib.hid (strides_any n)
  go_enter Try.func19, Try.ntmps19
  go_wp2_with fail
  refine (HS.out _).mono ?_
  rintro e w1 ⟨v, rfl, hO, hb⟩
  obtain ⟨p, cap, rfl, hL⟩ := own_lies hO (by have := hl.out; omega)
  have hI := index_any _ p cap by' w1 hL
  rw [hi.out] at hI
  have HI := Lib.hid hI
  have HB := Lib.hid hb
  clear hO hL hI hb
  go_wp2_with fail
  refine HI.out.mono ?_
  rintro e w2 ⟨rfl, rfl⟩
  go_wp2
  go_ret2
  rw [← hr.out]
  exact ⟨rfl, HB.out⟩
theorem draw_any (n st by' : Int) (w : World) :
    Calls Try.prog 19 #[.int .i64 n, .int .i64 st, .int .i64 by'] w (Ans (.tuple #[.int .i64 (drawN n st by'), .bool (drawOk n st by')]) w) := by
  cases h : drawOk n st by' with
  | true =>
    obtain ⟨m, i, s, D⟩ := drawnAt h
    obtain ⟨e, _, _⟩ := D.num
    rw [D.is h]
    exact draw_yes n st by' i _ D.ei (strides_len n) e (by omega) (by rw [D.es]; omega) (by rw [D.es, D.en]; have := D.s2; omega) w
  | false =>
    rw [drawN_no h]
    refine draw_no n st by' _ rfl (strides_len n) ?_ w
    unfold drawOk at h
    show drawI n st by' < 0 ∨ (0 ≤ drawI n st by' ∧ st < 0) ∨ (0 ≤ drawI n st by' ∧ 0 ≤ st ∧ n ≤ st)
    generalize drawI n st by' = i at *
    by_cases a : i < 0
    · exact .inl a
    · by_cases b : st < 0
      · exact .inr (.inl ⟨by omega, b⟩)
      · by_cases c : n ≤ st
        · exact .inr (.inr ⟨by omega, by omega, c⟩)
        · exfalso
          have a' : 0 ≤ i := by omega
          have b' : 0 ≤ st := by omega
          have c' : st < n := by omega
          simp [a', b', c'] at h
end Go.Proofs.Yteijfgckeipkhaa
