/- What an order is, in plain words: each place once, a stride apart, and begun again. -/
import Derived.Test.YteijfgckeipkhaaSh
namespace Go.Proofs.Yteijfgckeipkhaa
open Go.RowKit Go.Sd

/-- the place at i of the order from st by s -/
def el (n st s i : Nat) : Nat := (st + i * s) % n
theorem el_lt {n st s i : Nat} (h : 1 ≤ n) : el n st s i < n := Nat.mod_lt _ (by omega)
theorem ordS_el {n st s i : Nat} (h : i < n) : (ordS n st s).getD i 0 = ((el n st s i : Nat) : Int) := ordS_at n st s i h
theorem el_zero {n st s : Nat} (h : st < n) : el n st s 0 = st := by unfold el; rw [Nat.zero_mul, Nat.add_zero, Nat.mod_eq_of_lt h]
theorem el_one {n st s : Nat} : el n st s 1 = (st + s) % n := by unfold el; rw [Nat.one_mul]

/-- each place once -/
theorem el_inj {n st s i j : Nat} (hg : Nat.gcd s n = 1) (hi : i < n) (hj : j < n) (h : el n st s i = el n st s j) : i = j := by
  have key : ∀ a b : Nat, a ≤ b → b < n → (st + a * s) % n = (st + b * s) % n → a = b := by
    intro a b hab hb he
    have h1 : n ∣ (st + b * s) - (st + a * s) := Nat.dvd_of_mod_eq_zero (Nat.sub_mod_eq_zero_of_mod_eq he.symm)
    have h2 : (st + b * s) - (st + a * s) = (b - a) * s := by rw [Nat.sub_mul]; omega
    rw [h2] at h1
    have h3 : n ∣ b - a := Nat.Coprime.dvd_of_dvd_mul_right (show Nat.Coprime n s by unfold Nat.Coprime; rw [Nat.gcd_comm]; exact hg) h1
    rcases Nat.eq_zero_or_pos (b - a) with h4 | h4
    · omega
    · have := Nat.le_of_dvd h4 h3; omega
  unfold el at h
  rcases Nat.le_total i j with hij | hij
  · exact key i j hij hj h
  · exact (key j i hij hi h.symm).symm

/-- a stride apart: the numbers of one comparison -/
theorem el_step {n st s i : Nat} (h1 : 1 ≤ n) : ((((el n st s ((i + 1) % n) : Nat) : Int) - ((el n st s i : Nat) : Int) + n).tmod n) = ((s % n : Nat) : Int) := by
  have ha := el_lt (st := st) (s := s) (i := (i + 1) % n) h1
  have hb := el_lt (st := st) (s := s) (i := i) h1
  rw [Int.tmod_eq_emod_of_nonneg (by omega), Int.add_emod_right]
  have e1 : ((el n st s ((i + 1) % n) : Nat) : Int) = ((st : Int) + (((i : Int) + 1) % n) * s) % n := by unfold el; simp
  have e2 : ((el n st s i : Nat) : Int) = ((st : Int) + (i : Int) * s) % n := by unfold el; simp
  have e3 : ((st : Int) + (((i : Int) + 1) % n) * s) % n = ((st : Int) + ((i : Int) + 1) * s) % n := by
    rw [Int.add_emod, Int.mul_emod, Int.emod_emod, ← Int.mul_emod, ← Int.add_emod]
  rw [e1, e2, e3, ← Int.sub_emod]
  have : ((st : Int) + ((i : Int) + 1) * s - ((st : Int) + (i : Int) * s)) = s := by
    have : ((i : Int) + 1) * s = (i : Int) * s + s := by rw [Int.add_mul, Int.one_mul]
    omega
  rw [this]; simp
theorem stride_mod {n s : Nat} (hg : Nat.gcd s n = 1) (h1 : 1 ≤ s) (h2 : s ≤ n) (hn : 1 < n) : s % n = s := by
  apply Nat.mod_eq_of_lt
  rcases Nat.lt_or_ge s n with h | h
  · exact h
  · have e : s = n := by omega
    subst e
    rw [Nat.gcd_self] at hg; omega

theorem str_gcd {n q s : Nat} (hq : q < (str n n).length) (hs : (str n n).getD q 0 = (s : Int)) : Nat.gcd s n = 1 := by
  have hm : (str n n).getD q 0 ∈ str n n := by simp [List.getD, hq]
  obtain ⟨s', hs', _, _, h⟩ := str_mem.1 hm
  rw [hs] at hs'
  have : s = s' := by omega
  subst this; exact h
theorem Drawn.again {n : Nat} {d : Int} {all r st q s : Nat} (D : Drawn n d all r st q s) (c : Int) : Drawn n (d + c * all) all r st q s :=
  { D with num := by rw [Int.add_mul_emod_self_right]; exact D.num }
theorem Drawn.rem {n : Nat} {d : Int} {all r st q s : Nat} (D : Drawn n d all r st q s) (h : 0 ≤ d) : d.tmod all = (r : Int) := by
  rw [Int.tmod_eq_emod_of_nonneg h, ← D.num]
  have := Int.emod_nonneg d (show (all : Int) ≠ 0 by have := D.lt; omega)
  omega
/-- the place of a stride among the strides -/
theorem idx_at {n q s : Nat} (hq : q < (str n n).length) (hs : (str n n).getD q 0 = (s : Int)) : Lib.idxOf (str n n) (s : Int) = (q : Int) := by
  rcases idx_cases (str n n) (s : Int) with ⟨_, h⟩ | ⟨k, hk, e, h⟩
  · exact absurd hs (h q hq)
  · rw [e]
    have nd := str_nodup n n
    have : k = q := by
      have e1 : (str n n)[k] = (str n n)[q] := by
        have a : (str n n)[k] = (s : Int) := by rw [← h]; simp [List.getD, hk]
        have b : (str n n)[q] = (s : Int) := by rw [← hs]; simp [List.getD, hq]
        rw [a, b]
      unfold List.Nodup at nd
      rw [List.pairwise_iff_getElem] at nd
      rcases Nat.lt_trichotomy k q with h' | h' | h'
      · exact absurd e1 (nd k q hk hq h')
      · exact h'
      · exact absurd e1.symm (nd q k hq hk h')
    omega
theorem Drawn.back {n : Nat} {d : Int} {all r st q s : Nat} (D : Drawn n d all r st q s) (h1 : 1 ≤ n) (h2 : n ≤ 64) : drawN n st s = (r : Int) ∧ drawOk n st s = true := by
  have hi : drawI n st s = (q : Int) := by unfold drawI; rw [strides_in h2]; exact idx_at D.ql D.es
  have hst : st < n := by rw [← D.est]; exact Nat.mod_lt _ (by omega)
  have hok : drawOk n st s = true := by
    unfold drawOk; rw [hi]
    simp; exact hst
  refine ⟨?_, hok⟩
  unfold drawN; rw [if_pos hok, hi]
  have := Nat.div_add_mod r n
  rw [D.est, D.eq] at this
  have e : (q : Int) * n = ((n * q : Nat) : Int) := by rw [Nat.mul_comm]; simp
  rw [e]; omega

/-- is it a draw? as the law asks it -/
theorem ok_iff {n : Nat} {st by' : Int} (h1 : 1 ≤ n) (h2 : n ≤ 64) : drawOk n st by' = true ↔ (0 ≤ st ∧ st < n ∧ 1 ≤ by' ∧ by' ≤ n ∧ Nat.gcd by'.toNat n = 1) := by
  unfold drawOk drawI
  rw [strides_in h2]
  simp only [Bool.and_eq_true, decide_eq_true_eq]
  have hm : (0 ≤ Lib.idxOf (str n n) by') ↔ by' ∈ str n n := by
    rcases idx_cases (str n n) by' with ⟨e, h⟩ | ⟨k, hk, e, h⟩
    · constructor
      · intro h0; omega
      · intro h0
        obtain ⟨j, hj, e2⟩ := List.getElem_of_mem h0
        exact absurd (by simp [List.getD, hj, e2]) (h j hj)
    · constructor
      · intro _
        rw [← h]; simp [List.getD, hk]
      · intro _; omega
  rw [hm, str_mem]
  constructor
  · rintro ⟨⟨⟨s, rfl, a, b, c⟩, d⟩, e⟩
    exact ⟨d, e, by omega, by omega, by simpa using c⟩
  · rintro ⟨a, b, c, d, e⟩
    exact ⟨⟨⟨by'.toNat, by omega, by omega, by omega, e⟩, a⟩, b⟩
theorem DrawnAt.drawn {n : Nat} {st by' : Int} {m i s : Nat} (D : DrawnAt n st by' m i s) : ∃ all b, Drawn m ((i * m + s : Nat) : Int) all (i * m + s) s i b ∧ by' = (b : Int) ∧ orders n = (all : Int) := by
  obtain ⟨_, hlt, _⟩ := D.num
  have hm : by' ∈ str m m := by rw [← D.eg]; simp [List.getD, D.i2]
  obtain ⟨b, hb, a1, a2, _⟩ := str_mem.1 hm
  have en := D.en
  have e : n = m := by omega
  have h3 := orders_nat D.m2
  refine ⟨m * (str m m).length, b, ⟨h3, ?_, hlt, ?_, ?_, by rw [D.eg, hb], a1, a2, D.i2, rfl⟩, hb, by rw [e]; exact h3⟩
  · rw [Int.emod_eq_of_lt (by omega) (by omega)]; omega
  · rw [Nat.add_comm, Nat.add_mul_mod_self_right, Nat.mod_eq_of_lt D.s2]
  · rw [Nat.add_comm, Nat.add_mul_div_right _ _ (by have := D.m1; omega), Nat.div_eq_of_lt D.s2, Nat.zero_add]
end Go.Proofs.Yteijfgckeipkhaa
