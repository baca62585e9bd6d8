/- A clock, plain: its time, its laps, and the milliseconds that are added to it. -/
import Derived.Test.YtfigkoknhiabnaaDoorAWi
namespace Go.Proofs.YtfigkoknhiabnaaDoor
open Go.RowKit Go.Fm Go.Sm

/-- the span of some milliseconds, by bits; and its error -/
def nv (b : Nat) : Int := match Ieee.double.mul b C6 with | some p => nanV p | none => 0
def ne (b : Nat) : Int := match Ieee.double.mul b C6 with | some p => nanE p | none => 10
theorem nv_eq {b p : Nat} (h : Prd b p) : nanV p = nv b ∧ nanE p = ne b := by
  rcases h with h | ⟨h, hp⟩
  · unfold nv ne; rw [h]; exact ⟨rfl, rfl⟩
  · have hc : clsP p = 0 := by unfold clsP; rw [ge_nan hp]; rfl
    unfold nv ne nanV nanE; rw [h, if_pos hc, if_pos hc]; exact ⟨rfl, rfl⟩
theorem prd_ex (b : Nat) : ∃ p, Prd b p := by
  cases h : Ieee.double.mul b C6 with
  | some p => exact ⟨p, .inl h⟩
  | none => exact ⟨_, .inr ⟨h, cut_nan b C6 0⟩⟩
theorem ne_or (b : Nat) : ne b = 0 ∨ ne b = 10 := by
  obtain ⟨p, hp⟩ := prd_ex b
  rw [← (nv_eq hp).2]; unfold nanE; split
  · exact .inr rfl
  · exact .inl rfl
theorem nv_bd (b : Nat) : 0 ≤ nv b ∧ nv b ≤ 4611686018427387904 := by
  obtain ⟨p, hp⟩ := prd_ex b
  rw [← (nv_eq hp).1]; unfold nanV
  by_cases h0 : clsP p = 0
  · rw [if_pos h0]; omega
  · rw [if_neg h0]
    by_cases h4 : clsP p = 4
    · rw [if_pos h4]; omega
    · rw [if_neg h4]
      have := (fin_of_cls h0 h4).2
      generalize vv 0 (rg p) / U = T at *
      omega

/-- the time, n more -/
def plus (t n : Int) : Int := if n < 0 then t else if 4611686018427387904 < t + n then 4611686018427387904 else t + n
theorem plus_neg {t n : Int} (h : n < 0) : plus t n = t := by unfold plus; rw [if_pos h]
theorem plus_bd {t n : Int} (h1 : 0 ≤ t) (h2 : t ≤ 4611686018427387904) : 0 ≤ plus t n ∧ plus t n ≤ 4611686018427387904 ∧ t ≤ plus t n := by
  unfold plus; (repeat' split) <;> omega
theorem S_two {t n : Int} (h1 : 0 ≤ t) (h2 : t ≤ 4611686018427387904) (hn : 0 ≤ n) : S [t, n] = plus t n := by
  show sstep (sstep 0 t) n = _
  have e : sstep 0 t = t := by unfold sstep clampI; (repeat' split) <;> omega
  rw [e]; unfold sstep plus clampI; (repeat' split) <;> omega
/-- adding, as a sum goes on -/
theorem plus_step {t n : Int} (hn : 0 ≤ n) (h1 : 0 ≤ t) (h2 : t ≤ 4611686018427387904) : plus t n = sstep t n := by
  unfold sstep plus clampI; (repeat' split) <;> omega

/-- how many of these milliseconds have a span, from the first one on -/
def mk : List Nat → Nat
  | [] => 0
  | b :: r => if ne b = 0 then mk r + 1 else 0
/-- the time behind the first k -/
def mt (t : Int) (fs : List Nat) (k : Nat) : Int := (fs.take k).foldl (fun t b => plus t (nv b)) t
theorem mt_zero (t : Int) (fs : List Nat) : mt t fs 0 = t := rfl
theorem mt_more {t : Int} {fs : List Nat} {k : Nat} (h : k < fs.length) : mt t fs (k + 1) = plus (mt t fs k) (nv (fs.getD k 0)) := by
  unfold mt
  have e : fs.take (k + 1) = fs.take k ++ [fs.getD k 0] := by
    rw [List.take_succ_eq_append_getElem h]; congr 2; simp [List.getD, h]
  rw [e, List.foldl_append]; rfl
theorem mt_bd {t : Int} (h1 : 0 ≤ t) (h2 : t ≤ 4611686018427387904) (fs : List Nat) (k : Nat) : 0 ≤ mt t fs k ∧ mt t fs k ≤ 4611686018427387904 ∧ t ≤ mt t fs k := by
  unfold mt
  suffices H : ∀ (l : List Nat) (s : Int), 0 ≤ s → s ≤ 4611686018427387904 → 0 ≤ l.foldl (fun t b => plus t (nv b)) s ∧ l.foldl (fun t b => plus t (nv b)) s ≤ 4611686018427387904 ∧ s ≤ l.foldl (fun t b => plus t (nv b)) s by exact H _ _ h1 h2
  intro l
  induction l with
  | nil => intro s a b; exact ⟨a, b, Int.le_refl _⟩
  | cons x r ih =>
    intro s a b
    have hp := plus_bd (n := nv x) a b
    have := ih _ hp.1 hp.2.1
    exact ⟨this.1, this.2.1, Int.le_trans hp.2.2 this.2.2⟩
theorem mk_le (fs : List Nat) : mk fs ≤ fs.length := by
  induction fs with
  | nil => exact Nat.le_refl _
  | cons b r ih => unfold mk; split
                   · simp; omega
                   · simp
/-- all of the first k are good, the next one is not -/
theorem mk_at {fs : List Nat} {k : Nat} (hk : k < fs.length) (h : ∀ j, j < k → ne (fs.getD j 0) = 0) (hb : ne (fs.getD k 0) ≠ 0) : mk fs = k := by
  induction fs generalizing k with
  | nil => simp at hk
  | cons b r ih =>
    cases k with
    | zero =>
      have : ne b ≠ 0 := by simpa using hb
      unfold mk; rw [if_neg this]
    | succ k =>
      have h0 : ne b = 0 := by simpa using h 0 (by omega)
      have := ih (k := k) (by simpa using hk) (fun j hj => by simpa using h (j + 1) (by omega)) (by simpa using hb)
      unfold mk; rw [if_pos h0, this]
theorem mk_all {fs : List Nat} (h : ∀ j, j < fs.length → ne (fs.getD j 0) = 0) : mk fs = fs.length := by
  induction fs with
  | nil => rfl
  | cons b r ih =>
    have h0 : ne b = 0 := by simpa using h 0 (by simp)
    have := ih (fun j hj => by simpa using h (j + 1) (by simpa using hj))
    unfold mk; rw [if_pos h0, this]; rfl
/-- the error of them all -/
def me (fs : List Nat) : Int := if mk fs < fs.length then 10 else 0
theorem me_at {fs : List Nat} {k : Nat} (hk : k < fs.length) (h : ∀ j, j < k → ne (fs.getD j 0) = 0) (hb : ne (fs.getD k 0) ≠ 0) : me fs = ne (fs.getD k 0) := by
  unfold me; rw [mk_at hk h hb, if_pos hk]
  rcases ne_or (fs.getD k 0) with e | e
  · exact absurd e hb
  · exact e.symm
theorem me_all {fs : List Nat} (h : ∀ j, j < fs.length → ne (fs.getD j 0) = 0) : me fs = 0 := by
  unfold me; rw [mk_all h, if_neg (Nat.lt_irrefl _)]

/-- the laps, with one more: of more than 64 the oldest one is forgotten -/
def mark (l : List Int) (t : Int) : List Int := if 64 < l.length + 1 then (l ++ [t]).drop 1 else l ++ [t]
theorem mark_le {l : List Int} {t : Int} (h : l.length ≤ 64) : (mark l t).length ≤ 64 := by
  unfold mark; split
  · rw [List.length_drop, List.length_append]; simp; omega
  · rw [List.length_append]; simp; omega
/-- how much time is gone -/
def since (t n : Int) : Int := let m := if n < 0 then 0 else n; if t < m then 0 else t - m
end Go.Proofs.YtfigkoknhiabnaaDoor
