/- Plain: a memory as it lies (cells, counts, a ring of accesses), and how it goes beside the row of all accesses (layer 6). -/
import Derived.Test.YtnakaifnalojeaaMp
namespace Go.Ce

/-- counts -/
structure Cnt where
  l : Nat
  s : Nat
  w : Nat
  f : Nat
  a : Nat
def Cnt.ops (k : Cnt) : Nat := k.l + k.s + k.w + k.f + k.a
def cnt0 : Cnt := ⟨0, 0, 0, 0, 0⟩
/-- a memory: its cells, its counts, its ring -/
structure PM where
  cs : List Int
  k : Cnt
  L : List Acc
def PM.new (N : Nat) : PM := ⟨List.replicate N 0, cnt0, List.replicate 256 default⟩
/-- is there such an address? -/
def PM.Has (m : PM) (a : Int) : Prop := 0 ≤ a ∧ a < m.cs.length
instance (m : PM) (a : Int) : Decidable (m.Has a) := by unfold PM.Has; infer_instance
def PM.at (m : PM) (a : Int) : Int := m.cs.getD a.toNat 0
/-- behind an access that leaves v, with new counts -/
def PM.acc (m : PM) (kind a v : Int) (j : Cnt) : PM := ⟨m.cs.set a.toNat v, j, m.L.set (m.k.ops % 256) ⟨kind, a, m.at a, v⟩⟩
def PM.load (m : PM) (a : Int) : PM := if m.Has a then m.acc 1 a (m.at a) { m.k with l := m.k.l + 1 } else m
def PM.store (m : PM) (a v : Int) : PM := if m.Has a then m.acc 2 a v { m.k with s := m.k.s + 1 } else m
def PM.cas (m : PM) (a old v : Int) : PM := if m.Has a then (if m.at a = old then m.acc 3 a v { m.k with w := m.k.w + 1 } else m.acc 3 a (m.at a) { m.k with f := m.k.f + 1 }) else m
def PM.add (m : PM) (a d : Int) : PM := if m.Has a then m.acc 4 a (IntKind.u64.wrap (m.at a + d)) { m.k with a := m.k.a + 1 } else m
def PM.ans (m : PM) (a : Int) : Int := if m.Has a then m.at a else 0
def PM.hit (m : PM) (a old : Int) : Prop := m.Has a ∧ m.at a = old
instance (m : PM) (a old : Int) : Decidable (m.hit a old) := by unfold PM.hit; infer_instance
/-- what one call does -/
def PM.go (m : PM) (kind a old x : Int) : PM := if kind = 1 then m.load a else if kind = 2 then m.store a x else if kind = 3 then m.cas a old x else if kind = 4 then m.add a x else m

theorem acc_len (m : PM) (kind a v : Int) (j : Cnt) : (m.acc kind a v j).cs.length = m.cs.length ∧ (m.acc kind a v j).L.length = m.L.length := by unfold PM.acc; simp
theorem load_no {m : PM} {a : Int} (h : ¬ m.Has a) : m.load a = m := by unfold PM.load; rw [if_neg h]
theorem load_yes {m : PM} {a : Int} (h : m.Has a) : m.load a = m.acc 1 a (m.at a) { m.k with l := m.k.l + 1 } := by unfold PM.load; rw [if_pos h]
theorem store_no {m : PM} {a : Int} (h : ¬ m.Has a) (v : Int) : m.store a v = m := by unfold PM.store; rw [if_neg h]
theorem store_yes {m : PM} {a : Int} (h : m.Has a) (v : Int) : m.store a v = m.acc 2 a v { m.k with s := m.k.s + 1 } := by unfold PM.store; rw [if_pos h]
theorem cas_no {m : PM} {a : Int} (h : ¬ m.Has a) (old v : Int) : m.cas a old v = m := by unfold PM.cas; rw [if_neg h]
theorem cas_hit {m : PM} {a : Int} (h : m.Has a) {old : Int} (he : m.at a = old) (v : Int) : m.cas a old v = m.acc 3 a v { m.k with w := m.k.w + 1 } := by unfold PM.cas; rw [if_pos h, if_pos he]
theorem cas_miss {m : PM} {a : Int} (h : m.Has a) {old : Int} (he : m.at a ≠ old) (v : Int) : m.cas a old v = m.acc 3 a (m.at a) { m.k with f := m.k.f + 1 } := by unfold PM.cas; rw [if_pos h, if_neg he]
theorem add_no {m : PM} {a : Int} (h : ¬ m.Has a) (d : Int) : m.add a d = m := by unfold PM.add; rw [if_neg h]
theorem add_yes {m : PM} {a : Int} (h : m.Has a) (d : Int) : m.add a d = m.acc 4 a (IntKind.u64.wrap (m.at a + d)) { m.k with a := m.k.a + 1 } := by unfold PM.add; rw [if_pos h]
theorem go_len (m : PM) (kind a old x : Int) : (m.go kind a old x).cs.length = m.cs.length := by
  unfold PM.go PM.load PM.store PM.cas PM.add
  repeat' split
  all_goals first | rfl | exact (acc_len ..).1
theorem go_ll (m : PM) (kind a old x : Int) : (m.go kind a old x).L.length = m.L.length := by
  unfold PM.go PM.load PM.store PM.cas PM.add
  repeat' split
  all_goals first | rfl | exact (acc_len ..).2
theorem go_ops (m : PM) (kind a old x : Int) : (m.go kind a old x).k.ops ≤ m.k.ops + 1 ∧ m.k.ops ≤ (m.go kind a old x).k.ops := by
  unfold PM.go PM.load PM.store PM.cas PM.add PM.acc
  repeat' split
  all_goals (simp only [Cnt.ops]; omega)

/-- beside all accesses -/
structure Tied (m : PM) (N : Nat) (xs : List Acc) : Prop where
  len : m.cs.length = N
  ll : m.L.length = 256
  ops : m.k.ops = xs.length
  cs : ∀ i : Nat, i < N → m.cs.getD i 0 = atV xs i
  log : ∀ j, j < xs.length → xs.length ≤ j + 256 → m.L.getD (j % 256) default = xs.getD j default
  inn : InN N xs
theorem Tied.new (N : Nat) : Tied (PM.new N) N [] := by
  refine ⟨List.length_replicate .., List.length_replicate .., rfl, fun i hi => ?_, fun j hj => by simp at hj, fun x hx => by simp at hx⟩
  show (List.replicate N (0 : Int)).getD i 0 = 0
  simp [List.getD, hi]
theorem Tied.has {m : PM} {N : Nat} {xs : List Acc} (h : Tied m N xs) (a : Int) : m.Has a ↔ 0 ≤ a ∧ a < N := by unfold PM.Has; rw [h.len]
theorem Tied.at {m : PM} {N : Nat} {xs : List Acc} (h : Tied m N xs) {a : Int} (ha : 0 ≤ a ∧ a < N) : m.at a = atV xs a := by
  unfold PM.at; rw [h.cs _ (by omega), Int.toNat_of_nonneg ha.1]
theorem Tied.more {m : PM} {N : Nat} {xs : List Acc} (h : Tied m N xs) {a : Int} (ha : 0 ≤ a ∧ a < N) (kind v : Int) (j : Cnt) (hj : j.ops = m.k.ops + 1) : Tied (m.acc kind a v j) N (xs ++ [⟨kind, a, atV xs a, v⟩]) := by
  have hat := h.at ha
  refine ⟨by rw [(acc_len ..).1, h.len], by rw [(acc_len ..).2, h.ll], by show j.ops = _; rw [hj, h.ops]; simp, fun i hi => ?_, fun q hq hq2 => ?_, fun x hx => ?_⟩
  · show (m.cs.set a.toNat v).getD i 0 = _
    rw [atV_more]
    by_cases e : a = i
    · rw [if_pos (show (⟨kind, a, atV xs a, v⟩ : Acc).a = i from e)]
      have : a.toNat = i := by omega
      rw [this]; simp [List.getD, h.len, hi]
    · rw [if_neg (show ¬ (⟨kind, a, atV xs a, v⟩ : Acc).a = i from e), ← h.cs i hi]
      have : a.toNat ≠ i := by omega
      simp [List.getD, this]
  · simp only [List.length_append, List.length_singleton] at hq hq2
    show (m.L.set (m.k.ops % 256) ⟨kind, a, m.at a, v⟩).getD (q % 256) default = _
    rw [hat, h.ops]
    by_cases e : q = xs.length
    · subst e
      have : xs.length % 256 < m.L.length := by rw [h.ll]; omega
      simp [List.getD, this]
    · have h1 : xs.length % 256 ≠ q % 256 := by omega
      have h2 := h.log q (by omega) (by omega)
      rw [List.getD_eq_getElem?_getD, List.getElem?_set_ne h1, ← List.getD_eq_getElem?_getD, h2]
      have : q < xs.length := by omega
      simp [List.getD, this, List.getElem?_append_left]
  · rcases List.mem_append.1 hx with hx | hx
    · exact h.inn x hx
    · simp at hx; subst hx; exact ha
/-- one call, and the reference's -/
theorem Tied.go {m : PM} {N : Nat} {xs : List Acc} (h : Tied m N xs) (kind a old x : Int) : Tied (m.go kind a old x) N (doL N xs kind a old x) := by
  by_cases hb : Bad N kind a
  · rw [doL_bad hb]
    have hc : ¬ m.Has a ∨ (kind ≠ 1 ∧ kind ≠ 2 ∧ kind ≠ 3 ∧ kind ≠ 4) := by rw [h.has]; unfold Bad at hb; omega
    have : m.go kind a old x = m := by
      unfold PM.go
      rcases hc with hc | hc
      · rw [load_no hc, store_no hc, cas_no hc, add_no hc]; repeat' split
        all_goals rfl
      · rw [if_neg hc.1, if_neg hc.2.1, if_neg hc.2.2.1, if_neg hc.2.2.2]
    rw [this]; exact h
  · rw [doL_ok hb]
    have ha : 0 ≤ a ∧ a < N := by unfold Bad at hb; omega
    have hh : m.Has a := (h.has a).2 ha
    have hat := h.at ha
    have hk : kind = 1 ∨ kind = 2 ∨ kind = 3 ∨ kind = 4 := by unfold Bad at hb; omega
    rcases hk with rfl | rfl | rfl | rfl
    · have e : m.go 1 a old x = m.acc 1 a (atV xs a) { m.k with l := m.k.l + 1 } := by unfold PM.go; rw [if_pos rfl, load_yes hh, hat]
      have e2 : accV xs 1 a old x = ⟨1, a, atV xs a, atV xs a⟩ := by unfold accV; simp
      rw [e, e2]; exact h.more ha _ _ _ (by simp only [Cnt.ops]; omega)
    · have e : m.go 2 a old x = m.acc 2 a x { m.k with s := m.k.s + 1 } := by unfold PM.go; rw [if_neg (by decide), if_pos rfl, store_yes hh]
      have e2 : accV xs 2 a old x = ⟨2, a, atV xs a, x⟩ := by unfold accV; simp
      rw [e, e2]; exact h.more ha _ _ _ (by simp only [Cnt.ops]; omega)
    · by_cases he : atV xs a = old
      · have e : m.go 3 a old x = m.acc 3 a x { m.k with w := m.k.w + 1 } := by unfold PM.go; rw [if_neg (by decide), if_neg (by decide), if_pos rfl, cas_hit hh (by rw [hat]; exact he)]
        have e2 : accV xs 3 a old x = ⟨3, a, atV xs a, x⟩ := by unfold accV; simp [he]
        rw [e, e2]; exact h.more ha _ _ _ (by simp only [Cnt.ops]; omega)
      · have e : m.go 3 a old x = m.acc 3 a (atV xs a) { m.k with f := m.k.f + 1 } := by unfold PM.go; rw [if_neg (by decide), if_neg (by decide), if_pos rfl, cas_miss hh (by rw [hat]; exact he), hat]
        have e2 : accV xs 3 a old x = ⟨3, a, atV xs a, atV xs a⟩ := by unfold accV; simp [he]
        rw [e, e2]; exact h.more ha _ _ _ (by simp only [Cnt.ops]; omega)
    · have e : m.go 4 a old x = m.acc 4 a (IntKind.u64.wrap (atV xs a + x)) { m.k with a := m.k.a + 1 } := by unfold PM.go; rw [if_neg (by decide), if_neg (by decide), if_neg (by decide), if_pos rfl, add_yes hh, hat]
      have e2 : accV xs 4 a old x = ⟨4, a, atV xs a, IntKind.u64.wrap (atV xs a + x)⟩ := by unfold accV; simp
      rw [e, e2]; exact h.more ha _ _ _ (by simp only [Cnt.ops]; omega)
/-- the cells are the reference's -/
theorem Tied.all {m : PM} {N : Nat} {xs : List Acc} (h : Tied m N xs) : m.cs = allV N xs := by
  apply List.ext_getElem?
  intro i
  by_cases hi : i < N
  · have h1 := h.cs i hi
    rw [← allV_at h.inn i hi] at h1
    have l1 : i < m.cs.length := by rw [h.len]; exact hi
    have l2 : i < (allV N xs).length := by rw [allV_length]; exact hi
    simpa [List.getD, l1, l2] using h1
  · rw [List.getElem?_eq_none (by rw [h.len]; omega), List.getElem?_eq_none (by rw [allV_length]; omega)]
/-- what is answered -/
theorem Tied.ans {m : PM} {N : Nat} {xs : List Acc} (h : Tied m N xs) (kind a old x : Int) (hk : 1 ≤ kind ∧ kind ≤ 4) : m.ans a = (doE N xs kind a old x).o := by
  unfold PM.ans
  by_cases ha : 0 ≤ a ∧ a < N
  · rw [if_pos ((h.has a).2 ha), h.at ha, doE_ok (by unfold Bad; omega)]; rfl
  · rw [if_neg (fun hh => ha ((h.has a).1 hh)), doE_bad (by unfold Bad; omega)]
theorem Tied.hit {m : PM} {N : Nat} {xs : List Acc} (h : Tied m N xs) (a old x : Int) : m.hit a old ↔ (¬ Bad N 3 a ∧ (doE N xs 3 a old x).k = 3 ∧ (doE N xs 3 a old x).o = old) := by
  unfold PM.hit
  by_cases ha : 0 ≤ a ∧ a < N
  · have hb : ¬ Bad N 3 a := by unfold Bad; omega
    rw [doE_ok hb, h.at ha, h.has]
    show _ ↔ _ ∧ (3 : Int) = 3 ∧ atV xs a = old
    simp [ha, hb]
  · have hb : Bad N 3 a := by unfold Bad; omega
    rw [h.has]; simp [ha, hb]
end Go.Ce
