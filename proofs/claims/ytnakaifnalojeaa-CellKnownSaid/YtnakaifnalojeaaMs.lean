/- Plain: a memory's cells and number of accesses, as the reference goes (layer 6). -/
import Derived.Test.YtnakaifnalojeaaMq
namespace Go.Ce

theorem set_same (cs : List Int) (i : Nat) : cs.set i (cs.getD i 0) = cs := by
  by_cases h : i < cs.length
  · simp [List.getD, h]
  · rw [List.set_eq_of_length_le (by omega)]
theorem go_load {m : PM} {a o x : Int} (h : m.Has a) : (m.go 1 a o x).cs = m.cs ∧ (m.go 1 a o x).k.ops = m.k.ops + 1 := by
  have e : m.go 1 a o x = m.acc 1 a (m.at a) { m.k with l := m.k.l + 1 } := by unfold PM.go; rw [if_pos rfl, load_yes h]
  rw [e]
  exact ⟨set_same m.cs a.toNat, by simp only [PM.acc, Cnt.ops]; omega⟩
theorem go_store {m : PM} {a o x : Int} (h : m.Has a) : (m.go 2 a o x).cs = m.cs.set a.toNat x ∧ (m.go 2 a o x).k.ops = m.k.ops + 1 := by
  have e : m.go 2 a o x = m.acc 2 a x { m.k with s := m.k.s + 1 } := by unfold PM.go; rw [if_neg (by decide), if_pos rfl, store_yes h]
  rw [e]
  exact ⟨rfl, by simp only [PM.acc, Cnt.ops]; omega⟩
theorem go_hit {m : PM} {a o x : Int} (h : m.Has a) (he : m.at a = o) : (m.go 3 a o x).cs = m.cs.set a.toNat x ∧ (m.go 3 a o x).k.ops = m.k.ops + 1 := by
  have e : m.go 3 a o x = m.acc 3 a x { m.k with w := m.k.w + 1 } := by unfold PM.go; rw [if_neg (by decide), if_neg (by decide), if_pos rfl, cas_hit h he]
  rw [e]
  exact ⟨rfl, by simp only [PM.acc, Cnt.ops]; omega⟩
theorem go_miss {m : PM} {a o x : Int} (h : m.Has a) (he : m.at a ≠ o) : (m.go 3 a o x).cs = m.cs ∧ (m.go 3 a o x).k.ops = m.k.ops + 1 := by
  have e : m.go 3 a o x = m.acc 3 a (m.at a) { m.k with f := m.k.f + 1 } := by unfold PM.go; rw [if_neg (by decide), if_neg (by decide), if_pos rfl, cas_miss h he]
  rw [e]
  exact ⟨set_same m.cs a.toNat, by simp only [PM.acc, Cnt.ops]; omega⟩
theorem go_add {m : PM} {a o x : Int} (h : m.Has a) : (m.go 4 a o x).cs = m.cs.set a.toNat (IntKind.u64.wrap (m.at a + x)) ∧ (m.go 4 a o x).k.ops = m.k.ops + 1 := by
  have e : m.go 4 a o x = m.acc 4 a (IntKind.u64.wrap (m.at a + x)) { m.k with a := m.k.a + 1 } := by unfold PM.go; rw [if_neg (by decide), if_neg (by decide), if_neg (by decide), if_pos rfl, add_yes h]
  rw [e]
  exact ⟨rfl, by simp only [PM.acc, Cnt.ops]; omega⟩
theorem go_not {m : PM} {k a o x : Int} (h : ¬ m.Has a ∨ (k ≠ 1 ∧ k ≠ 2 ∧ k ≠ 3 ∧ k ≠ 4)) : m.go k a o x = m := by
  unfold PM.go
  rcases h with hc | hc
  · rw [load_no hc, store_no hc, cas_no hc, add_no hc]; repeat' split
    all_goals rfl
  · rw [if_neg hc.1, if_neg hc.2.1, if_neg hc.2.2.1, if_neg hc.2.2.2]
end Go.Ce
