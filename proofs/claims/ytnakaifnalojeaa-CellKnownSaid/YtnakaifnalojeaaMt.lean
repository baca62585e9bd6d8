/- Plain: how many accesses of each kind there were, call by call (layer 6). -/
import Derived.Test.YtnakaifnalojeaaMs
import Derived.Test.YtnakaifnalojeaaMr
namespace Go.Ce

section
variable {m : PM} {N : Nat} {xs : List Acc} {k a o x : Int}
theorem has_ok (h : Tied m N xs) (hb : ¬ Bad N k a) : m.Has a := (h.has a).2 (by unfold Bad at hb; omega)
theorem cnt_bad (h : Tied m N xs) (hb : Bad N k a) : m.go k a o x = m := by
  refine go_not ?_
  by_cases ha : m.Has a
  · have := (h.has a).1 ha
    unfold Bad at hb
    exact .inr (by omega)
  · exact .inl ha
theorem cnt_1 (h : Tied m N xs) (hb : ¬ Bad N 1 a) : (m.go 1 a o x).k = { m.k with l := m.k.l + 1 } := by unfold PM.go; rw [if_pos rfl, load_yes (has_ok h hb)]; rfl
theorem cnt_2 (h : Tied m N xs) (hb : ¬ Bad N 2 a) : (m.go 2 a o x).k = { m.k with s := m.k.s + 1 } := by unfold PM.go; rw [if_neg (by decide), if_pos rfl, store_yes (has_ok h hb)]; rfl
theorem cnt_3 (h : Tied m N xs) (hb : ¬ Bad N 3 a) : (m.go 3 a o x).k = if (accV xs 3 a o x).o = o then { m.k with w := m.k.w + 1 } else { m.k with f := m.k.f + 1 } := by
  have hat : m.at a = (accV xs 3 a o x).o := h.at (by unfold Bad at hb; omega)
  unfold PM.go
  rw [if_neg (by decide), if_neg (by decide), if_pos rfl]
  by_cases he : m.at a = o
  · rw [cas_hit (has_ok h hb) he, if_pos (by rw [← hat]; exact he)]; rfl
  · rw [cas_miss (has_ok h hb) he, if_neg (by rw [← hat]; exact he)]; rfl
theorem cnt_4 (h : Tied m N xs) (hb : ¬ Bad N 4 a) : (m.go 4 a o x).k = { m.k with a := m.k.a + 1 } := by unfold PM.go; rw [if_neg (by decide), if_neg (by decide), if_neg (by decide), if_pos rfl, add_yes (has_ok h hb)]; rfl
end
theorem took_kinds {N : Int} (zs : List Acc) : ∀ ys, Took N ys zs → ∀ e ∈ zs, e.k ≠ 0 := by
  induction zs with
  | nil => intro ys _ e he; cases he
  | cons z zs ih =>
    intro ys h e he
    rcases List.mem_cons.1 he with rfl | he
    · have := kinds_of h.1.1; omega
    · exact ih _ h.2 e he
end Go.Ce
