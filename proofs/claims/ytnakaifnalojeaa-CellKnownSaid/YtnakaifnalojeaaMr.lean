/- Plain: a row of accesses that happened, done again, makes the same (layer 6). -/
import Derived.Test.YtnakaifnalojeaaMq
namespace Go.Ce

theorem wrap64 (n : Int) : IntKind.u64.wrap n = n % 18446744073709551616 := by simp [IntKind.wrap, IntKind.bits, IntKind.signed]
/-- accesses that happened, one behind the other, behind others -/
def Took (N : Int) : List Acc → List Acc → Prop
  | _, [] => True
  | ys, e :: zs => (¬ Bad N e.k e.a ∧ ∃ old x, e = accV ys e.k e.a old x) ∧ Took N (ys ++ [e]) zs
theorem took_append {N : Int} {ys : List Acc} (a b : List Acc) : Took N ys (a ++ b) ↔ Took N ys a ∧ Took N (ys ++ a) b := by
  induction a generalizing ys with
  | nil => simp [Took]
  | cons e a ih =>
    rw [List.cons_append]
    show (_ ∧ Took N (ys ++ [e]) (a ++ b)) ↔ (_ ∧ Took N (ys ++ [e]) a) ∧ _
    rw [ih, show ys ++ [e] ++ a = ys ++ e :: a by simp]
    exact ⟨fun ⟨h1, h2, h3⟩ => ⟨⟨h1, h2⟩, h3⟩, fun ⟨⟨h1, h2⟩, h3⟩ => ⟨h1, h2, h3⟩⟩
/-- one of them, done again, is it -/
theorem again_is {ys : List Acc} {k a old x : Int} (hk : k = 1 ∨ k = 2 ∨ k = 3 ∨ k = 4) (e : Acc) (he : e = accV ys k a old x) : accV ys e.k e.a e.o (tellV e) = e ∧ atV ys e.a = e.o ∧ (e.k = 1 → e.n = e.o) := by
  subst he
  refine ⟨?_, rfl, fun h1 => ?_⟩
  · unfold tellV accV
    simp only
    generalize atV ys a = v
    rcases hk with rfl | rfl | rfl | rfl
    · simp
    · simp
    · simp
    · simp only [show ¬ ((4 : Int) = 2) by decide, show ¬ ((4 : Int) = 3) by decide, false_and, or_self, if_false, if_true]
      congr 1
      have h := wrap64
      simp only [h]
      omega
  · have h1' : k = 1 := h1
    subst h1'
    unfold accV
    simp
theorem kinds_of {N k a : Int} (h : ¬ Bad N k a) : k = 1 ∨ k = 2 ∨ k = 3 ∨ k = 4 := by unfold Bad at h; omega
theorem redo_good {N : Int} (zs : List Acc) : ∀ ys, Took N ys zs → redoV N ys zs = (ys ++ zs, zs.length) := by
  induction zs with
  | nil => intro ys _; simp [redoV]
  | cons e zs ih =>
    intro ys h
    obtain ⟨⟨hb, old, x, he⟩, hg⟩ := h
    obtain ⟨h1, h2, h3⟩ := again_is (kinds_of hb) e he
    have hs : ¬ Stuck N ys e := by
      unfold Stuck
      rintro (h | h | h)
      · exact hb h
      · exact h h2
      · exact h.2 (h3 h.1)
    have hd : doL N ys e.k e.a e.o (tellV e) = ys ++ [e] := by rw [doL_ok hb, h1]
    rw [redoV_go hs, hd, ih _ hg]
    simp
/-- what calls do has happened -/
theorem calls_good {N : Int} (l : List Acc) : ∀ ys, ∃ zs, l.foldl (fun xs x => doL N xs x.k x.a x.o x.n) ys = ys ++ zs ∧ Took N ys zs := by
  induction l with
  | nil => intro ys; exact ⟨[], by simp, trivial⟩
  | cons x l ih =>
    intro ys
    rw [List.foldl_cons]
    by_cases hb : Bad N x.k x.a
    · rw [doL_bad hb]; exact ih ys
    · rw [doL_ok hb]
      obtain ⟨zs, h1, h2⟩ := ih (ys ++ [accV ys x.k x.a x.o x.n])
      refine ⟨accV ys x.k x.a x.o x.n :: zs, by rw [h1]; simp, ⟨⟨hb, x.o, x.n, rfl⟩, h2⟩⟩
theorem wrap_more (v : Int) : IntKind.u64.wrap (v + 1) ≠ v := by
  rw [wrap64]; omega
end Go.Ce
