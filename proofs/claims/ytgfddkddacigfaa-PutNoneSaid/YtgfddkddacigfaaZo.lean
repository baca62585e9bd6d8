/- Zero machines (layer 9's code); the law PutNone. -/
import Derived.Test.YtgfddkddacigfaaZn
import Derived.Test.YtgfddkddacigfaaLw
set_option linter.unusedSimpArgs false
set_option linter.unusedVariables false
namespace Go.Proofs.Ytgfddkddacigfaa
open Go.RowKit Go.Cg Go.Pu Go.Wd Go.Ce

theorem pstep_done {S : Nat → Prop} {w : World} {b : Nat} {x : PS} (h : PutIs S w b x) (h0 : x.a = 0) (v : Value) : Calls Try.prog 22 #[pptr b, v] w (Ans (.bool true) w) := by
  have HD := Lib.hid (pdone_any h)
  rw [decide_eq_true h0] at HD
  clear h h0
  go_enter Try.func22, Try.ntmps22
  go_wp2_with (go_at_call 18; (with_reducible refine HD.out.mono ?_); rintro e w3 ⟨rfl, rfl⟩)
  go_ret
  exact ⟨rfl, .refl _ _⟩
theorem lstep_done {S : Nat → Prop} {w : World} {b : Nat} {x : LS} (h : LayIs S w b x) (h0 : x.a = 0) (v : Value) : Calls Try.prog 29 #[pptr b, v] w (Ans (.bool true) w) := by
  have HD := Lib.hid (ldone_any h)
  rw [decide_eq_true h0] at HD
  clear h h0
  go_enter Try.func29, Try.ntmps29
  go_wp2_with (go_at_call 27; (with_reducible refine HD.out.mono ?_); rintro e w3 ⟨rfl, rfl⟩)
  go_ret
  exact ⟨rfl, .refl _ _⟩
/-- a zero put and a zero lay, laid one behind the other -/
theorem zeros (w : World) : ∃ S R W, ((w.alloc (.cells (ptV cfg0 0 0 0 0 0 (List.replicate 32 0) (.slice none 0 0)).toArray 78)).alloc (.cells (lyV cfg0 0 (0 : Nat) 0 0 (.slice none 0 0) 0).toArray 80)) = W ∧ PutIs S W w.heap.size PS.zero ∧ LayIs R W (w.heap.size + 1) LS.zero ∧ Below w.heap.size w W := by
  obtain ⟨b, S, e, h1, -, -⟩ := put_made (w := w) (W1 := w) (C := cfg0) (P := 0) (g := 0) (Below.refl _ _) zero_fits.1 zero_fits.2.1 (fun e => absurd zero_fits.2.1 e) zero_fits.2.2.1 zero_fits.2.2.2 (by rw [zero_fits.2.1]; omega)
  have eb : w.heap.size = b := by injection e with e; injection e with e; injection e with e; injection e with e
  subst eb
  have hb1 := (Below.refl w.heap.size w).alloc (Nat.le_refl _) (.cells (ptV cfg0 0 0 0 0 0 (List.replicate 32 0) (.slice none 0 0)).toArray 78)
  obtain ⟨W, hW⟩ : ∃ W, w.alloc (.cells (ptV cfg0 0 0 0 0 0 (List.replicate 32 0) (.slice none 0 0)).toArray 78) = W := ⟨_, rfl⟩
  have hs : W.heap.size = w.heap.size + 1 := by rw [← hW]; simp
  change Hid (PutIs S (w.alloc (.cells (ptV cfg0 0 0 0 0 0 (List.replicate 32 0) (.slice none 0 0)).toArray 78)) w.heap.size PS.zero) at h1
  rw [hW] at h1 hb1 ⊢
  have hb2 := (Below.refl W.heap.size W).alloc (Nat.le_refl _) (.cells (lyV cfg0 0 (0 : Nat) 0 0 (.slice none 0 0) 0).toArray 80)
  have hr := lay_row W cfg0 0 (0 : Nat)
  rw [← hs]
  exact ⟨S, fun k => k = W.heap.size, _, rfl, h1.out.on hb2, ⟨⟨cfg0, 0, 0, 0, .slice none 0 0, 0, ⟨hr, SlIs.nil _ _, fun e => absurd rfl e, fun e => absurd (show 0 = 2 from e) (by omega), fun e => absurd (show 0 = 2 ∨ 0 = 3 from e) (by omega), fun e => absurd (show 0 = 3 from e) (by omega)⟩⟩, rfl, fun k hk => by rw [hk]; exact hr.lt, lzero_ok⟩, hb1.trans (hb2.mono hb1.size)⟩
end Go.Proofs.Ytgfddkddacigfaa
