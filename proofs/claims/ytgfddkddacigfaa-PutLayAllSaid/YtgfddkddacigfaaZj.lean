/- A put's New; all that is asked of the code's put (layer 9). -/
import Derived.Test.YtgfddkddacigfaaZi
set_option linter.unusedSimpArgs false
set_option linter.unusedVariables false
namespace Go.Proofs.Ytgfddkddacigfaa
open Go.RowKit Go.Cg Go.Pu Go.Wd Go.Ce

/-- a put just made -/
theorem put_made {w W1 : World} {C : Cfg} {P g : Int} {A : Nat} {X : PS} (hb : Below w.heap.size w W1) (ok : X.Ok) (hA : X.a = A) (h1 : X.a ≠ 0 → C = X.c ∧ P = X.p ∧ g = X.g ∧ 0 = X.w ∧ X.h = [X.g]) (hov : X.over = []) (hh : X.h.length ≤ 40) (h2 : X.a ≤ 1) :
    MadeP PutIs X w (.returned (pptr W1.heap.size)) (W1.alloc (.cells (ptV C P A 0 0 g (List.replicate 32 0) (.slice none 0 0)).toArray 78)) := by
  have hr := Row.new W1 78 (ptV C P A 0 0 g (List.replicate 32 0) (.slice none 0 0))
  refine ⟨W1.heap.size, fun k => k = W1.heap.size, rfl, ⟨⟨C, P, 0, 0, g, List.replicate 32 0, .slice none 0 0, ⟨by rw [hA]; exact hr, by simp, by rw [hov]; exact SlIs.nil _ _, h1, hh, fun e => by omega, fun e => by omega⟩⟩, rfl, fun k hk => by rw [hk]; simp, ok⟩, fun k hk => by rw [hk]; exact hb.size, hb.alloc hb.size _⟩
theorem zero_fits : PS.zero.Ok ∧ PS.zero.a = 0 ∧ PS.zero.over = [] ∧ PS.zero.h.length ≤ 40 := by
  refine ⟨?_, rfl, rfl, by decide⟩
  have := newP_ok cfg0 0 0
  rw [show newP cfg0 0 0 = PS.zero by unfold newP; rw [if_neg (by rintro ⟨h, -⟩; have := (thB_iff.1 h).2; have e : cfg0.n = 0 := rfl; omega)]] at this
  exact this
theorem new_zero {w : World} {c : Cfg} {p g : Int} {X : PS} (HX : Hid (newP c p g = X)) (HB : Hid (Below w.heap.size w (w.alloc (.cells (cCells c).toArray 23)))) (hg : g < 0) :
    MadeP PutIs X w (.returned (pptr (w.heap.size + 1))) ((w.alloc (.cells (cCells c).toArray 23)).alloc (.cells (ptV cfg0 0 0 0 0 0 (List.replicate 32 0) (.slice none 0 0)).toArray 78)) := by
  have hX : PS.zero = X := by rw [← HX.out]; unfold newP; rw [if_neg (by rintro ⟨-, h⟩; omega)]
  subst hX
  have h := put_made (w := w) (W1 := w.alloc (.cells (cCells c).toArray 23)) (C := cfg0) (P := 0) (g := 0) HB.out zero_fits.1 zero_fits.2.1 (fun e => absurd zero_fits.2.1 e) zero_fits.2.2.1 zero_fits.2.2.2 (by rw [zero_fits.2.1]; omega)
  rw [show (w.alloc (.cells (cCells c).toArray 23)).heap.size = w.heap.size + 1 by simp] at h
  exact h
theorem new_some {w w3 : World} {c C : Cfg} {p g P : Int} {A : Nat} {X : PS} (HX : Hid (newP c p g = X)) (HC : Hid ((thB c p = true ∧ C = c ∧ P = p ∧ A = 1) ∨ (thB c p = false ∧ A = 0))) (HB : Hid (Below w.heap.size w (w.alloc (.cells (cCells c).toArray 23)))) (HB3 : Hid (Below (w.alloc (.cells (cCells c).toArray 23)).heap.size (w.alloc (.cells (cCells c).toArray 23)) w3)) (hg : ¬ g < 0) :
    MadeP PutIs X w (.returned (pptr w3.heap.size)) (w3.alloc (.cells (ptV C P A 0 0 g (List.replicate 32 0) (.slice none 0 0)).toArray 78)) := by
  have hb := HB.out.trans (HB3.out.mono HB.out.size)
  have ok : X.Ok := by rw [← HX.out]; exact newP_ok c p g
  have hX := HX.out
  unfold newP at hX
  have hcs := HC.out
  rcases hcs with ⟨h1, rfl, rfl, rfl⟩ | ⟨h1, rfl⟩
  · rw [if_pos ⟨h1, by omega⟩] at hX
    obtain ⟨q1, q2, q3, q4, q5, q6, q7⟩ := ps_parts hX.symm
    exact put_made hb ok q4 (fun _ => ⟨q1.symm, q2.symm, q3.symm, q5.symm, by rw [q7, q3]⟩) (over0 (by omega)) (by rw [q7]; simp) (by omega)
  · rw [if_neg (by rw [h1]; rintro ⟨h, -⟩; cases h)] at hX
    subst hX
    exact put_made hb ok rfl (fun e => absurd rfl e) zero_fits.2.2.1 zero_fits.2.2.2 (Nat.zero_le _)
set_option maxRecDepth 20000 in
set_option maxHeartbeats 2000000 in
theorem pnew_any (c : Cfg) (p g : Int) (w : World) : Calls Try.prog 12 #[cVal c, .int .i64 p, .int .i64 g] w (MadeP PutIs (newP c p g) w) := by
  obtain ⟨C, P, A, hC, hcs⟩ : ∃ (C : Cfg) (P : Int) (A : Nat), (if thB c p = true then rgVal c p 1 0 0 else rgVal cfg0 0 0 0 0) = rgVal C P A 0 0 ∧ ((thB c p = true ∧ C = c ∧ P = p ∧ A = 1) ∨ (thB c p = false ∧ A = 0)) := by
    cases h : thB c p with
    | true => exact ⟨c, p, 1, by rw [if_pos rfl]; rfl, .inl ⟨rfl, rfl, rfl, rfl⟩⟩
    | false => exact ⟨cfg0, 0, 0, by rw [if_neg (by decide)]; rfl, .inr ⟨rfl, rfl⟩⟩
  have HR := Lib.hid (fun W => ringof_any c p W)
  rw [hC] at HR
  have HCs := Lib.hid hcs
  clear hC hcs
  obtain ⟨X, hX⟩ : ∃ X, newP c p g = X := ⟨_, rfl⟩
  rw [hX]
  have HX := Lib.hid hX
  have hbx := (Below.refl w.heap.size w).alloc (Nat.le_refl _) (.cells (cCells c).toArray 23)
  have hrx := Row.new w 23 (cCells c)
  obtain ⟨n, q, g', m, t, s⟩ := c
  change Hid (∀ W, Calls Try.prog 49 #[.agg #[.int .i64 n, .int .i64 q, .int .i64 g', .int .i64 m, .int .i64 t, .int .i64 s], .int .i64 p] W _) at HR
  show Calls _ _ #[.agg #[.int .i64 n, .int .i64 q, .int .i64 g', .int .i64 m, .int .i64 t, .int .i64 s], .int .i64 p, .int .i64 g] _ _
  change Below w.heap.size w (w.alloc (.cells #[.int .i64 n, .int .i64 q, .int .i64 g', .int .i64 m, .int .i64 t, .int .i64 s] 23)) at hbx
  change Row w.heap.size 23 [.int .i64 n, .int .i64 q, .int .i64 g', .int .i64 m, .int .i64 t, .int .i64 s] (w.alloc (.cells #[.int .i64 n, .int .i64 q, .int .i64 g', .int .i64 m, .int .i64 t, .int .i64 s] 23)) at hrx
  have HB := Lib.hid hbx
  have c0 := hrx.cell 0
  have c1 := hrx.cell 1
  have c2 := hrx.cell 2
  have c3 := hrx.cell 3
  have c4 := hrx.cell 4
  have c5 := hrx.cell 5
  simp only [List.getElem?_cons_zero, List.getElem?_cons_succ] at c0 c1 c2 c3 c4 c5
  clear hX hbx hrx
  by_cases hg : g < 0
  · go_enter Try.func12, Try.ntmps12
    go_wp2_with fail
    go_ret
    exact new_zero HX HB hg
  · obtain ⟨N, Q, G, M, T, U⟩ := C
    have HR2 : Hid (∀ W, Calls Try.prog 49 #[.agg #[.int .i64 n, .int .i64 q, .int .i64 g', .int .i64 m, .int .i64 t, .int .i64 s], .int .i64 p] W (Ans (.agg #[.int .i64 N, .int .i64 Q, .int .i64 G, .int .i64 M, .int .i64 T, .int .i64 U, .int .i64 P, .int .i64 (A : Int), .int .u64 0, .int .i64 0]) W)) := HR
    clear HR
    go_enter Try.func12, Try.ntmps12
    go_upto_region 3 with (fail)
    go_wp2_with (go_at_call 49; (with_reducible refine (HR2.out _).mono ?_); rintro e w3 ⟨rfl, hb3⟩; have HB3 := Lib.hid hb3; clear hb3 c0 c1 c2 c3 c4 c5)
    go_ret
    exact new_some HX HCs HB HB3 (by omega)
def thePut : PutApi where
  Is := PutIs
  lt := fun h => h.sl
  ok := fun h => h.ok
  tch := fun h ht hd => h.tch ht hd
  new_any := pnew_any
  step_any := fun h hm hd hu hk => pstep_any h hm hd hu hk
  done_any := fun h => (pdone_any h).mono (by rintro e w' ⟨rfl, rfl⟩; exact ⟨rfl, .refl _ _⟩)
  over_any := fun h => pover_any h
  hands_any := fun h => phands_any h
  step_nil := pstep_nil
  done_nil := fun w => (pdone_nil w).mono (by rintro e w' ⟨rfl, rfl⟩; exact ⟨rfl, .refl _ _⟩)
  over_nil := pover_nil
  hands_nil := phands_nil
end Go.Proofs.Ytgfddkddacigfaa
