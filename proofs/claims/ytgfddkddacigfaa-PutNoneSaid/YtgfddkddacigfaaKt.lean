/- A lay and its memory (layer 9). -/
import Derived.Test.YtgfddkddacigfaaPa
import Derived.Test.YtgfddkddacigfaaKl
set_option linter.unusedSimpArgs false
set_option linter.unusedVariables false
namespace Go.Proofs.Ytgfddkddacigfaa
open Go.RowKit Go.Cg Go.Pu Go.Wd Go.Ce

/-- a lay and its memory, both made since w0; K: blocks that neither touches -/
structure PXL (D : LayApi) (K : Nat → Prop) (w0 W : World) (b mb mg : Nat) (x : LS) (m : PM) : Prop where
  is : ∃ S, D.Is S W b x ∧ (∀ k, S k → ¬ Own mb mg k) ∧ (∀ k, S k → w0.heap.size ≤ k) ∧ ∀ k, K k → ¬ S k
  mem : MemIs W mb mg m
  u : U64 m
  bel : Below w0.heap.size w0 W
  hb : w0.heap.size ≤ mb ∧ w0.heap.size ≤ mg
  kp : ∀ k, K k → k < W.heap.size ∧ ¬ Own mb mg k
section
variable {D : LayApi} {K : Nat → Prop} {w0 W W' : World} {b mb mg : Nat} {x x' : LS} {m m' : PM}
theorem PXL.on (h : PXL D K w0 W b mb mg x m) (hb : Below W.heap.size W W') : PXL D K w0 W' b mb mg x m := by
  obtain ⟨S, h1, h2, h3, h4⟩ := h.is
  exact ⟨⟨S, D.tch h1 (.of (fun _ => False) hb) (fun _ _ e => e), h2, h3, h4⟩, h.mem.on hb, h.u, h.bel.trans (hb.mono h.bel.size), h.hb, fun k hk => ⟨Nat.lt_of_lt_of_le (h.kp k hk).1 hb.size, (h.kp k hk).2⟩⟩
theorem PXL.ok (h : PXL D K w0 W b mb mg x m) : x.Ok := by
  obtain ⟨S, h1, -⟩ := h.is
  exact D.ok h1
/-- the memory is touched by others -/
theorem PXL.mem' (h : PXL D K w0 W b mb mg x m) (hm : MemIs W' mb mg m') (hu : U64 m') (ht : Tch (Own mb mg) W W') : PXL D K w0 W' b mb mg x m' := by
  obtain ⟨S, h1, h2, h3, h4⟩ := h.is
  exact ⟨⟨S, D.tch h1 ht h2, h2, h3, h4⟩, hm, hu, h.bel.trans (ht.below h.bel.size (fun k hk => by rcases hk with hk | hk <;> (have := h.hb; omega))), h.hb, fun k hk => ⟨Nat.lt_of_lt_of_le (h.kp k hk).1 ht.size, (h.kp k hk).2⟩⟩
theorem PXL.step {r : Bool} (h : PXL D K w0 W b mb mg x m) (hf : m.k.ops + 1 ≤ 1000000000) (h1 : (stepL x m).1 = x') (h2 : (stepL x m).2 = m') (h3 : decide (x'.a = 0) = r) :
    Calls Try.prog 29 #[pptr b, pptr mb] W (fun e w' => e = .returned (.bool r) ∧ Hid (PXL D K w0 w' b mb mg x' m') ∧ Hid (Tch (fun k => ¬ K k) W w')) := by
  obtain ⟨S, i1, i2, i3, i4⟩ := h.is
  refine (D.step_any i1 h.mem i2 h.u hf).mono ?_
  rintro e w' ⟨S', rfl, j1, j2, j3, j4⟩
  rw [h1] at j1 ⊢
  rw [h2] at j2
  have hlt := h.mem.lt
  have hu : U64 m' := by rw [← h2]; exact (lay_ok (D.ok i1) h.u).2.1
  refine ⟨by rw [h3], ⟨⟨S', j1.out, fun k hk e => ?_, fun k hk => ?_, fun k hk e => ?_⟩, j2.out, hu, h.bel.trans (j4.out.below h.bel.size (fun k hk => ?_)), h.hb, fun k hk => ⟨Nat.lt_of_lt_of_le (h.kp k hk).1 j4.out.size, (h.kp k hk).2⟩⟩, j4.out.wide (fun k hk e => ?_)⟩
  · rcases j3.out k hk with q | q
    · exact i2 k q e
    · rcases e with e | e <;> omega
  · rcases j3.out k hk with q | q
    · exact i3 k q
    · exact Nat.le_trans h.bel.size q
  · rcases j3.out k e with q | q
    · exact i4 k hk q
    · have := (h.kp k hk).1; omega
  · have := h.hb
    rcases hk with hk | hk | hk
    · exact i3 k hk
    · omega
    · omega
  · rcases hk with hk | hk
    · exact i4 k e hk
    · exact (h.kp k e).2 hk
theorem PXL.made {S : Nat → Prop} (hm : MemIs W mb mg m) (hu : U64 m) (hb : Below w0.heap.size w0 W) (hg : w0.heap.size ≤ mb ∧ w0.heap.size ≤ mg) (hk : ∀ k, K k → k < W.heap.size ∧ ¬ Own mb mg k) (h1 : D.Is S W' b x) (h2 : ∀ k, S k → W.heap.size ≤ k) (h3 : Below W.heap.size W W') : PXL D K w0 W' b mb mg x m := by
  have hlt := hm.lt
  refine ⟨⟨S, h1, fun k hk e => ?_, fun k hk => Nat.le_trans hb.size (h2 k hk), fun k hk' e => ?_⟩, hm.on h3, hu, hb.trans (h3.mono hb.size), hg, fun k hk' => ⟨Nat.lt_of_lt_of_le (hk k hk').1 h3.size, (hk k hk').2⟩⟩
  · have := h2 k hk
    rcases e with e | e <;> omega
  · have := h2 k e
    have := (hk k hk').1
    omega
theorem PXL.hands (h : PXL D K w0 W b mb mg x m) : Calls Try.prog 26 #[pptr b] W (RowPost8 x.l W) := by
  obtain ⟨S, i1, -⟩ := h.is
  exact D.hands_any i1
end
end Go.Proofs.Ytgfddkddacigfaa
