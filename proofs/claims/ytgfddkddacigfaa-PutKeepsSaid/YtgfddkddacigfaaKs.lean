/- PutKeeps' state: a put, its memory, the config's box, two rows of numbers (layer 9). -/
import Derived.Test.YtgfddkddacigfaaPa
import Derived.Test.YtgfddkddacigfaaBb
import Derived.Test.YtgfddkddacigfaaDc
set_option linter.unusedSimpArgs false
set_option linter.unusedVariables false
namespace Go.Proofs.Ytgfddkddacigfaa
open Go.RowKit Go.Cg Go.Pu Go.Wd Go.Ce

theorem PX.grow {D : PutApi} {K K' R : Nat → Prop} {w0 W W' : World} {b mb mg : Nat} {x : PS} {m : PM} (h : PX D K w0 W b mb mg x m) (ht : Tch R W W') (hR : ∀ k, R k → K k ∧ w0.heap.size ≤ k) (hK : ∀ k, K' k → (K k ∨ W.heap.size ≤ k) ∧ k < W'.heap.size) : PX D K' w0 W' b mb mg x m := by
  obtain ⟨S, h1, h2, h3, h4⟩ := h.is
  have hlt := h.mem.lt
  have hSlt := D.lt h1
  refine ⟨⟨S, D.tch h1 ht (fun k hk e => h4 k (hR k e).1 hk), h2, h3, fun k hk e => ?_⟩, h.mem.tch ht (fun e => (h.kp mb (hR mb e).1).2 (.inl rfl)) (fun e => (h.kp mg (hR mg e).1).2 (.inr rfl)), h.u, h.bel.trans (ht.below h.bel.size (fun k hk => (hR k hk).2)), h.hb, fun k hk => ⟨(hK k hk).2, fun e => ?_⟩⟩
  · rcases (hK k hk).1 with q | q
    · exact h4 k q e
    · have := hSlt k e; omega
  · rcases (hK k hk).1 with q | q
    · exact (h.kp k q).2 e
    · rcases e with e | e <;> omega

/-- the blocks that neither the put nor its memory touches: the config's box, the two rows -/
def KB (cb : Nat) (vw vg : Value) : Nat → Prop := fun k => k = cb ∨ vw.ownBlock = some k ∨ vg.ownBlock = some k
structure KS (D : PutApi) (w0 W : World) (cb : Nat) (c : Cfg) (pb mb mg : Nat) (x : PS) (m : PM) (was gone : List Int) (vw vg : Value) : Prop where
  px : PX D (KB cb vw vg) w0 W pb mb mg x m
  row : Row cb 23 (cCells c) W
  rw : NewRow w0.heap.size W vw was
  rg : NewRow w0.heap.size W vg gone
  hcb : w0.heap.size ≤ cb
  s1 : vg.ownBlock ≠ some cb
  s2 : ∀ k, vg.ownBlock = some k → vw.ownBlock ≠ some k
section
variable {D : PutApi} {w0 W W' : World} {cb pb mb mg : Nat} {c : Cfg} {x x' : PS} {m m' : PM} {was gone : List Int} {vw vg : Value}
theorem KS.on (h : KS D w0 W cb c pb mb mg x m was gone vw vg) (hb : Below W.heap.size W W') : KS D w0 W' cb c pb mb mg x m was gone vw vg :=
  ⟨h.px.on hb, h.row.on' hb, h.rw.on hb, h.rg.on hb, h.hcb, h.s1, h.s2⟩
theorem KS.bel (h : KS D w0 W cb c pb mb mg x m was gone vw vg) : Below w0.heap.size w0 W := h.px.bel
theorem KS.stp (h : KS D w0 W cb c pb mb mg x m was gone vw vg) (hp : PX D (KB cb vw vg) w0 W' pb mb mg x' m') (ht : Tch (fun k => ¬ KB cb vw vg k) W W') : KS D w0 W' cb c pb mb mg x' m' was gone vw vg :=
  ⟨hp, h.row.tch ht (fun e => e (.inl rfl)), h.rw.tch ht (fun k hk e => e (.inr (.inl hk))), h.rg.tch ht (fun k hk e => e (.inr (.inr hk))), h.hcb, h.s1, h.s2⟩
theorem KS.mem (h : KS D w0 W cb c pb mb mg x m was gone vw vg) (hm : MemIs W' mb mg m') (hu : U64 m') (ht : Tch (Own mb mg) W W') : KS D w0 W' cb c pb mb mg x m' was gone vw vg :=
  ⟨h.px.mem' hm hu ht, h.row.tch ht (h.px.kp cb (.inl rfl)).2, h.rw.tch ht (fun k hk => (h.px.kp k (.inr (.inl hk))).2), h.rg.tch ht (fun k hk => (h.px.kp k (.inr (.inr hk))).2), h.hcb, h.s1, h.s2⟩
/-- the second row grows -/
theorem KS.app {vg' : Value} {gone' : List Int} (h : KS D w0 W cb c pb mb mg x m was gone vw vg) (hn : NewRow w0.heap.size W' vg' gone') (hg : W.grownBy W' vg.ownBlock) (hat : vg'.ownBlock = vg.ownBlock ∨ vg'.ownBlock = some W.heap.size) : KS D w0 W' cb c pb mb mg x m was gone' vw vg' := by
  have ht := grown_tch hg
  have hat' := at_own hat
  have hwl := h.rw.lt
  have hgl := h.rg.lt
  have hnl := hn.lt
  have hcl := h.row.lt
  refine ⟨h.px.grow ht (fun k hk => ⟨.inr (.inr hk), (hgl k hk).1⟩) (fun k hk => ?_), h.row.tch ht (fun e => h.s1 e), h.rw.tch ht (fun k hk e => h.s2 k e hk), hn, h.hcb, fun e => ?_, fun k hk e => ?_⟩
  · rcases hk with hk | hk | hk
    · exact ⟨.inl (.inl hk), by rw [hk]; exact Nat.lt_of_lt_of_le hcl hg.size⟩
    · exact ⟨.inl (.inr (.inl hk)), Nat.lt_of_lt_of_le (hwl k hk).2 hg.size⟩
    · refine ⟨(hat' k hk).imp (fun e => .inr (.inr e)) id, (hnl k hk).2⟩
  · rcases hat' cb e with e2 | e2
    · exact h.s1 e2
    · omega
  · rcases hat' k hk with e2 | e2
    · exact h.s2 k e2 e
    · have := (hwl k e).2; omega
/-- at the beginning -/
theorem KS.start (hp : PX D (KB cb vw (.slice none 0 0)) w0 W pb mb mg x m) (hr : Row cb 23 (cCells c) W) (hw : NewRow w0.heap.size W vw was) (hcb : w0.heap.size ≤ cb) : KS D w0 W cb c pb mb mg x m was [] vw (.slice none 0 0) :=
  ⟨hp, hr, hw, NewRow.nil _ _, hcb, (fun e => by cases e), (fun k e => by cases e)⟩
end
end Go.Proofs.Ytgfddkddacigfaa
