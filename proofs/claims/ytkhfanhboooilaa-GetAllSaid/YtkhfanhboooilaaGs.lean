/- GetOldest's state: a get, its memory, the config's box, two rows of numbers (layer 10). -/
import Derived.Test.YtkhfanhboooilaaGw
import Derived.Test.YtkhfanhboooilaaDc
import Derived.Test.YtkhfanhboooilaaDm
set_option linter.unusedSimpArgs false
set_option linter.unusedVariables false
namespace Go.Proofs.Ytkhfanhboooilaa
open Go.RowKit Go.Cg Go.Pu Go.Wd Go.Ce

/-- the blocks that neither the get nor its memory touches: the config's box, the two rows -/
def KB (cb : Nat) (vw vg : Value) : Nat → Prop := fun k => k = cb ∨ vw.ownBlock = some k ∨ vg.ownBlock = some k
theorem ne_row {B cb : Nat} {cs : List Value} {W : World} {v : Value} {xs : List Int} (h : Row cb 23 cs W) (hn : NewRow B W v xs) : v.ownBlock ≠ some cb := new_ne hn h (by decide)
theorem cf_put {w : World} {b : Nat} {t : TypeId} {c0 : Cfg} (h : Row b t (cCells c0) w) (c : Cfg) : ∃ W, ((((((w.setCell ⟨b, 0, none⟩ (.int .i64 c.n)).setCell ⟨b, 1, none⟩ (.int .i64 c.q)).setCell ⟨b, 2, none⟩ (.int .i64 c.g)).setCell ⟨b, 3, none⟩ (.int .i64 c.m)).setCell ⟨b, 4, none⟩ (.int .i64 c.t)).setCell ⟨b, 5, none⟩ (.int .i64 c.s)) = W ∧ Row b t (cCells c) W ∧ Tch (fun k => k = b) w W :=
  have tset (b o : Nat) (v : Value) (w : World) : Tch (fun k => k = b) w (w.setCell ⟨b, o, none⟩ v) := (Tch.refl (fun k => k = b) w).setCell (p := ⟨b, o, none⟩) (.inl rfl) _
  ⟨_, rfl, ((((((h.set 0 (.int .i64 c.n)).set 1 (.int .i64 c.q)).set 2 (.int .i64 c.g)).set 3 (.int .i64 c.m)).set 4 (.int .i64 c.t)).set 5 (.int .i64 c.s)), (((((tset b 0 _ _).trans (tset b 1 _ _)).trans (tset b 2 _ _)).trans (tset b 3 _ _)).trans (tset b 4 _ _)).trans (tset b 5 _ _)⟩
theorem cf_cells {W : World} {b : Nat} {t : TypeId} {c : Cfg} (h : Row b t (cCells c) W) : W.cell? ⟨b, 0, none⟩ = some (.int .i64 c.n) ∧ W.cell? ⟨b, 1, none⟩ = some (.int .i64 c.q) ∧ W.cell? ⟨b, 2, none⟩ = some (.int .i64 c.g) ∧ W.cell? ⟨b, 3, none⟩ = some (.int .i64 c.m) ∧ W.cell? ⟨b, 4, none⟩ = some (.int .i64 c.t) ∧ W.cell? ⟨b, 5, none⟩ = some (.int .i64 c.s) :=
  ⟨h.cell 0, h.cell 1, h.cell 2, h.cell 3, h.cell 4, h.cell 5⟩
theorem cf_frozen {W : World} {b : Nat} {t : TypeId} {c : Cfg} (h : Row b t (cCells c) W) : W.frozen? ⟨b, 0, none⟩ = false ∧ W.frozen? ⟨b, 1, none⟩ = false ∧ W.frozen? ⟨b, 2, none⟩ = false ∧ W.frozen? ⟨b, 3, none⟩ = false ∧ W.frozen? ⟨b, 4, none⟩ = false ∧ W.frozen? ⟨b, 5, none⟩ = false := ⟨h.frozen 0, h.frozen 1, h.frozen 2, h.frozen 3, h.frozen 4, h.frozen 5⟩
structure OX (w0 W : World) (cb : Nat) (c : Cfg) (gb mb mg : Nat) (x : GS) (m : PM) (all out : List Int) (vw vg : Value) : Prop where
  gx : GX (KB cb vw vg) w0 W gb mb mg x m
  row : Row cb 23 (cCells c) W
  rw : NewRow w0.heap.size W vw all
  rg : NewRow w0.heap.size W vg out
  hcb : w0.heap.size ≤ cb
  s1 : vg.ownBlock ≠ some cb
  s2 : ∀ k, vg.ownBlock = some k → vw.ownBlock ≠ some k
section
variable {w0 W W' : World} {cb gb mb mg : Nat} {c : Cfg} {x x' : GS} {m m' : PM} {all out : List Int} {vw vg : Value}
theorem GX.grow {K K' R : Nat → Prop} (h : GX K w0 W gb mb mg x m) (ht : Tch R W W') (hR : ∀ k, R k → K k ∧ w0.heap.size ≤ k) (hK : ∀ k, K' k → (K k ∨ W.heap.size ≤ k) ∧ k < W'.heap.size) : GX K' w0 W' gb mb mg x m := by
  have hlt := h.mem.lt
  have hgl := h.is.row.lt
  refine ⟨h.is.tch ht (fun e => (h.kp gb (hR gb e).1).2.2 rfl), h.ne, h.mem.tch ht (fun e => (h.kp mb (hR mb e).1).2.1 (.inl rfl)) (fun e => (h.kp mg (hR mg e).1).2.1 (.inr rfl)), h.u, h.bel.trans (ht.below h.bel.size (fun k hk => (hR k hk).2)), h.hb, fun k hk => ⟨(hK k hk).2, fun e => ?_, fun e => ?_⟩⟩
  · rcases (hK k hk).1 with q | q
    · exact (h.kp k q).2.1 e
    · rcases e with e | e <;> omega
  · rcases (hK k hk).1 with q | q
    · exact (h.kp k q).2.2 e
    · omega
theorem OX.on (h : OX w0 W cb c gb mb mg x m all out vw vg) (hb : Below W.heap.size W W') : OX w0 W' cb c gb mb mg x m all out vw vg :=
  ⟨h.gx.on hb, h.row.on' hb, h.rw.on hb, h.rg.on hb, h.hcb, h.s1, h.s2⟩
theorem OX.bel (h : OX w0 W cb c gb mb mg x m all out vw vg) : Below w0.heap.size w0 W := h.gx.bel
theorem OX.stp (h : OX w0 W cb c gb mb mg x m all out vw vg) (hp : GX (KB cb vw vg) w0 W' gb mb mg x' m') (ht : Tch (fun k => ¬ KB cb vw vg k) W W') : OX w0 W' cb c gb mb mg x' m' all out vw vg :=
  ⟨hp, h.row.tch ht (fun e => e (.inl rfl)), h.rw.tch ht (fun k hk e => e (.inr (.inl hk))), h.rg.tch ht (fun k hk e => e (.inr (.inr hk))), h.hcb, h.s1, h.s2⟩
theorem OX.mem (h : OX w0 W cb c gb mb mg x m all out vw vg) (hm : MemIs W' mb mg m') (hu : U64 m') (ht : Tch (Own mb mg) W W') : OX w0 W' cb c gb mb mg x m' all out vw vg :=
  ⟨h.gx.mem' hm hu ht, h.row.tch ht (h.gx.kp cb (.inl rfl)).2.1, h.rw.tch ht (fun k hk => (h.gx.kp k (.inr (.inl hk))).2.1), h.rg.tch ht (fun k hk => (h.gx.kp k (.inr (.inr hk))).2.1), h.hcb, h.s1, h.s2⟩
/-- the second row grows -/
theorem OX.app {vg' : Value} {out' : List Int} (h : OX w0 W cb c gb mb mg x m all out vw vg) (hn : NewRow w0.heap.size W' vg' out') (hg : W.grownBy W' vg.ownBlock) (hat : vg'.ownBlock = vg.ownBlock ∨ vg'.ownBlock = some W.heap.size) : OX w0 W' cb c gb mb mg x m all out' vw vg' := by
  have ht := Tch.grown hg
  have hat' := at_own hat
  have hwl := h.rw.lt
  have hgl := h.rg.lt
  have hnl := hn.lt
  have hcl := h.row.lt
  refine ⟨h.gx.grow ht (fun k hk => ⟨.inr (.inr hk), (hgl k hk).1⟩) (fun k hk => ?_), h.row.tch ht (fun e => h.s1 e), h.rw.tch ht (fun k hk e => h.s2 k e hk), hn, h.hcb, fun e => ?_, fun k hk e => ?_⟩
  · rcases hk with hk | hk | hk
    · exact ⟨.inl (.inl hk), by rw [hk]; exact Nat.lt_of_lt_of_le hcl hg.size⟩
    · exact ⟨.inl (.inr (.inl hk)), Nat.lt_of_lt_of_le (hwl k hk).2 hg.size⟩
    · refine ⟨(hat' k hk).imp (fun e => .inr (.inr e)) id, (hnl k hk).2⟩
  · rcases hat' cb e with e2 | e2
    · exact h.s1 e2
    · omega
  · rcases hat' k hk with e2 | e2
    · exact h.s2 k e2 e
    · have := (hwl k e).2; omega
/-- at the beginning -/
theorem OX.start (hp : GX (KB cb vw (.slice none 0 0)) w0 W gb mb mg x m) (hr : Row cb 23 (cCells c) W) (hw : NewRow w0.heap.size W vw all) (hcb : w0.heap.size ≤ cb) : OX w0 W cb c gb mb mg x m all [] vw (.slice none 0 0) :=
  ⟨hp, hr, hw, NewRow.nil _ _, hcb, (fun e => by cases e), (fun k e => by cases e)⟩
theorem OX.cells {N Q G M T U : Nat} (h : OX w0 W cb c gb mb mg x m all out vw vg) (hC : c = ⟨N, Q, G, M, T, U⟩) : W.cell? ⟨cb, 0, none⟩ = some (.int .i64 N) ∧ W.cell? ⟨cb, 1, none⟩ = some (.int .i64 Q) ∧ W.cell? ⟨cb, 2, none⟩ = some (.int .i64 G) ∧ W.cell? ⟨cb, 3, none⟩ = some (.int .i64 M) ∧ W.cell? ⟨cb, 4, none⟩ = some (.int .i64 T) ∧ W.cell? ⟨cb, 5, none⟩ = some (.int .i64 U) := by
  have := cf_cells h.row
  rw [hC] at this
  exact this
/-- what Ring answers of the state -/
theorem OX.ring {N Q G M T U P : Nat} (h : OX w0 W cb c gb mb mg x m all out vw vg) (hC : c = ⟨N, Q, G, M, T, U⟩) (hm : Mk c P m) : ∀ W1, Below W.heap.size W W1 → Calls Try.prog 46 #[.agg #[.int .i64 N, .int .i64 Q, .int .i64 G, .int .i64 M, .int .i64 T, .int .i64 U], gptr mb, .int .i64 P] W1 (RowPost8 (rng c P m) W1) := fun W1 hb => by
  subst hC
  exact ring_any N Q G M T U P hm (h.gx.mem.on hb)
end
theorem OX.step {w0 W : World} {cb gb mb mg : Nat} {c : Cfg} {x X : GS} {m M : PM} {all out : List Int} {vw vg : Value} {r : Bool} (h : OX w0 W cb c gb mb mg x m all out vw vg) (hf : m.k.ops + 1 ≤ 1000000000) (ht : x.t + 1 ≤ 1000000000) (h1 : gStep x m = (X, M)) (h3 : decide (X.a = 0) = r) :
    Calls Try.prog 42 #[gptr gb, gptr mb] W (fun e w' => e = .returned (.bool r) ∧ Hid (OX w0 w' cb c gb mb mg X M all out vw vg) ∧ Hid (Tch (fun k => k = gb ∨ Own mb mg k) W w')) := by
  refine (gstep_any h.gx.is h.gx.mem h.gx.ne h.gx.u hf ht).mono ?_
  rintro e w' ⟨rfl, j1, j2, j4⟩
  have hu : U64 (gStep x m).2 := (gstep_ok h.gx.is.ok h.gx.u).2.1
  rw [h1] at j1 j2 hu ⊢
  have hK : ∀ k, (k = gb ∨ Own mb mg k) → ¬ KB cb vw vg k := fun k hk e => by
    have := h.gx.kp k e
    rcases hk with hk | hk
    · exact this.2.2 hk
    · exact this.2.1 hk
  refine ⟨by rw [h3], h.stp ⟨j1.out, h.gx.ne, j2.out, hu, h.gx.bel.trans (j4.out.below h.gx.bel.size (fun k hk => ?_)), h.gx.hb, fun k hk => ⟨Nat.lt_of_lt_of_le (h.gx.kp k hk).1 j4.out.size, (h.gx.kp k hk).2⟩⟩ (j4.out.wide hK), j4⟩
  have := h.gx.hb
  rcases hk with hk | hk | hk <;> omega
/-- bytes that came in, of whatever length; known where they are few -/
def InBy (w : World) (v : Value) (bs : List Int) : Prop := ∃ p n c, v = .slice p n c ∧ n = bs.length ∧ n ≤ 9223372036854775807 ∧ (n ≤ 1000 → Byts w p bs)
theorem InBy.on {w w' : World} {v : Value} {bs : List Int} (h : InBy w v bs) (hb : Below w.heap.size w w') : InBy w' v bs := by
  obtain ⟨p, n, c, h1, h2, h3, h4⟩ := h
  exact ⟨p, n, c, h1, h2, h3, fun hn => (h4 hn).on hb⟩
theorem sameB_self (l : List Int) : sameB l l = true := by simp [sameB]
theorem thief_ops (c : Cfg) (p : Int) (m : PM) (most : Nat) : (thiefM c p m most).k.ops ≤ m.k.ops + 2 := by
  unfold thiefM
  split
  · omega
  · have h1 := (mem_load m (aW c p)).2.2
    have h2 := (mem_store (m.load (aW c p)) (aW c p) (gainW (wdN c p m) (thN (rng c p m) most))).2.2
    omega
/-- a row's first number, and the others -/
theorem row_head {B n k : Nat} {W : World} {p : Option Addr} {s : Int} {l : List Int} (h : NewRow B W (.slice p n k) (s :: l)) (hl : l.length ≤ 1000) : ∃ wb wo, p = some ⟨wb, wo, none⟩ ∧ n = l.length + 1 ∧ l.length + 1 ≤ k ∧ k ≤ maxLen ∧ B ≤ wb ∧ W.cell? ⟨wb, wo, none⟩ = some (.int .i64 s) ∧ (k ≠ 1 → SlIs (fun _ => False) W (.slice (some ⟨wb, wo + 1, none⟩) l.length (k - 1)) l) ∧ (k = 1 → l = []) := by
  have hs : SlIs (fun _ => False) W (.slice p n k) (s :: l) := h.sl (by simp; omega) (fun _ _ h => h)
  obtain ⟨p', c', e, h1, h2, h3, h4⟩ := hs
  cases e
  obtain ⟨wb, wo, e, -, hc⟩ := h4.cells 0 (by simp)
  subst e
  refine ⟨wb, wo, rfl, by simp, by simpa using h1, h2, (h.lt wb rfl).1, by simpa using hc, fun _ => ⟨_, _, rfl, by simp at h1; omega, by omega, (fun e => by cases e), ⟨by omega, fun j hj => ?_⟩⟩, fun e => List.eq_nil_of_length_eq_zero (by simp at h1; omega)⟩
  obtain ⟨b2, o2, e2, _, hc2⟩ := h4.cells (j + 1) (by simpa using hj)
  cases e2
  refine ⟨wb, wo + 1, rfl, fun h => h, ?_⟩
  rw [show wo + 1 + j = wo + (j + 1) by omega, hc2]
  simp [List.getD]
/-- a row, and a slice of the same numbers -/
theorem same_sl {B : Nat} {W : World} {xs : List Int} {va vb : Value} (hl : xs.length ≤ 1000) (ha : NewRow B W va xs) (hb : SlIs (fun _ => False) W vb xs) : Calls Try.prog 19 #[va, vb] W (Ans (.bool true) W) := by
  have h1 : SlIs (fun _ => False) W va xs := ha.sl (by omega) (fun _ _ h => h)
  have := sameints_gen _ _ va vb W h1 hb
  rw [sameB_self] at this
  exact this
/-- two rows of the same numbers -/
theorem same_rows {Ba Bb : Nat} {W : World} {xs ys : List Int} {va vb : Value} (he : xs = ys) (hl : xs.length ≤ 1000) (ha : NewRow Ba W va xs) (hb : NewRow Bb W vb ys) : Calls Try.prog 19 #[va, vb] W (Ans (.bool true) W) := by
  subst he
  have h1 : SlIs (fun _ => False) W va xs := ha.sl (by omega) (fun _ _ h => h)
  have h2 : SlIs (fun _ => False) W vb xs := hb.sl (by omega) (fun _ _ h => h)
  have := sameints_gen _ _ va vb W h1 h2
  rw [sameB_self] at this
  exact this
/-- between two rounds: the get is on its way -/
structure OA (c : Cfg) (p : Int) (all out : List Int) (gains : Nat) (x : GS) (m : PM) (i : Nat) : Prop where
  oi : OI c p all out gains x m
  h : x.h = false
  mu : muG c p x m + i ≤ 30
  ops : m.k.ops ≤ 600 + 4 * i
  gn : gains ≤ i
/-- it is done -/
structure OZ (c : Cfg) (p : Int) (all out : List Int) (gains : Nat) (x : GS) (m : PM) : Prop where
  mem : Mk c p m
  sz : ln (wdN c p m) ≤ c.q.toNat
  all : out ++ rng c p m = all
  t : x.t ≤ gains
  gn : gains ≤ 40
def OAZ (c : Cfg) (p : Int) (all out : List Int) (gains : Nat) (x : GS) (m : PM) (i : Nat) : Prop := (x.a = 0 ∧ OZ c p all out gains x m) ∨ (x.a ≠ 0 ∧ OA c p all out gains x m i)
end Go.Proofs.Ytkhfanhboooilaa
