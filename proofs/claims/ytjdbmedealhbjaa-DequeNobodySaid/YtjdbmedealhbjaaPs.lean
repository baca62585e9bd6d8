/- The state of the law DequePlays (layer 8), between its statements. -/
import Derived.Test.YtjdbmedealhbjaaWk
import Derived.Test.YtjdbmedealhbjaaFw
set_option linter.unusedSimpArgs false
set_option linter.unusedVariables false
namespace Go.Proofs.Ytjdbmedealhbjaa
open Go.RowKit Go.Wd Go.Dk

/-- at the head of a round: two deques, the reference's two rows in their boxes -/
structure PS (D : DqApi) (w0 W : World) (a b q p b1 b2 : Nat) (S R : Nat → Prop) (xs ys : List Int) (u v : Value) : Prop where
  ds : DS D (fun k => k = b1 ∨ k = b2) S R W a b q p xs ys u v xs ys
  r1 : Row b1 32 [.int .i64 q, u] W
  r2 : Row b2 32 [.int .i64 p, v] W
  be : Below w0.heap.size w0 W
  ge : (∀ k, (S k ∨ R k) → w0.heap.size ≤ k ∧ k ≠ b1 ∧ k ≠ b2) ∧ w0.heap.size ≤ b1 ∧ w0.heap.size ≤ b2 ∧ b1 ≠ b2
/-- .. behind the copy: it, and the row as it was in a box -/
structure P1 (D : DqApi) (w0 W : World) (a b q p b1 b2 c b3 : Nat) (S R C : Nat → Prop) (xs ys : List Int) (u v : Value) : Prop where
  ps : PS D w0 W a b q p b1 b2 S R xs ys u v
  ic : D.Is C W c q xs
  r3 : Row b3 32 [.int .i64 q, u] W
  ne : (∀ k, C k → ¬ S k ∧ ¬ R k ∧ k ≠ b1 ∧ k ≠ b2 ∧ k ≠ b3) ∧ ¬ S b3 ∧ ¬ R b3 ∧ b3 ≠ b1 ∧ b3 ≠ b2 ∧ w0.heap.size ≤ b3
/-- .. behind does: X are blocks that may be written yet -/
structure PC (D : DqApi) (w0 W : World) (a b q p b1 b2 c b3 : Nat) (S R C X : Nat → Prop) (xs0 ys0 xs ys : List Int) (u v u' v' : Value) : Prop where
  ds : DS D (fun k => (k = b1 ∨ k = b2) ∨ X k) S R W a b q p xs ys u' v' xs ys
  was : SlIs (fun k => (k = b1 ∨ k = b2) ∨ X k) W u xs0
  ic : D.Is C W c q xs0
  r1 : Row b1 32 [.int .i64 q, u] W
  r2 : Row b2 32 [.int .i64 p, v] W
  r3 : Row b3 32 [.int .i64 q, u] W
  be : Below w0.heap.size w0 W
  ge : (∀ k, (S k ∨ R k) → w0.heap.size ≤ k ∧ k ≠ b1 ∧ k ≠ b2) ∧ w0.heap.size ≤ b1 ∧ w0.heap.size ≤ b2 ∧ b1 ≠ b2
  ne : (∀ k, C k → k ≠ b1 ∧ k ≠ b2) ∧ b3 ≠ b1 ∧ b3 ≠ b2
  xd : ∀ k, X k → ¬ C k ∧ ¬ S k ∧ ¬ R k ∧ k ≠ b1 ∧ k ≠ b2 ∧ k ≠ b3 ∧ w0.heap.size ≤ k
/-- .. with the new rows in their boxes -/
structure P2 (D : DqApi) (w0 W : World) (a b q p b1 b2 c b3 b4 b5 : Nat) (S R C : Nat → Prop) (xs0 ys0 xs ys : List Int) (u v u' v' : Value) : Prop where
  pc : PC D w0 W a b q p b1 b2 c b3 S R C (fun _ => False) xs0 ys0 xs ys u v u' v'
  r4 : Row b4 32 [.int .i64 q, u'] W
  r5 : Row b5 32 [.int .i64 p, v'] W
  n4 : b4 ≠ b1 ∧ b4 ≠ b2 ∧ b5 ≠ b1 ∧ b5 ≠ b2
section
variable {D : DqApi} {w0 W W' : World} {a b q p b1 b2 c b3 b4 b5 : Nat} {S R C X O S' R' : Nat → Prop} {xs ys xs0 ys0 xs' ys' : List Int} {u v u' v' : Value}
theorem PS.on (h : PS D w0 W a b q p b1 b2 S R xs ys u v) (hb : Below W.heap.size W W') : PS D w0 W' a b q p b1 b2 S R xs ys u v :=
  ⟨h.ds.on hb, h.r1.on' hb, h.r2.on' hb, h.be.trans (hb.mono h.be.size), h.ge⟩
theorem PS.low (h : PS D w0 W a b q p b1 b2 S R xs ys u v) : ∀ k, (S k ∨ R k) → k < W.heap.size := fun k e => by
  rcases e with e | e
  · exact D.lt h.ds.one k e
  · exact D.lt h.ds.two k e
/-- behind the copy, the box made behind it -/
theorem p1_after (h : PS D w0 W a b q p b1 b2 S R xs ys u v) (hb : Below W.heap.size W W') (hc : D.Is C W' c q xs) (hC : ∀ k, C k → W.heap.size ≤ k) : P1 D w0 (W'.alloc (.cells #[.int .i64 q, u] 32)) a b q p b1 b2 c W'.heap.size S R C xs ys u v := by
  have b1' := (Below.refl W'.heap.size W').alloc (Nat.le_refl _) (.cells #[.int .i64 q, u] 32)
  have l := h.low
  have l1 := h.r1.lt
  have l2 := h.r2.lt
  have z := hb.size
  have z0 := h.be.size
  refine ⟨(h.on hb).on b1', D.on hc b1', Row.new W' _ [.int .i64 q, u], fun k e => ?_, fun e => ?_, fun e => ?_, by omega, by omega, by omega⟩
  · have g := hC k e
    have t := D.lt hc k e
    exact ⟨fun e2 => by have := l k (.inl e2); omega, fun e2 => by have := l k (.inr e2); omega, by omega, by omega, by omega⟩
  · have := l _ (.inl e); omega
  · have := l _ (.inr e); omega
/-- .. made ahead of it -/
theorem p1_ahead (h : PS D w0 W a b q p b1 b2 S R xs ys u v) (hb : Below W.heap.size W W') (hc : D.Is C W' c q xs) (hC : ∀ k, C k → W.heap.size < k) {x y : Value} (hr : Row W.heap.size 32 [x, y] W') : P1 D w0 ((W'.setCell ⟨W.heap.size, 0, none⟩ (.int .i64 q)).setCell ⟨W.heap.size, 1, none⟩ u) a b q p b1 b2 c W.heap.size S R C xs ys u v := by
  have l := h.low
  have l1 := h.r1.lt
  have l2 := h.r2.lt
  have z0 := h.be.size
  have t1 : Tch (fun k => k = W.heap.size) W' ((W'.setCell ⟨W.heap.size, 0, none⟩ (.int .i64 q)).setCell ⟨W.heap.size, 1, none⟩ u) := ((Tch.refl (fun k => k = W.heap.size) W').setCell (p := ⟨W.heap.size, 0, none⟩) (.inl rfl) _).setCell (p := ⟨W.heap.size, 1, none⟩) (.inl rfl) _
  have hb2 : Below W.heap.size W ((W'.setCell ⟨W.heap.size, 0, none⟩ (.int .i64 q)).setCell ⟨W.heap.size, 1, none⟩ u) := hb.trans (t1.below hb.size (fun k e => by omega))
  refine ⟨h.on hb2, D.tch hc t1 (fun k e e2 => by have := hC k e; omega), hr.put2 _ _, fun k e => ?_, fun e => ?_, fun e => ?_, by omega, by omega, by omega⟩
  · have g := hC k e
    exact ⟨fun e2 => by have := l k (.inl e2); omega, fun e2 => by have := l k (.inr e2); omega, by omega, by omega, by omega⟩
  · have := l _ (.inl e); omega
  · have := l _ (.inr e); omega
theorem P1.on (h : P1 D w0 W a b q p b1 b2 c b3 S R C xs ys u v) (hb : Below W.heap.size W W') : P1 D w0 W' a b q p b1 b2 c b3 S R C xs ys u v :=
  ⟨h.ps.on hb, D.on h.ic hb, h.r3.on' hb, h.ne⟩
/-- behind does -/
theorem P1.does (h : P1 D w0 W a b q p b1 b2 c b3 S R C xs ys u v) (hb : Below W.heap.size W W') {W'' : World} (hX : ∀ k, X k → W.heap.size ≤ k) (hd : DS D (fun k => (k = b1 ∨ k = b2) ∨ X k) S' R' W'' a b q p xs' ys' u' v' xs' ys') (hs : ∀ k, S' k → S k ∨ W'.heap.size ≤ k) (hr : ∀ k, R' k → R k ∨ W'.heap.size ≤ k) (ht : Tch (fun k => S k ∨ R k) W' W'') (hXl : ∀ k, X k → k < W'.heap.size) :
    PC D w0 W'' a b q p b1 b2 c b3 S' R' C X xs ys xs' ys' u v u' v' := by
  have h1 := h.on hb
  have g := h.ps.ge
  have l := h.ps.low
  have z := hb.size
  have z0 := h.ps.be.size
  have l1 := h.ps.r1.lt
  have l2 := h.ps.r2.lt
  have l3 := h.r3.lt
  have lc := D.lt h.ic
  have hbe : Below w0.heap.size w0 W'' := h1.ps.be.trans (ht.below h1.ps.be.size (fun k e => (g.1 k e).1))
  refine ⟨hd, ?_, D.tch h1.ic ht (fun k e e2 => by rcases e2 with e2 | e2; exact (h.ne.1 k e).1 e2; exact (h.ne.1 k e).2.1 e2), h1.ps.r1.tch ht (fun e => (g.1 _ e).2.1 rfl), h1.ps.r2.tch ht (fun e => (g.1 _ e).2.2 rfl), h1.r3.tch ht (fun e => e.elim h.ne.2.1 h.ne.2.2.1), hbe, ⟨fun k e => ?_, g.2⟩, ⟨fun k e => ⟨(h.ne.1 k e).2.2.1, (h.ne.1 k e).2.2.2.1⟩, h.ne.2.2.2.1, h.ne.2.2.2.2.1⟩, fun k e => ?_⟩
  · have h2 : SlIs (fun k => (k = b1 ∨ k = b2) ∨ S k ∨ R k) W u xs := h.ps.ds.ru
    refine h2.later (B := fun k => S k ∨ R k) ((Tch.of _ hb).trans ht) (fun k e => .inl (.inr e)) (fun k e => ?_)
    rcases e with e | e
    · exact .inl (.inl e)
    · exact .inr (hX k e)
  · rcases e with e | e
    · rcases hs k e with e | e
      · exact g.1 k (.inl e)
      · omega
    · rcases hr k e with e | e
      · exact g.1 k (.inr e)
      · omega
  · have x1 := hX k e
    have x2 := hXl k e
    refine ⟨fun e2 => by have := lc k e2; omega, fun e2 => ?_, fun e2 => ?_, by omega, by omega, by omega, by omega⟩
    · rcases hs k e2 with e3 | e3
      · have := l k (.inl e3); omega
      · omega
    · rcases hr k e2 with e3 | e3
      · have := l k (.inr e3); omega
      · omega
theorem PC.step (h : PC D w0 W a b q p b1 b2 c b3 S R C X xs0 ys0 xs ys u v u' v') (ht : Tch O W W') (hO : ∀ k, O k → X k ∨ W.heap.size ≤ k) : PC D w0 W' a b q p b1 b2 c b3 S R C X xs0 ys0 xs ys u v u' v' := by
  have z0 := h.be.size
  have hn : ∀ k, k < W.heap.size → ¬ X k → ¬ O k := fun k hk hx e => by
    rcases hO k e with e | e
    · exact hx e
    · omega
  have hT : ∀ k, O k → (((k = b1 ∨ k = b2) ∨ X k) ∨ S k ∨ R k) ∨ W.heap.size ≤ k := fun k e => (hO k e).imp (fun e => .inl (.inr e)) id
  have i1 := D.tch h.ds.one ht (fun k e e2 => hn k (D.lt h.ds.one k e) (fun e3 => (h.xd k e3).2.1 e) e2)
  have i2 := D.tch h.ds.two ht (fun k e e2 => hn k (D.lt h.ds.two k e) (fun e3 => (h.xd k e3).2.2.1 e) e2)
  refine ⟨h.ds.step i1 i2 h.ds.ap (fun k e => .inl e) (fun k e => .inl e) ht hT, ?_, D.tch h.ic ht (fun k e e2 => hn k (D.lt h.ic k e) (fun e3 => (h.xd k e3).1 e) e2), h.r1.tch ht (hn _ h.r1.lt (fun e3 => (h.xd _ e3).2.2.2.1 rfl)), h.r2.tch ht (hn _ h.r2.lt (fun e3 => (h.xd _ e3).2.2.2.2.1 rfl)), h.r3.tch ht (hn _ h.r3.lt (fun e3 => (h.xd _ e3).2.2.2.2.2.1 rfl)), h.be.trans (ht.below h.be.size (fun k e => ?_)), h.ge, h.ne, h.xd⟩
  · exact h.was.later ht (fun k e => (hO k e).imp (fun e => .inr e) id) (fun k e => .inl e)
  · rcases hO k e with e | e
    · exact (h.xd k e).2.2.2.2.2.2
    · omega
theorem PC.less (h : PC D w0 W a b q p b1 b2 c b3 S R C X xs0 ys0 xs ys u v u' v') : PC D w0 W a b q p b1 b2 c b3 S R C (fun _ => False) xs0 ys0 xs ys u v u' v' :=
  ⟨h.ds.less (fun k e => .inl (e.elim .inl (fun e => e.elim))), h.was.less (fun k e => e.elim .inl (fun e => e.elim)), h.ic, h.r1, h.r2, h.r3, h.be, h.ge, h.ne, fun k e => e.elim⟩
theorem PC.done (h : PC D w0 W a b q p b1 b2 c b3 S R C X xs0 ys0 xs ys u v u' v') (ht : Tch O W W') (hO : ∀ k, O k → X k ∨ W.heap.size ≤ k) (h4 : Row b4 32 [.int .i64 q, u'] W') (h5 : Row b5 32 [.int .i64 p, v'] W') (n4 : X b4 ∨ W.heap.size ≤ b4) (n5 : X b5 ∨ W.heap.size ≤ b5) : P2 D w0 W' a b q p b1 b2 c b3 b4 b5 S R C xs0 ys0 xs ys u v u' v' := by
  have l1 := h.r1.lt
  have l2 := h.r2.lt
  refine ⟨(h.step ht hO).less, h4, h5, ?_⟩
  have f : ∀ k, (X k ∨ W.heap.size ≤ k) → k ≠ b1 ∧ k ≠ b2 := fun k e => by
    rcases e with e | e
    · exact ⟨(h.xd k e).2.2.2.1, (h.xd k e).2.2.2.2.1⟩
    · omega
  exact ⟨(f b4 n4).1, (f b4 n4).2, (f b5 n5).1, (f b5 n5).2⟩
/-- the six ends -/
theorem pe_aa (h : PC D w0 W a b q p b1 b2 c b3 S R C X xs0 ys0 xs ys u v u' v') : P2 D w0 ((W.alloc (.cells #[.int .i64 q, u'] 32)).alloc (.cells #[.int .i64 p, v'] 32)) a b q p b1 b2 c b3 W.heap.size (W.heap.size + 1) S R C xs0 ys0 xs ys u v u' v' := by
  have z1 : (W.alloc (.cells #[.int .i64 q, u'] 32)).heap.size = W.heap.size + 1 := by simp
  have a2 := (Below.refl _ (W.alloc (.cells #[.int .i64 q, u'] 32))).alloc (Nat.le_refl _) (.cells #[.int .i64 p, v'] 32)
  exact h.done (O := fun _ => False) (((Tch.refl _ _).alloc _).alloc _) (fun _ e => e.elim) ((Row.new W 32 [.int .i64 q, u']).on' a2) (Row.new' _ 32 [.int .i64 p, v'] _ z1.symm) (.inr (Nat.le_refl _)) (.inr (Nat.le_succ _))
theorem pe_bb (h : PC D w0 W a b q p b1 b2 c b3 S R C X xs0 ys0 xs ys u v u' v') : P2 D w0 ((W.alloc (.cells #[.int .i64 p, v'] 32)).alloc (.cells #[.int .i64 q, u'] 32)) a b q p b1 b2 c b3 (W.heap.size + 1) W.heap.size S R C xs0 ys0 xs ys u v u' v' := by
  have z1 : (W.alloc (.cells #[.int .i64 p, v'] 32)).heap.size = W.heap.size + 1 := by simp
  have a2 := (Below.refl _ (W.alloc (.cells #[.int .i64 p, v'] 32))).alloc (Nat.le_refl _) (.cells #[.int .i64 q, u'] 32)
  exact h.done (O := fun _ => False) (((Tch.refl _ _).alloc _).alloc _) (fun _ e => e.elim) (Row.new' _ 32 [.int .i64 q, u'] _ z1.symm) ((Row.new W 32 [.int .i64 p, v']).on' a2) (.inr (Nat.le_succ _)) (.inr (Nat.le_refl _))
theorem pe_4a (h : PC D w0 W a b q p b1 b2 c b3 S R C X xs0 ys0 xs ys u v u' v') {x y : Value} (hr : Row b4 32 [x, y] W) (hX : X b4) : P2 D w0 (((((W.alloc (.cells #[.int .i64 0, .slice none 0 0] 32)).setCell ⟨b4, 0, none⟩ (.int .i64 q)).setCell ⟨b4, 1, none⟩ u').setCell ⟨W.heap.size, 0, none⟩ (.int .i64 p)).setCell ⟨W.heap.size, 1, none⟩ v') a b q p b1 b2 c b3 b4 W.heap.size S R C xs0 ys0 xs ys u v u' v' := by
  have l4 := hr.lt
  have ne : b4 ≠ W.heap.size := by omega
  have ne2 : W.heap.size ≠ b4 := by omega
  have a1 := (Below.refl W.heap.size W).alloc (Nat.le_refl _) (.cells #[.int .i64 0, .slice none 0 0] 32)
  have r4 := ((hr.on' a1).put2 (.int .i64 q) u')
  have r5 := (((Row.new W 32 [.int .i64 0, .slice none 0 0]).far (p := ⟨b4, 0, none⟩) ne2 (.int .i64 q)).far (p := ⟨b4, 1, none⟩) ne2 u').put2 (.int .i64 p) v'
  refine h.done (O := fun k => k = b4) ((((((Tch.refl (fun k => k = b4) W).alloc _).setCell (p := ⟨b4, 0, none⟩) (.inl rfl) _).setCell (p := ⟨b4, 1, none⟩) (.inl rfl) _).setCell (p := ⟨W.heap.size, 0, none⟩) (.inr (Nat.le_refl _)) _).setCell (p := ⟨W.heap.size, 1, none⟩) (.inr (Nat.le_refl _)) _) (fun k e => .inl (by rw [e]; exact hX)) ((r4.far (p := ⟨W.heap.size, 0, none⟩) ne _).far (p := ⟨W.heap.size, 1, none⟩) ne _) r5 (.inl hX) (.inr (Nat.le_refl _))
theorem pe_5a (h : PC D w0 W a b q p b1 b2 c b3 S R C X xs0 ys0 xs ys u v u' v') {x y : Value} (hr : Row b5 32 [x, y] W) (hX : X b5) : P2 D w0 (((W.alloc (.cells #[.int .i64 q, u'] 32)).setCell ⟨b5, 0, none⟩ (.int .i64 p)).setCell ⟨b5, 1, none⟩ v') a b q p b1 b2 c b3 W.heap.size b5 S R C xs0 ys0 xs ys u v u' v' := by
  have l4 := hr.lt
  have ne2 : W.heap.size ≠ b5 := by omega
  have a1 := (Below.refl W.heap.size W).alloc (Nat.le_refl _) (.cells #[.int .i64 q, u'] 32)
  have r5 := ((hr.on' a1).put2 (.int .i64 p) v')
  have r4 := ((Row.new W 32 [.int .i64 q, u']).far (p := ⟨b5, 0, none⟩) ne2 (.int .i64 p)).far (p := ⟨b5, 1, none⟩) ne2 v'
  exact h.done (O := fun k => k = b5) ((((Tch.refl (fun k => k = b5) W).alloc _).setCell (p := ⟨b5, 0, none⟩) (.inl rfl) _).setCell (p := ⟨b5, 1, none⟩) (.inl rfl) _) (fun k e => .inl (by rw [e]; exact hX)) r4 r5 (.inr (Nat.le_refl _)) (.inl hX)
theorem pe_45 (h : PC D w0 W a b q p b1 b2 c b3 S R C X xs0 ys0 xs ys u v u' v') {x y x2 y2 : Value} (hr : Row b4 32 [x, y] W) (hr5 : Row b5 32 [x2, y2] W) (hX : X b4) (hX5 : X b5) (hne : b4 ≠ b5) : P2 D w0 ((((W.setCell ⟨b4, 0, none⟩ (.int .i64 q)).setCell ⟨b4, 1, none⟩ u').setCell ⟨b5, 0, none⟩ (.int .i64 p)).setCell ⟨b5, 1, none⟩ v') a b q p b1 b2 c b3 b4 b5 S R C xs0 ys0 xs ys u v u' v' := by
  have ne2 : b5 ≠ b4 := Ne.symm hne
  have r4 := ((hr.put2 (.int .i64 q) u').far (p := ⟨b5, 0, none⟩) hne (.int .i64 p)).far (p := ⟨b5, 1, none⟩) hne v'
  have r5 := ((hr5.far (p := ⟨b4, 0, none⟩) ne2 (.int .i64 q)).far (p := ⟨b4, 1, none⟩) ne2 u').put2 (.int .i64 p) v'
  exact h.done (O := fun k => k = b4 ∨ k = b5) (tch_putT W b4 b5 _ _ _ _) (fun k e => .inl (by rcases e with e | e <;> rw [e] <;> assumption)) r4 r5 (.inl hX) (.inl hX5)
/-- the new rows are taken over -/
theorem P2.put (h : P2 D w0 W a b q p b1 b2 c b3 b4 b5 S R C xs0 ys0 xs ys u v u' v') : PS D w0 ((((W.setCell ⟨b1, 0, none⟩ (.int .i64 q)).setCell ⟨b1, 1, none⟩ u').setCell ⟨b2, 0, none⟩ (.int .i64 p)).setCell ⟨b2, 1, none⟩ v') a b q p b1 b2 S R xs ys u' v' ∧ D.Is C ((((W.setCell ⟨b1, 0, none⟩ (.int .i64 q)).setCell ⟨b1, 1, none⟩ u').setCell ⟨b2, 0, none⟩ (.int .i64 p)).setCell ⟨b2, 1, none⟩ v') c q xs0 ∧ SlIs (fun _ => False) ((((W.setCell ⟨b1, 0, none⟩ (.int .i64 q)).setCell ⟨b1, 1, none⟩ u').setCell ⟨b2, 0, none⟩ (.int .i64 p)).setCell ⟨b2, 1, none⟩ v') u xs0 ∧ Row b3 32 [.int .i64 q, u] ((((W.setCell ⟨b1, 0, none⟩ (.int .i64 q)).setCell ⟨b1, 1, none⟩ u').setCell ⟨b2, 0, none⟩ (.int .i64 p)).setCell ⟨b2, 1, none⟩ v') := by
  have g := h.pc.ge
  have hne : b1 ≠ b2 := g.2.2.2
  have ne2 : b2 ≠ b1 := Ne.symm hne
  have t1 := tch_putT W b1 b2 (.int .i64 q) u' (.int .i64 p) v'
  unfold putT at t1
  have i1 := D.tch h.pc.ds.one t1 (fun k e e2 => by have := g.1 k (.inl e); omega)
  have i2 := D.tch h.pc.ds.two t1 (fun k e e2 => by have := g.1 k (.inr e); omega)
  have d := (h.pc.ds.step i1 i2 h.pc.ds.ap (fun k e => .inl e) (fun k e => .inl e) t1 (fun k e => .inl (.inl (.inl e)))).less (T' := fun k => k = b1 ∨ k = b2) (fun k e => .inl (.inl e))
  refine ⟨⟨d, ((h.pc.r1.put2 (.int .i64 q) u').far (p := ⟨b2, 0, none⟩) hne (.int .i64 p)).far (p := ⟨b2, 1, none⟩) hne v', ((h.pc.r2.far (p := ⟨b1, 0, none⟩) ne2 (.int .i64 q)).far (p := ⟨b1, 1, none⟩) ne2 u').put2 (.int .i64 p) v', h.pc.be.trans (t1.below h.pc.be.size (fun k e => by omega)), g⟩, D.tch h.pc.ic t1 (fun k e e2 => by have := h.pc.ne.1 k e; omega), (h.pc.was.tch (t1.wide (fun k e => .inl e))).less (fun _ e => e.elim), h.pc.r3.tch t1 (by have := h.pc.ne; omega)⟩
/-- at the start -/
theorem ps_new (hbe : Below w0.heap.size w0 W) (h1 : D.Is S W a q xs) (h2 : D.Is R W b p ys) (hap : ∀ k, S k → ¬ R k) (hge : ∀ k, (S k ∨ R k) → w0.heap.size ≤ k) (hu : SlIs (fun k => S k ∨ R k) W u xs) (hv : SlIs (fun k => S k ∨ R k) W v ys) :
    PS D w0 ((W.alloc (.cells #[.int .i64 q, u] 32)).alloc (.cells #[.int .i64 p, v] 32)) a b q p W.heap.size (W.heap.size + 1) S R xs ys u v := by
  have z1 : (W.alloc (.cells #[.int .i64 q, u] 32)).heap.size = W.heap.size + 1 := by simp
  have a1 := (Below.refl W.heap.size W).alloc (Nat.le_refl _) (.cells #[.int .i64 q, u] 32)
  have a2 := (Below.refl _ (W.alloc (.cells #[.int .i64 q, u] 32))).alloc (Nat.le_refl _) (.cells #[.int .i64 p, v] 32)
  have aa := a1.trans (a2.mono a1.size)
  have hc : ∀ k, ((k = W.heap.size ∨ k = W.heap.size + 1) ∨ S k ∨ R k) → (S k ∨ R k) ∨ W.heap.size ≤ k := fun k e => by
    rcases e with e | e
    · exact .inr (by omega)
    · exact .inl e
  have z0 := hbe.size
  refine ⟨⟨D.on h1 aa, D.on h2 aa, hap, (hu.more hc).on aa, (hv.more hc).on aa⟩, (Row.new W 32 [.int .i64 q, u]).on' a2, Row.new' _ 32 [.int .i64 p, v] _ z1.symm, hbe.trans (aa.mono z0), ⟨fun k e => ⟨hge k e, ?_, ?_⟩, by omega, by omega, by omega⟩⟩
  · rcases e with e | e
    · have := D.lt h1 k e; omega
    · have := D.lt h2 k e; omega
  · rcases e with e | e
    · have := D.lt h1 k e; omega
    · have := D.lt h2 k e; omega
end
/-- does, from behind the copy on -/
def DoPost (D : DqApi) (w0 W' : World) (a b q p b1 b2 c b3 : Nat) (C X : Nat → Prop) (xs0 ys0 xs ys : List Int) (u v : Value) (e : Ending) (w' : World) : Prop :=
  ∃ S' R' p3 n3 c3 p4 n4 c4, e = .returned (.tuple #[.agg #[.int .i64 q, .slice p3 n3 c3], .agg #[.int .i64 p, .slice p4 n4 c4], .bool true]) ∧ PC D w0 w' a b q p b1 b2 c b3 S' R' C X xs0 ys0 xs ys u v (.slice p3 n3 c3) (.slice p4 n4 c4) ∧ W'.heap.size ≤ w'.heap.size ∧ ∀ t T cs, X t → Row t T cs W' → Row t T cs w'
theorem p1_does {D : DqApi} {w0 W W' : World} {a b q p b1 b2 c b3 : Nat} {S R C X : Nat → Prop} {xs ys : List Int} {u v vl : Value} {l : List Int} (d g : Int) (h : P1 D w0 W a b q p b1 b2 c b3 S R C xs ys u v) (hb : Below W.heap.size W W') (hX : ∀ k, X k → W.heap.size ≤ k ∧ k < W'.heap.size) (hvl : SlIs (fun _ => False) w0 vl l) (hll : l.length ≤ 80) (h64 : q ≤ 64 ∧ p ≤ 64) :
    Calls Try.prog 13 #[dptr a, dptr b, .agg #[.int .i64 q, u], .agg #[.int .i64 p, v], .agg #[.int .i64 d, .int .i64 g, vl]] W' (DoPost D w0 W' a b q p b1 b2 c b3 C X xs ys (stepX q xs ys d g l) (stepY p xs ys d) u v) := by
  have h1 := h.on hb
  have g0 := h.ps.ge
  have z0 := h.ps.be.size
  have hd : DS D (fun k => (k = b1 ∨ k = b2) ∨ X k) S R W' a b q p xs ys u v xs ys := (h.ps.ds.less (T' := fun k => (k = b1 ∨ k = b2) ∨ X k) (fun k e => e.imp id (fun e => (hX k e).1))).on hb
  have l1 := h1.ps.r1.lt
  have l2 := h1.ps.r2.lt
  have hT : ∀ k, ((k = b1 ∨ k = b2) ∨ X k) → k < W'.heap.size := fun k e => by
    rcases e with (e | e) | e
    · omega
    · omega
    · exact (hX k e).2
  have hv : SlIs (fun k => ((k = b1 ∨ k = b2) ∨ X k) ∨ S k ∨ R k) W' vl l := (hvl.more (fun k e => .inr (by
    rcases e with (e | e) | e
    · omega
    · have := (hX k e).1; omega
    · exact (g0.1 k e).1))).on h1.ps.be
  refine (does_any D d g l hd hT hv hll h64).mono ?_
  rintro e w'' ⟨S', R', p3, n3, c3, p4, n4, c4, rfl, hd', hs, hr, ht⟩
  refine ⟨S', R', p3, n3, c3, p4, n4, c4, rfl, h.does hb (fun k e => (hX k e).1) hd' hs hr ht (fun k e => (hX k e).2), ht.size, fun t T cs e hr' => hr'.tch ht (fun e2 => ?_)⟩
  have l := h.ps.low t e2
  have := (hX t e).1
  omega
section
variable {C : Nat} {w : World} {t t2 : Nat}
theorem bl_a (h : C ≤ w.heap.size) (o : Obj) : Below C w (w.alloc o) := (Below.refl _ _).alloc h o
theorem bl_aa (h : C ≤ w.heap.size) (o o2 : Obj) : Below C w ((w.alloc o).alloc o2) := (bl_a h o).alloc (by rw [World.size_alloc]; omega) o2
theorem bl_s (h : C ≤ t) (x y : Value) : Below C w ((w.setCell ⟨t, 0, none⟩ x).setCell ⟨t, 1, none⟩ y) := ((Below.refl _ _).setCell (p := ⟨t, 0, none⟩) h _).setCell (p := ⟨t, 1, none⟩) h _
theorem bl_as (hw : C ≤ w.heap.size) (h : C ≤ t) (o : Obj) (x y : Value) : Below C w (((w.alloc o).setCell ⟨t, 0, none⟩ x).setCell ⟨t, 1, none⟩ y) := ((bl_a hw o).setCell (p := ⟨t, 0, none⟩) h _).setCell (p := ⟨t, 1, none⟩) h _
theorem bl_ass (hw : C ≤ w.heap.size) (h : C ≤ t) (h2 : C ≤ t2) (o : Obj) (x y z v : Value) : Below C w (((((w.alloc o).setCell ⟨t, 0, none⟩ x).setCell ⟨t, 1, none⟩ y).setCell ⟨t2, 0, none⟩ z).setCell ⟨t2, 1, none⟩ v) := ((bl_as hw h o x y).setCell (p := ⟨t2, 0, none⟩) h2 _).setCell (p := ⟨t2, 1, none⟩) h2 _
theorem bl_ss (h : C ≤ t) (h2 : C ≤ t2) (x y z v : Value) : Below C w ((((w.setCell ⟨t, 0, none⟩ x).setCell ⟨t, 1, none⟩ y).setCell ⟨t2, 0, none⟩ z).setCell ⟨t2, 1, none⟩ v) := ((bl_s h x y).setCell (p := ⟨t2, 0, none⟩) h2 _).setCell (p := ⟨t2, 1, none⟩) h2 _
end
/-- the other one's room -/
theorem other_room (rm : Int) (h : 0 ≤ rm ∧ rm ≤ 255) : ∃ p : Nat, wrap64 (2 * 2 ^ (rm % 6).toNat) = (p : Int) ∧ room (p : Int) = true ∧ p ≤ 64 := by
  obtain ⟨k, hk⟩ : ∃ k, (rm % 6).toNat = k := ⟨_, rfl⟩
  rw [hk]
  have h6 : k = 0 ∨ k = 1 ∨ k = 2 ∨ k = 3 ∨ k = 4 ∨ k = 5 := by omega
  rcases h6 with rfl | rfl | rfl | rfl | rfl | rfl
  · exact ⟨2, by rw [show (2 : Int) * 2 ^ 0 = 2 from rfl, IntWalk.wrap64_in _ ⟨by omega, by omega⟩]; rfl, by decide, by decide⟩
  · exact ⟨4, by rw [show (2 : Int) * 2 ^ 1 = 4 from rfl, IntWalk.wrap64_in _ ⟨by omega, by omega⟩]; rfl, by decide, by decide⟩
  · exact ⟨8, by rw [show (2 : Int) * 2 ^ 2 = 8 from rfl, IntWalk.wrap64_in _ ⟨by omega, by omega⟩]; rfl, by decide, by decide⟩
  · exact ⟨16, by rw [show (2 : Int) * 2 ^ 3 = 16 from rfl, IntWalk.wrap64_in _ ⟨by omega, by omega⟩]; rfl, by decide, by decide⟩
  · exact ⟨32, by rw [show (2 : Int) * 2 ^ 4 = 32 from rfl, IntWalk.wrap64_in _ ⟨by omega, by omega⟩]; rfl, by decide, by decide⟩
  · exact ⟨64, by rw [show (2 : Int) * 2 ^ 5 = 64 from rfl, IntWalk.wrap64_in _ ⟨by omega, by omega⟩]; rfl, by decide, by decide⟩
end Go.Proofs.Ytjdbmedealhbjaa
