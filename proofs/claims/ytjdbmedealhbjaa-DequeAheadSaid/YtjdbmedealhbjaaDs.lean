/- Two deques of the code's beside two of the reference's (layer 8): what holds between two calls. -/
import Derived.Test.YtjdbmedealhbjaaKt
import Derived.Test.YtjdbmedealhbjaaMw
namespace Go.Proofs.Ytjdbmedealhbjaa
open Go.RowKit Go.Wd Go.Dk

/-- a row that was there stays, and lies apart from whatever is newer -/
theorem SlIs.later {A B C : Nat → Prop} {w w' : World} {v : Value} {xs : List Int} (h : SlIs A w v xs) (ht : Tch B w w') (hb : ∀ k, B k → A k ∨ w.heap.size ≤ k) (hc : ∀ k, C k → A k ∨ w.heap.size ≤ k) : SlIs C w' v xs :=
  ((h.more (R := fun k => A k ∨ w.heap.size ≤ k) (fun _ e => e)).tch (ht.wide (fun k e => hb k e))).less (fun k e => hc k e)
theorem Tch.into {A B : Nat → Prop} {w W W' : World} (h : Tch A w W) (ht : Tch B W W') (hb : ∀ k, B k → A k ∨ w.heap.size ≤ k) : Tch A w W' := by
  refine ⟨ht.os.trans h.os, ht.tape.trans h.tape, ht.output.trans h.output, Nat.le_trans h.size ht.size, fun k hk hn => ?_⟩
  refine (ht.block k (Nat.lt_of_lt_of_le hk h.size) (fun e => ?_)).trans (h.block k hk hn)
  rcases hb k e with e | e
  · exact hn e
  · omega
/-- two deques that lie apart, and two rows of the reference's, that lie apart from them and from T -/
structure DS (D : DqApi) (T S R : Nat → Prop) (W : World) (a b q p : Nat) (xs ys : List Int) (u v : Value) (us vs : List Int) : Prop where
  one : D.Is S W a q xs
  two : D.Is R W b p ys
  ap : ∀ k, S k → ¬ R k
  ru : SlIs (fun k => T k ∨ S k ∨ R k) W u us
  rv : SlIs (fun k => T k ∨ S k ∨ R k) W v vs
section
variable {D : DqApi} {T S R S' R' B : Nat → Prop} {W W' : World} {a b q p : Nat} {xs ys us vs xs' ys' us' vs' : List Int} {u v u' v' : Value}
theorem DS.step (h : DS D T S R W a b q p xs ys u v us vs) (h1 : D.Is S' W' a q xs') (h2 : D.Is R' W' b p ys') (hap : ∀ k, S' k → ¬ R' k) (hs : ∀ k, S' k → S k ∨ W.heap.size ≤ k) (hr : ∀ k, R' k → R k ∨ W.heap.size ≤ k) (ht : Tch B W W') (hb : ∀ k, B k → (T k ∨ S k ∨ R k) ∨ W.heap.size ≤ k) :
    DS D T S' R' W' a b q p xs' ys' u v us vs := by
  have hc : ∀ k, (T k ∨ S' k ∨ R' k) → (T k ∨ S k ∨ R k) ∨ W.heap.size ≤ k := fun k e => by
    rcases e with e | e | e
    · exact .inl (.inl e)
    · exact (hs k e).imp (fun e => .inr (.inl e)) id
    · exact (hr k e).imp (fun e => .inr (.inr e)) id
  exact ⟨h1, h2, hap, h.ru.later ht hb hc, h.rv.later ht hb hc⟩
theorem DS.tch (h : DS D T S R W a b q p xs ys u v us vs) (ht : Tch B W W') (hb : ∀ k, B k → W.heap.size ≤ k) : DS D T S R W' a b q p xs ys u v us vs := by
  refine h.step (D.tch h.one ht (fun k hs hb' => ?_)) (D.tch h.two ht (fun k hs hb' => ?_)) h.ap (fun k e => .inl e) (fun k e => .inl e) ht (fun k e => .inr (hb k e))
  · have := D.lt h.one k hs; have := hb k hb'; omega
  · have := D.lt h.two k hs; have := hb k hb'; omega
theorem DS.on (h : DS D T S R W a b q p xs ys u v us vs) (hb : Below W.heap.size W W') : DS D T S R W' a b q p xs ys u v us vs := h.tch (.of (fun _ => False) hb) (fun _ e => e.elim)
/-- the reference's rows anew -/
theorem DS.refs (h : DS D T S R W a b q p xs ys u v us vs) (hb : Below W.heap.size W W') (h1 : SlIs (fun k => T k ∨ S k ∨ R k) W' u' us') (h2 : SlIs (fun k => T k ∨ S k ∨ R k) W' v' vs') : DS D T S R W' a b q p xs ys u' v' us' vs' := by
  have h3 := h.on hb
  exact ⟨h3.one, h3.two, h3.ap, h1, h2⟩
theorem DS.ref1 (h : DS D T S R W a b q p xs ys u v us vs) (hb : Below W.heap.size W W') (h1 : SlIs (fun k => T k ∨ S k ∨ R k) W' u' us') : DS D T S R W' a b q p xs ys u' v us' vs := h.refs hb h1 (h.on hb).rv
/-- a call on the first one -/
theorem DS.call1 (h : DS D T S R W a b q p xs ys u v us vs) (h1 : D.Is S' W' a q xs') (hs : ∀ k, S' k → S k ∨ W.heap.size ≤ k) (ht : Tch S W W') : DS D T S' R W' a b q p xs' ys u v us vs := by
  refine h.step h1 (D.tch h.two ht (fun k hr hs' => h.ap k hs' hr)) (fun k e hr => ?_) hs (fun k e => .inl e) ht (fun k e => .inl (.inr (.inl e)))
  rcases hs k e with e | e
  · exact h.ap k e hr
  · have := D.lt h.two k hr; omega
end
/-- for fewer blocks, and for new ones -/
theorem DS.less {D : DqApi} {T T' S R : Nat → Prop} {W : World} {a b q p : Nat} {xs ys us vs : List Int} {u v : Value} (h : DS D T S R W a b q p xs ys u v us vs) (ht : ∀ k, T' k → T k ∨ W.heap.size ≤ k) : DS D T' S R W a b q p xs ys u v us vs := by
  have hc : ∀ k, (T' k ∨ S k ∨ R k) → (T k ∨ S k ∨ R k) ∨ W.heap.size ≤ k := fun k e => by
    rcases e with e | e
    · exact (ht k e).imp .inl id
    · exact .inl (.inr e)
  exact ⟨h.one, h.two, h.ap, h.ru.more hc, h.rv.more hc⟩
/-- blocks that all are there -/
theorem ds_lt {D : DqApi} {T S R : Nat → Prop} {W : World} {a b q p : Nat} {xs ys us vs : List Int} {u v : Value} (h : DS D T S R W a b q p xs ys u v us vs) (hT : ∀ k, T k → k < W.heap.size) : ∀ k, (T k ∨ S k ∨ R k) → k < W.heap.size := fun k e => by
  rcases e with e | e | e
  · exact hT k e
  · exact D.lt h.one k e
  · exact D.lt h.two k e

/-- what an act makes of both -/
def stepX (q : Nat) (xs ys : List Int) (d g : Int) (l : List Int) : List Int :=
  if d = 0 ∨ d = 1 then putL q xs g else if d = 2 then layL q xs l else if d = 3 then xs.tail else if d = 4 then stL xs else if d = 5 then mvF xs ys else if d = 6 then mvT q ys xs else xs
def stepY (p : Nat) (xs ys : List Int) (d : Int) : List Int := if d = 5 then mvT p xs ys else if d = 6 then mvF ys xs else ys

/-- the boxes of does: both rows, the act, both results -/
structure DB (S R : Nat → Prop) (w W : World) (q : Nat) (u : Value) (p : Nat) (v : Value) (d g : Int) (l : Value) (f t c r s : Nat) : Prop where
  tch : Tch (fun k => S k ∨ R k) w W
  low : ∀ k, (S k ∨ R k) → k < w.heap.size
  one : Row f 32 [.int .i64 q, u] W
  two : Row t 32 [.int .i64 p, v] W
  act : Row c 38 [.int .i64 d, .int .i64 g, l] W
  res : Row r 32 [.int .i64 0, .slice none 0 0] W
  ses : Row s 32 [.int .i64 0, .slice none 0 0] W
  ge : w.heap.size ≤ f ∧ f < t ∧ t < c ∧ c < r ∧ r < s
section
variable {S R : Nat → Prop} {w W W' : World} {q p : Nat} {u v l : Value} {d g : Int} {f t c r s : Nat} {B : Nat → Prop}
theorem DB.lt (h : DB S R w W q u p v d g l f t c r s) : s < W.heap.size := h.ses.lt
theorem DB.go (h : DB S R w W q u p v d g l f t c r s) (ht : Tch B W W') (hb : ∀ k, B k → (S k ∨ R k) ∨ W.heap.size ≤ k) : DB S R w W' q u p v d g l f t c r s := by
  have g := h.ge
  have l1 := h.ses.lt
  have z := h.tch.size
  have hn : ∀ k, w.heap.size ≤ k → k ≤ s → ¬ B k := fun k h1 h2 hB => by
    rcases hb k hB with e | e
    · have := h.low k e; omega
    · omega
  exact ⟨h.tch.into ht (fun k e => (hb k e).imp id (fun e => by omega)), h.low, h.one.tch ht (hn f (by omega) (by omega)), h.two.tch ht (hn t (by omega) (by omega)), h.act.tch ht (hn c (by omega) (by omega)), h.res.tch ht (hn r (by omega) (by omega)), h.ses.tch ht (hn s (by omega) (by omega)), h.ge⟩
theorem DB.on (h : DB S R w W q u p v d g l f t c r s) (hb : Below W.heap.size W W') : DB S R w W' q u p v d g l f t c r s := h.go (.of (fun _ => False) hb) (fun _ e => e.elim)
theorem db_new (w : World) (q : Nat) (u : Value) (p : Nat) (v : Value) (d g : Int) (l : Value) (hlow : ∀ k, (S k ∨ R k) → k < w.heap.size) : DB S R w (((((w.alloc (.cells #[.int .i64 q, u] 32)).alloc (.cells #[.int .i64 p, v] 32)).alloc (.cells #[.int .i64 d, .int .i64 g, l] 38)).alloc (.cells #[.int .i64 0, .slice none 0 0] 32)).alloc (.cells #[.int .i64 0, .slice none 0 0] 32)) q u p v d g l w.heap.size (w.heap.size + 1) (w.heap.size + 1 + 1) (w.heap.size + 1 + 1 + 1) (w.heap.size + 1 + 1 + 1 + 1) := by
  have a1 := (Below.refl w.heap.size w).alloc (Nat.le_refl _) (.cells #[.int .i64 q, u] 32)
  have h1 := Row.new w 32 [.int .i64 q, u]
  obtain ⟨w1, hw1⟩ : ∃ w1, w.alloc (.cells #[.int .i64 q, u] 32) = w1 := ⟨_, rfl⟩
  have z1 : w1.heap.size = w.heap.size + 1 := by rw [← hw1]; simp
  have h1' : Row w.heap.size 32 [.int .i64 q, u] w1 := by rw [← hw1]; exact h1
  rw [hw1] at a1 ⊢
  clear hw1 h1
  have a2 := (Below.refl w1.heap.size w1).alloc (Nat.le_refl _) (.cells #[.int .i64 p, v] 32)
  have h2 := Row.new' w1 32 [.int .i64 p, v] (w.heap.size + 1) z1.symm
  obtain ⟨w2, hw2⟩ : ∃ w2, w1.alloc (.cells #[.int .i64 p, v] 32) = w2 := ⟨_, rfl⟩
  have z2 : w2.heap.size = w.heap.size + 1 + 1 := by rw [← hw2]; simp [z1]
  have h2' : Row (w.heap.size + 1) 32 [.int .i64 p, v] w2 := by rw [← hw2]; exact h2
  rw [hw2] at a2 ⊢
  clear hw2 h2
  have a3 := (Below.refl w2.heap.size w2).alloc (Nat.le_refl _) (.cells #[.int .i64 d, .int .i64 g, l] 38)
  have h3 := Row.new' w2 38 [.int .i64 d, .int .i64 g, l] (w.heap.size + 1 + 1) z2.symm
  obtain ⟨w3, hw3⟩ : ∃ w3, w2.alloc (.cells #[.int .i64 d, .int .i64 g, l] 38) = w3 := ⟨_, rfl⟩
  have z3 : w3.heap.size = w.heap.size + 1 + 1 + 1 := by rw [← hw3]; simp [z2]
  have h3' : Row (w.heap.size + 1 + 1) 38 [.int .i64 d, .int .i64 g, l] w3 := by rw [← hw3]; exact h3
  rw [hw3] at a3 ⊢
  clear hw3 h3
  have a4 := (Below.refl w3.heap.size w3).alloc (Nat.le_refl _) (.cells #[.int .i64 0, .slice none 0 0] 32)
  have h4 := Row.new' w3 32 [.int .i64 0, .slice none 0 0] (w.heap.size + 1 + 1 + 1) z3.symm
  obtain ⟨w4, hw4⟩ : ∃ w4, w3.alloc (.cells #[.int .i64 0, .slice none 0 0] 32) = w4 := ⟨_, rfl⟩
  have z4 : w4.heap.size = w.heap.size + 1 + 1 + 1 + 1 := by rw [← hw4]; simp [z3]
  have h4' : Row (w.heap.size + 1 + 1 + 1) 32 [.int .i64 0, .slice none 0 0] w4 := by rw [← hw4]; exact h4
  rw [hw4] at a4 ⊢
  clear hw4 h4
  have a5 := (Below.refl w4.heap.size w4).alloc (Nat.le_refl _) (.cells #[.int .i64 0, .slice none 0 0] 32)
  have h5 := Row.new' w4 32 [.int .i64 0, .slice none 0 0] (w.heap.size + 1 + 1 + 1 + 1) z4.symm
  have b2 := a1.trans (a2.mono a1.size)
  have b3 := b2.trans (a3.mono b2.size)
  have b4 := b3.trans (a4.mono b3.size)
  exact ⟨.of _ (b4.trans (a5.mono b4.size)), hlow, (((h1'.on' a2).on' a3).on' a4).on' a5, ((h2'.on' a3).on' a4).on' a5, (h3'.on' a4).on' a5, h4'.on' a5, h5, by omega⟩
end
/-- what does answers -/
def DoesPost (D : DqApi) (T S R : Nat → Prop) (a b q p : Nat) (xs ys : List Int) (w : World) (e : Ending) (w' : World) : Prop :=
  ∃ S' R' p1 n1 c1 p2 n2 c2, e = .returned (.tuple #[.agg #[.int .i64 q, .slice p1 n1 c1], .agg #[.int .i64 p, .slice p2 n2 c2], .bool true]) ∧ DS D T S' R' w' a b q p xs ys (.slice p1 n1 c1) (.slice p2 n2 c2) xs ys ∧ (∀ k, S' k → S k ∨ w.heap.size ≤ k) ∧ (∀ k, R' k → R k ∨ w.heap.size ≤ k) ∧ Tch (fun k => S k ∨ R k) w w'
/-- ahead of the last statement: both rows, the act, both results in their boxes -/
structure DX (S R : Nat → Prop) (w W : World) (q : Nat) (u : Value) (p : Nat) (v : Value) (d g : Int) (l : Value) (f t c r s : Nat) : Prop where
  tch : Tch (fun k => S k ∨ R k) w W
  low : ∀ k, (S k ∨ R k) → k < w.heap.size
  one : Row f 32 [.int .i64 q, u] W
  two : Row t 32 [.int .i64 p, v] W
  act : Row c 38 [.int .i64 d, .int .i64 g, l] W
  res : Row r 32 [.int .i64 0, .slice none 0 0] W
  ses : Row s 32 [.int .i64 0, .slice none 0 0] W
  ge : w.heap.size ≤ f ∧ w.heap.size ≤ t ∧ w.heap.size ≤ c ∧ w.heap.size ≤ r ∧ r < s ∧ f ≠ r ∧ f ≠ s ∧ t ≠ r ∧ t ≠ s ∧ c ≠ r ∧ c ≠ s
section
variable {S R : Nat → Prop} {w W W' : World} {q p : Nat} {u v l : Value} {d g : Int} {f t c r s : Nat} {B : Nat → Prop}
theorem DX.go (h : DX S R w W q u p v d g l f t c r s) (ht : Tch B W W') (hb : ∀ k, B k → (S k ∨ R k) ∨ W.heap.size ≤ k) : DX S R w W' q u p v d g l f t c r s := by
  have g := h.ge
  have z := h.tch.size
  have hn : ∀ k, w.heap.size ≤ k → k < W.heap.size → ¬ B k := fun k h1 h2 hB => by
    rcases hb k hB with e | e
    · have := h.low k e; omega
    · omega
  exact ⟨h.tch.into ht (fun k e => (hb k e).imp id (fun e => by omega)), h.low, h.one.tch ht (hn f (by omega) h.one.lt), h.two.tch ht (hn t (by omega) h.two.lt), h.act.tch ht (hn c (by omega) h.act.lt), h.res.tch ht (hn r (by omega) h.res.lt), h.ses.tch ht (hn s (by omega) h.ses.lt), h.ge⟩
theorem DX.go2 (h : DX S R w W q u p v d g l f t c r s) (ht : Tch B W W') (hb : ∀ k, B k → (S k ∨ R k) ∨ (w.heap.size ≤ k ∧ k ≠ f ∧ k ≠ t ∧ k ≠ c ∧ k ≠ r ∧ k ≠ s)) : DX S R w W' q u p v d g l f t c r s := by
  have g := h.ge
  have hn : ∀ k, w.heap.size ≤ k → (k = f ∨ k = t ∨ k = c ∨ k = r ∨ k = s) → ¬ B k := fun k h1 h2 hB => by
    rcases hb k hB with e | e
    · have := h.low k e; omega
    · omega
  exact ⟨h.tch.into ht (fun k e => (hb k e).imp id (fun e => e.1)), h.low, h.one.tch ht (hn f (by omega) (.inl rfl)), h.two.tch ht (hn t (by omega) (.inr (.inl rfl))), h.act.tch ht (hn c (by omega) (.inr (.inr (.inl rfl)))), h.res.tch ht (hn r (by omega) (.inr (.inr (.inr (.inl rfl))))), h.ses.tch ht (hn s (by omega) (.inr (.inr (.inr (.inr rfl))))), h.ge⟩
theorem DX.on (h : DX S R w W q u p v d g l f t c r s) (hb : Below W.heap.size W W') : DX S R w W' q u p v d g l f t c r s := h.go (.of (fun _ => False) hb) (fun _ e => e.elim)
/-- all that the last statement reads -/
abbrev DXC (q : Nat) (u : Value) (p : Nat) (v : Value) (g : Int) (f t c : Nat) (W : World) : Prop := (W.cell? ⟨f, 0, none⟩ = some (.int .i64 q) ∧ W.cell? ⟨f, 1, none⟩ = some u) ∧ (W.cell? ⟨t, 0, none⟩ = some (.int .i64 p) ∧ W.cell? ⟨t, 1, none⟩ = some v) ∧ W.cell? ⟨c, 1, none⟩ = some (.int .i64 g)
theorem DX.cells (h : DX S R w W q u p v d g l f t c r s) : DXC q u p v g f t c W := ⟨⟨h.one.cell 0, h.one.cell 1⟩, ⟨h.two.cell 0, h.two.cell 1⟩, h.act.cell 1⟩
theorem DX.cellsd (h : DX S R w W q u p v d g l f t c r s) : DXC q u p v g f t c W.drew := by
  have h1 := h.one.drew
  have h2 := h.two.drew
  have h3 := h.act.drew
  exact ⟨⟨h1.cell 0, h1.cell 1⟩, ⟨h2.cell 0, h2.cell 1⟩, h3.cell 1⟩
theorem DX.kept (h : DX S R w W q u p v d g l f t c r s) (y z : Value) : DXC q u p v g f t c ((W.setCell ⟨r, 0, none⟩ y).setCell ⟨r, 1, none⟩ z) := by
  have g := h.ge
  have t1 : Tch (fun k => k = r) W ((W.setCell ⟨r, 0, none⟩ y).setCell ⟨r, 1, none⟩ z) := ((Tch.refl (fun k => k = r) W).setCell (p := ⟨r, 0, none⟩) (.inl rfl) _).setCell (p := ⟨r, 1, none⟩) (.inl rfl) _
  have h1 := h.one.tch t1 (by omega)
  have h2 := h.two.tch t1 (by omega)
  have h3 := h.act.tch t1 (by omega)
  exact ⟨⟨h1.cell 0, h1.cell 1⟩, ⟨h2.cell 0, h2.cell 1⟩, h3.cell 1⟩
/-- likewise, of both rows alone -/
abbrev DXE (q : Nat) (u : Value) (p : Nat) (v : Value) (f t : Nat) (W : World) : Prop := (W.cell? ⟨f, 0, none⟩ = some (.int .i64 q) ∧ W.cell? ⟨f, 1, none⟩ = some u) ∧ W.cell? ⟨t, 0, none⟩ = some (.int .i64 p) ∧ W.cell? ⟨t, 1, none⟩ = some v
theorem DX.ecells (h : DX S R w W q u p v d g l f t c r s) : DXE q u p v f t W := ⟨h.cells.1, h.cells.2.1⟩
theorem DX.ecellsd (h : DX S R w W q u p v d g l f t c r s) : DXE q u p v f t W.drew := ⟨h.cellsd.1, h.cellsd.2.1⟩
theorem DX.ekept (h : DX S R w W q u p v d g l f t c r s) (y z : Value) : DXE q u p v f t ((W.setCell ⟨r, 0, none⟩ y).setCell ⟨r, 1, none⟩ z) := ⟨(h.kept y z).1, (h.kept y z).2.1⟩
theorem drew_c {W : World} {a : Addr} {x : Option Value} (h : W.cell? a = x) : W.drew.cell? a = x := by rw [World.cell?_drew]; exact h
theorem DX.ekeptd (h : DX S R w W q u p v d g l f t c r s) (y z : Value) : DXE q u p v f t ((W.setCell ⟨r, 0, none⟩ y).setCell ⟨r, 1, none⟩ z).drew := by
  have h1 := h.ekept y z
  exact ⟨⟨drew_c h1.1.1, drew_c h1.1.2⟩, drew_c h1.2.1, drew_c h1.2.2⟩
theorem tch_putT (W : World) (r s : Nat) (x y z v : Value) : Tch (fun k => k = r ∨ k = s) W (putT W r s x y z v) := ((((Tch.refl (fun k => k = r ∨ k = s) W).setCell (p := ⟨r, 0, none⟩) (.inl (.inl rfl)) _).setCell (p := ⟨r, 1, none⟩) (.inl (.inl rfl)) _).setCell (p := ⟨s, 0, none⟩) (.inl (.inr rfl)) _).setCell (p := ⟨s, 1, none⟩) (.inl (.inr rfl)) _
theorem DX.kept2 (h : DX S R w W q u p v d g l f t c r s) (x y z v' : Value) : DXC q u p v g f t c ((((W.setCell ⟨r, 0, none⟩ x).setCell ⟨r, 1, none⟩ y).setCell ⟨s, 0, none⟩ z).setCell ⟨s, 1, none⟩ v') := by
  have g := h.ge
  have t1 := tch_putT W r s x y z v'
  unfold putT at t1
  have h1 := h.one.tch t1 (by omega)
  have h2 := h.two.tch t1 (by omega)
  have h3 := h.act.tch t1 (by omega)
  exact ⟨⟨h1.cell 0, h1.cell 1⟩, ⟨h2.cell 0, h2.cell 1⟩, h3.cell 1⟩
theorem DX.ekept2 (h : DX S R w W q u p v d g l f t c r s) (x y z v' : Value) : DXE q u p v f t ((((W.setCell ⟨r, 0, none⟩ x).setCell ⟨r, 1, none⟩ y).setCell ⟨s, 0, none⟩ z).setCell ⟨s, 1, none⟩ v') := ⟨(h.kept2 x y z v').1, (h.kept2 x y z v').2.1⟩
theorem DX.ekept2d (h : DX S R w W q u p v d g l f t c r s) (x y z v' : Value) : DXE q u p v f t ((((W.setCell ⟨r, 0, none⟩ x).setCell ⟨r, 1, none⟩ y).setCell ⟨s, 0, none⟩ z).setCell ⟨s, 1, none⟩ v').drew := by
  have h1 := h.ekept2 x y z v'
  exact ⟨⟨drew_c h1.1.1, drew_c h1.1.2⟩, drew_c h1.2.1, drew_c h1.2.2⟩
/-- the results are stored -/
theorem DX.put (h : DX S R w W q u p v d g l f t c r s) (x y z v' : Value) : Row r 32 [x, y] (putT W r s x y z v') ∧ Row s 32 [z, v'] (putT W r s x y z v') ∧ Tch (fun k => S k ∨ R k) w (putT W r s x y z v') := by
  have g := h.ge
  have hne : r ≠ s := by omega
  have hne2 : s ≠ r := by omega
  refine ⟨?_, ?_, h.tch.into (tch_putT W r s x y z v') (fun k e => .inr (by rcases e with e | e <;> omega))⟩
  · unfold putT
    exact ((h.res.put2 _ _).far (p := ⟨s, 0, none⟩) hne _).far (p := ⟨s, 1, none⟩) hne _
  · unfold putT
    exact ((h.ses.far (p := ⟨r, 0, none⟩) hne2 _).far (p := ⟨r, 1, none⟩) hne2 _).put2 _ _
theorem DB.dx (h : DB S R w W q u p v d g l f t c r s) : DX S R w W q u p v d g l f t c r s := ⟨h.tch, h.low, h.one, h.two, h.act, h.res, h.ses, by have := h.ge; omega⟩
/-- a new row in its box -/
theorem DB.dx1 (h : DB S R w W q u p v d g l f t c r s) {q' : Nat} {u' : Value} (hb : Below W.heap.size W W') : DX S R w (W'.alloc (.cells #[.int .i64 q', u'] 32)) q' u' p v d g l W'.heap.size t c r s := by
  have h1 := h.on hb
  have b1 := (Below.refl W'.heap.size W').alloc (Nat.le_refl _) (.cells #[.int .i64 q', u'] 32)
  have h2 := h1.on b1
  have g := h.ge
  have l1 := h1.ses.lt
  exact ⟨h2.tch, h2.low, Row.new W' _ [.int .i64 q', u'], h2.two, h2.act, h2.res, h2.ses, by omega⟩
/-- two new rows in their boxes -/
theorem DB.dx2 (h : DB S R w W q u p v d g l f t c r s) {q' p' : Nat} {u' v' : Value} (hb : Below W.heap.size W W') : DX S R w ((W'.alloc (.cells #[.int .i64 q', u'] 32)).alloc (.cells #[.int .i64 p', v'] 32)) q' u' p' v' d g l W'.heap.size (W'.heap.size + 1) c r s ∧ DX S R w ((W'.alloc (.cells #[.int .i64 q', u'] 32)).alloc (.cells #[.int .i64 p', v'] 32)) p' v' q' u' d g l (W'.heap.size + 1) W'.heap.size c r s := by
  have h1 := h.on hb
  have g := h.ge
  have l1 := h1.ses.lt
  have z1 : (W'.alloc (.cells #[.int .i64 q', u'] 32)).heap.size = W'.heap.size + 1 := by simp
  have b1 := (Below.refl W'.heap.size W').alloc (Nat.le_refl _) (.cells #[.int .i64 q', u'] 32)
  have b2 := (Below.refl _ (W'.alloc (.cells #[.int .i64 q', u'] 32))).alloc (Nat.le_refl _) (.cells #[.int .i64 p', v'] 32)
  have h2 := (h1.on b1).on b2
  have r1 := (Row.new W' 32 [.int .i64 q', u']).on' b2
  have r2 := Row.new' (W'.alloc (.cells #[.int .i64 q', u'] 32)) 32 [.int .i64 p', v'] (W'.heap.size + 1) z1.symm
  exact ⟨⟨h2.tch, h2.low, r1, r2, h2.act, h2.res, h2.ses, by omega⟩, ⟨h2.tch, h2.low, r2, r1, h2.act, h2.res, h2.ses, by omega⟩⟩
end
/-- the end of does -/
theorem does_end2 {D : DqApi} {T S R S' R' : Nat → Prop} {w W1 W2 : World} {a b q p : Nat} {xs ys us vs : List Int} {u v l : Value} {d g : Int} {f t c r s : Nat} {xs' ys' : List Int}
    (h : DS D (fun k => T k ∨ k = r ∨ k = s) S R W1 a b q p xs ys u v us vs) (h1 : D.Is S' W2 a q xs') (h2 : D.Is R' W2 b p ys') (hap : ∀ k, S' k → ¬ R' k) (hs : ∀ k, S' k → S k ∨ W1.heap.size ≤ k) (hr : ∀ k, R' k → R k ∨ W1.heap.size ≤ k) (ht : Tch (fun k => T k ∨ S k ∨ R k) W1 W2)
    (hx : DX S R w W2 q u p v d g l f t c r s) (hsl : s < W1.heap.size) (hw : w.heap.size ≤ W1.heap.size) :
    DS D T S' R' (putT W2 r s (.int .i64 q) u (.int .i64 p) v) a b q p xs' ys' u v us vs ∧ (∀ k, S' k → S k ∨ w.heap.size ≤ k) ∧ (∀ k, R' k → R k ∨ w.heap.size ≤ k) := by
  have g := hx.ge
  have t1 := tch_putT W2 r s (.int .i64 q) u (.int .i64 p) v
  have hrs : ∀ k, (k = r ∨ k = s) → ¬ S k ∧ ¬ R k ∧ k < W1.heap.size := fun k e => ⟨fun e2 => by have := hx.low k (.inl e2); rcases e with e | e <;> omega, fun e2 => by have := hx.low k (.inr e2); rcases e with e | e <;> omega, by rcases e with e | e <;> omega⟩
  have k1 := D.tch h1 t1 (fun k e e2 => by
    have e3 := hrs k e2
    rcases hs k e with e | e
    · exact e3.1 e
    · omega)
  have k2 := D.tch h2 t1 (fun k e e2 => by
    have e3 := hrs k e2
    rcases hr k e with e | e
    · exact e3.2.1 e
    · omega)
  have tt : Tch (fun k => (T k ∨ k = r ∨ k = s) ∨ S k ∨ R k) W1 (putT W2 r s (.int .i64 q) u (.int .i64 p) v) := (ht.wide (fun k e => e.imp .inl id)).into (t1.wide (fun k e => .inl (.inr e))) (fun k e => .inl e)
  refine ⟨((h.step k1 k2 hap hs hr tt (fun k e => .inl e)).less (fun k e => .inl (.inl e))), fun k e => (hs k e).imp id (fun e => by omega), fun k e => (hr k e).imp id (fun e => by omega)⟩
/-- the end of does -/
theorem does_end {D : DqApi} {T S R S' R' : Nat → Prop} {w W1 W2 : World} {a b q p : Nat} {xs ys us vs : List Int} {u v l : Value} {d g : Int} {f t c r s : Nat} {xs' ys' : List Int}
    (h : DS D (fun k => T k ∨ k = r ∨ k = s) S R W1 a b q p xs ys u v us vs) (h1 : D.Is S' W2 a q xs') (h2 : D.Is R' W2 b p ys') (hap : ∀ k, S' k → ¬ R' k) (hs : ∀ k, S' k → S k ∨ W1.heap.size ≤ k) (hr : ∀ k, R' k → R k ∨ W1.heap.size ≤ k) (ht : Tch (fun k => S k ∨ R k) W1 W2)
    (hx : DX S R w W2 q u p v d g l f t c r s) (hsl : s < W1.heap.size) (hw : w.heap.size ≤ W1.heap.size) :
    DS D T S' R' (putT W2 r s (.int .i64 q) u (.int .i64 p) v) a b q p xs' ys' u v us vs ∧ (∀ k, S' k → S k ∨ w.heap.size ≤ k) ∧ (∀ k, R' k → R k ∨ w.heap.size ≤ k) :=
  does_end2 h h1 h2 hap hs hr (ht.wide (fun k e => .inr e)) hx hsl hw
end Go.Proofs.Ytjdbmedealhbjaa
