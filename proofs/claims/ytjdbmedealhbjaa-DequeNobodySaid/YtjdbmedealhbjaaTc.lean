/- What a call may touch: of the blocks that were there, the named ones alone; blocks known whole; rows that lie apart from the named blocks. -/
import Derived.Test.YtjdbmedealhbjaaCm
import Derived.OneCell
import Derived.Laws.CopyOwn
import Derived.Deep.MidRow
namespace Go.Proofs.Ytjdbmedealhbjaa
open Go.RowKit

/-- of the blocks that were there at most those in S have turned -/
structure Tch (S : Nat → Prop) (w w' : World) : Prop where
  os : w'.os = w.os
  tape : w'.tape = w.tape
  output : w'.output = w.output
  size : w.heap.size ≤ w'.heap.size
  block : ∀ k, k < w.heap.size → ¬ S k → w'.heap[k]? = w.heap[k]?
theorem Tch.refl (S : Nat → Prop) (w : World) : Tch S w w := ⟨rfl, rfl, rfl, Nat.le_refl _, fun _ _ _ => rfl⟩
theorem Tch.trans {S : Nat → Prop} {a b c : World} (h : Tch S a b) (k : Tch S b c) : Tch S a c :=
  ⟨k.os.trans h.os, k.tape.trans h.tape, k.output.trans h.output, Nat.le_trans h.size k.size, fun i hi hs => (k.block i (Nat.lt_of_lt_of_le hi h.size) hs).trans (h.block i hi hs)⟩
theorem Tch.of (S : Nat → Prop) {w w' : World} (h : Below w.heap.size w w') : Tch S w w' := ⟨h.os, h.tape, h.output, h.size, fun k hk _ => h.block k hk⟩
theorem Tch.wide {S R : Nat → Prop} {w w' : World} (h : Tch S w w') (hr : ∀ k, S k → R k) : Tch R w w' := ⟨h.os, h.tape, h.output, h.size, fun k hk hn => h.block k hk fun hs => hn (hr k hs)⟩
theorem Tch.below {S : Nat → Prop} {B : Nat} {w w' : World} (h : Tch S w w') (hB : B ≤ w.heap.size) (hs : ∀ k, S k → B ≤ k) : Below B w w' :=
  ⟨h.os, h.tape, h.output, h.size, fun k hk => h.block k (Nat.lt_of_lt_of_le hk hB) fun hk2 => absurd (hs k hk2) (by omega)⟩
theorem Tch.then {S : Nat → Prop} {a w w' : World} (h : Tch S a w) (hb : Below w.heap.size w w') : Tch S a w' := h.trans (.of S hb)
theorem Tch.alloc {S : Nat → Prop} {a w : World} (h : Tch S a w) (o : Obj) : Tch S a (w.alloc o) := h.then ((Below.refl _ _).alloc (Nat.le_refl _) o)
theorem Tch.setCell {S : Nat → Prop} {a w : World} (h : Tch S a w) {p : Addr} (hp : S p.block ∨ a.heap.size ≤ p.block) (u : Value) : Tch S a (w.setCell p u) :=
  ⟨h.os, h.tape, h.output, by simpa [World.setCell] using h.size, fun k hk hn => (Below.heap_setCell w p u k (by rintro rfl; rcases hp with hp | hp; exact hn hp; omega)).trans (h.block k hk hn)⟩
theorem Tch.setRow {S : Nat → Prop} {a w : World} (h : Tch S a w) {g : Nat} (hp : S g ∨ a.heap.size ≤ g) (cs : Array Value) : Tch S a (w.setRow g cs) :=
  ⟨h.os, h.tape, h.output, by simpa [World.setRow] using h.size, fun k hk hn => (setRow_other w g k cs (by rintro rfl; rcases hp with hp | hp; exact hn hp; omega)).trans (h.block k hk hn)⟩
theorem Tch.obj {S : Nat → Prop} {w w' : World} {b : Nat} {o : Obj} (h : Tch S w w') (hb : w.heap[b]? = some o) (hs : ¬ S b) : w'.heap[b]? = some o := by rw [h.block b (lt_of_block hb) hs]; exact hb
theorem Tch.cell {S : Nat → Prop} {w w' : World} {p : Addr} {v : Value} (h : Tch S w w') (hc : w.cell? p = some v) (hs : ¬ S p.block) : w'.cell? p = some v := by
  rw [World.cell?_of_block (h.block p.block (block_lt_of_cell hc) hs)]; exact hc
theorem Below.obj {B b : Nat} {w w' : World} {o : Obj} (h : Below B w w') (hb : w.heap[b]? = some o) (hl : b < B) : w'.heap[b]? = some o := by rw [h.block b hl]; exact hb

/-- a block known whole, that may be written -/
def Row (g : Nat) (t : TypeId) (cs : List Value) (w : World) : Prop := w.heap[g]? = some (.cells cs.toArray t (0, 0))
theorem Row.lt {g : Nat} {t : TypeId} {cs : List Value} {w : World} (h : Row g t cs w) : g < w.heap.size := lt_of_block h
theorem Row.cell {g : Nat} {t : TypeId} {cs : List Value} {w : World} (h : Row g t cs w) (i : Nat) : w.cell? ⟨g, i, none⟩ = cs[i]? := by rw [cell_of_row w g i _ t _ h]; simp
theorem Row.frozen {g : Nat} {t : TypeId} {cs : List Value} {w : World} (h : Row g t cs w) (i : Nat) : w.frozen? ⟨g, i, none⟩ = false := frozen_of_row w g i _ t h
theorem Row.set {g : Nat} {t : TypeId} {cs : List Value} {w : World} (h : Row g t cs w) (i : Nat) (v : Value) : Row g t (cs.set i v) (w.setCell ⟨g, i, none⟩ v) := by
  have := heap_setCell_same w g i _ t v h
  unfold Row; rw [this]; simp
theorem Row.far {g : Nat} {t : TypeId} {cs : List Value} {w : World} (h : Row g t cs w) {p : Addr} (hp : g ≠ p.block) (v : Value) : Row g t cs (w.setCell p v) := by
  unfold Row; rw [Below.heap_setCell w p v g hp]; exact h
theorem Row.put {g : Nat} {t : TypeId} {cs : List Value} {w : World} (h : Row g t cs w) (ds : List Value) : Row g t ds (w.setRow g ds.toArray) := setRow_heap w g _ _ t _ h
theorem Row.new (w : World) (t : TypeId) (cs : List Value) : Row w.heap.size t cs (w.alloc (.cells cs.toArray t)) := heap_alloc_new w _
theorem Row.new' (w : World) (t : TypeId) (cs : List Value) (g : Nat) (hg : g = w.heap.size) : Row g t cs (w.alloc (.cells cs.toArray t)) := by subst hg; exact .new w t cs
theorem Row.on {B g : Nat} {t : TypeId} {cs : List Value} {w w' : World} (h : Row g t cs w) (hb : Below B w w') (hl : g < B) : Row g t cs w' := Below.obj hb h hl
theorem Row.on' {g : Nat} {t : TypeId} {cs : List Value} {w w' : World} (h : Row g t cs w) (hb : Below w.heap.size w w') : Row g t cs w' := h.on hb h.lt
theorem Row.tch {S : Nat → Prop} {g : Nat} {t : TypeId} {cs : List Value} {w w' : World} (h : Row g t cs w) (ht : Tch S w w') (hs : ¬ S g) : Row g t cs w' := ht.obj h hs
theorem Row.drew {g : Nat} {t : TypeId} {cs : List Value} {w : World} (h : Row g t cs w) : Row g t cs w.drew := h
theorem Row.range {g : Nat} {t : TypeId} {cs : List Value} {w : World} (h : Row g t cs w) : w.rangeAt g 0 cs := fun j v hv => by rw [Nat.zero_add, h.cell]; exact hv

/-- two cells, and three, of a block known whole -/
theorem Row.two {g : Nat} {t : TypeId} {a b : Value} {w : World} (h : Row g t [a, b] w) : w.cell? ⟨g, 0, none⟩ = some a ∧ w.cell? ⟨g, 1, none⟩ = some b ∧ w.frozen? ⟨g, 0, none⟩ = false ∧ w.frozen? ⟨g, 1, none⟩ = false := ⟨h.cell 0, h.cell 1, h.frozen 0, h.frozen 1⟩
theorem Row.put2 {g : Nat} {t : TypeId} {a b : Value} {w : World} (h : Row g t [a, b] w) (u v : Value) : Row g t [u, v] ((w.setCell ⟨g, 0, none⟩ u).setCell ⟨g, 1, none⟩ v) := (h.set 0 u).set 1 v
/-- numbers as they lie, in a block that is none of S -/
structure LiesN (S : Nat → Prop) (k : IntKind) (w : World) (p : Option Addr) (zs : List Int) : Prop where
  len : zs.length ≤ 1000000000000000
  cells : ∀ j, j < zs.length → ∃ b o, p = some ⟨b, o, none⟩ ∧ ¬ S b ∧ w.cell? ⟨b, o + j, none⟩ = some (.int k (zs.getD j 0))
theorem LiesN.lies {S : Nat → Prop} {k : IntKind} {w : World} {p : Option Addr} {zs : List Int} (h : LiesN S k w p zs) : Lies k w p zs :=
  ⟨h.len, fun j hj => by obtain ⟨b, o, hp, _, hc⟩ := h.cells j hj; exact ⟨b, o, hp, hc⟩⟩
theorem LiesN.tch {S : Nat → Prop} {k : IntKind} {w w' : World} {p : Option Addr} {zs : List Int} (h : LiesN S k w p zs) (ht : Tch S w w') : LiesN S k w' p zs :=
  ⟨h.len, fun j hj => by obtain ⟨b, o, hp, hs, hc⟩ := h.cells j hj; exact ⟨b, o, hp, hs, ht.cell hc hs⟩⟩
theorem LiesN.on {S : Nat → Prop} {k : IntKind} {w w' : World} {p : Option Addr} {zs : List Int} (h : LiesN S k w p zs) (hb : Below w.heap.size w w') : LiesN S k w' p zs := h.tch (.of S hb)
theorem LiesN.nil (S : Nat → Prop) (k : IntKind) (w : World) (p : Option Addr) : LiesN S k w p [] := ⟨by simp, fun j hj => absurd hj (Nat.not_lt_zero _)⟩
theorem LiesN.less {S R : Nat → Prop} {k : IntKind} {w : World} {p : Option Addr} {zs : List Int} (h : LiesN R k w p zs) (hs : ∀ b, S b → R b) : LiesN S k w p zs :=
  ⟨h.len, fun j hj => by obtain ⟨b, o, hp, hn, hc⟩ := h.cells j hj; exact ⟨b, o, hp, fun hb => hn (hs b hb), hc⟩⟩
/-- a row that was made since the world w0 -/
theorem LiesN.made {S : Nat → Prop} {k : IntKind} {w : World} {p : Option Addr} {zs : List Int} (h : Lies k w p zs) (hs : ∀ b o, p = some ⟨b, o, none⟩ → ¬ S b) : LiesN S k w p zs :=
  ⟨h.len, fun j hj => by obtain ⟨b, o, hp, hc⟩ := h.cells j hj; exact ⟨b, o, hp, hs b o hp, hc⟩⟩
end Go.Proofs.Ytjdbmedealhbjaa
