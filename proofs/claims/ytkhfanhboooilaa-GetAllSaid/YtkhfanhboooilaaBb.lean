/- What calls touch; rows of numbers; appends; word's small functions. -/
import Derived.Test.YtkhfanhboooilaaRows
import Derived.WalkKit
import Derived.Below
import Derived.Lib.Hide
import Derived.Lib.SmallJoins
import Derived.OneCell
import Derived.Laws.CopyOwn
import Derived.Deep.MidRow
import Derived.OwnWalk
import Derived.Deep.AppendLies
import Derived.Lib.OwnBridge
import Derived.Laws.AppendOwnNone
import Derived.Laws.Pointers
import Derived.Deep.RegionHeld
import Derived.WalkSpells
import Derived.WalkLawsBesides
import Derived.Deep.RegionHeld3
import Derived.BigQuiet
import Derived.Deep.QuietTactic
import Derived.LoopTactic
import Derived.Lib.QuietBelow
import Derived.Maps.AppendAt
import Derived.Laws.OwnMore
import Derived.Test.YtkhfanhboooilaaBa
import Derived.Laws.Bits64b
import Derived.Laws.BitsLemmas
set_option linter.unusedSimpArgs false
set_option linter.unusedVariables false
/- Rows of numbers as they lie in memory, and small words on worlds: of any layer. -/
namespace Go.Proofs.Ytkhfanhboooilaa
open Go.RowKit

/-- a slice of numbers, as it lies -/
structure Lies (k : IntKind) (w : World) (p : Option Addr) (zs : List Int) : Prop where
  len : zs.length ≤ 1000000000000000
  cells : ∀ j, j < zs.length → ∃ b o, p = some ⟨b, o, none⟩ ∧ w.cell? ⟨b, o + j, none⟩ = some (.int k (zs.getD j 0))

theorem Lies.on {k : IntKind} {w w' : World} {p : Option Addr} {zs : List Int} (h : Lies k w p zs) (hb : Below w.heap.size w w') : Lies k w' p zs := by
  refine ⟨h.len, fun j hj => ?_⟩
  obtain ⟨b, o, hp, hc⟩ := h.cells j hj
  exact ⟨b, o, hp, by rw [hb.cell (block_lt_of_cell hc)]; exact hc⟩
/-- likewise, where it is known to lie below a block -/
structure LiesB (B : Nat) (k : IntKind) (w : World) (p : Option Addr) (zs : List Int) : Prop where
  len : zs.length ≤ 1000000000000000
  cells : ∀ j, j < zs.length → ∃ b o, p = some ⟨b, o, none⟩ ∧ b < B ∧ w.cell? ⟨b, o + j, none⟩ = some (.int k (zs.getD j 0))
theorem Lies.at {k : IntKind} {w : World} {p : Option Addr} {zs : List Int} (h : Lies k w p zs) : LiesB w.heap.size k w p zs := by
  refine ⟨h.len, fun j hj => ?_⟩
  obtain ⟨b, o, hp, hc⟩ := h.cells j hj
  exact ⟨b, o, hp, block_lt_of_cell hc, hc⟩
theorem LiesB.on {B : Nat} {k : IntKind} {w w' : World} {p : Option Addr} {zs : List Int} (h : LiesB B k w p zs) (hb : Below B w w') : LiesB B k w' p zs := by
  refine ⟨h.len, fun j hj => ?_⟩
  obtain ⟨b, o, hp, hlt, hc⟩ := h.cells j hj
  exact ⟨b, o, hp, hlt, by rw [hb.cell hlt]; exact hc⟩
theorem LiesB.lies {B : Nat} {k : IntKind} {w : World} {p : Option Addr} {zs : List Int} (h : LiesB B k w p zs) : Lies k w p zs := by
  refine ⟨h.len, fun j hj => ?_⟩
  obtain ⟨b, o, hp, _, hc⟩ := h.cells j hj
  exact ⟨b, o, hp, hc⟩

theorem take_more (zs : List Int) (k : Nat) (h : k < zs.length) : zs.take (k + 1) = zs.take k ++ [zs.getD k 0] := by
  rw [List.take_succ_eq_append_getElem h]
  congr 2
  simp [List.getD, h]
theorem fold_more {α : Type} (f : α → Int → α) (a : α) (zs : List Int) (k : Nat) (h : k < zs.length) : (zs.take (k + 1)).foldl f a = f ((zs.take k).foldl f a) (zs.getD k 0) := by
  rw [take_more zs k h, List.foldl_append]; rfl

theorem Bel.refl (w : World) : Below w.heap.size w w := Below.refl _ _
theorem Bel.trans {w w1 w2 : World} (h1 : Below w.heap.size w w1) (h2 : Below w1.heap.size w1 w2) : Below w.heap.size w w2 := h1.trans (h2.mono h1.size)
theorem bcell {W w1 : World} (hb : Below W.heap.size W w1) : (∀ b o, b < W.heap.size → w1.cell? ⟨b, o, none⟩ = W.cell? ⟨b, o, none⟩) ∧ (∀ b o, b < W.heap.size → w1.frozen? ⟨b, o, none⟩ = W.frozen? ⟨b, o, none⟩) :=
  ⟨fun b o h => hb.cell (p := ⟨b, o, none⟩) h, fun b o h => hb.frozen (p := ⟨b, o, none⟩) h⟩
end Go.Proofs.Ytkhfanhboooilaa

/- What a call may touch: of the blocks that were there, the named ones alone; blocks known whole; rows that lie apart from the named blocks. -/
namespace Go.Proofs.Ytkhfanhboooilaa
open Go.RowKit

/-- of the blocks that were there at most those in S have turned -/
structure Tch (S : Nat → Prop) (w w' : World) : Prop where
  os : w'.os = w.os
  tape : w'.tape = w.tape
  output : w'.output = w.output
  size : w.heap.size ≤ w'.heap.size
  block : ∀ k, k < w.heap.size → ¬ S k → w'.heap[k]? = w.heap[k]?
theorem Tch.refl (S : Nat → Prop) (w : World) : Tch S w w := ⟨rfl, rfl, rfl, Nat.le_refl _, fun _ _ _ => rfl⟩
theorem Tch.trans {S : Nat → Prop} {a b c : World} (h : Tch S a b) (k : Tch S b c) : Tch S a c :=
  ⟨k.os.trans h.os, k.tape.trans h.tape, k.output.trans h.output, Nat.le_trans h.size k.size, fun i hi hs => (k.block i (Nat.lt_of_lt_of_le hi h.size) hs).trans (h.block i hi hs)⟩
theorem Tch.of (S : Nat → Prop) {w w' : World} (h : Below w.heap.size w w') : Tch S w w' := ⟨h.os, h.tape, h.output, h.size, fun k hk _ => h.block k hk⟩
theorem Tch.wide {S R : Nat → Prop} {w w' : World} (h : Tch S w w') (hr : ∀ k, S k → R k) : Tch R w w' := ⟨h.os, h.tape, h.output, h.size, fun k hk hn => h.block k hk fun hs => hn (hr k hs)⟩
theorem Tch.below {S : Nat → Prop} {B : Nat} {w w' : World} (h : Tch S w w') (hB : B ≤ w.heap.size) (hs : ∀ k, S k → B ≤ k) : Below B w w' :=
  ⟨h.os, h.tape, h.output, h.size, fun k hk => h.block k (Nat.lt_of_lt_of_le hk hB) fun hk2 => absurd (hs k hk2) (by omega)⟩
theorem Tch.then {S : Nat → Prop} {a w w' : World} (h : Tch S a w) (hb : Below w.heap.size w w') : Tch S a w' := h.trans (.of S hb)
theorem Tch.alloc {S : Nat → Prop} {a w : World} (h : Tch S a w) (o : Obj) : Tch S a (w.alloc o) := h.then ((Below.refl _ _).alloc (Nat.le_refl _) o)
theorem Tch.setCell {S : Nat → Prop} {a w : World} (h : Tch S a w) {p : Addr} (hp : S p.block ∨ a.heap.size ≤ p.block) (u : Value) : Tch S a (w.setCell p u) :=
  ⟨h.os, h.tape, h.output, by simpa [World.setCell] using h.size, fun k hk hn => (Below.heap_setCell w p u k (by rintro rfl; rcases hp with hp | hp; exact hn hp; omega)).trans (h.block k hk hn)⟩
theorem Tch.setRow {S : Nat → Prop} {a w : World} (h : Tch S a w) {g : Nat} (hp : S g ∨ a.heap.size ≤ g) (cs : Array Value) : Tch S a (w.setRow g cs) :=
  ⟨h.os, h.tape, h.output, by simpa [World.setRow] using h.size, fun k hk hn => (setRow_other w g k cs (by rintro rfl; rcases hp with hp | hp; exact hn hp; omega)).trans (h.block k hk hn)⟩
theorem Tch.obj {S : Nat → Prop} {w w' : World} {b : Nat} {o : Obj} (h : Tch S w w') (hb : w.heap[b]? = some o) (hs : ¬ S b) : w'.heap[b]? = some o := by rw [h.block b (lt_of_block hb) hs]; exact hb
theorem Tch.cell {S : Nat → Prop} {w w' : World} {p : Addr} {v : Value} (h : Tch S w w') (hc : w.cell? p = some v) (hs : ¬ S p.block) : w'.cell? p = some v := by
  rw [World.cell?_of_block (h.block p.block (block_lt_of_cell hc) hs)]; exact hc
theorem Below.obj {B b : Nat} {w w' : World} {o : Obj} (h : Below B w w') (hb : w.heap[b]? = some o) (hl : b < B) : w'.heap[b]? = some o := by rw [h.block b hl]; exact hb

/-- a block known whole, that may be written -/
def Row (g : Nat) (t : TypeId) (cs : List Value) (w : World) : Prop := w.heap[g]? = some (.cells cs.toArray t (0, 0))
theorem Row.lt {g : Nat} {t : TypeId} {cs : List Value} {w : World} (h : Row g t cs w) : g < w.heap.size := lt_of_block h
theorem Row.cell {g : Nat} {t : TypeId} {cs : List Value} {w : World} (h : Row g t cs w) (i : Nat) : w.cell? ⟨g, i, none⟩ = cs[i]? := by rw [cell_of_row w g i _ t _ h]; simp
theorem Row.frozen {g : Nat} {t : TypeId} {cs : List Value} {w : World} (h : Row g t cs w) (i : Nat) : w.frozen? ⟨g, i, none⟩ = false := frozen_of_row w g i _ t h
theorem Row.set {g : Nat} {t : TypeId} {cs : List Value} {w : World} (h : Row g t cs w) (i : Nat) (v : Value) : Row g t (cs.set i v) (w.setCell ⟨g, i, none⟩ v) := by
  have := heap_setCell_same w g i _ t v h
  unfold Row; rw [this]; simp
theorem Row.far {g : Nat} {t : TypeId} {cs : List Value} {w : World} (h : Row g t cs w) {p : Addr} (hp : g ≠ p.block) (v : Value) : Row g t cs (w.setCell p v) := by
  unfold Row; rw [Below.heap_setCell w p v g hp]; exact h
theorem Row.put {g : Nat} {t : TypeId} {cs : List Value} {w : World} (h : Row g t cs w) (ds : List Value) : Row g t ds (w.setRow g ds.toArray) := setRow_heap w g _ _ t _ h
theorem Row.new (w : World) (t : TypeId) (cs : List Value) : Row w.heap.size t cs (w.alloc (.cells cs.toArray t)) := heap_alloc_new w _
theorem Row.new' (w : World) (t : TypeId) (cs : List Value) (g : Nat) (hg : g = w.heap.size) : Row g t cs (w.alloc (.cells cs.toArray t)) := by subst hg; exact .new w t cs
theorem Row.on {B g : Nat} {t : TypeId} {cs : List Value} {w w' : World} (h : Row g t cs w) (hb : Below B w w') (hl : g < B) : Row g t cs w' := Below.obj hb h hl
theorem Row.on' {g : Nat} {t : TypeId} {cs : List Value} {w w' : World} (h : Row g t cs w) (hb : Below w.heap.size w w') : Row g t cs w' := h.on hb h.lt
theorem Row.tch {S : Nat → Prop} {g : Nat} {t : TypeId} {cs : List Value} {w w' : World} (h : Row g t cs w) (ht : Tch S w w') (hs : ¬ S g) : Row g t cs w' := ht.obj h hs
theorem Row.drew {g : Nat} {t : TypeId} {cs : List Value} {w : World} (h : Row g t cs w) : Row g t cs w.drew := h
theorem Row.range {g : Nat} {t : TypeId} {cs : List Value} {w : World} (h : Row g t cs w) : w.rangeAt g 0 cs := fun j v hv => by rw [Nat.zero_add, h.cell]; exact hv

/-- two cells, and three, of a block known whole -/
theorem Row.two {g : Nat} {t : TypeId} {a b : Value} {w : World} (h : Row g t [a, b] w) : w.cell? ⟨g, 0, none⟩ = some a ∧ w.cell? ⟨g, 1, none⟩ = some b ∧ w.frozen? ⟨g, 0, none⟩ = false ∧ w.frozen? ⟨g, 1, none⟩ = false := ⟨h.cell 0, h.cell 1, h.frozen 0, h.frozen 1⟩
theorem Row.put2 {g : Nat} {t : TypeId} {a b : Value} {w : World} (h : Row g t [a, b] w) (u v : Value) : Row g t [u, v] ((w.setCell ⟨g, 0, none⟩ u).setCell ⟨g, 1, none⟩ v) := (h.set 0 u).set 1 v
/-- numbers as they lie, in a block that is none of S -/
structure LiesN (S : Nat → Prop) (k : IntKind) (w : World) (p : Option Addr) (zs : List Int) : Prop where
  len : zs.length ≤ 1000000000000000
  cells : ∀ j, j < zs.length → ∃ b o, p = some ⟨b, o, none⟩ ∧ ¬ S b ∧ w.cell? ⟨b, o + j, none⟩ = some (.int k (zs.getD j 0))
theorem LiesN.lies {S : Nat → Prop} {k : IntKind} {w : World} {p : Option Addr} {zs : List Int} (h : LiesN S k w p zs) : Lies k w p zs :=
  ⟨h.len, fun j hj => by obtain ⟨b, o, hp, _, hc⟩ := h.cells j hj; exact ⟨b, o, hp, hc⟩⟩
theorem LiesN.tch {S : Nat → Prop} {k : IntKind} {w w' : World} {p : Option Addr} {zs : List Int} (h : LiesN S k w p zs) (ht : Tch S w w') : LiesN S k w' p zs :=
  ⟨h.len, fun j hj => by obtain ⟨b, o, hp, hs, hc⟩ := h.cells j hj; exact ⟨b, o, hp, hs, ht.cell hc hs⟩⟩
theorem LiesN.on {S : Nat → Prop} {k : IntKind} {w w' : World} {p : Option Addr} {zs : List Int} (h : LiesN S k w p zs) (hb : Below w.heap.size w w') : LiesN S k w' p zs := h.tch (.of S hb)
theorem LiesN.nil (S : Nat → Prop) (k : IntKind) (w : World) (p : Option Addr) : LiesN S k w p [] := ⟨by simp, fun j hj => absurd hj (Nat.not_lt_zero _)⟩
theorem LiesN.less {S R : Nat → Prop} {k : IntKind} {w : World} {p : Option Addr} {zs : List Int} (h : LiesN R k w p zs) (hs : ∀ b, S b → R b) : LiesN S k w p zs :=
  ⟨h.len, fun j hj => by obtain ⟨b, o, hp, hn, hc⟩ := h.cells j hj; exact ⟨b, o, hp, fun hb => hn (hs b hb), hc⟩⟩
/-- a row that was made since the world w0 -/
theorem LiesN.made {S : Nat → Prop} {k : IntKind} {w : World} {p : Option Addr} {zs : List Int} (h : Lies k w p zs) (hs : ∀ b o, p = some ⟨b, o, none⟩ → ¬ S b) : LiesN S k w p zs :=
  ⟨h.len, fun j hj => by obtain ⟨b, o, hp, hc⟩ := h.cells j hj; exact ⟨b, o, hp, hs b o hp, hc⟩⟩
end Go.Proofs.Ytkhfanhboooilaa

/- Small words that many layers share: an answer, and what an append touches; texts as values. -/
namespace Go.Proofs.Ytkhfanhboooilaa
open Go.RowKit

/-- it returned v, and touched nothing that was there -/
def Ans (v : Value) (w : World) (e : Ending) (w' : World) : Prop := e = .returned v ∧ Below w.heap.size w w'
theorem own_tch {S : Nat → Prop} {w w' : World} {B n : Nat} {E : TypeId} {v : Value} {xs : List Value} (h : w.ownsRow B E 1 v n xs) (ht : Tch S w w') (hs : ∀ k, S k → k < B) : w'.ownsRow B E 1 v n xs := by
  refine ⟨h.1, ?_⟩
  rcases h.2 with h2 | ⟨g, cap, cur, hv, hB, hg, r⟩
  · exact .inl h2
  · exact .inr ⟨g, cap, cur, hv, hB, ht.obj hg (fun e => by have := hs g e; omega), r⟩
theorem Tch.grown {w w' : World} {row : Option Nat} (h : w.grownBy w' row) : Tch (fun k => row = some k) w w' := ⟨h.os, h.tape, h.output, h.size, fun k hk hn => h.block k hk (fun e => hn e.symm)⟩
theorem infoStr : (Try.prog.info? 9).map (fun i => (i.zero, i.size, i.bytes)) = some (some (.string ⟨#[]⟩), 1, 16) := by kernel_rfl
/-- a text as a value -/
def strV (l : List UInt8) : Value := .string ⟨l.toArray⟩
theorem strs_one (xs : List (List UInt8)) : ∀ u ∈ xs.map strV, u.oneCell' = true := by
  intro u hu
  obtain ⟨y, _, rfl⟩ := List.mem_map.1 hu
  rfl
theorem str_new (x : ByteArray) (w : World) (t : TypeId) : ∀ j u, [Value.string x][j]? = some u → (w.alloc (.cells #[.string x] t)).cell? ((⟨w.heap.size, 0, none⟩ : Addr).add j) = some u := by
  intro j u hu
  rcases j with _ | j <;> simp at hu
  subst hu
  simp [World.cell?_alloc_new, Addr.add]
theorem str_one (x : ByteArray) : ∀ u ∈ [Value.string x], u.oneCell' = true := by
  intro u hu; simp at hu; subst hu; rfl
end Go.Proofs.Ytkhfanhboooilaa

/- Rows of a function's own, of any kind and type: read as slices, kept, handed on. -/
namespace Go.Proofs.Ytkhfanhboooilaa
open Go.RowKit

theorem ownk_lies {k : IntKind} {E : TypeId} {w : World} {B n : Nat} {v : Value} {zs : List Int} (h : w.ownsRow B E 1 v n (zs.map (Value.int k))) (hn : n = zs.length) (hl : n ≤ 1000000000000000) : ∃ p cap, v = .slice p n cap ∧ Lies k w p zs := by
  subst hn
  rcases h.2 with ⟨hv, hz⟩ | ⟨g, cap, cur, hv, hB, hg, hc, hc2, r⟩
  · refine ⟨none, 0, by rw [hv, hz], by omega, fun j hj => by omega⟩
  · subst hv
    refine ⟨_, cap, rfl, hl, fun j hj => ⟨g, 0, rfl, ?_⟩⟩
    have := h.cellAt j (by omega)
    rw [Nat.zero_add, this, List.getElem?_map]
    simp [List.getD, hj]
theorem ownk_cap {k : IntKind} {E : TypeId} {w : World} {B n : Nat} {v : Value} {zs : List Int} (h : w.ownsRow B E 1 v n (zs.map (Value.int k))) (hn : 0 < n) (hl : n = zs.length) (hb : n ≤ 1000) : ∃ g cap, v = .slice (some ⟨g, 0, none⟩) n cap ∧ B ≤ g ∧ n ≤ cap ∧ cap ≤ maxLen ∧ Lies k w (some ⟨g, 0, none⟩) zs := by
  rcases h.2 with ⟨hv, hz⟩ | ⟨g, cap, cur, hv, hB, hg, hc, hc2, r⟩
  · omega
  · subst hv
    refine ⟨g, cap, rfl, hB, hc, hc2, ⟨by omega, fun j hj => ⟨g, 0, rfl, ?_⟩⟩⟩
    have := h.cellAt j (by omega)
    rw [Nat.zero_add, this, List.getElem?_map]
    simp [List.getD, hj]
theorem ownk_form {w : World} {B n : Nat} {E : TypeId} {v : Value} {xs : List Value} (h : w.ownsRow B E 1 v n xs) : ∃ p cap, v = .slice p n cap := by
  rcases Joins.ownsRow_forms h with ⟨hv, hz⟩ | ⟨g, cap, hv⟩
  · exact ⟨none, 0, by rw [hv, hz]⟩
  · exact ⟨_, _, hv⟩
theorem ownk_on {w w' : World} {B n : Nat} {E : TypeId} {v : Value} {xs : List Value} (h : w.ownsRow B E 1 v n xs) (hb : Below w.heap.size w w') : w'.ownsRow B E 1 v n xs := by
  refine ⟨h.1, ?_⟩
  rcases h.2 with h2 | ⟨g, cap, cur, hv, hB, hg, r⟩
  · exact .inl h2
  · refine .inr ⟨g, cap, cur, hv, hB, ?_, r⟩
    rw [hb.block g (Array.getElem?_eq_some_iff.1 hg).1]; exact hg
theorem ownk_base {w : World} {B C n : Nat} {E : TypeId} {v : Value} {xs : List Value} (h : w.ownsRow B E 1 v n xs) (hb : C ≤ B) : w.ownsRow C E 1 v n xs := by
  refine ⟨h.1, ?_⟩
  rcases h.2 with h2 | ⟨g, cap, cur, hv, hB, r⟩
  · exact .inl h2
  · exact .inr ⟨g, cap, cur, hv, Nat.le_trans hb hB, r⟩
/-- without the first ones -/
theorem Lies.drop {k : IntKind} {w : World} {b o : Nat} {zs : List Int} (h : Lies k w (some ⟨b, o, none⟩) zs) (d : Nat) : Lies k w (some ⟨b, o + d, none⟩) (zs.drop d) := by
  refine ⟨by rw [List.length_drop]; have := h.len; omega, fun j hj => ⟨b, o + d, rfl, ?_⟩⟩
  rw [List.length_drop] at hj
  obtain ⟨b', o', e, hc⟩ := h.cells (d + j) (by omega)
  cases e
  rw [show o + d + j = o + (d + j) by omega, hc]
  simp [List.getD, List.getElem?_drop]
theorem Lies.set {k : IntKind} {w : World} {g o : Nat} {zs : List Int} (h : Lies k w (some ⟨g, o, none⟩) zs) {q : Addr} (hq : q.block ≠ g) (x : Value) : Lies k (w.setCell q x) (some ⟨g, o, none⟩) zs := by
  refine ⟨h.len, fun j hj => ?_⟩
  obtain ⟨b', o', e, hc⟩ := h.cells j hj
  cases e
  exact ⟨g, o, rfl, by rw [World.cell?_setCell_far _ _ _ _ hq]; exact hc⟩
/-- a literal row -/
theorem lies_new (k : IntKind) (zs : List Int) (w : World) (t : TypeId) (g : Nat) (hg : g = w.heap.size) (hl : zs.length ≤ 1000) : Lies k (w.alloc (.cells (zs.map (Value.int k)).toArray t)) (some ⟨g, 0, none⟩) zs := by
  subst hg
  refine ⟨by omega, fun j hj => ⟨_, _, rfl, ?_⟩⟩
  rw [World.cell?_alloc_new]
  simp [List.getD, hj]
/-- a row that came in, appended onto nothing -/
theorem append_row {P : Program} {k : IntKind} {T E : TypeId} (i0 : TypeInfo) (bytes : Nat) (hU : P.underlying T = some (.slice E)) (hi : P.info? E = some i0) (hz0 : i0.zero = some (.int k 0)) (hz1 : i0.size = 1) (hz2 : i0.bytes = bytes) (hbt : bytes ≤ 8)
    {ops : Array Oper} {rest : List Oper} {o : Oper} {a : Act} {Q : Exit → Act → World → Prop} (w : World) (hgd : o.guard = none) (s x : Operand)
    (ho : o.op = .call { callee := .builtin .append, args := #[s, x], argTypes := #[T, T] }) (hs : a.eval s = .slice none 0 0) (wo : List Int) (p : Option Addr) (m c : Nat) (hx : a.eval x = .slice p m c) (hm : m = wo.length) (hb : m ≤ 1000) (hL : Lies k w p wo) (hnil : p = none → c = 0)
    (h : ∀ v' w', w'.ownsRow w.heap.size E 1 v' m (wo.map (Value.int k)) → Below w.heap.size w w' → wpList P ops Q rest (a.put o.dst v') w') : wpList P ops Q (o :: rest) a w := by
  cases p with
  | none =>
    have hc := hnil rfl
    have h0 : wo = [] := by
      cases wo with
      | nil => rfl
      | cons y r => obtain ⟨b, o', hp, _⟩ := hL.cells 0 (by simp); cases hp
    subst h0; subst hc; subst hm
    refine wpList_append_own_none hgd s x T ho w.heap.size E i0 1 hU hi (.slice none 0 0) 0 [] hs (World.ownsRow_nil _ _ _ _) hx ?_
    exact h _ _ (World.ownsRow_nil _ _ _ _) (Below.refl _ _)
  | some ad =>
    refine wpList_append_own w hgd s x T ho w.heap.size E i0 (.int k 0) 1 bytes hU hi hz0 hz1 hz2 rfl (by decide) (.slice none 0 0) 0 [] hs (World.ownsRow_nil _ _ _ _) ad m c (wo.map (Value.int k)) hx (by rw [List.length_map]; omega) ?_ ?_ (by unfold maxLen; omega) (Nat.le_trans (Nat.mul_le_mul (show 0 + m ≤ 1000 by omega) hbt) (by decide)) (Nat.le_refl _) ?_
    · intro j u hu
      rw [List.getElem?_map] at hu
      have hj : j < wo.length := by
        rcases Nat.lt_or_ge j wo.length with h' | h'
        · exact h'
        · rw [List.getElem?_eq_none h'] at hu; cases hu
      obtain ⟨b, o', hp, hc⟩ := hL.cells j hj
      cases hp
      rw [List.getElem?_eq_getElem hj] at hu
      cases hu
      have e : (⟨b, o', none⟩ : Addr).add j = ⟨b, o' + j, none⟩ := by
        by_cases h0 : j = 0
        · subst h0; simp [Addr.add]
        · simp [Addr.add, h0]
      rw [e]
      simpa [List.getD, hj] using hc
    · intro u hu
      obtain ⟨y, _, rfl⟩ := List.mem_map.1 hu
      rfl
    · intro v' w' h1 h2 _
      rw [Nat.zero_add, List.nil_append] at h1
      exact h v' w' h1 ((Below.refl _ _).grown h2 (Nat.le_refl _) (fun k hk => by cases hk))

/-- a block of two cells that may be written -/
structure Box2 (g : Nat) (a b : Value) (w : World) : Prop where
  c0 : w.cell? ⟨g, 0, none⟩ = some a
  c1 : w.cell? ⟨g, 1, none⟩ = some b
  f0 : w.frozen? ⟨g, 0, none⟩ = false
  f1 : w.frozen? ⟨g, 1, none⟩ = false
theorem Box2.lt {g : Nat} {a b : Value} {w : World} (h : Box2 g a b w) : g < w.heap.size := block_lt_of_cell h.c0
theorem Box2.on {C g : Nat} {a b : Value} {w w' : World} (h : Box2 g a b w) (hb : Below C w w') (hg : g < C) : Box2 g a b w' :=
  ⟨by rw [hb.cell (p := ⟨g, 0, none⟩) hg]; exact h.c0, by rw [hb.cell (p := ⟨g, 1, none⟩) hg]; exact h.c1, by rw [hb.frozen (p := ⟨g, 0, none⟩) hg]; exact h.f0, by rw [hb.frozen (p := ⟨g, 1, none⟩) hg]; exact h.f1⟩
theorem Box2.on' {g : Nat} {a b : Value} {w w' : World} (h : Box2 g a b w) (hb : Below w.heap.size w w') : Box2 g a b w' := h.on hb h.lt
theorem Box2.new (g : Nat) (a b : Value) (w : World) (t : TypeId) (hg : g = w.heap.size) : Box2 g a b (w.alloc (.cells #[a, b] t)) := by
  subst hg
  exact ⟨by rw [World.cell?_alloc_new]; rfl, by rw [World.cell?_alloc_new]; rfl, by simp, by simp⟩
theorem Box2.alloc {g : Nat} {a b : Value} {w : World} (h : Box2 g a b w) (o : Obj) : Box2 g a b (w.alloc o) := h.on' ((Below.refl _ _).alloc (Nat.le_refl _) o)
theorem Box2.set {g : Nat} {a b : Value} {w : World} (h : Box2 g a b w) {q : Addr} (hq : q.block ≠ g) (x : Value) : Box2 g a b (w.setCell q x) :=
  ⟨by rw [World.cell?_setCell_far _ _ _ _ hq]; exact h.c0, by rw [World.cell?_setCell_far _ _ _ _ hq]; exact h.c1, by rw [World.frozen?_setCell]; exact h.f0, by rw [World.frozen?_setCell]; exact h.f1⟩
theorem Box2.put {g : Nat} {a b : Value} {w : World} (h : Box2 g a b w) (a' b' : Value) : Box2 g a' b' ((w.setCell ⟨g, 0, none⟩ a').setCell ⟨g, 1, none⟩ b') := by
  refine ⟨?_, ?_, by rw [World.frozen?_setCell, World.frozen?_setCell]; exact h.f0, by rw [World.frozen?_setCell, World.frozen?_setCell]; exact h.f1⟩
  · rw [World.cell?_setCell_other _ _ _ _ (by simp)]
    exact World.cell?_setCell_same _ _ _ h.c0
  · obtain ⟨u, hu⟩ := cell?_setCell_some (w := w) (p := ⟨g, 0, none⟩) (x := a') (q := ⟨g, 1, none⟩) (v := b) h.c1
    exact World.cell?_setCell_same _ _ _ hu
end Go.Proofs.Ytkhfanhboooilaa

/- Numbers in a slice; rows of one's own; an append of a row onto a row of one's own, as one law (from layer 8 on). -/
namespace Go.Proofs.Ytkhfanhboooilaa
open Go.RowKit

/-- numbers in a slice, in a block that is none of S -/
def SlIs (S : Nat → Prop) (w : World) (v : Value) (xs : List Int) : Prop :=
  ∃ p c, v = .slice p xs.length c ∧ xs.length ≤ c ∧ c ≤ maxLen ∧ (p = none → c = 0) ∧ LiesN S .i64 w p xs
section
variable {S R : Nat → Prop} {w w' : World} {v : Value} {xs : List Int}
theorem SlIs.nil (S : Nat → Prop) (w : World) : SlIs S w (.slice none 0 0) [] := ⟨none, 0, rfl, Nat.le_refl _, Nat.zero_le _, fun _ => rfl, .nil ..⟩
theorem SlIs.tch (h : SlIs S w v xs) (ht : Tch S w w') : SlIs S w' v xs := by
  obtain ⟨p, c, h1, h2, h3, h4, h5⟩ := h
  exact ⟨p, c, h1, h2, h3, h4, h5.tch ht⟩
theorem SlIs.on (h : SlIs S w v xs) (hb : Below w.heap.size w w') : SlIs S w' v xs := h.tch (.of S hb)
theorem SlIs.less (h : SlIs R w v xs) (hs : ∀ b, S b → R b) : SlIs S w v xs := by
  obtain ⟨p, c, h1, h2, h3, h4, h5⟩ := h
  exact ⟨p, c, h1, h2, h3, h4, h5.less hs⟩
/-- blocks that are new are none of its -/
theorem SlIs.more (h : SlIs S w v xs) (hs : ∀ b, R b → S b ∨ w.heap.size ≤ b) : SlIs R w v xs := by
  obtain ⟨p, c, h1, h2, h3, h4, h5⟩ := h
  refine ⟨p, c, h1, h2, h3, h4, ⟨h5.len, fun j hj => ?_⟩⟩
  obtain ⟨b, o, e, hn, hc⟩ := h5.cells j hj
  refine ⟨b, o, e, fun hr => ?_, hc⟩
  rcases hs b hr with h | h
  · exact hn h
  · have := block_lt_of_cell hc; have e2 : (⟨b, o + j, none⟩ : Addr).block = b := rfl; omega
theorem SlIs.len (h : SlIs S w v xs) : xs.length ≤ 1000000000000000 := by
  obtain ⟨p, c, _, _, _, _, h5⟩ := h
  exact h5.len
end
/-- a row of numbers that was made since the block B -/
def NewRow (B : Nat) (w : World) (v : Value) (xs : List Int) : Prop := w.ownsRow B 3 1 v xs.length (xs.map (Value.int .i64))
theorem NewRow.form {B : Nat} {w : World} {v : Value} {xs : List Int} (h : NewRow B w v xs) : ∃ p n c, v = .slice p n c ∧ n = xs.length := by
  obtain ⟨p, c, e⟩ := ownk_form h
  exact ⟨p, _, c, e, rfl⟩
theorem NewRow.nil (B : Nat) (w : World) : NewRow B w (.slice none 0 0) [] := World.ownsRow_nil _ _ _ _
theorem NewRow.base {B C : Nat} {w : World} {v : Value} {xs : List Int} (h : NewRow B w v xs) (hc : C ≤ B) : NewRow C w v xs := ownk_base h hc
theorem NewRow.lt {B : Nat} {w : World} {v : Value} {xs : List Int} (h : NewRow B w v xs) : ∀ k, v.ownBlock = some k → B ≤ k ∧ k < w.heap.size := by
  intro k hk
  rcases h.2 with ⟨hv, _⟩ | ⟨g, cap, cur, hv, hB, hg, _⟩
  · rw [hv] at hk; cases hk
  · rw [hv] at hk
    have : g = k := by simpa [Value.ownBlock] using hk
    subst this; exact ⟨hB, lt_of_block hg⟩
theorem NewRow.tch {S : Nat → Prop} {B : Nat} {w w' : World} {v : Value} {xs : List Int} (h : NewRow B w v xs) (ht : Tch S w w') (hs : ∀ k, v.ownBlock = some k → ¬ S k) : NewRow B w' v xs := by
  refine ⟨h.1, ?_⟩
  rcases h.2 with h2 | ⟨g, cap, cur, hv, hB, hg, r⟩
  · exact .inl h2
  · exact .inr ⟨g, cap, cur, hv, hB, ht.obj hg (hs g (by rw [hv]; rfl)), r⟩
theorem NewRow.on {B : Nat} {w w' : World} {v : Value} {xs : List Int} (h : NewRow B w v xs) (hb : Below w.heap.size w w') : NewRow B w' v xs := ownk_on h hb
/-- read as a slice -/
theorem NewRow.sl {B : Nat} {w : World} {v : Value} {xs : List Int} {S : Nat → Prop} (h : NewRow B w v xs) (hl : xs.length ≤ 1000000000000000) (hs : ∀ k, v.ownBlock = some k → ¬ S k) : SlIs S w v xs := by
  rcases h.2 with ⟨hv, hz⟩ | ⟨g, cap, cur, hv, hB, hg, hc, hc2, r⟩
  · have : xs = [] := List.eq_nil_of_length_eq_zero hz
    subst this; rw [hv]; exact .nil ..
  · obtain ⟨p, cap2, e, hL⟩ := ownk_lies h rfl hl
    rw [hv] at e hs
    cases e
    refine ⟨_, cap, hv, hc, hc2, (fun e => by cases e), LiesN.made hL ?_⟩
    rintro b o e
    cases e
    exact hs g rfl

theorem NewRow.post {w w' : World} {v : Value} {xs : List Int} (h : NewRow w.heap.size w' v xs) (hb : Below w.heap.size w w') : ∃ p n c, Ending.returned v = .returned (.slice p n c) ∧ Hid (n = xs.length) ∧ NewRow w.heap.size w' (.slice p n c) xs ∧ Below w.heap.size w w' := by
  obtain ⟨p, n, c, rfl, e⟩ := h.form
  exact ⟨p, n, c, rfl, e, h, hb⟩
def RowPost8 (xs : List Int) (w : World) (e : Ending) (w' : World) : Prop := ∃ p n c, e = .returned (.slice p n c) ∧ Hid (n = xs.length) ∧ NewRow w.heap.size w' (.slice p n c) xs ∧ Below w.heap.size w w'
theorem infoInt : (Try.prog.info? 3).map (fun i => (i.zero, i.size, i.bytes)) = some (some (.int .i64 0), 1, 8) := by kernel_rfl
/-- append(s, x...), s a row of one's own, x any row: behind it a row of one's own -/
theorem append_new {ops : Array Oper} {rest : List Oper} {o : Oper} {a : Act} {Q : Exit → Act → World → Prop} {R : Nat → Prop} {B : Nat} (w : World) (hgd : o.guard = none) (s x : Operand)
    (ho : o.op = .call { callee := .builtin .append, args := #[s, x], argTypes := #[38, 38] }) (u v : Value) (xs ys : List Int) (hs : a.eval s = v) (hv : NewRow B w v xs) (hx : a.eval x = u) (hy : SlIs R w u ys) (hb : xs.length + ys.length ≤ 1000000) (hB : B ≤ w.heap.size)
    (h : ∀ v' w', NewRow B w' v' (xs ++ ys) → w.grownBy w' v.ownBlock → wpList Try.prog ops Q rest (a.put o.dst v') w') : wpList Try.prog ops Q (o :: rest) a w := by
  obtain ⟨i0, hi, hz0, hz1, hz2⟩ := info_parts infoInt
  obtain ⟨p, c, rfl, h1, h2, h3, h4⟩ := hy
  have hU := Try.underlying38
  cases p with
  | none =>
    have hc := h3 rfl
    subst hc
    have h0 : ys = [] := List.eq_nil_of_length_eq_zero (by omega)
    subst h0
    refine wpList_append_own_none hgd s x 38 ho B 3 i0 1 hU hi v xs.length (xs.map (Value.int .i64)) hs hv hx ?_
    refine h _ _ (by rw [List.append_nil]; exact hv) ?_
    exact ⟨rfl, rfl, rfl, Nat.le_refl _, fun _ _ _ => rfl⟩
  | some ad =>
    have hm : (ys.map (Value.int .i64)).length = ys.length * 1 := by rw [List.length_map, Nat.mul_one]
    refine wpList_append_own w hgd s x 38 ho B 3 i0 (.int .i64 0) 1 8 hU hi hz0 hz1 hz2 rfl (by decide) v xs.length (xs.map (Value.int .i64)) hs hv ad ys.length c (ys.map (Value.int .i64)) hx hm ?_ ?_ (by unfold maxLen; omega) (by omega) hB ?_
    · intro j y hj
      rw [List.getElem?_map] at hj
      have hjl : j < ys.length := by
        rcases Nat.lt_or_ge j ys.length with h' | h'
        · exact h'
        · rw [List.getElem?_eq_none h'] at hj; cases hj
      obtain ⟨b, o', hp, _, hc⟩ := h4.cells j hjl
      cases hp
      rw [List.getElem?_eq_getElem hjl] at hj
      cases hj
      rw [Addr.add_mid, hc]
      simp [List.getD, hjl]
    · intro y hy
      obtain ⟨z, _, rfl⟩ := List.mem_map.1 hy
      rfl
    · intro v' w' g1 g2 _
      refine h v' w' ?_ g2
      unfold NewRow
      rw [List.length_append, List.map_append]
      exact g1
theorem grown_tch {w w' : World} {v : Value} (h : w.grownBy w' v.ownBlock) : Tch (fun k => v.ownBlock = some k) w w' := Tch.grown h
/-- a row grows, all else lies -/
theorem SlIs.grown {S R : Nat → Prop} {w w' : World} {u v : Value} {xs : List Int} {B : Nat} (h : SlIs S w u xs) (hg : w.grownBy w' v.ownBlock) (hs : ∀ k, v.ownBlock = some k → S k) : SlIs S w' u xs :=
  h.tch ⟨hg.os, hg.tape, hg.output, hg.size, fun k hk hn => hg.block k hk (fun e => hn (hs k e.symm))⟩
/-- a row is begun: nothing that was has changed -/
theorem nil_begun {w w' : World} (hg : w.grownBy w' (Value.slice none 0 0).ownBlock) : Below w.heap.size w w' := (Below.refl _ _).grown hg (Nat.le_refl _) (fun k e => by simp [Value.ownBlock] at e)
theorem NewRow.begun {B : Nat} {w : World} {v : Value} {xs : List Int} (h : NewRow B w v ([] ++ xs)) : NewRow B w v xs := h
theorem new_below {B : Nat} {w0 w w' : World} {v : Value} {xs : List Int} (h : NewRow B w v xs) (hb : Below B w0 w) (hB : B ≤ w.heap.size) (hg : w.grownBy w' v.ownBlock) : Below B w0 w' := hb.grown hg hB (fun k e => (h.lt k e).1)
theorem SlIs.form {S : Nat → Prop} {w : World} {u : Value} {xs : List Int} (h : SlIs S w u xs) : ∃ p n c, u = .slice p n c ∧ n = xs.length ∧ n ≤ c ∧ c ≤ maxLen := by
  obtain ⟨p, c, e, h2, h3, _⟩ := h
  exact ⟨p, _, c, e, rfl, h2, h3⟩
/-- one number in a new block -/
theorem sl_one {S : Nat → Prop} (g : Int) (w : World) (t : TypeId) (B : Nat) (hB : B = w.heap.size) (hs : ¬ S B) : SlIs S (w.alloc (.cells #[.int .i64 g] t)) (.slice (some ⟨B, 0, none⟩) 1 1) [g] := by
  subst hB
  refine ⟨_, 1, rfl, Nat.le_refl _, by unfold maxLen; omega, (fun e => by cases e), LiesN.made (lies_new .i64 [g] w t _ rfl (by simp)) ?_⟩
  rintro b o e
  cases e
  exact hs
theorem hid_slice {S : Nat → Prop} {w : World} {v : Value} {l : List Int} (h : SlIs S w v l) : ∃ pl nl cl, v = .slice pl nl cl ∧ nl = l.length := by
  obtain ⟨p, n, c, e, hn, _⟩ := h.form
  exact ⟨p, n, c, e, hn⟩
end Go.Proofs.Ytkhfanhboooilaa

/- The kit's SameInts (from layer 8 on), walked. -/
namespace Go.Proofs.Ytkhfanhboooilaa
open Go.RowKit

theorem take_eq {xs ys : List Int} {k : Nat} (h : xs.take k = ys.take k) (h1 : k < xs.length) (h2 : k < ys.length) (he : xs.getD k 0 = ys.getD k 0) : xs.take (k + 1) = ys.take (k + 1) := by
  rw [take_more xs k h1, take_more ys k h2, h, he]
theorem getD_ne {xs ys : List Int} {k : Nat} (he : xs.getD k 0 ≠ ys.getD k 0) : xs ≠ ys := fun h => he (by rw [h])
/-- are two rows the same? -/
def sameB (xs ys : List Int) : Bool := decide (xs = ys)
theorem ans_bool {a b : Bool} {w w' : World} (h : a = b) (hb : Below w.heap.size w w') : Ans (.bool b) w (.returned (.bool a)) w' := ⟨by rw [h], hb⟩
set_option maxHeartbeats 1000000 in
theorem sameints_gen {S R : Nat → Prop} (xs ys : List Int) (u v : Value) (w : World) (h1 : SlIs S w u xs) (h2 : SlIs R w v ys) :
    Calls Try.prog 19 #[u, v] w (Ans (.bool (sameB xs ys)) w) := by
  obtain ⟨p1, c1, rfl, a1, a2, a3, g1⟩ := h1
  obtain ⟨p2, c2, rfl, b1, b2, b3, g2⟩ := h2
  have l1 := g1.len
  have l2 := g2.len
  have H1 := Lib.hid g1.lies.at
  have H2 := Lib.hid g2.lies.at
  clear g1 g2 a1 a2 a3 b1 b2 b3
  by_cases hl : xs.length = ys.length
  · have HL := Lib.hid hl
    rw [← hl]
    clear l2
    obtain ⟨n, hn⟩ : ∃ n, xs.length = n := ⟨_, rfl⟩
    have HN := Lib.hid hn
    rw [hn] at l1 ⊢
    clear hn hl
    go_enter Try.func19, Try.ntmps19
    go_wp2_with fail
    go_loopw [5] (fun vi wr => ∃ k : Nat, k ≤ n ∧ vi = .int .i64 k ∧ Hid (xs.take k = ys.take k) ∧ Hid (Below w.heap.size w wr)) (fun vi _ => n - (intOf vi).toNat)
    case atStart => exact ⟨0, by omega, rfl, Lib.hid rfl, Below.refl _ _⟩
    case round =>
      obtain ⟨k, hk, rfl, HT, HB⟩ := hrel
      by_cases hlt : k < n
      · obtain ⟨q1, o1, rfl, q1', cc1⟩ := (H1.out.on HB.out).cells k (by rw [HN.out]; exact hlt)
        obtain ⟨q2, o2, rfl, q2', cc2⟩ := (H2.out.on HB.out).cells k (by rw [← HL.out, HN.out]; exact hlt)
        obtain ⟨x, hx⟩ : ∃ x, xs.getD k 0 = x := ⟨_, rfl⟩
        obtain ⟨y, hy⟩ : ∃ y, ys.getD k 0 = y := ⟨_, rfl⟩
        have HX := Lib.hid hx
        have HY := Lib.hid hy
        rw [hx] at cc1
        rw [hy] at cc2
        clear hx hy
        by_cases hxy : x = y
        · subst hxy
          go_wp2_with fail
          go_quiet (fail)
          go_wp2_with fail
          go_roundw
          case rel => exact ⟨k + 1, by omega, by go_num, take_eq HT.out (by rw [HN.out]; exact hlt) (by rw [← HL.out, HN.out]; exact hlt) (by rw [HX.out, HY.out]), below_drewN HB.out _⟩
          case measure =>
            show _ < _
            simp only [intOf]; omega
        · have hb : (x != y) = true := by simpa using hxy
          have HF : Hid (sameB xs ys = false) := decide_eq_false (getD_ne (k := k) (by rw [HX.out, HY.out]; exact hxy))
          clear hxy
          go_wp2_with fail
          go_quiet (fail)
          go_wp2
          go_ret
          exact ⟨by rw [HF.out]; rfl, below_drewN HB.out _⟩
      · obtain rfl : k = n := by omega
        have HF : Hid (sameB xs ys = true) := decide_eq_true (by
          have e := HT.out
          rw [List.take_of_length_le (by rw [HN.out]; exact Nat.le_refl _), List.take_of_length_le (by rw [← HL.out, HN.out]; exact Nat.le_refl _)] at e
          exact e)
        go_wp2
        go_ret
        exact ⟨by rw [HF.out]; rfl, HB.out⟩
  · have hF : sameB xs ys = false := decide_eq_false (fun e => hl (by rw [e]))
    rw [hF]
    have hb : ((xs.length : Int) != (ys.length : Int)) = true := by
      have : ¬ ((xs.length : Int) = (ys.length : Int)) := by omega
      simpa using this
    clear hF
    go_enter Try.func19, Try.ntmps19
    go_wp2
    go_ret
    exact ⟨rfl, Below.refl _ _⟩

end Go.Proofs.Ytkhfanhboooilaa

/- append(s, x...) onto a row of one's own: where the new row lies; at a step of a drawn region, too (from layer 8 on). -/
namespace Go.Proofs.Ytkhfanhboooilaa
open Go.RowKit

/-- append(s, x...), s a row of one's own: where the new row lies, too -/
theorem append_new_at {ops : Array Oper} {rest : List Oper} {o : Oper} {a : Act} {Q : Exit → Act → World → Prop} {R : Nat → Prop} {B : Nat} (w : World) (hgd : o.guard = none) (s x : Operand)
    (ho : o.op = .call { callee := .builtin .append, args := #[s, x], argTypes := #[38, 38] }) (u v : Value) (xs ys : List Int) (hs : a.eval s = v) (hv : NewRow B w v xs) (hx : a.eval x = u) (hy : SlIs R w u ys) (hb : xs.length + ys.length ≤ 1000000) (hB : B ≤ w.heap.size)
    (h : ∀ v' w', NewRow B w' v' (xs ++ ys) → w.grownBy w' v.ownBlock → (v'.ownBlock = v.ownBlock ∨ v'.ownBlock = some w.heap.size) → wpList Try.prog ops Q rest (a.put o.dst v') w') : wpList Try.prog ops Q (o :: rest) a w := by
  obtain ⟨i0, hi, hz0, hz1, hz2⟩ := info_parts infoInt
  obtain ⟨p, c, rfl, h1, h2, h3, h4⟩ := hy
  have hU := Try.underlying38
  cases p with
  | none =>
    have hc := h3 rfl
    subst hc
    have h0 : ys = [] := List.eq_nil_of_length_eq_zero (by omega)
    subst h0
    refine wpList_append_own_none hgd s x 38 ho B 3 i0 1 hU hi v xs.length (xs.map (Value.int .i64)) hs hv hx ?_
    refine h _ _ (by rw [List.append_nil]; exact hv) ?_ (.inl rfl)
    exact ⟨rfl, rfl, rfl, Nat.le_refl _, fun _ _ _ => rfl⟩
  | some ad =>
    have hm : (ys.map (Value.int .i64)).length = ys.length * 1 := by rw [List.length_map, Nat.mul_one]
    refine wpList_append_own_at w hgd s x 38 ho B 3 i0 (.int .i64 0) 1 8 hU hi hz0 hz1 hz2 rfl (by decide) v xs.length (xs.map (Value.int .i64)) hs hv ad ys.length c (ys.map (Value.int .i64)) hx hm ?_ ?_ (by unfold maxLen; omega) (by omega) hB ?_
    · intro j y hj
      rw [List.getElem?_map] at hj
      have hjl : j < ys.length := by
        rcases Nat.lt_or_ge j ys.length with h' | h'
        · exact h'
        · rw [List.getElem?_eq_none h'] at hj; cases hj
      obtain ⟨b, o', hp, _, hc⟩ := h4.cells j hjl
      cases hp
      rw [List.getElem?_eq_getElem hjl] at hj
      cases hj
      rw [Addr.add_mid, hc]
      simp [List.getD, hjl]
    · intro y hy
      obtain ⟨z, _, rfl⟩ := List.mem_map.1 hy
      rfl
    · intro v' w' g1 g2 _ g3
      refine h v' w' ?_ g2 g3
      unfold NewRow
      rw [List.length_append, List.map_append]
      exact g1
theorem at_own {v v' : Value} {H : Nat} (h : v'.ownBlock = v.ownBlock ∨ v'.ownBlock = some H) : ∀ k, v'.ownBlock = some k → v.ownBlock = some k ∨ H ≤ k := fun k e => by
  rcases h with h | h
  · left; rw [← h]; exact e
  · right; rw [h] at e; cases e; exact Nat.le_refl _
/-- the same, as the run's equation -/
theorem run_append_new {R : Nat → Prop} {B : Nat} (w : World) (ty : TypeId) (u v : Value) (xs ys : List Int) (hv : NewRow B w v xs) (hy : SlIs R w u ys) (hb : xs.length + ys.length ≤ 1000000) (hB : B ≤ w.heap.size) :
    ∃ v' w', (Builtin.append_ #[38, 38] ty #[v, u]).run Try.prog w = .ok v' w' ∧ NewRow B w' v' (xs ++ ys) ∧ w.grownBy w' v.ownBlock ∧ (v'.ownBlock = v.ownBlock ∨ v'.ownBlock = some w.heap.size) := by
  obtain ⟨i0, hi, hz0, hz1, hz2⟩ := info_parts infoInt
  obtain ⟨p, c, rfl, h1, h2, h3, h4⟩ := hy
  have hU := Try.underlying38
  cases p with
  | none =>
    have hc := h3 rfl
    subst hc
    have h0 : ys = [] := List.eq_nil_of_length_eq_zero (by omega)
    subst h0
    exact ⟨v, w, run_append_owned_none (P := Try.prog) w B 38 ty 3 i0 1 hU hi v xs.length (xs.map (Value.int .i64)) hv, by rw [List.append_nil]; exact hv, ⟨rfl, rfl, rfl, Nat.le_refl _, fun _ _ _ => rfl⟩, .inl rfl⟩
  | some ad =>
    have hm : (ys.map (Value.int .i64)).length = ys.length * 1 := by rw [List.length_map, Nat.mul_one]
    have hA : ∀ j y, (ys.map (Value.int .i64))[j]? = some y → w.cell? (ad.add j) = some y := by
      intro j y hj
      rw [List.getElem?_map] at hj
      have hjl : j < ys.length := by
        rcases Nat.lt_or_ge j ys.length with h' | h'
        · exact h'
        · rw [List.getElem?_eq_none h'] at hj; cases hj
      obtain ⟨b, o', hp, _, hc⟩ := h4.cells j hjl
      cases hp
      rw [List.getElem?_eq_getElem hjl] at hj
      cases hj
      rw [Addr.add_mid, hc]
      simp [List.getD, hjl]
    have hO : ∀ y ∈ ys.map (Value.int .i64), y.oneCell' = true := by
      intro y hy
      obtain ⟨z, _, rfl⟩ := List.mem_map.1 hy
      rfl
    obtain ⟨v', w', hr, g1, g2, -, g3⟩ := run_append_own_at (P := Try.prog) w B 38 ty 3 i0 (.int .i64 0) 1 8 hU hi hz0 hz1 hz2 rfl (by decide) v xs.length (xs.map (Value.int .i64)) hv ad ys.length c (ys.map (Value.int .i64)) hm hA hO (by unfold maxLen; omega) (by omega) hB
    refine ⟨v', w', hr, ?_, g2, g3⟩
    unfold NewRow
    rw [List.length_append, List.map_append]
    exact g1
/-- at a step of a region that draws its order -/
theorem step_append_new {ops : Array Oper} {o : Oper} {a : Act} {K : Act → World → Prop} {Q : Exit → Act → World → Prop} {E : Prop} {R : Nat → Prop} {B : Nat} (w : World) (hgd : o.guard = none) (s x : Operand)
    (ho : o.op = .call { callee := .builtin .append, args := #[s, x], argTypes := #[38, 38] }) (u v : Value) (xs ys : List Int) (hs : a.eval s = v) (hv : NewRow B w v xs) (hx : a.eval x = u) (hy : SlIs R w u ys) (hb : xs.length + ys.length ≤ 1000000) (hB : B ≤ w.heap.size)
    (h : ∀ v' w', NewRow B w' v' (xs ++ ys) → w.grownBy w' v.ownBlock → (v'.ownBlock = v.ownBlock ∨ v'.ownBlock = some w.heap.size) → K (a.put o.dst v') w') :
    if Region.wanted o (yielded ops a.tmps) = true then Oper.wp Try.prog o a w K Q else E := by
  have hw : Region.wanted o (yielded ops a.tmps) = true := by simp [Region.wanted, hgd]
  rw [if_pos hw]
  obtain ⟨v', w', hr, h2, h3, h4⟩ := run_append_new w o.type u v xs ys hv hy hb hB
  unfold Oper.wp execOp
  simp only [ho, resolve, invoke, builtin, Sem.run_bind, Sem.run_pure, Result.andThen_ok, List.map_toArray, List.map_cons, List.map_nil, hs, hx, hr]
  exact h v' w' h2 h3 h4
end Go.Proofs.Ytkhfanhboooilaa

/- The kit's Pick, walked. -/
namespace Go.Proofs.Ytkhfanhboooilaa
open Go.RowKit

theorem pick_any (i : Int) (n : Nat) (h1 : -9223372036854775808 ≤ i) (h2 : i ≤ 9223372036854775807) (hn1 : 1 ≤ n) (hn : n ≤ 1000000000) (w : World) :
    Calls Try.prog 43 #[.int .i64 i, .int .i64 n] w (fun e w' => e = .returned (.int .i64 (i % n)) ∧ w = w') := by
  have a1 := Int.tmod_lt_of_pos i (show (0 : Int) < n by omega)
  have a2 := Int.lt_tmod_of_pos i (show (0 : Int) < n by omega)
  have e1 : wrap64 (i.tmod n + n) = i.tmod n + n := IntWalk.wrap64_in _ ⟨by omega, by omega⟩
  have e2 : (i.tmod n + n).tmod n = i % n := by
    rw [Int.tmod_eq_emod_of_nonneg (by omega), Int.add_emod_right, Int.tmod_def, Int.sub_mul_emod_self_left]
  have E := Lib.hid (And.intro e1 e2)
  have E3 := Lib.hid (show ∀ a b : Int, a = b → Ending.returned (.int .i64 a) = Ending.returned (.int .i64 b) from fun a b h => by rw [h])
  clear a1 a2 e1 e2
  go_enter Try.func43, Try.ntmps43
  go_wp2
  go_ret
  exact ⟨E3.out _ _ (by rw [E.out.1, E.out.2]), rfl⟩
/-- .. as a number from 0 on -/
theorem pick_nat (i : Int) (n : Nat) (h1 : -9223372036854775808 ≤ i ∧ i ≤ 9223372036854775807) (hn : 1 ≤ n ∧ n ≤ 1000000000) (w : World) :
    Calls Try.prog 43 #[.int .i64 i, .int .i64 n] w (fun e w' => ∃ k : Nat, k < n ∧ e = .returned (.int .i64 k) ∧ w = w') := by
  refine (pick_any i n h1.1 h1.2 hn.1 hn.2 w).mono ?_
  rintro e w' ⟨rfl, h⟩
  have b1 := Int.emod_nonneg i (show (n : Int) ≠ 0 by omega)
  have b2 := Int.emod_lt_of_pos i (show (0 : Int) < n by omega)
  exact ⟨(i % n).toNat, by omega, by rw [show ((i % n).toNat : Int) = i % n by omega], h⟩
end Go.Proofs.Ytkhfanhboooilaa

/- The walks of package word's small functions. -/
namespace Go.Proofs.Ytkhfanhboooilaa
open Go.RowKit Go.Wd

theorem wret_u32 {a b : Int} (h : a = b) : Ending.returned (.int .u32 a) = Ending.returned (.int .u32 b) := by rw [h]
theorem wret_u64 {a b : Int} (h : a = b) : Ending.returned (.int .u64 a) = Ending.returned (.int .u64 b) := by rw [h]
theorem wret_i64 {a b : Int} (h : a = b) : Ending.returned (.int .i64 a) = Ending.returned (.int .i64 b) := by rw [h]
theorem wret_bool {a b : Bool} (h : a = b) : Ending.returned (.bool a) = Ending.returned (.bool b) := by rw [h]
theorem w32 (n : Int) : IntKind.u32.wrap n = n % 4294967296 := by
  simp [IntKind.wrap, IntKind.bits, IntKind.signed]
theorem wadd32 (a b : Nat) : IntKind.u32.wrap ((a : Int) + b) = (((a + b) % 4294967296 : Nat) : Int) := by rw [w32]; omega
theorem wsub32 (a b : Nat) (h : b ≤ 4294967296) : IntKind.u32.wrap ((a : Int) - b) = (((a + 4294967296 - b) % 4294967296 : Nat) : Int) := by rw [w32]; omega
theorem or64 (h t : Nat) (hh : h < 4294967296) (ht : t < 4294967296) : bits BinOp.or IntKind.u64 ((h : Int) * 4294967296) (t : Int) = ((pk h t : Nat) : Int) := by
  have e : (h : Int) * 4294967296 = ((h * 4294967296 : Nat) : Int) := by omega
  rw [e, bits_or_u64_nat _ _ (by omega) (by omega), or_pack h t ht]
theorem wrap_i63 (n : Int) (h₀ : 0 ≤ n) (h₁ : n < 2 ^ 63) : IntKind.i64.wrap n = n := by rw [IntKind.wrap_i64]; omega
theorem and_i64 (a b : Nat) (ha : a < 9223372036854775808) (hb : b < 9223372036854775808) : bits BinOp.and IntKind.i64 (a : Int) (b : Int) = ((a &&& b : Nat) : Int) :=
  (bits_nat .i64 63 (by decide) wrap_i63 a b (by omega) (by omega)).1
theorem room_test (n : Nat) (h1 : 2 ≤ n) (h2 : n ≤ 65536) : (bits BinOp.and IntKind.i64 (n : Int) ((n : Int) - 1) == 0) = room n := by
  have e : (n : Int) - 1 = ((n - 1 : Nat) : Int) := by omega
  rw [e, and_i64 _ _ (by omega) (by omega)]
  cases hr : room (n : Int) with
  | true => rw [room_and' hr]; rfl
  | false =>
    have hne : n &&& (n - 1) ≠ 0 := fun h => by rw [room_and h1 h2 h] at hr; cases hr
    have : (((n &&& (n - 1) : Nat) : Int) == 0) = decide (((n &&& (n - 1) : Nat) : Int) = 0) := rfl
    rw [this, decide_eq_false_iff_not]; omega

theorem whead_any (x : Nat) (hx : x < 18446744073709551616) (w : World) :
    Calls Try.prog 119 #[.int .u64 x] w fun e w' => e = .returned (.int .u32 (hd x : Nat)) ∧ w = w' := by
  go_enter Try.func119, Try.ntmps119
  go_wp2
  go_ret
  exact ⟨wret_u32 (by unfold hd; omega), rfl⟩

theorem wtail_any (x : Nat) (hx : x < 18446744073709551616) (w : World) :
    Calls Try.prog 114 #[.int .u64 x] w fun e w' => e = .returned (.int .u32 (tl x : Nat)) ∧ w = w' := by
  go_enter Try.func114, Try.ntmps114
  go_wp2
  go_ret
  exact ⟨wret_u32 (by unfold tl; omega), rfl⟩

theorem wpack_any (h t : Nat) (hh : h < 4294967296) (ht : t < 4294967296) (w : World) :
    Calls Try.prog 124 #[.int .u32 h, .int .u32 t] w fun e w' => e = .returned (.int .u64 (pk h t : Nat)) ∧ w = w' := by
  go_enter Try.func124, Try.ntmps124
  go_wp2
  go_ret
  exact ⟨wret_u64 (or64 h t hh ht), rfl⟩
theorem wpack_at (a b : Int) (h t : Nat) (ha : a = h) (hb : b = t) (hh : h < 4294967296) (ht : t < 4294967296) (w : World) :
    Calls Try.prog 124 #[.int .u32 a, .int .u32 b] w fun e w' => e = .returned (.int .u64 (pk h t : Nat)) ∧ w = w' := by
  subst ha; subst hb; exact wpack_any h t hh ht w

theorem wlen_any (x : Nat) (hx : x < 18446744073709551616) (w : World) :
    Calls Try.prog 118 #[.int .u64 x] w fun e w' => e = .returned (.int .u32 (ln x : Nat)) ∧ w = w' := by
  have h1 := hd_lt hx
  go_enter Try.func118, Try.ntmps118
  go_wp2_with (first
    | (go_at_call 119; refine (whead_any _ hx _).mono ?_; rintro e w' ⟨rfl, rfl⟩)
    | (go_at_call 114; refine (wtail_any _ hx _).mono ?_; rintro e w' ⟨rfl, rfl⟩))
  go_ret
  exact ⟨wret_u32 (by show IntKind.u32.wrap _ = _; rw [wsub32 _ _ (by omega)]; rfl), rfl⟩

theorem wgrow_any (x n : Nat) (hx : x < 18446744073709551616) (hn : n < 4294967296) (w : World) :
    Calls Try.prog 112 #[.int .u64 x, .int .u32 n] w fun e w' => e = .returned (.int .u64 (growW x n : Nat)) ∧ w = w' := by
  have h1 := hd_lt hx
  have h2 := tl_lt x
  go_enter Try.func112, Try.ntmps112
  go_wp2_with (first
    | (go_at_call 119; refine (whead_any _ hx _).mono ?_; rintro e w' ⟨rfl, rfl⟩)
    | (go_at_call 114; refine (wtail_any _ hx _).mono ?_; rintro e w' ⟨rfl, rfl⟩)
    | (go_at_call 124; refine (wpack_at _ _ (hd x) ((tl x + n) % 4294967296) rfl (wadd32 _ _) h1 (Nat.mod_lt _ (by decide)) _).mono ?_; rintro e w' ⟨rfl, rfl⟩))
  go_ret
  exact ⟨rfl, rfl⟩
theorem wdrop_any (x n : Nat) (hx : x < 18446744073709551616) (hn : n < 4294967296) (w : World) :
    Calls Try.prog 116 #[.int .u64 x, .int .u32 n] w fun e w' => e = .returned (.int .u64 (dropW x n : Nat)) ∧ w = w' := by
  have h1 := hd_lt hx
  have h2 := tl_lt x
  go_enter Try.func116, Try.ntmps116
  go_wp2_with (first
    | (go_at_call 119; refine (whead_any _ hx _).mono ?_; rintro e w' ⟨rfl, rfl⟩)
    | (go_at_call 114; refine (wtail_any _ hx _).mono ?_; rintro e w' ⟨rfl, rfl⟩)
    | (go_at_call 124; refine (wpack_at _ _ (hd x) ((tl x + 4294967296 - n) % 4294967296) rfl (wsub32 _ _ (by omega)) h1 (Nat.mod_lt _ (by decide)) _).mono ?_; rintro e w' ⟨rfl, rfl⟩))
  go_ret
  exact ⟨rfl, rfl⟩
theorem drop_at (x : Nat) (a : Int) (n : Nat) (ha : a = n) (hx : x < 18446744073709551616) (hn : n < 4294967296) (w : World) :
    Calls Try.prog 116 #[.int .u64 x, .int .u32 a] w fun e w' => e = .returned (.int .u64 (dropW x n : Nat)) ∧ w = w' := by
  subst ha; exact wdrop_any x n hx hn w

end Go.Proofs.Ytkhfanhboooilaa
