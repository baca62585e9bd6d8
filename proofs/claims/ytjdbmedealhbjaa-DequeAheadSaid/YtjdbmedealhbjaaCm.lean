/- Rows of numbers as they lie in memory, and small words on worlds: of any layer. -/
import Derived.Test.YtjdbmedealhbjaaRows
import Derived.WalkKit
import Derived.Below
import Derived.Lib.Hide
import Derived.Lib.SmallJoins
namespace Go.Proofs.Ytjdbmedealhbjaa
open Go.RowKit

/-- a slice of numbers, as it lies -/
structure Lies (k : IntKind) (w : World) (p : Option Addr) (zs : List Int) : Prop where
  len : zs.length ≤ 1000000000000000
  cells : ∀ j, j < zs.length → ∃ b o, p = some ⟨b, o, none⟩ ∧ w.cell? ⟨b, o + j, none⟩ = some (.int k (zs.getD j 0))

theorem Lies.on {k : IntKind} {w w' : World} {p : Option Addr} {zs : List Int} (h : Lies k w p zs) (hb : Below w.heap.size w w') : Lies k w' p zs := by
  refine ⟨h.len, fun j hj => ?_⟩
  obtain ⟨b, o, hp, hc⟩ := h.cells j hj
  exact ⟨b, o, hp, by rw [hb.cell (block_lt_of_cell hc)]; exact hc⟩
/-- likewise, where it is known to lie below a block -/
structure LiesB (B : Nat) (k : IntKind) (w : World) (p : Option Addr) (zs : List Int) : Prop where
  len : zs.length ≤ 1000000000000000
  cells : ∀ j, j < zs.length → ∃ b o, p = some ⟨b, o, none⟩ ∧ b < B ∧ w.cell? ⟨b, o + j, none⟩ = some (.int k (zs.getD j 0))
theorem Lies.at {k : IntKind} {w : World} {p : Option Addr} {zs : List Int} (h : Lies k w p zs) : LiesB w.heap.size k w p zs := by
  refine ⟨h.len, fun j hj => ?_⟩
  obtain ⟨b, o, hp, hc⟩ := h.cells j hj
  exact ⟨b, o, hp, block_lt_of_cell hc, hc⟩
theorem LiesB.on {B : Nat} {k : IntKind} {w w' : World} {p : Option Addr} {zs : List Int} (h : LiesB B k w p zs) (hb : Below B w w') : LiesB B k w' p zs := by
  refine ⟨h.len, fun j hj => ?_⟩
  obtain ⟨b, o, hp, hlt, hc⟩ := h.cells j hj
  exact ⟨b, o, hp, hlt, by rw [hb.cell hlt]; exact hc⟩
theorem LiesB.lies {B : Nat} {k : IntKind} {w : World} {p : Option Addr} {zs : List Int} (h : LiesB B k w p zs) : Lies k w p zs := by
  refine ⟨h.len, fun j hj => ?_⟩
  obtain ⟨b, o, hp, _, hc⟩ := h.cells j hj
  exact ⟨b, o, hp, hc⟩

theorem take_more (zs : List Int) (k : Nat) (h : k < zs.length) : zs.take (k + 1) = zs.take k ++ [zs.getD k 0] := by
  rw [List.take_succ_eq_append_getElem h]
  congr 2
  simp [List.getD, h]
theorem fold_more {α : Type} (f : α → Int → α) (a : α) (zs : List Int) (k : Nat) (h : k < zs.length) : (zs.take (k + 1)).foldl f a = f ((zs.take k).foldl f a) (zs.getD k 0) := by
  rw [take_more zs k h, List.foldl_append]; rfl

theorem Bel.refl (w : World) : Below w.heap.size w w := Below.refl _ _
theorem Bel.trans {w w1 w2 : World} (h1 : Below w.heap.size w w1) (h2 : Below w1.heap.size w1 w2) : Below w.heap.size w w2 := h1.trans (h2.mono h1.size)
theorem bcell {W w1 : World} (hb : Below W.heap.size W w1) : (∀ b o, b < W.heap.size → w1.cell? ⟨b, o, none⟩ = W.cell? ⟨b, o, none⟩) ∧ (∀ b o, b < W.heap.size → w1.frozen? ⟨b, o, none⟩ = W.frozen? ⟨b, o, none⟩) :=
  ⟨fun b o h => hb.cell (p := ⟨b, o, none⟩) h, fun b o h => hb.frozen (p := ⟨b, o, none⟩) h⟩
end Go.Proofs.Ytjdbmedealhbjaa
