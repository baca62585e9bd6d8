/- A round that keeps what lay below n₀, and all blocks of some element types (the iterator's own captures and rows, whenever they were laid): for 'wpIn_rangeFunc_ownF' (layer 8; names nothing of the code). -/
import Derived.RangeFuncNested
import Derived.RangeFuncCalls
import Derived.RangeFuncFrom
import Derived.Below
import Derived.Test.YtjdbmedealhbjaaRows
import Derived.Test.YtjdbmedealhbjaaTc
import Derived.Test.YtjdbmedealhbjaaCn
import Derived.RangeFuncBox
namespace Go.Proofs.Ytjdbmedealhbjaa
open Go.RowKit

/-- below n₀, and the blocks of the types ts -/
def KpT (n₀ : Nat) (ts : List TypeId) (W W' : World) : Prop := Below n₀ W W' ∧ ∀ (b : Nat) (cs : Array Value) (t : TypeId) (m : Nat × Nat), t ∈ ts → W.heap[b]? = some (.cells cs t m) → W'.heap[b]? = W.heap[b]?
theorem kpT_refl {n₀ : Nat} {ts : List TypeId} (A : World) : KpT n₀ ts A A := ⟨Below.refl _ _, fun _ _ _ _ _ _ => rfl⟩
theorem kpT_t {n₀ : Nat} {ts : List TypeId} {A B C : World} (h : KpT n₀ ts A B) (k : KpT n₀ ts B C) : KpT n₀ ts A C :=
  ⟨h.1.trans k.1, fun b cs t m ht hb => (k.2 b cs t m ht ((h.2 b cs t m ht hb).trans hb)).trans (h.2 b cs t m ht hb)⟩
theorem kpT_b {n₀ : Nat} {ts : List TypeId} {w : World} (hn : n₀ ≤ w.heap.size) (W : World) (l : Nat) (o o' : Obj) (hl : w.heap.size ≤ l) (h : W.heap[l]? = some o) (h1 : o.isCells = false) (h2 : o.isWalk = false) : KpT n₀ ts W (W.putObj l o') :=
  ⟨belowK_b hn W l o o' hl h h1 h2, fun b cs t m _ hb => World.putObj_heap_other (by rintro rfl; rw [h] at hb; cases hb; cases h1)⟩
theorem KpT.of {n₀ : Nat} {ts : List TypeId} {W W' : World} (h : Below W.heap.size W W') (hn : n₀ ≤ W.heap.size) : KpT n₀ ts W W' := ⟨h.mono hn, fun b _ _ _ _ hb => h.block b (Array.getElem?_eq_some_iff.1 hb).1⟩
theorem KpT.boxed {n₀ : Nat} {ts : List TypeId} {W W' : World} (h : KpT n₀ ts W W') {b : Nat} {t : TypeId} {v : Value} (ht : t ∈ ts) (hb : Boxed W b t v) : Boxed W' b t v := (h.2 b _ t _ ht hb).trans hb
/-- a row that is new since B stays, its block being of one of the types -/
theorem KpT.row {n₀ : Nat} {ts : List TypeId} {W W' : World} (h : KpT n₀ ts W W') {e : TypeId} (he : e ∈ ts) {base k size : Nat} {v : Value} {xs : List Value} (hr : W.ownsRow base e size v k xs) : W'.ownsRow base e size v k xs := by
  refine ⟨hr.1, ?_⟩
  rcases hr.2 with h2 | ⟨g, cap, cur, hv, hB, hg, r⟩
  · exact .inl h2
  · exact .inr ⟨g, cap, cur, hv, hB, (h.2 g _ _ _ he hg).trans hg, r⟩
/-- a store into a box of another type -/
theorem KpT.set {n₀ : Nat} {ts : List TypeId} {W : World} {B : Nat} {t : TypeId} {v : Value} (hv : Boxed W B t v) (ht : t ∉ ts) (hB : n₀ ≤ B) (v' : Value) : KpT n₀ ts W (W.setCell ⟨B, 0, none⟩ v') :=
  ⟨(Below.refl _ _).setCell (p := ⟨B, 0, none⟩) hB v', fun b cs t2 m ht2 hb => (grownBy_setCell' W B v').block b (Array.getElem?_eq_some_iff.1 hb).1 (fun e => by
    cases e
    rw [show W.heap[B]? = _ from hv] at hb
    cases hb
    exact ht ht2)⟩
/-- an append onto a boxed row: blocks of the other types stay -/
theorem boxed_pushT {W w1 : World} {n₀ B : Nat} {ts : List TypeId} {t e : TypeId} {v v' : Value} {k m size : Nat} {xs ys : List Value} {tmp : Obj} (hv : Boxed W B t v) (hte : t ≠ e) (hrow : W.ownsRow n₀ e size v k xs) (hn0 : n₀ ≤ W.heap.size) (h0B : n₀ ≤ B) (ht1 : t ∉ ts) (ht2 : e ∉ ts)
    (hown' : w1.ownsRow n₀ e size v' m ys) (hgrow : (W.alloc tmp).grownBy w1 v.ownBlock) :
    Boxed w1 B t v ∧ Boxed (w1.setCell ⟨B, 0, none⟩ v') B t v' ∧ (w1.setCell ⟨B, 0, none⟩ v').ownsRow n₀ e size v' m ys ∧ KeepsOthers W (w1.setCell ⟨B, 0, none⟩ v') ∧ KpT n₀ ts W (w1.setCell ⟨B, 0, none⟩ v') := by
  obtain ⟨a1, a2, a3, a4, a5⟩ := hv.appended hte hrow hn0 h0B hown' hgrow
  refine ⟨a1, a2, a3, a4, a5, fun b cs t2 m2 h2 hb => ?_⟩
  have hb0 := ((Below.refl W.heap.size W).alloc (Nat.le_refl _) tmp)
  have z1 : b < W.heap.size := (Array.getElem?_eq_some_iff.1 hb).1
  have z2 : b < (W.alloc tmp).heap.size := Nat.lt_of_lt_of_le z1 hb0.size
  have z3 : b < w1.heap.size := Nat.lt_of_lt_of_le z2 hgrow.size
  have e1 : w1.heap[b]? = W.heap[b]? := by
    rw [hgrow.block b z2 ?_, hb0.block b z1]
    intro e2
    rcases hrow.2 with ⟨hv0, _⟩ | ⟨g, cap, cur, hv0, hB, hg, _⟩
    · rw [hv0] at e2; cases e2
    · rw [hv0] at e2
      have e3 : b = g := by simpa [Value.ownBlock] using e2
      subst e3
      rw [hg] at hb; cases hb
      exact ht2 h2
  rw [← e1]
  refine (grownBy_setCell' w1 B v').block b z3 (fun e => ?_)
  cases e
  rw [show W.heap[B]? = _ from hv] at hb
  cases hb
  exact ht1 h2
end Go.Proofs.Ytjdbmedealhbjaa
