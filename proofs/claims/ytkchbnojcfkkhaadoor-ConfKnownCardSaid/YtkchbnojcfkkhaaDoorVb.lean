/- The reference's Names (layer 5), walked. -/
import Derived.Test.YtkchbnojcfkkhaaDoorVa
import Derived.Laws.OwnMore
import Derived.Deep.RegionHeld3
namespace Go.Proofs.YtkchbnojcfkkhaaDoor
open Go.RowKit Go.Tx Go.Cg

/-- the names, so far: a row of its own -/
structure NSt (W : World) (Q k : Nat) (v : Value) (w : World) : Prop where
  own : w.ownsRow W.heap.size 9 1 v k ((nms Q k).map strV)
  bel : Below W.heap.size W w
theorem own_base1 {w : World} {B C n : Nat} {E : TypeId} {v : Value} {xs : List Value} (h : w.ownsRow B E 1 v n xs) (hb : C ≤ B) : w.ownsRow C E 1 v n xs := by
  refine ⟨h.1, ?_⟩
  rcases h.2 with h2 | ⟨g, cap, cur, hv, hB, r⟩
  · exact .inl h2
  · exact .inr ⟨g, cap, cur, hv, Nat.le_trans hb hB, r⟩
theorem own_on1 {w w' : World} {B n : Nat} {E : TypeId} {v : Value} {xs : List Value} (h : w.ownsRow B E 1 v n xs) (hb : Below w.heap.size w w') : w'.ownsRow B E 1 v n xs :=
  own_tch h (.of (fun _ => False) hb) (fun _ e => e.elim)
theorem NSt.on {W w w' : World} {Q k : Nat} {v : Value} (h : NSt W Q k v w) (hb : Below w.heap.size w w') : NSt W Q k v w' := ⟨own_on1 h.own hb, h.bel.trans (hb.mono h.bel.size)⟩
theorem NSt.push {W w w' : World} {Q k : Nat} {v v' : Value} {x : ByteArray} (h : NSt W Q k v w) (hx : Value.string x = strV (nameAt Q k)) (ho : w'.ownsRow W.heap.size 9 1 v' (k + 1) ((nms Q k).map strV ++ [.string x])) (hg : w.grownBy w' v.ownBlock) : NSt W Q (k + 1) v' w' := by
  refine ⟨?_, h.bel.trans ((Tch.grown hg).below h.bel.size (fun j e => (h.own.lt j e).1))⟩
  rw [nms_more, List.map_append, List.map_cons, List.map_nil, ← hx]
  exact ho
/-- the first four -/
theorem NSt.four (w : World) (Q : Nat) : NSt w Q 4 (.slice (some ⟨w.heap.size, 0, none⟩) 4 4) (w.alloc (.cells #[.string ⟨#[116, 105, 99, 107, 101, 116]⟩, .string ⟨#[115, 101, 114, 118, 105, 110, 103]⟩, .string ⟨#[105, 100, 108, 101]⟩, .string ⟨#[115, 105, 122, 101]⟩] 9)) := by
  refine ⟨?_, (Below.refl _ _).alloc (Nat.le_refl _) _⟩
  have := World.ownsRow_lit (e := 9) (base := w.heap.size) (size := 1) w #[.string ⟨#[116, 105, 99, 107, 101, 116]⟩, .string ⟨#[115, 101, 114, 118, 105, 110, 103]⟩, .string ⟨#[105, 100, 108, 101]⟩, .string ⟨#[115, 105, 122, 101]⟩] 4 (Nat.le_refl _) (by unfold maxLen; omega) rfl
  have e : (nms Q 4).map strV = [.string ⟨#[116, 105, 99, 107, 101, 116]⟩, .string ⟨#[115, 101, 114, 118, 105, 110, 103]⟩, .string ⟨#[105, 100, 108, 101]⟩, .string ⟨#[115, 105, 122, 101]⟩] := by
    unfold nms
    rw [show List.range 4 = [0, 1, 2, 3] from rfl]
    simp only [List.map_cons, List.map_nil]
    rw [nameAt_four (by decide), nameAt_four (by decide), nameAt_four (by decide), nameAt_four (by decide)]
    rfl
  rw [e]; exact this
theorem cell_join (r p : Nat) : Value.string ((⟨(W6.getD r []).toArray⟩ : ByteArray) ++ ⟨#[32]⟩ ++ ⟨(dc p).toArray⟩) = strV (cellN r p) := by
  rw [show (⟨#[32]⟩ : ByteArray) = ⟨[32].toArray⟩ from rfl, bapp, bapp]; unfold strV cellN; simp
theorem slot_join (p i : Nat) : Value.string ((⟨#[115, 108, 111, 116, 32]⟩ : ByteArray) ++ ⟨(dc p).toArray⟩ ++ ⟨#[32]⟩ ++ ⟨(dc i).toArray⟩) = strV (slotN p i) := by
  rw [show (⟨#[32]⟩ : ByteArray) = ⟨[32].toArray⟩ from rfl, show (⟨#[115, 108, 111, 116, 32]⟩ : ByteArray) = ⟨[115, 108, 111, 116, 32].toArray⟩ from rfl, bapp, bapp, bapp]; unfold strV slotN WS; simp
/-- the six words lie there -/
def SixW (g : Nat) (w : World) : Prop := ∀ i, i < 6 → w.cell? ⟨g, i, none⟩ = some (strV (W6.getD i []))
theorem SixW.new (w : World) : SixW w.heap.size (w.alloc (.cells #[.string ⟨#[119, 111, 114, 100]⟩, .string ⟨#[110, 101, 120, 116]⟩, .string ⟨#[115, 116, 97, 116]⟩, .string ⟨#[116, 105, 99, 107]⟩, .string ⟨#[115, 121, 115]⟩, .string ⟨#[102, 108, 97, 103]⟩] 9)) := by
  intro i hi
  rw [World.cell?_alloc_new]
  rcases i with _ | _ | _ | _ | _ | _ | i
  · rfl
  · rfl
  · rfl
  · rfl
  · rfl
  · rfl
  · omega
theorem SixW.on {g : Nat} {w w' : World} (h : SixW g w) (hb : Below w.heap.size w w') : SixW g w' := fun i hi => by
  have hc := h i hi
  rw [hb.cell (block_lt_of_cell hc)]; exact hc
theorem SixW.grown {g : Nat} {w w' : World} {row : Option Nat} (h : SixW g w) (hg : w.grownBy w' row) (hr : row ≠ some g) : SixW g w' := fun i hi => by
  have hc := h i hi
  rw [hg.cell_far ⟨g, i, none⟩ (block_lt_of_cell hc) (fun e => hr e.symm)]; exact hc
theorem k_al {g j : Nat} {wr w1 : World} {x : Value} (h : wr.cell? ⟨g, j, none⟩ = some x) (hb : Below wr.heap.size wr w1) : w1.cell? ⟨g, j, none⟩ = some x := by rw [hb.cell (block_lt_of_cell h)]; exact h
theorem k_gr {g j : Nat} {wr w1 : World} {x : Value} {row : Option Nat} (h : wr.cell? ⟨g, j, none⟩ = some x) (hg : wr.grownBy w1 row) (hr : row ≠ some g) : w1.cell? ⟨g, j, none⟩ = some x := by
  rw [hg.cell_far ⟨g, j, none⟩ (block_lt_of_cell h) (fun e => hr e.symm)]; exact h
theorem w6_len (i : Nat) : (W6.getD i []).length ≤ 4 := by
  rcases i with _ | _ | _ | _ | _ | _ | i
  · decide
  · decide
  · decide
  · decide
  · decide
  · decide
  · simp [W6, List.getD]
theorem dc_len {n : Nat} (h : n < 10000) : (dc n).length ≤ 4 := dc_le (k := 4) (by omega) (by omega)

/-- it returned a row of its own, of these texts -/
def StrsPost (xs : List (List UInt8)) (w : World) (e : Ending) (w' : World) : Prop := ∃ v, e = .returned v ∧ w'.ownsRow w.heap.size 9 1 v xs.length (xs.map strV) ∧ Below w.heap.size w w'
end Go.Proofs.YtkchbnojcfkkhaaDoor
