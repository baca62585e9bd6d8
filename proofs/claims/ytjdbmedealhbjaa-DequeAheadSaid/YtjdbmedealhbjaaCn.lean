/- Rows of a function's own, of any kind and type: read as slices, kept, handed on. -/
import Derived.Test.YtjdbmedealhbjaaCm
import Derived.OwnWalk
import Derived.Lib.OwnBridge
import Derived.Laws.AppendOwnNone
import Derived.Laws.Pointers
import Derived.Deep.RegionHeld
namespace Go.Proofs.Ytjdbmedealhbjaa
open Go.RowKit

theorem ownk_lies {k : IntKind} {E : TypeId} {w : World} {B n : Nat} {v : Value} {zs : List Int} (h : w.ownsRow B E 1 v n (zs.map (Value.int k))) (hn : n = zs.length) (hl : n ≤ 1000000000000000) : ∃ p cap, v = .slice p n cap ∧ Lies k w p zs := by
  subst hn
  rcases h.2 with ⟨hv, hz⟩ | ⟨g, cap, cur, hv, hB, hg, hc, hc2, r⟩
  · refine ⟨none, 0, by rw [hv, hz], by omega, fun j hj => by omega⟩
  · subst hv
    refine ⟨_, cap, rfl, hl, fun j hj => ⟨g, 0, rfl, ?_⟩⟩
    have := h.cellAt j (by omega)
    rw [Nat.zero_add, this, List.getElem?_map]
    simp [List.getD, hj]
theorem ownk_cap {k : IntKind} {E : TypeId} {w : World} {B n : Nat} {v : Value} {zs : List Int} (h : w.ownsRow B E 1 v n (zs.map (Value.int k))) (hn : 0 < n) (hl : n = zs.length) (hb : n ≤ 1000) : ∃ g cap, v = .slice (some ⟨g, 0, none⟩) n cap ∧ B ≤ g ∧ n ≤ cap ∧ cap ≤ maxLen ∧ Lies k w (some ⟨g, 0, none⟩) zs := by
  rcases h.2 with ⟨hv, hz⟩ | ⟨g, cap, cur, hv, hB, hg, hc, hc2, r⟩
  · omega
  · subst hv
    refine ⟨g, cap, rfl, hB, hc, hc2, ⟨by omega, fun j hj => ⟨g, 0, rfl, ?_⟩⟩⟩
    have := h.cellAt j (by omega)
    rw [Nat.zero_add, this, List.getElem?_map]
    simp [List.getD, hj]
theorem ownk_form {w : World} {B n : Nat} {E : TypeId} {v : Value} {xs : List Value} (h : w.ownsRow B E 1 v n xs) : ∃ p cap, v = .slice p n cap := by
  rcases Joins.ownsRow_forms h with ⟨hv, hz⟩ | ⟨g, cap, hv⟩
  · exact ⟨none, 0, by rw [hv, hz]⟩
  · exact ⟨_, _, hv⟩
theorem ownk_on {w w' : World} {B n : Nat} {E : TypeId} {v : Value} {xs : List Value} (h : w.ownsRow B E 1 v n xs) (hb : Below w.heap.size w w') : w'.ownsRow B E 1 v n xs := by
  refine ⟨h.1, ?_⟩
  rcases h.2 with h2 | ⟨g, cap, cur, hv, hB, hg, r⟩
  · exact .inl h2
  · refine .inr ⟨g, cap, cur, hv, hB, ?_, r⟩
    rw [hb.block g (Array.getElem?_eq_some_iff.1 hg).1]; exact hg
theorem ownk_base {w : World} {B C n : Nat} {E : TypeId} {v : Value} {xs : List Value} (h : w.ownsRow B E 1 v n xs) (hb : C ≤ B) : w.ownsRow C E 1 v n xs := by
  refine ⟨h.1, ?_⟩
  rcases h.2 with h2 | ⟨g, cap, cur, hv, hB, r⟩
  · exact .inl h2
  · exact .inr ⟨g, cap, cur, hv, Nat.le_trans hb hB, r⟩
/-- without the first ones -/
theorem Lies.drop {k : IntKind} {w : World} {b o : Nat} {zs : List Int} (h : Lies k w (some ⟨b, o, none⟩) zs) (d : Nat) : Lies k w (some ⟨b, o + d, none⟩) (zs.drop d) := by
  refine ⟨by rw [List.length_drop]; have := h.len; omega, fun j hj => ⟨b, o + d, rfl, ?_⟩⟩
  rw [List.length_drop] at hj
  obtain ⟨b', o', e, hc⟩ := h.cells (d + j) (by omega)
  cases e
  rw [show o + d + j = o + (d + j) by omega, hc]
  simp [List.getD, List.getElem?_drop]
theorem Lies.set {k : IntKind} {w : World} {g o : Nat} {zs : List Int} (h : Lies k w (some ⟨g, o, none⟩) zs) {q : Addr} (hq : q.block ≠ g) (x : Value) : Lies k (w.setCell q x) (some ⟨g, o, none⟩) zs := by
  refine ⟨h.len, fun j hj => ?_⟩
  obtain ⟨b', o', e, hc⟩ := h.cells j hj
  cases e
  exact ⟨g, o, rfl, by rw [World.cell?_setCell_far _ _ _ _ hq]; exact hc⟩
/-- a literal row -/
theorem lies_new (k : IntKind) (zs : List Int) (w : World) (t : TypeId) (g : Nat) (hg : g = w.heap.size) (hl : zs.length ≤ 1000) : Lies k (w.alloc (.cells (zs.map (Value.int k)).toArray t)) (some ⟨g, 0, none⟩) zs := by
  subst hg
  refine ⟨by omega, fun j hj => ⟨_, _, rfl, ?_⟩⟩
  rw [World.cell?_alloc_new]
  simp [List.getD, hj]
/-- a row that came in, appended onto nothing -/
theorem append_row {P : Program} {k : IntKind} {T E : TypeId} (i0 : TypeInfo) (bytes : Nat) (hU : P.underlying T = some (.slice E)) (hi : P.info? E = some i0) (hz0 : i0.zero = some (.int k 0)) (hz1 : i0.size = 1) (hz2 : i0.bytes = bytes) (hbt : bytes ≤ 8)
    {ops : Array Oper} {rest : List Oper} {o : Oper} {a : Act} {Q : Exit → Act → World → Prop} (w : World) (hgd : o.guard = none) (s x : Operand)
    (ho : o.op = .call { callee := .builtin .append, args := #[s, x], argTypes := #[T, T] }) (hs : a.eval s = .slice none 0 0) (wo : List Int) (p : Option Addr) (m c : Nat) (hx : a.eval x = .slice p m c) (hm : m = wo.length) (hb : m ≤ 1000) (hL : Lies k w p wo) (hnil : p = none → c = 0)
    (h : ∀ v' w', w'.ownsRow w.heap.size E 1 v' m (wo.map (Value.int k)) → Below w.heap.size w w' → wpList P ops Q rest (a.put o.dst v') w') : wpList P ops Q (o :: rest) a w := by
  cases p with
  | none =>
    have hc := hnil rfl
    have h0 : wo = [] := by
      cases wo with
      | nil => rfl
      | cons y r => obtain ⟨b, o', hp, _⟩ := hL.cells 0 (by simp); cases hp
    subst h0; subst hc; subst hm
    refine wpList_append_own_none hgd s x T ho w.heap.size E i0 1 hU hi (.slice none 0 0) 0 [] hs (World.ownsRow_nil _ _ _ _) hx ?_
    exact h _ _ (World.ownsRow_nil _ _ _ _) (Below.refl _ _)
  | some ad =>
    refine wpList_append_own w hgd s x T ho w.heap.size E i0 (.int k 0) 1 bytes hU hi hz0 hz1 hz2 rfl (by decide) (.slice none 0 0) 0 [] hs (World.ownsRow_nil _ _ _ _) ad m c (wo.map (Value.int k)) hx (by rw [List.length_map]; omega) ?_ ?_ (by unfold maxLen; omega) (Nat.le_trans (Nat.mul_le_mul (show 0 + m ≤ 1000 by omega) hbt) (by decide)) (Nat.le_refl _) ?_
    · intro j u hu
      rw [List.getElem?_map] at hu
      have hj : j < wo.length := by
        rcases Nat.lt_or_ge j wo.length with h' | h'
        · exact h'
        · rw [List.getElem?_eq_none h'] at hu; cases hu
      obtain ⟨b, o', hp, hc⟩ := hL.cells j hj
      cases hp
      rw [List.getElem?_eq_getElem hj] at hu
      cases hu
      have e : (⟨b, o', none⟩ : Addr).add j = ⟨b, o' + j, none⟩ := by
        by_cases h0 : j = 0
        · subst h0; simp [Addr.add]
        · simp [Addr.add, h0]
      rw [e]
      simpa [List.getD, hj] using hc
    · intro u hu
      obtain ⟨y, _, rfl⟩ := List.mem_map.1 hu
      rfl
    · intro v' w' h1 h2 _
      rw [Nat.zero_add, List.nil_append] at h1
      exact h v' w' h1 ((Below.refl _ _).grown h2 (Nat.le_refl _) (fun k hk => by cases hk))

/-- a block of two cells that may be written -/
structure Box2 (g : Nat) (a b : Value) (w : World) : Prop where
  c0 : w.cell? ⟨g, 0, none⟩ = some a
  c1 : w.cell? ⟨g, 1, none⟩ = some b
  f0 : w.frozen? ⟨g, 0, none⟩ = false
  f1 : w.frozen? ⟨g, 1, none⟩ = false
theorem Box2.lt {g : Nat} {a b : Value} {w : World} (h : Box2 g a b w) : g < w.heap.size := block_lt_of_cell h.c0
theorem Box2.on {C g : Nat} {a b : Value} {w w' : World} (h : Box2 g a b w) (hb : Below C w w') (hg : g < C) : Box2 g a b w' :=
  ⟨by rw [hb.cell (p := ⟨g, 0, none⟩) hg]; exact h.c0, by rw [hb.cell (p := ⟨g, 1, none⟩) hg]; exact h.c1, by rw [hb.frozen (p := ⟨g, 0, none⟩) hg]; exact h.f0, by rw [hb.frozen (p := ⟨g, 1, none⟩) hg]; exact h.f1⟩
theorem Box2.on' {g : Nat} {a b : Value} {w w' : World} (h : Box2 g a b w) (hb : Below w.heap.size w w') : Box2 g a b w' := h.on hb h.lt
theorem Box2.new (g : Nat) (a b : Value) (w : World) (t : TypeId) (hg : g = w.heap.size) : Box2 g a b (w.alloc (.cells #[a, b] t)) := by
  subst hg
  exact ⟨by rw [World.cell?_alloc_new]; rfl, by rw [World.cell?_alloc_new]; rfl, by simp, by simp⟩
theorem Box2.alloc {g : Nat} {a b : Value} {w : World} (h : Box2 g a b w) (o : Obj) : Box2 g a b (w.alloc o) := h.on' ((Below.refl _ _).alloc (Nat.le_refl _) o)
theorem Box2.set {g : Nat} {a b : Value} {w : World} (h : Box2 g a b w) {q : Addr} (hq : q.block ≠ g) (x : Value) : Box2 g a b (w.setCell q x) :=
  ⟨by rw [World.cell?_setCell_far _ _ _ _ hq]; exact h.c0, by rw [World.cell?_setCell_far _ _ _ _ hq]; exact h.c1, by rw [World.frozen?_setCell]; exact h.f0, by rw [World.frozen?_setCell]; exact h.f1⟩
theorem Box2.put {g : Nat} {a b : Value} {w : World} (h : Box2 g a b w) (a' b' : Value) : Box2 g a' b' ((w.setCell ⟨g, 0, none⟩ a').setCell ⟨g, 1, none⟩ b') := by
  refine ⟨?_, ?_, by rw [World.frozen?_setCell, World.frozen?_setCell]; exact h.f0, by rw [World.frozen?_setCell, World.frozen?_setCell]; exact h.f1⟩
  · rw [World.cell?_setCell_other _ _ _ _ (by simp)]
    exact World.cell?_setCell_same _ _ _ h.c0
  · obtain ⟨u, hu⟩ := cell?_setCell_some (w := w) (p := ⟨g, 0, none⟩) (x := a') (q := ⟨g, 1, none⟩) (v := b) h.c1
    exact World.cell?_setCell_same _ _ _ hu
end Go.Proofs.Ytjdbmedealhbjaa
