/- Rows that may be written over; an append of a row that came in; what the law StrideOrders needs. -/
import Derived.Test.YteijfgckeipkhaaLa
import Derived.Test.YteijfgckeipkhaaSi
import Derived.Laws.AppendOwnNone
import Derived.Laws.Pointers
namespace Go.Proofs.Yteijfgckeipkhaa
open Go.RowKit Go.Sd

/-- the first l cells of a slice may be written over -/
def Wrt (B : Nat) (w : World) (p : Option Addr) (l : Nat) : Prop := ∀ j, j < l → ∃ g, p = some ⟨g, 0, none⟩ ∧ B ≤ g ∧ (∃ u, w.cell? ⟨g, j, none⟩ = some u) ∧ w.frozen? ⟨g, j, none⟩ = false
theorem Wrt.on {B : Nat} {w w' : World} {p : Option Addr} {l : Nat} (h : Wrt B w p l) (hb : Below w.heap.size w w') : Wrt B w' p l := by
  intro j hj
  obtain ⟨g, hp, hB, ⟨u, hu⟩, hf⟩ := h j hj
  have hlt := block_lt_of_cell hu
  exact ⟨g, hp, hB, ⟨u, by rw [hb.cell (p := ⟨g, j, none⟩) hlt]; exact hu⟩, by rw [hb.frozen (p := ⟨g, j, none⟩) hlt]; exact hf⟩
theorem Wrt.set {B : Nat} {w : World} {p : Option Addr} {l : Nat} (h : Wrt B w p l) (a : Addr) (x : Value) : Wrt B (w.setCell a x) p l := by
  intro j hj
  obtain ⟨g, hp, hB, ⟨u, hu⟩, hf⟩ := h j hj
  obtain ⟨u', hu'⟩ := cell?_setCell_some (w := w) (p := a) (x := x) (q := ⟨g, j, none⟩) (v := u) hu
  exact ⟨g, hp, hB, ⟨u', hu'⟩, by rw [World.frozen?_setCell]; exact hf⟩
theorem Wrt.mono {B C : Nat} {w : World} {p : Option Addr} {l : Nat} (h : Wrt B w p l) (hc : C ≤ B) : Wrt C w p l := fun j hj => by
  obtain ⟨g, hp, hB, h2⟩ := h j hj; exact ⟨g, hp, by omega, h2⟩
theorem Wrt.of {B : Nat} {w : World} {p : Option Addr} {n c : Nat} {xs : List Value} {E : TypeId} (h : w.ownsRow B E 1 (.slice p n c) n xs) : Wrt B w p n := by
  intro j hj
  rcases h.2 with ⟨hv, hz⟩ | ⟨g, cap, cur, hv, hB, hg, hc, hc2, r⟩
  · omega
  · cases hv
    have h1 := h.cellAt j (by omega)
    have hlen : xs.length = n * 1 := h.1
    exact ⟨g, rfl, hB, ⟨xs[j]'(by omega), by rw [h1]; exact List.getElem?_eq_getElem (by omega)⟩, h.frozenAt j⟩
/-- it returned a row of its own: it reads so, and may be written over -/
def RowPostB (zs : List Int) (l : Nat) (w : World) (e : Ending) (w' : World) : Prop := ∃ p c, e = .returned (.slice p l c) ∧ Lies .i64 w' p zs ∧ Wrt w.heap.size w' p l ∧ Below w.heap.size w w'
theorem RowPost.both {zs : List Int} {l : Nat} {w : World} {e : Ending} {w' : World} (h : RowPost zs w e w') (hl : zs.length = l) (hm : l ≤ 1000000) : RowPostB zs l w e w' := by
  subst hl
  obtain ⟨v, rfl, hO, hb⟩ := h
  obtain ⟨p, cap, rfl, hL⟩ := own_lies hO (by omega)
  exact ⟨p, cap, rfl, hL, Wrt.of hO, hb⟩

/-- append of a row that came in onto nothing -/
theorem append_wo {ops : Array Oper} {rest : List Oper} {o : Oper} {a : Act} {Q : Exit → Act → World → Prop} (w : World) (hgd : o.guard = none) (s x : Operand)
    (ho : o.op = .call { callee := .builtin .append, args := #[s, x], argTypes := #[22, 22] }) (hs : a.eval s = .slice none 0 0) (wo : List Int) (p : Option Addr) (m c : Nat) (hx : a.eval x = .slice p m c) (hm : m = wo.length) (hb : m ≤ 1000) (hL : Lies .i64 w p wo) (hnil : p = none → c = 0)
    (h : ∀ v' w', w'.ownsRow w.heap.size 3 1 v' m (wo.map (Value.int .i64)) → Below w.heap.size w w' → wpList Try.prog ops Q rest (a.put o.dst v') w') : wpList Try.prog ops Q (o :: rest) a w := by
  obtain ⟨i0, hi, hz0, hz1, hz2⟩ := info_parts infoInt
  cases p with
  | none =>
    have hc := hnil rfl
    have h0 : wo = [] := by
      cases wo with
      | nil => rfl
      | cons y r => obtain ⟨b, o', hp, _⟩ := hL.cells 0 (by simp); cases hp
    subst h0; subst hc; subst hm
    refine wpList_append_own_none hgd s x 22 ho w.heap.size 3 i0 1 Try.underlying22 hi (.slice none 0 0) 0 [] hs (World.ownsRow_nil _ _ _ _) hx ?_
    exact h _ _ (World.ownsRow_nil _ _ _ _) (Below.refl _ _)
  | some ad =>
    refine wpList_append_own w hgd s x 22 ho w.heap.size 3 i0 (.int .i64 0) 1 8 Try.underlying22 hi hz0 hz1 hz2 rfl (by decide) (.slice none 0 0) 0 [] hs (World.ownsRow_nil _ _ _ _) ad m c (wo.map (Value.int .i64)) hx (by rw [List.length_map]; omega) ?_ ?_ (by unfold maxLen; omega) (by omega) (Nat.le_refl _) ?_
    · intro j u hu
      rw [List.getElem?_map] at hu
      have hj : j < wo.length := by
        rcases Nat.lt_or_ge j wo.length with h' | h'
        · exact h'
        · rw [List.getElem?_eq_none h'] at hu; cases hu
      obtain ⟨b, o', hp, hc⟩ := hL.cells j hj
      cases hp
      rw [List.getElem?_eq_getElem hj] at hu
      cases hu
      have e : (⟨b, o', none⟩ : Addr).add j = ⟨b, o' + j, none⟩ := by
        by_cases h0 : j = 0
        · subst h0; simp [Addr.add]
        · simp [Addr.add, h0]
      rw [e]
      simpa [List.getD, hj] using hc
    · intro u hu
      obtain ⟨y, _, rfl⟩ := List.mem_map.1 hu
      rfl
    · intro v' w' h1 h2 _
      rw [Nat.zero_add, List.nil_append] at h1
      exact h v' w' h1 ((Below.refl _ _).grown h2 (Nat.le_refl _) (fun k hk => by cases hk))

theorem orders_len (n d : Int) : ((order n d).length : Int) * ((strides n).length : Int) = orders n := by
  unfold orders
  by_cases h : n < 1 ∨ 64 < n
  · rw [strides_out h]; simp
  · rw [order_len, if_pos (by omega)]
    have : ((n.toNat : Nat) : Int) = n := by omega
    rw [this]
theorem others_le (n d : Int) (wo : List Int) : (others n d wo).length ≤ 64 := Nat.le_trans (List.length_filter_le _ _) order_le
theorem rstrides_b {n : Int} {S : List Int} {l : Nat} (h : strides n = S) (hl : S.length = l) (hm : l ≤ 64) (w : World) :
    Calls Try.prog 10 #[.int .i64 n] w (RowPostB S l w) := by
  subst h; exact (rstrides_any n w).mono fun _ _ h => h.both hl (by omega)
theorem strides_b {n : Int} {S : List Int} {l : Nat} (h : strides n = S) (hl : S.length = l) (hm : l ≤ 64) (w : World) :
    Calls Try.prog 13 #[.int .i64 n] w (RowPostB S l w) := by
  subst h; exact (strides_any n w).mono fun _ _ h => h.both hl (by omega)
theorem rorder_b {n d : Int} {S : List Int} {l : Nat} (h : order n d = S) (hl : S.length = l) (hm : l ≤ 64) (w : World) :
    Calls Try.prog 11 #[.int .i64 n, .int .i64 d] w (RowPostB S l w) := by
  subst h; exact (rorder_any n d w).mono fun _ _ h => h.both hl (by omega)
theorem order_b {n d : Int} {S : List Int} {l : Nat} (h : order n d = S) (hl : S.length = l) (hm : l ≤ 64) (w : World) :
    Calls Try.prog 14 #[.int .i64 n, .int .i64 d] w (RowPostB S l w) := by
  subst h; exact (order_any n d w).mono fun _ _ h => h.both hl (by omega)
theorem rothers_b {n d : Int} {wo S : List Int} {l m : Nat} (p : Option Addr) (c : Nat) (h : others n d wo = S) (hl : S.length = l) (hm : l ≤ 64) (hw : m = wo.length) (w : World) (hL : Lies .i64 w p wo) :
    Calls Try.prog 12 #[.int .i64 n, .int .i64 d, .slice p m c] w (RowPostB S l w) := by
  subst h; subst hw; exact (rothers_any n d wo p c w hL).mono fun _ _ h => h.both hl (by omega)
theorem others_b {n d : Int} {wo S : List Int} {l m : Nat} (p : Option Addr) (c : Nat) (h : others n d wo = S) (hl : S.length = l) (hm : l ≤ 64) (hw : m = wo.length) (w : World) (hL : Lies .i64 w p wo) :
    Calls Try.prog 15 #[.int .i64 n, .int .i64 d, .slice p m c] w (RowPostB S l w) := by
  subst h; subst hw; exact (others_any n d wo p c w hL).mono fun _ _ h => h.both hl (by omega)
end Go.Proofs.Yteijfgckeipkhaa
