/- The documents' SameBook (layer 6), walked. -/
import Derived.Test.YtnakaifnalojeaaNi
namespace Go.Proofs.Ytnakaifnalojeaa
open Go.RowKit Go.Ce

/-- a memory beside all accesses, in memory -/
structure Pair (w : World) (b g : Nat) (m : PM) (N : Nat) (p : Option Addr) (l c : Nat) (xs : List Acc) : Prop where
  mem : MemIs w b g m
  tie : Tied m N xs
  bk : BookIs w p l c xs
theorem Pair.on {w w' : World} {b g : Nat} {m : PM} {N : Nat} {p : Option Addr} {l c : Nat} {xs : List Acc} (h : Pair w b g m N p l c xs) (hb : Below w.heap.size w w') : Pair w' b g m N p l c xs := ⟨h.mem.on hb, h.tie, h.bk.on hb⟩
/-- accesses of the reference lie apart from a memory -/
theorem BookIs.far {w : World} {b g : Nat} {m : PM} {p : Option Addr} {l c : Nat} {xs : List Acc} (h : BookIs w p l c xs) (hm : MemIs w b g m) : ∀ x o, p = some ⟨x, o, none⟩ → 0 < xs.length → ¬ Own b g x := by
  intro x o e hx hown
  obtain ⟨cur, fr, hc⟩ := h.typ x o e hx
  rcases hown with rfl | rfl
  · obtain ⟨c', hr, _⟩ := hm.blk
    unfold Row at hr
    rw [hr] at hc
    simp at hc
  · obtain ⟨r, hr⟩ := hm.cel
    unfold Row at hr
    rw [hr] at hc
    simp at hc
theorem BookIs.tch {S : Nat → Prop} {w w' : World} {p : Option Addr} {l c : Nat} {xs : List Acc} (h : BookIs w p l c xs) (ht : Tch S w w') (hs : ∀ x o, p = some ⟨x, o, none⟩ → 0 < xs.length → ¬ S x) : BookIs w' p l c xs := by
  refine ⟨h.len, h.lm, h.nl, h.cp, (fun b o e hx => ?_), ⟨fun i hi => ?_⟩⟩
  · obtain ⟨cur, fr, hc⟩ := h.typ b o e hx
    exact ⟨cur, fr, ht.obj hc (hs b o e hx)⟩
  · obtain ⟨b', o', hp, hc⟩ := h.lies.cells i hi
    refine ⟨b', o', hp, fun j hj => ?_⟩
    have h1 := hc j hj
    obtain ⟨v, hv⟩ : ∃ v, (accC (xs.getD i default))[j]? = some v := ⟨_, List.getElem?_eq_getElem (by show j < 4; omega)⟩
    rw [hv] at h1 ⊢
    exact ht.cell h1 (hs _ _ hp (by omega))

theorem b_cells {W w w' : World} {h : Nat} {x y : Value} {t : TypeId} (hr : Row h t [x, y] W) (hb : Below W.heap.size W w) : (w.cell? ⟨h, 0, none⟩ = some x ∧ w.cell? ⟨h, 1, none⟩ = some y) ∧ Below W.heap.size W w :=
  ⟨⟨(hr.on' hb).cell 0, (hr.on' hb).cell 1⟩, hb⟩
theorem b_trans {W w w' : World} {P : Prop} (h : P ∧ Below W.heap.size W w) (hb : Below w.heap.size w w') : Below W.heap.size W w' := h.2.trans (hb.mono h.2.size)
/-- the answers, asked of a world of the class -/
theorem pair_in {W w : World} {P : Prop} {b g : Nat} {m : PM} {N : Nat} {p : Option Addr} {l c : Nat} {xs : List Acc} (h : Pair W b g m N p l c xs) (hs : P ∧ Below W.heap.size W w) : Pair w b g m N p l c xs := h.on hs.2
/-- SameCells of two rows of one's own: in whichever order they were made -/
theorem sc_any {W wa w : World} {P : Prop} {Ba : Nat} {v1 v2 : Value} {zs : List Int} (h1 : wa.ownsRow Ba 34 1 v1 zs.length (zs.map (Value.int .u64))) (f1 : ∃ g c, v1 = .slice (some ⟨g, 0, none⟩) zs.length c) (hb : Below wa.heap.size wa w)
    (h2 : w.ownsRow wa.heap.size 34 1 v2 zs.length (zs.map (Value.int .u64))) (f2 : ∃ g c, v2 = .slice (some ⟨g, 0, none⟩) zs.length c) (hn : zs.length ≤ 65536) (hs : P ∧ Below W.heap.size W w) (hB : W.heap.size ≤ Ba) :
    Calls Try.prog 40 #[v1, v2] w (fun e w' => e = .returned (.bool true) ∧ Below W.heap.size W w') ∧ Calls Try.prog 40 #[v2, v1] w (fun e w' => e = .returned (.bool true) ∧ Below W.heap.size W w') := by
  obtain ⟨g1, c1, rfl⟩ := f1
  obtain ⟨g2, c2, rfl⟩ := f2
  obtain ⟨r1, hr1, _, _, hB1⟩ := own_row h1
  obtain ⟨r2, hr2, _, _, hB2⟩ := own_row h2
  have hr1' := hr1.on' hb
  have hlt1 := hr1.lt
  have l1 : LiesN (· = g2) .u64 w (some ⟨g1, 0, none⟩) zs := ⟨by omega, fun j hj => ⟨g1, 0, rfl, by omega, by rw [Nat.zero_add, hr1'.cell, List.getElem?_append_left (by simpa using hj), List.getElem?_map]; simp [List.getD, hj]⟩⟩
  have l2 : LiesN (· = g1) .u64 w (some ⟨g2, 0, none⟩) zs := ⟨by omega, fun j hj => ⟨g2, 0, rfl, by omega, by rw [Nat.zero_add, hr2.cell, List.getElem?_append_left (by simpa using hj), List.getElem?_map]; simp [List.getD, hj]⟩⟩
  have hWw := hs.2.size
  have hwa : W.heap.size ≤ wa.heap.size ∨ True := .inr trivial
  refine ⟨(samecells_any w hr1' l2 hn).mono fun e w' ⟨he, ht⟩ => ⟨he, hs.2.trans (ht.below hWw (fun k hk => by omega))⟩, (samecells_any w hr2 l1 hn).mono fun e w' ⟨he, ht⟩ => ⟨he, hs.2.trans (ht.below hWw (fun k hk => by omega))⟩⟩
/-- SameLog of a log of one's own -/
theorem sl_any {W w : World} {P : Prop} {B c2 : Nat} {v : Value} {p : Option Addr} {xs : List Acc} (h : w.ownsRow B 38 4 v xs.length (xs.flatMap accC)) (hl : LiesA w p xs) (hf : ∀ b o, p = some ⟨b, o, none⟩ → 0 < xs.length → b < W.heap.size) (hn : xs.length ≤ 1000000) (hs : P ∧ Below W.heap.size W w) (hB : W.heap.size ≤ B) :
    Calls Try.prog 42 #[v, .slice p xs.length c2] w (fun e w' => e = .returned (.bool true) ∧ Below W.heap.size W w') := by
  by_cases hx : xs.length = 0
  · obtain ⟨q, cq, rfl⟩ := own4_form h
    rw [hx]
    exact (samelog_nil q p cq c2 w).mono fun e w' ⟨he, hb⟩ => ⟨he, hs.2.trans (hb.mono hs.2.size)⟩
  · rcases h.2 with ⟨hv, hz⟩ | ⟨g, cap, cur, hv, hBg, hg, hc, hc2, hsz, ht⟩
    · omega
    · subst hv
      have hr : Row g 38 (xs.flatMap accC ++ cur.toList.drop (xs.length * 4)) w := by
        unfold Row; rw [hg, ← ht, List.take_append_drop]
      refine (samelog_any w hr hl (fun b o e => ?_) hn).mono fun e w' ⟨he, htt⟩ => ⟨he, hs.2.trans (htt.below hs.2.size (fun k hk => by omega))⟩
      have := hf b o e (by omega)
      omega
end Go.Proofs.Ytnakaifnalojeaa
