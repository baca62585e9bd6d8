/- The closed law's state (layer 8): three rows that grow side by side. -/
import Derived.Test.YtjdbmedealhbjaaKa
set_option linter.unusedSimpArgs false
set_option linter.unusedVariables false
namespace Go.Proofs.Ytjdbmedealhbjaa
open Go.RowKit Go.Wd Go.Dk

/-- rows that lie apart -/
def Apart (v u : Value) : Prop := ∀ b, v.ownBlock = some b → u.ownBlock ≠ some b
/-- an act whose numbers lie in a block apart from vA, vM; where it is vR's, below N -/
def Sub (w : World) (vR vA vM : Value) (N : Nat) (y : ActV) : Prop :=
  ∃ b o c, y.v = .slice (some ⟨b, o, none⟩) y.l.length c ∧ y.l.length ≤ c ∧ c ≤ maxLen ∧ y.l.length ≤ 1000 ∧ b < w.heap.size ∧ vA.ownBlock ≠ some b ∧ vM.ownBlock ≠ some b ∧ (vR.ownBlock = some b → o + y.l.length ≤ N) ∧ ∀ j, j < y.l.length → w.cell? ⟨b, o + j, none⟩ = some (.int .i64 (y.l.getD j 0))
structure KSt (W : World) (xs : List Int) (ys : List ActV) (zs : List Int) (vR vA vM : Value) (w : World) : Prop where
  r : NewRow W.heap.size w vR xs
  a : w.ownsRow W.heap.size 38 3 vA ys.length (ys.flatMap actC)
  m : NewRow W.heap.size w vM zs
  ra : Apart vR vA
  rm : Apart vR vM
  am : Apart vA vM
  sub : ∀ y ∈ ys, Sub w vR vA vM xs.length y
  bel : Below W.heap.size W w
theorem KSt.nil (W w : World) (h : Below W.heap.size W w) : KSt W [] [] [] (.slice none 0 0) (.slice none 0 0) (.slice none 0 0) w :=
  ⟨NewRow.nil _ _, World.ownsRow_nil _ _ _ _, NewRow.nil _ _, (fun b e => by cases e), (fun b e => by cases e), (fun b e => by cases e), (fun x hx => by cases hx), h⟩
section
variable {W w w' : World} {xs : List Int} {ys : List ActV} {zs : List Int} {vR vA vM : Value}
theorem KSt.on (h : KSt W xs ys zs vR vA vM w) (hb : Below w.heap.size w w') : KSt W xs ys zs vR vA vM w' := by
  have ht : Tch (fun _ => False) w w' := .of _ hb
  refine ⟨h.r.on hb, own_tchs h.a ht (fun _ _ e => e), h.m.on hb, h.ra, h.rm, h.am, fun y hy => ?_, h.bel.trans (hb.mono h.bel.size)⟩
  obtain ⟨b, o, c, h1, h2, h3, h4, h5, h6, h7, h8, h9⟩ := h.sub y hy
  exact ⟨b, o, c, h1, h2, h3, h4, Nat.lt_of_lt_of_le h5 hb.size, h6, h7, h8, fun j hj => ht.cell (h9 j hj) (fun e => e)⟩
/-- the rows' places, one of them grown -/
theorem grown_apart {v u : Value} {g n cap : Nat} (ha : Apart v u) (hu : ∀ k, u.ownBlock = some k → k < w.heap.size) (hat : v.ownBlock = some g ∨ g = w.heap.size) : Apart (.slice (some ⟨g, 0, none⟩) n cap) u := fun b e => by
  cases e
  rcases hat with e | e
  · exact ha g e
  · intro e2; have := hu g e2; omega
theorem apart_comm {v u : Value} (h : Apart v u) : Apart u v := fun b e e2 => h b e2 e
theorem grown_ne {v : Value} {b g n cap : Nat} (hb : b < w.heap.size) (h : v.ownBlock ≠ some b) (hat : v.ownBlock = some g ∨ g = w.heap.size) : (Value.slice (some ⟨g, 0, none⟩) n cap).ownBlock ≠ some b := fun e => by
  cases e
  rcases hat with e | e
  · exact h e
  · have h1' : g < w.heap.size := hb
    omega
theorem KSt.pushR (h : KSt W xs ys zs vR vA vM w) (z : Int) (g cap : Nat)
    (hown : w'.ownsRow W.heap.size 3 1 (.slice (some ⟨g, 0, none⟩) (xs.length + 1) cap) (xs.length + 1) (xs.map (Value.int .i64) ++ [.int .i64 z])) (hg : w.grownBy w' vR.ownBlock) (hat : vR.ownBlock = some g ∨ g = w.heap.size)
    (hk : ∀ b j, vR.ownBlock = some b → j < xs.length → w'.cell? ⟨b, j, none⟩ = w.cell? ⟨b, j, none⟩) : KSt W (xs ++ [z]) ys zs (.slice (some ⟨g, 0, none⟩) (xs.length + 1) cap) vA vM w' := by
  have ht := Tch.grown hg
  refine ⟨?_, own_tchs h.a ht (fun b' e e2 => h.ra b' e2 e), NewRow.tch h.m ht (fun b' e e2 => h.rm b' e2 e), grown_apart h.ra (fun k e => (own_lt h.a k e).2) hat, grown_apart h.rm (fun k e => (h.m.lt k e).2) hat, h.am, fun y hy => ?_, h.bel.trans (ht.below h.bel.size (fun k e => (h.r.lt k e).1))⟩
  · unfold NewRow
    rw [List.length_append, List.map_append]; exact hown
  · obtain ⟨b, o, c, h1, h2, h3, h4, h5, h6, h7, h8, h9⟩ := h.sub y hy
    refine ⟨b, o, c, h1, h2, h3, h4, Nat.lt_of_lt_of_le h5 ht.size, h6, h7, fun e => ?_, fun j hj => ?_⟩
    · rw [List.length_append]
      obtain rfl : g = b := by simpa [Value.ownBlock] using e
      rcases hat with e | e
      · have := h8 e; omega
      · omega
    · by_cases hb : vR.ownBlock = some b
      · have := h8 hb
        rw [hk b (o + j) hb (by omega)]; exact h9 j hj
      · exact ht.cell (h9 j hj) hb
theorem KSt.pushA (h : KSt W xs ys zs vR vA vM w) (y : ActV) (g cap : Nat) (hy : Sub w vR vA vM xs.length y)
    (hown : w'.ownsRow W.heap.size 38 3 (.slice (some ⟨g, 0, none⟩) (ys.length + 1) cap) (ys.length + 1) (ys.flatMap actC ++ actC y)) (hg : w.grownBy w' vA.ownBlock) (hat : vA.ownBlock = some g ∨ g = w.heap.size) :
    KSt W xs (ys ++ [y]) zs vR (.slice (some ⟨g, 0, none⟩) (ys.length + 1) cap) vM w' := by
  have ht := Tch.grown hg
  refine ⟨NewRow.tch h.r ht (fun b' e e2 => h.ra b' e e2), ?_, NewRow.tch h.m ht (fun b' e e2 => h.am b' e2 e), apart_comm (grown_apart (apart_comm h.ra) (fun k e => (h.r.lt k e).2) hat), h.rm, grown_apart h.am (fun k e => (h.m.lt k e).2) hat, fun x hx => ?_, h.bel.trans (ht.below h.bel.size (fun k e => (own_lt h.a k e).1))⟩
  · rw [List.length_append, List.flatMap_append]
    simpa using hown
  · have hs : Sub w vR vA vM xs.length x := by
      rcases List.mem_append.1 hx with hx | hx
      · exact h.sub x hx
      · obtain rfl : x = y := by simpa using hx
        exact hy
    obtain ⟨b, o, c, h1, h2, h3, h4, h5, h6, h7, h8, h9⟩ := hs
    exact ⟨b, o, c, h1, h2, h3, h4, Nat.lt_of_lt_of_le h5 ht.size, grown_ne h5 h6 hat, h7, h8, fun j hj => ht.cell (h9 j hj) h6⟩
theorem KSt.pushM (h : KSt W xs ys zs vR vA vM w) (z : Int) (g cap : Nat)
    (hown : w'.ownsRow W.heap.size 3 1 (.slice (some ⟨g, 0, none⟩) (zs.length + 1) cap) (zs.length + 1) (zs.map (Value.int .i64) ++ [.int .i64 z])) (hg : w.grownBy w' vM.ownBlock) (hat : vM.ownBlock = some g ∨ g = w.heap.size) :
    KSt W xs ys (zs ++ [z]) vR vA (.slice (some ⟨g, 0, none⟩) (zs.length + 1) cap) w' := by
  have ht := Tch.grown hg
  refine ⟨NewRow.tch h.r ht (fun b' e e2 => h.rm b' e e2), own_tchs h.a ht (fun b' e e2 => h.am b' e e2), ?_, h.ra, apart_comm (grown_apart (apart_comm h.rm) (fun k e => (h.r.lt k e).2) hat), apart_comm (grown_apart (apart_comm h.am) (fun k e => (own_lt h.a k e).2) hat), fun x hx => ?_, h.bel.trans (ht.below h.bel.size (fun k e => (h.m.lt k e).1))⟩
  · unfold NewRow
    rw [List.length_append, List.map_append]; exact hown
  · obtain ⟨b, o, c, h1, h2, h3, h4, h5, h6, h7, h8, h9⟩ := h.sub x hx
    exact ⟨b, o, c, h1, h2, h3, h4, Nat.lt_of_lt_of_le h5 ht.size, h6, grown_ne h5 h7 hat, h8, fun j hj => ht.cell (h9 j hj) h7⟩
/-- a tail of the row, as an act bears it -/
theorem KSt.tail {g n cap : Nat} (h : KSt W xs ys zs (.slice (some ⟨g, 0, none⟩) n cap) vA vM w) (hn : n = xs.length) (d z : Int) (lo m : Nat) (hlo : lo + m = n) (hl : n ≤ 1000) : Sub w (.slice (some ⟨g, 0, none⟩) n cap) vA vM xs.length ⟨d, z, .slice (some ⟨g, lo, none⟩) m (cap - lo), xs.drop lo⟩ := by
  subst hn
  obtain ⟨hcap, hcap2⟩ : xs.length ≤ cap ∧ cap ≤ maxLen := by
    rcases h.r.2 with ⟨hv, _⟩ | ⟨g0, cap0, cur, hv, hB, hg, hc, hc2, _⟩
    · cases hv
    · cases hv; exact ⟨hc, hc2⟩
  have e : (xs.drop lo).length = m := by rw [List.length_drop]; omega
  have hlt := (h.r.lt g rfl).2
  refine ⟨g, lo, cap - lo, by rw [e], by rw [e]; omega, by omega, by rw [e]; omega, hlt, fun e2 => h.ra g rfl e2, fun e2 => h.rm g rfl e2, fun _ => by rw [e]; omega, fun j hj => ?_⟩
  show w.cell? ⟨g, lo + j, none⟩ = some (.int .i64 ((xs.drop lo).getD j 0))
  have hj2 : j < (xs.drop lo).length := hj
  have h1 : w.cell? ⟨g, lo + j, none⟩ = (xs.map (Value.int .i64))[lo + j]? := World.ownsRow.cellAt h.r (lo + j) (by omega)
  rw [h1, List.getElem?_map]
  simp [List.getD, List.getElem?_drop, show lo + j < xs.length by omega]
theorem KSt.capR {g n cap : Nat} (h : KSt W xs ys zs (.slice (some ⟨g, 0, none⟩) n cap) vA vM w) : xs.length ≤ cap := by
  rcases h.r.2 with ⟨hv, _⟩ | ⟨g0, cap0, cur, hv, hB, hg, hc, hc2, _⟩
  · cases hv
  · cases hv; exact hc
/-- the acts, as the law is handed them -/
theorem KSt.acts (h : KSt W xs ys zs vR vA vM w) (hx : ys.length ≤ 1000) : ∃ p n c, vA = .slice p n c ∧ n = ys.length ∧ ActsIs w p ys := by
  rcases Joins.ownsRow_forms h.a with ⟨hv, hz⟩ | ⟨g, cap, hv⟩
  · exact ⟨none, 0, 0, hv, hz.symm, by omega, fun i hi => by omega⟩
  · have hA := h.a
    rw [hv] at hA
    refine ⟨_, _, cap, hv, rfl, by omega, fun i hi => ⟨g, 0, rfl, ?_⟩⟩
    have hm : ys.getD i default ∈ ys := by simp [List.getD, hi]
    obtain ⟨b, o, c, h1, h2, h3, h4, h5, h6, h7, h8, h9⟩ := h.sub _ hm
    have at_ (j : Nat) (hj : j < 3) : w.cell? ⟨g, 0 + i * 3 + j, none⟩ = (actC (ys.getD i default))[j]? := by
      rw [Nat.zero_add, hA.cellAt (i * 3 + j) (by omega), acts_at ys i j hi hj]
    refine ⟨(own_lt hA g rfl).2, at_ 0 (by decide), at_ 1 (by decide), at_ 2 (by decide), ?_⟩
    exact SlIs.ins ⟨_, c, h1, h2, h3, (fun e => by cases e), ⟨by omega, fun j hj => ⟨b, o, rfl, fun e => e, h9 j hj⟩⟩⟩
end
theorem act_one (x : ActV) {p : Option Addr} {n c : Nat} (h : x.v = .slice p n c) : ∀ u ∈ actC x, u.oneCell' = true := by
  intro u hu
  simp [actC] at hu
  rcases hu with rfl | rfl | rfl
  · rfl
  · rfl
  · rw [h]; rfl
theorem act_new (x : ActV) (w : World) (T : TypeId) : ∀ j u, (actC x)[j]? = some u → (w.alloc (.cells #[.int .i64 x.d, .int .i64 x.g, x.v] T)).cell? ((⟨w.heap.size, 0, none⟩ : Addr).add j) = some u := by
  intro j u hu
  rw [Addr.add_mid, World.cell?_alloc_new, Nat.zero_add]
  simpa [actC] using hu
theorem one_new (z : Int) (w : World) (T : TypeId) : ∀ j u, [Value.int .i64 z][j]? = some u → (w.alloc (.cells #[.int .i64 z] T)).cell? ((⟨w.heap.size, 0, none⟩ : Addr).add j) = some u := by
  intro j u hu
  rw [Addr.add_mid, World.cell?_alloc_new, Nat.zero_add]
  simpa using hu
end Go.Proofs.Ytjdbmedealhbjaa
