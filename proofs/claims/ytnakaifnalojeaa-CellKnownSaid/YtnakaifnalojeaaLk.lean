/- The law's count (layer 6), walked. -/
import Derived.Test.YtnakaifnalojeaaMt
import Derived.Test.YtnakaifnalojeaaLd
import Derived.Deep.DeepCutAuto
import Derived.Deep.Cut
import Derived.Lib.QuietBelow
import Derived.BigQuiet
set_option linter.unusedSimpArgs false
set_option linter.unusedVariables false
namespace Go.Proofs.Ytnakaifnalojeaa
open Go.RowKit Go.Ce

theorem runX_kinds (N : Int) (l : List Acc) : ∀ e ∈ runX N [] l, e.k ≠ 0 := by
  obtain ⟨zs, h1, h2⟩ := calls_good (N := N) l []
  have : runX N [] l = zs := by unfold runX; rw [h1]; simp
  rw [this]; exact took_kinds zs _ h2
/-- a book's row doesn't lie in a box of one access that is nothing -/
theorem book_ne {w : World} {p : Option Addr} {l c eb : Nat} {ys : List Acc} (h : BookIs w p l c ys) (he : Row eb 43 [.int .i64 0, .int .i64 0, .int .u64 0, .int .u64 0] w) (hk : ∀ e ∈ ys, e.k ≠ 0) : ∀ b o, p = some ⟨b, o, none⟩ → ys ≠ [] → b ≠ eb := by
  intro b o e hy hb
  subst hb e
  obtain ⟨b', o', e', hc⟩ := h.lies.cells 0 (List.length_pos_iff.2 hy)
  cases e'
  have h3 := hc 3 (by decide)
  have h0 := hc 0 (by decide)
  rw [he.cell] at h3 h0
  have ho : o = 0 := by
    rcases Nat.eq_zero_or_pos o with h | h
    · exact h
    · rw [List.getElem?_eq_none (by simp; omega)] at h3; cases h3
  subst ho
  have hz : (ys.getD 0 default).k = 0 := by
    simp [accC] at h0
    simpa using h0.symm
  have hmem : ys.getD 0 default ∈ ys := by
    cases ys with
    | nil => exact absurd rfl hy
    | cons y r => simp
  exact hk _ hmem hz
theorem BookIs.putE {w : World} {g j : Nat} {p : Option Addr} {l c : Nat} {xs : List Acc} (h : BookIs w p l c xs) (hne : ∀ b o, p = some ⟨b, o, none⟩ → xs ≠ [] → b ≠ g) (v : Value) : BookIs (w.setCell ⟨g, j, none⟩ v) p l c xs := ⟨h.len, h.lm, h.nl, h.cp, (fun b o e hx => by
  obtain ⟨cur, fr, hb⟩ := h.typ b o e hx
  have hbg := hne b o e (List.length_pos_iff.1 hx)
  exact ⟨cur, fr, by rw [Below.heap_setCell w ⟨g, j, none⟩ v b hbg]; exact hb⟩), by
    by_cases hx : xs = []
    · subst hx; exact .nil _ _
    · obtain ⟨b, o, hp, -⟩ := h.lies.cells 0 (List.length_pos_iff.2 hx)
      subst hp
      exact h.lies.set (q := ⟨g, j, none⟩) (fun e => hne b o rfl hx e.symm) v⟩
/-- count's variables: the answer's box, the reference's row, the counts so far -/
structure Ct (w0 W : World) (zb br cb : Nat) (m : PM) (N : Nat) (p : Option Addr) (l c : Nat) : Prop where
  z : Row zb 46 [.int .u64 0, .int .u64 0, .int .u64 0, .int .u64 0, .int .u64 0] W
  r : Row br 29 [.int .i64 N, .slice p l c] W
  c : Row cb 46 [.int .u64 m.k.l, .int .u64 m.k.s, .int .u64 m.k.w, .int .u64 m.k.f, .int .u64 m.k.a] W
  bel : Below w0.heap.size w0 W
  ge : w0.heap.size ≤ zb ∧ w0.heap.size ≤ br ∧ w0.heap.size ≤ cb
  ne : zb ≠ br ∧ zb ≠ cb ∧ br ≠ cb
theorem Ct.on {w0 W W' : World} {zb br cb : Nat} {m : PM} {N : Nat} {p : Option Addr} {l c : Nat} (h : Ct w0 W zb br cb m N p l c) (hb : Below W.heap.size W W') : Ct w0 W' zb br cb m N p l c :=
  ⟨h.z.on' hb, h.r.on' hb, h.c.on' hb, h.bel.trans (hb.mono h.bel.size), h.ge, h.ne⟩
/-- behind Do: a new row, the access -/
structure Cd (w0 W : World) (zb br cb tb eb : Nat) (m : PM) (N : Nat) (p q : Option Addr) (l c l2 c2 : Nat) (E : Acc) (ys : List Acc) : Prop where
  ct : Ct w0 W zb br cb m N p l c
  s : Row tb 29 [.int .i64 N, .slice q l2 c2] W
  e : Row eb 43 (accC E) W
  bk : BookIs W q l2 c2 ys
  far : eb ≠ br ∧ eb ≠ cb ∧ tb ≠ br

/-- behind Do alone: the row, and count's variables below s -/
structure Cb (w0 W : World) (zb br cb s : Nat) (m : PM) (N : Nat) (p q : Option Addr) (l c l2 c2 : Nat) (ys : List Acc) : Prop where
  ct : Ct w0 W zb br cb m N p l c
  bk : BookIs W q l2 c2 ys
  lt : zb < s ∧ br < s ∧ cb < s
section
variable {w0 W : World} {zb br cb s : Nat} {m : PM} {N : Nat} {p q : Option Addr} {l c l2 c2 : Nat} {ys : List Acc} {E : Acc} {u v y z : Value}
theorem Cb.alloc (h : Cb w0 W zb br cb s m N p q l c l2 c2 ys) (o : Obj) : Cb w0 (W.alloc o) zb br cb s m N p q l c l2 c2 ys := by
  have b1 := (Below.refl W.heap.size W).alloc (Nat.le_refl _) o
  exact ⟨h.ct.on b1, h.bk.on b1, h.lt⟩
theorem Cb.set (h : Cb w0 W zb br cb s m N p q l c l2 c2 ys) (j a : Nat) (hj : s ≤ j) (hq : ∀ b o, q = some ⟨b, o, none⟩ → ys ≠ [] → b ≠ j) (v : Value) : Cb w0 (W.setCell ⟨j, a, none⟩ v) zb br cb s m N p q l c l2 c2 ys := by
  have := h.lt
  have := h.ct.ge
  exact ⟨⟨h.ct.z.far (by show zb ≠ j; omega) v, h.ct.r.far (by show br ≠ j; omega) v, h.ct.c.far (by show cb ≠ j; omega) v, h.ct.bel.setCell (p := ⟨j, a, none⟩) (by show _ ≤ j; omega) v, h.ct.ge, h.ct.ne⟩, h.bk.putE hq v, h.lt⟩
theorem Cb.set2 (h : Cb w0 W zb br cb s m N p q l c l2 c2 ys) (j : Nat) (hj : s ≤ j) (hq : ∀ b o, q = some ⟨b, o, none⟩ → ys ≠ [] → b ≠ j) : Cb w0 ((W.setCell ⟨j, 0, none⟩ (.int .i64 N)).setCell ⟨j, 1, none⟩ (.slice q l2 c2)) zb br cb s m N p q l c l2 c2 ys := (h.set j 0 hj hq _).set j 1 hj hq _
theorem Cb.set4 (h : Cb w0 W zb br cb s m N p q l c l2 c2 ys) (j : Nat) (hj : s ≤ j) (hq : ∀ b o, q = some ⟨b, o, none⟩ → ys ≠ [] → b ≠ j) : Cb w0 ((((W.setCell ⟨j, 0, none⟩ (.int .i64 E.k)).setCell ⟨j, 1, none⟩ (.int .i64 E.a)).setCell ⟨j, 2, none⟩ (.int .u64 E.o)).setCell ⟨j, 3, none⟩ (.int .u64 E.n)) zb br cb s m N p q l c l2 c2 ys := (((h.set j 0 hj hq _).set j 1 hj hq _).set j 2 hj hq _).set j 3 hj hq _
theorem Cb.done (h : Cb w0 W zb br cb s m N p q l c l2 c2 ys) {t8 t9 : Nat} (h8 : Row t8 29 [.int .i64 N, .slice q l2 c2] W) (h9 : Row t9 43 (accC E) W) (g8 : s ≤ t8) (g9 : s ≤ t9) : Cd w0 W zb br cb t8 t9 m N p q l c l2 c2 E ys := by
  have := h.lt
  exact ⟨h.ct, h8, h9, h.bk, by omega⟩
/-- a row doesn't lie in a fresh box of a book -/
theorem book_ne8 {t8 : Nat} (h : BookIs W q l2 c2 ys) (hr : Row t8 29 [u, v] W) : ∀ b o, q = some ⟨b, o, none⟩ → ys ≠ [] → b ≠ t8 := by
  intro b o e hy
  subst e
  exact h.lies.ne hy hr (by simp)
/-- a row that lay below doesn't lie in a box made later -/
theorem book_lt (h : BookIs W q l2 c2 ys) : ∀ b o, q = some ⟨b, o, none⟩ → ys ≠ [] → b < W.heap.size := by
  intro b o e hy
  obtain ⟨cur, fr, hb⟩ := h.typ b o e (List.length_pos_iff.2 hy)
  exact lt_of_block hb
theorem Row.put4 {g : Nat} {t : TypeId} {a b c d : Value} (h : Row g t [a, b, c, d] W) (u v y z : Value) : Row g t [u, v, y, z] ((((W.setCell ⟨g, 0, none⟩ u).setCell ⟨g, 1, none⟩ v).setCell ⟨g, 2, none⟩ y).setCell ⟨g, 3, none⟩ z) := (((h.set 0 u).set 1 v).set 2 y).set 3 z
theorem cd_aa (h : Cb w0 W zb br cb s m N p q l c l2 c2 ys) (hs : s ≤ W.heap.size) : Cd w0 ((W.alloc (.cells #[.int .i64 N, .slice q l2 c2] 29)).alloc (.cells #[.int .i64 E.k, .int .i64 E.a, .int .u64 E.o, .int .u64 E.n] 43)) zb br cb W.heap.size (W.heap.size + 1) m N p q l c l2 c2 E ys :=
  ((h.alloc _).alloc _).done ((Row.new W _ [.int .i64 N, .slice q l2 c2]).on' ((Below.refl _ _).alloc (Nat.le_refl _) _)) (Row.new' (W.alloc (.cells #[.int .i64 N, .slice q l2 c2] 29)) _ (accC E) _ (by simp)) hs (by omega)
theorem cd_bb (h : Cb w0 W zb br cb s m N p q l c l2 c2 ys) (hs : s ≤ W.heap.size) : Cd w0 ((W.alloc (.cells #[.int .i64 E.k, .int .i64 E.a, .int .u64 E.o, .int .u64 E.n] 43)).alloc (.cells #[.int .i64 N, .slice q l2 c2] 29)) zb br cb (W.heap.size + 1) W.heap.size m N p q l c l2 c2 E ys :=
  ((h.alloc _).alloc _).done (Row.new' (W.alloc (.cells #[.int .i64 E.k, .int .i64 E.a, .int .u64 E.o, .int .u64 E.n] 43)) _ [.int .i64 N, .slice q l2 c2] _ (by simp)) ((Row.new W _ (accC E)).on' ((Below.refl _ _).alloc (Nat.le_refl _) _)) (by omega) hs
theorem cd_8a (h : Cb w0 W zb br cb s m N p q l c l2 c2 ys) {t8 : Nat} (hr : Row t8 29 [u, v] W) (hs : s ≤ t8) : Cd w0 (((((((W.alloc (.cells #[.int .i64 0, .int .i64 0, .int .u64 0, .int .u64 0] 43)).setCell ⟨t8, 0, none⟩ (.int .i64 N)).setCell ⟨t8, 1, none⟩ (.slice q l2 c2)).setCell ⟨W.heap.size, 0, none⟩ (.int .i64 E.k)).setCell ⟨W.heap.size, 1, none⟩ (.int .i64 E.a)).setCell ⟨W.heap.size, 2, none⟩ (.int .u64 E.o)).setCell ⟨W.heap.size, 3, none⟩ (.int .u64 E.n)) zb br cb t8 W.heap.size m N p q l c l2 c2 E ys := by
  have hlt := hr.lt
  have h1 := h.alloc (.cells #[.int .i64 0, .int .i64 0, .int .u64 0, .int .u64 0] 43)
  have hr1 := hr.on' ((Below.refl _ _).alloc (Nat.le_refl W.heap.size) (.cells #[.int .i64 0, .int .i64 0, .int .u64 0, .int .u64 0] 43))
  have hn := Row.new W 43 [.int .i64 0, .int .i64 0, .int .u64 0, .int .u64 0]
  have hq : ∀ b o, q = some ⟨b, o, none⟩ → ys ≠ [] → b ≠ W.heap.size := fun b o e hy => Nat.ne_of_lt (book_lt h.bk b o e hy)
  refine ((h1.set2 t8 hs (book_ne8 h1.bk hr1)).set4 W.heap.size (by omega) hq).done ?_ ?_ hs (by omega)
  · have := hr1.put2 (.int .i64 N) (.slice q l2 c2)
    have hne : t8 ≠ W.heap.size := by omega
    exact (((this.far (p := ⟨W.heap.size, 0, none⟩) hne _).far (p := ⟨W.heap.size, 1, none⟩) hne _).far (p := ⟨W.heap.size, 2, none⟩) hne _).far (p := ⟨W.heap.size, 3, none⟩) hne _
  · have hne : W.heap.size ≠ t8 := by omega
    exact Row.put4 ((hn.far (p := ⟨t8, 0, none⟩) hne _).far (p := ⟨t8, 1, none⟩) hne _) _ _ _ _
theorem cd_9a (h : Cb w0 W zb br cb s m N p q l c l2 c2 ys) {t9 : Nat} (hr : Row t9 43 [.int .i64 0, .int .i64 0, .int .u64 0, .int .u64 0] W) (hs : s ≤ t9) (hk : ∀ e ∈ ys, e.k ≠ 0) : Cd w0 (((((W.alloc (.cells #[.int .i64 N, .slice q l2 c2] 29)).setCell ⟨t9, 0, none⟩ (.int .i64 E.k)).setCell ⟨t9, 1, none⟩ (.int .i64 E.a)).setCell ⟨t9, 2, none⟩ (.int .u64 E.o)).setCell ⟨t9, 3, none⟩ (.int .u64 E.n)) zb br cb W.heap.size t9 m N p q l c l2 c2 E ys := by
  have hlt := hr.lt
  have h1 := h.alloc (.cells #[.int .i64 N, .slice q l2 c2] 29)
  have hr1 := hr.on' ((Below.refl _ _).alloc (Nat.le_refl W.heap.size) (.cells #[.int .i64 N, .slice q l2 c2] 29))
  have hn := Row.new W 29 [.int .i64 N, .slice q l2 c2]
  refine (h1.set4 t9 hs (book_ne h1.bk hr1 hk)).done ?_ (Row.put4 hr1 _ _ _ _) (by omega) hs
  have hne : W.heap.size ≠ t9 := by omega
  exact (((hn.far (p := ⟨t9, 0, none⟩) hne _).far (p := ⟨t9, 1, none⟩) hne _).far (p := ⟨t9, 2, none⟩) hne _).far (p := ⟨t9, 3, none⟩) hne _
theorem cd_89 (h : Cb w0 W zb br cb s m N p q l c l2 c2 ys) {t8 t9 : Nat} (hr : Row t8 29 [u, v] W) (hr9 : Row t9 43 [.int .i64 0, .int .i64 0, .int .u64 0, .int .u64 0] W) (hs : s ≤ t8) (hs9 : s ≤ t9) (hne : t8 ≠ t9) (hk : ∀ e ∈ ys, e.k ≠ 0) : Cd w0 ((((((W.setCell ⟨t8, 0, none⟩ (.int .i64 N)).setCell ⟨t8, 1, none⟩ (.slice q l2 c2)).setCell ⟨t9, 0, none⟩ (.int .i64 E.k)).setCell ⟨t9, 1, none⟩ (.int .i64 E.a)).setCell ⟨t9, 2, none⟩ (.int .u64 E.o)).setCell ⟨t9, 3, none⟩ (.int .u64 E.n)) zb br cb t8 t9 m N p q l c l2 c2 E ys := by
  have hr2 := (hr9.far (p := ⟨t8, 0, none⟩) (by show t9 ≠ t8; omega) (.int .i64 N)).far (p := ⟨t8, 1, none⟩) (by show t9 ≠ t8; omega) (.slice q l2 c2)
  refine ((h.set2 t8 hs (book_ne8 h.bk hr)).set4 t9 hs9 (book_ne h.bk hr9 hk)).done ?_ (Row.put4 hr2 _ _ _ _) hs hs9
  have := hr.put2 (.int .i64 N) (.slice q l2 c2)
  exact (((this.far (p := ⟨t9, 0, none⟩) hne _).far (p := ⟨t9, 1, none⟩) hne _).far (p := ⟨t9, 2, none⟩) hne _).far (p := ⟨t9, 3, none⟩) hne _
end

/-- behind the store: the reference's row is the new one -/
structure Cx (w0 W : World) (zb br cb eb : Nat) (m : PM) (N : Nat) (q : Option Addr) (l2 c2 : Nat) (E : Acc) (ys : List Acc) : Prop where
  ct : Ct w0 W zb br cb m N q l2 c2
  e : Row eb 43 (accC E) W
  bk : BookIs W q l2 c2 ys
theorem Cx.on {w0 W W' : World} {zb br cb eb : Nat} {m : PM} {N : Nat} {q : Option Addr} {l2 c2 : Nat} {E : Acc} {ys : List Acc} (h : Cx w0 W zb br cb eb m N q l2 c2 E ys) (hb : Below W.heap.size W W') : Cx w0 W' zb br cb eb m N q l2 c2 E ys :=
  ⟨h.ct.on hb, h.e.on' hb, h.bk.on hb⟩
theorem Cd.put {w0 W : World} {zb br cb tb eb : Nat} {m : PM} {N : Nat} {p q : Option Addr} {l c l2 c2 : Nat} {E : Acc} {ys : List Acc} (h : Cd w0 W zb br cb tb eb m N p q l c l2 c2 E ys) : Cx w0 ((W.setCell ⟨br, 0, none⟩ (.int .i64 N)).setCell ⟨br, 1, none⟩ (.slice q l2 c2)) zb br cb eb m N q l2 c2 E ys := by
  have hn := h.ct.ne
  have hg := h.ct.ge
  have hz : zb ≠ br := hn.1
  have hc : cb ≠ br := fun e => hn.2.2 e.symm
  have he : eb ≠ br := h.far.1
  refine ⟨⟨(h.ct.z.far (p := ⟨br, 0, none⟩) hz _).far (p := ⟨br, 1, none⟩) hz _, h.ct.r.put2 _ _, (h.ct.c.far (p := ⟨br, 0, none⟩) hc _).far (p := ⟨br, 1, none⟩) hc _, (h.ct.bel.setCell (p := ⟨br, 0, none⟩) hg.2.1 _).setCell (p := ⟨br, 1, none⟩) hg.2.1 _, hg, hn⟩, (h.e.far (p := ⟨br, 0, none⟩) he _).far (p := ⟨br, 1, none⟩) he _, (h.bk.put h.ct.r (by simp) _).put (h.ct.r.set 0 _) (by simp) _⟩
theorem Cx.count {w0 W : World} {zb br cb eb : Nat} {m : PM} {N : Nat} {q : Option Addr} {l2 c2 : Nat} {E : Acc} {ys : List Acc} (h : Cx w0 W zb br cb eb m N q l2 c2 E ys) (m' : PM) (j : Nat) (v : Value) (hv : [Value.int .u64 m'.k.l, .int .u64 m'.k.s, .int .u64 m'.k.w, .int .u64 m'.k.f, .int .u64 m'.k.a] = [Value.int .u64 m.k.l, .int .u64 m.k.s, .int .u64 m.k.w, .int .u64 m.k.f, .int .u64 m.k.a].set j v) :
    Ct w0 (W.setCell ⟨cb, j, none⟩ v) zb br cb m' N q l2 c2 ∧ BookIs (W.setCell ⟨cb, j, none⟩ v) q l2 c2 ys := by
  have hn := h.ct.ne
  have hg := h.ct.ge
  have hc := h.ct.c.set j v
  rw [← hv] at hc
  refine ⟨⟨h.ct.z.far (p := ⟨cb, j, none⟩) hn.2.1 _, h.ct.r.far (p := ⟨cb, j, none⟩) hn.2.2 _, hc, h.ct.bel.setCell (p := ⟨cb, j, none⟩) hg.2.2 _, hg, hn⟩, h.bk.putE ?_ v⟩
  intro b o e hy hb
  obtain ⟨cur, fr, hbk⟩ := h.bk.typ b o e (List.length_pos_iff.2 hy)
  have hr := h.ct.c
  unfold Row at hr
  rw [hb, hr] at hbk
  simp at hbk
theorem Ct.same {w0 W : World} {zb br cb : Nat} {m m' : PM} {N : Nat} {p : Option Addr} {l c : Nat} (h : Ct w0 W zb br cb m N p l c) (hm : m' = m) : Ct w0 W zb br cb m' N p l c := by rw [hm]; exact h
theorem cnt_le {m : PM} {n : Nat} (h : m.k.ops ≤ n) : m.k.l ≤ n ∧ m.k.s ≤ n ∧ m.k.w ≤ n ∧ m.k.f ≤ n ∧ m.k.a ≤ n := by unfold Cnt.ops at h; omega

set_option maxRecDepth 20000 in
set_option maxHeartbeats 8000000 in
theorem lcount_any (n : Int) (N : Nat) (hN : nN n = N) (pa : Option Addr) (ca : Nat) (l0 : List Acc) (w : World) (hl : LiesA w pa l0) (hll : l0.length ≤ 1000) (r : Cnt) (hr : (runM (PM.new N) l0).k = r) :
    Calls Try.prog 19 #[.int .i64 n, .slice pa l0.length ca] w (Ans (.agg #[.int .u64 r.l, .int .u64 r.s, .int .u64 r.w, .int .u64 r.f, .int .u64 r.a]) w) := by
  have HL := Lib.hid hl
  obtain ⟨la, hla⟩ : ∃ k, l0.length = k := ⟨_, rfl⟩
  have HLA := Lib.hid (And.intro hla (by rw [hla] at hll; exact hll))
  have HRes := Lib.hid hr
  rw [hla]
  have hb0 := (Below.refl w.heap.size w).alloc (Nat.le_refl _) (.cells #[.int .u64 0, .int .u64 0, .int .u64 0, .int .u64 0, .int .u64 0] 46)
  have hr0 := Row.new w 46 [.int .u64 0, .int .u64 0, .int .u64 0, .int .u64 0, .int .u64 0]
  have hbook := book_any n (w.alloc (.cells #[.int .u64 0, .int .u64 0, .int .u64 0, .int .u64 0, .int .u64 0] 46))
  rw [hN] at hbook
  have HB0 := Lib.hid hb0
  have HR0 := Lib.hid hr0
  clear hl hla hll hN hr hb0 hr0
  go_enter Try.func19, Try.ntmps19
  go_wp2_with fail
  refine hbook.mono ?_
  rintro e w1 ⟨rfl, hb1⟩
  go_upto_region 3 with (fail)
  have HCt : Hid (Ct w ((w1.alloc (.cells #[.int .i64 N, .slice none 0 0] 29)).alloc (.cells #[.int .u64 0, .int .u64 0, .int .u64 0, .int .u64 0, .int .u64 0] 46)) w.heap.size w1.heap.size (w1.heap.size + 1) (PM.new N) N none 0 0) := by
    have c1 := (Below.refl w1.heap.size w1).alloc (Nat.le_refl _) (.cells #[.int .i64 N, .slice none 0 0] 29)
    have c2 := (Below.refl _ (w1.alloc (.cells #[.int .i64 N, .slice none 0 0] 29))).alloc (Nat.le_refl _) (.cells #[.int .u64 0, .int .u64 0, .int .u64 0, .int .u64 0, .int .u64 0] 46)
    have c3 := c1.trans (c2.mono c1.size)
    have h1 := (HR0.out.on' hb1)
    have h2 := h1.lt
    have h3 := HB0.out.trans (hb1.mono HB0.out.size)
    have h4 := h3.size
    exact ⟨h1.on' c3, (Row.new w1 _ [.int .i64 N, .slice none 0 0]).on' c2, Row.new' _ _ [.int .u64 0, .int .u64 0, .int .u64 0, .int .u64 0, .int .u64 0] _ (by simp), h3.trans (c3.mono h4), by omega, by omega⟩
  obtain ⟨W, hW⟩ : ∃ W, (w1.alloc (.cells #[.int .i64 N, .slice none 0 0] 29)).alloc (.cells #[.int .u64 0, .int .u64 0, .int .u64 0, .int .u64 0, .int .u64 0] 46) = W := ⟨_, rfl⟩
  obtain ⟨zb, hzb⟩ : ∃ zb, w.heap.size = zb := ⟨_, rfl⟩
  obtain ⟨br, hbr⟩ : ∃ br, w1.heap.size = br := ⟨_, rfl⟩
  obtain ⟨cb, hcb⟩ : ∃ cb, br + 1 = cb := ⟨_, rfl⟩
  rw [hW, hzb, hbr, hcb] at HCt
  rw [hW, hzb, hbr, hcb]
  clear hW hzb hbr hcb hb1 HB0 HR0 hbook
  go_wp2_with fail
  go_loopw [7] (fun vi wr => ∃ i : Nat, i ≤ la ∧ vi = .int .i64 i ∧ ∃ p l c, Hid (Ct w wr zb br cb (runM (PM.new N) (l0.take i)) N p l c) ∧ Hid (BookIs wr p l c (runX N [] (l0.take i)))) (fun vi _ => la - (intOf vi).toNat)
  case atStart => exact ⟨0, by omega, rfl, none, 0, 0, HCt, BookIs.nil _⟩
  case round =>
    clear HCt
    obtain ⟨i, hi, rfl, p, l, c, HR, HBk⟩ := hrel
    by_cases hlt : i < la
    · have hil : i < l0.length := by rw [HLA.out.1]; exact hlt
      obtain ⟨ab, ao, rfl, e0, e1, e2, e3⟩ := HL.out.at hil
      have hab : ab < w.heap.size := block_lt_of_cell e0
      obtain ⟨x, hx⟩ : ∃ x, l0.getD i default = x := ⟨_, rfl⟩
      rw [hx] at e0 e1 e2 e3
      have hbel := HR.out.bel
      have htie := run_tied (l0.take i) (Tied.new N)
      obtain ⟨m, hm⟩ : ∃ m, runM (PM.new N) (l0.take i) = m := ⟨_, rfl⟩
      obtain ⟨xs, hxs⟩ : ∃ xs, runX N [] (l0.take i) = xs := ⟨_, rfl⟩
      have hm2 := run_take (PM.new N) l0 i hil
      have hx2 := runX_take N [] l0 i hil
      rw [hm, hx] at hm2
      rw [hxs, hx] at hx2
      have hxl : xs.length ≤ i := by have := runX_len N [] (l0.take i); rw [hxs, List.length_take] at this; simp at this; omega
      rw [hm] at HR
      rw [hxs] at HBk
      rw [hm, hxs] at htie
      have HTie := Lib.hid htie
      have HK0 : Hid (K6 br ab (ao + i * 4) N p l c x wr) := ⟨HR.out.r.cell 0, HR.out.r.cell 1, by rw [hbel.cell hab]; exact e0, by rw [hbel.cell hab]; exact e1, by rw [hbel.cell hab]; exact e2, by rw [hbel.cell hab]; exact e3⟩
      have HKon : Hid (∀ W, Below wr.heap.size wr W → (W).cell? ⟨br, 0, none⟩ = some (.int .i64 N) ∧ (W).cell? ⟨br, 1, none⟩ = some (.slice p l c) ∧ (W).cell? ⟨ab, ao + i * 4, none⟩ = some (.int .i64 x.k) ∧ (W).cell? ⟨ab, ao + i * 4 + 1, none⟩ = some (.int .i64 x.a) ∧ (W).cell? ⟨ab, ao + i * 4 + 2, none⟩ = some (.int .u64 x.o) ∧ (W).cell? ⟨ab, ao + i * 4 + 3, none⟩ = some (.int .u64 x.n)) := fun W hb => HK0.out.on hb
      have hlen : l = xs.length := HBk.out.len
      have hkind : ∀ e ∈ doL N xs x.k x.a x.o x.n, e.k ≠ 0 := by rw [← hx2]; exact runX_kinds N _
      obtain ⟨E, hE⟩ : ∃ E, doE N xs x.k x.a x.o x.n = E := ⟨_, rfl⟩
      obtain ⟨bb, hbb⟩ : ∃ bb, (!decide (Bad (N : Int) x.k x.a)) = bb := ⟨_, rfl⟩
      obtain ⟨ys, hys⟩ : ∃ ys, doL N xs x.k x.a x.o x.n = ys := ⟨_, rfl⟩
      rw [hys] at hx2 hkind
      have HDo : Hid (∀ W, Below wr.heap.size wr W → Calls Try.prog 32 #[.agg #[.int .i64 N, .slice p l c], .int .i64 x.k, .int .i64 x.a, .int .u64 x.o, .int .u64 x.n] W (fun e w' => ∃ q l2 c2, e = .returned (.tuple #[.agg #[.int .i64 N, .slice q l2 c2], .agg #[.int .i64 E.k, .int .i64 E.a, .int .u64 E.o, .int .u64 E.n], .bool bb]) ∧ BookIs w' q l2 c2 ys ∧ Below W.heap.size W w')) := fun W hb => (do_any N x.k x.a x.o x.n p l c xs W (HBk.out.on hb) (by have := HLA.out.2; omega)).mono fun e w' ⟨q, l2, c2, h1, h2, h3⟩ => ⟨q, l2, c2, by rw [h1, hE, hbb]; rfl, by rw [← hys]; exact h2, h3⟩
      have HE2 := Lib.hid e2
      have HEs := Lib.hid (And.intro hE (And.intro hbb hys))
      have HX2 := Lib.hid (And.intro hm2 hx2)
      have HKind := Lib.hid hkind
      have HXl := Lib.hid hxl
      have HWl := Lib.hid (And.intro hab hbel.size)
      have i2 : (i : Int) < (la : Int) := by omega
      have hwi : IntKind.i64.wrap ((i : Int) + 1) = (i : Int) + 1 := IntWalk.i64_in _ (by have := HLA.out.2; omega)
      have HK := Lib.hid hlt
      clear hm2 hx2 hm hxs e0 e1 e2 e3 hx hlt hil hab hlen hxl hbel hi htie hkind hE hbb hys
      go_wp2_with fail
      go_cut [8, 9, 10] (fun v8 v9 v10 wx => ∃ t8 t9 q l2 c2, v8 = .pointer (some ⟨t8, 0, none⟩) ∧ v9 = .pointer (some ⟨t9, 0, none⟩) ∧ v10 = .bool bb ∧ Hid (Cd w wx zb br cb t8 t9 m N p q l c l2 c2 E ys))
      case first =>
        have HBd : Hid (Below wr.heap.size wr wr.drew) := (Below.refl _ _).drew
        have HB8 : Hid (Below wr.heap.size wr (wr.alloc (.cells #[.int .i64 0, .slice none 0 0] 29)).drew) := ((Below.refl _ _).alloc (Nat.le_refl _) _).drew
        have HB9 : Hid (Below wr.heap.size wr (wr.alloc (.cells #[.int .i64 0, .int .i64 0, .int .u64 0, .int .u64 0] 43)).drew) := ((Below.refl _ _).alloc (Nat.le_refl _) _).drew
        have HB89 : Hid (Below wr.heap.size wr ((wr.alloc (.cells #[.int .i64 0, .slice none 0 0] 29)).alloc (.cells #[.int .i64 0, .int .i64 0, .int .u64 0, .int .u64 0] 43)).drew) := (((Below.refl wr.heap.size wr).alloc (Nat.le_refl _) _).alloc (by simp) _).drew
        have HB98 : Hid (Below wr.heap.size wr ((wr.alloc (.cells #[.int .i64 0, .int .i64 0, .int .u64 0, .int .u64 0] 43)).alloc (.cells #[.int .i64 0, .slice none 0 0] 29)).drew) := (((Below.refl wr.heap.size wr).alloc (Nat.le_refl _) _).alloc (by simp) _).drew
        have HR8 : Hid (Row wr.heap.size 29 [.int .i64 0, .slice none 0 0] (wr.alloc (.cells #[.int .i64 0, .slice none 0 0] 29)).drew) := Row.new wr 29 [.int .i64 0, .slice none 0 0]
        have HR9 : Hid (Row wr.heap.size 43 [.int .i64 0, .int .i64 0, .int .u64 0, .int .u64 0] (wr.alloc (.cells #[.int .i64 0, .int .i64 0, .int .u64 0, .int .u64 0] 43)).drew) := Row.new wr 43 [.int .i64 0, .int .i64 0, .int .u64 0, .int .u64 0]
        have HR89 : Hid (Row (wr.heap.size + 1) 43 [.int .i64 0, .int .i64 0, .int .u64 0, .int .u64 0] ((wr.alloc (.cells #[.int .i64 0, .slice none 0 0] 29)).alloc (.cells #[.int .i64 0, .int .i64 0, .int .u64 0, .int .u64 0] 43)).drew) := Row.new' (wr.alloc (.cells #[.int .i64 0, .slice none 0 0] 29)) 43 [.int .i64 0, .int .i64 0, .int .u64 0, .int .u64 0] _ (by simp)
        have HR98 : Hid (Row (wr.heap.size + 1) 29 [.int .i64 0, .slice none 0 0] ((wr.alloc (.cells #[.int .i64 0, .int .i64 0, .int .u64 0, .int .u64 0] 43)).alloc (.cells #[.int .i64 0, .slice none 0 0] 29)).drew) := Row.new' (wr.alloc (.cells #[.int .i64 0, .int .i64 0, .int .u64 0, .int .u64 0] 43)) 29 [.int .i64 0, .slice none 0 0] _ (by simp)
        have HRx : Hid (Row wr.heap.size 29 [.int .i64 0, .slice none 0 0] ((wr.alloc (.cells #[.int .i64 0, .slice none 0 0] 29)).alloc (.cells #[.int .i64 0, .int .i64 0, .int .u64 0, .int .u64 0] 43)).drew) := (Row.new wr 29 [.int .i64 0, .slice none 0 0]).on' (((Below.refl _ _).alloc (Nat.le_refl _) (.cells #[.int .i64 0, .int .i64 0, .int .u64 0, .int .u64 0] 43)).drew)
        have HRy : Hid (Row wr.heap.size 43 [.int .i64 0, .int .i64 0, .int .u64 0, .int .u64 0] ((wr.alloc (.cells #[.int .i64 0, .int .i64 0, .int .u64 0, .int .u64 0] 43)).alloc (.cells #[.int .i64 0, .slice none 0 0] 29)).drew) := (Row.new wr 43 [.int .i64 0, .int .i64 0, .int .u64 0, .int .u64 0]).on' (((Below.refl _ _).alloc (Nat.le_refl _) (.cells #[.int .i64 0, .slice none 0 0] 29)).drew)
        have HS2 : Hid (∀ (W : World) (j : Nat) (u v : Value), wr.heap.size ≤ j → ((W).cell? ⟨br, 0, none⟩ = some (.int .i64 N) ∧ (W).cell? ⟨br, 1, none⟩ = some (.slice p l c) ∧ (W).cell? ⟨ab, ao + i * 4, none⟩ = some (.int .i64 x.k) ∧ (W).cell? ⟨ab, ao + i * 4 + 1, none⟩ = some (.int .i64 x.a) ∧ (W).cell? ⟨ab, ao + i * 4 + 2, none⟩ = some (.int .u64 x.o) ∧ (W).cell? ⟨ab, ao + i * 4 + 3, none⟩ = some (.int .u64 x.n)) → ((W.setCell ⟨j, 0, none⟩ u).setCell ⟨j, 1, none⟩ v).cell? ⟨br, 0, none⟩ = some (.int .i64 N) ∧ ((W.setCell ⟨j, 0, none⟩ u).setCell ⟨j, 1, none⟩ v).cell? ⟨br, 1, none⟩ = some (.slice p l c) ∧ ((W.setCell ⟨j, 0, none⟩ u).setCell ⟨j, 1, none⟩ v).cell? ⟨ab, ao + i * 4, none⟩ = some (.int .i64 x.k) ∧ ((W.setCell ⟨j, 0, none⟩ u).setCell ⟨j, 1, none⟩ v).cell? ⟨ab, ao + i * 4 + 1, none⟩ = some (.int .i64 x.a) ∧ ((W.setCell ⟨j, 0, none⟩ u).setCell ⟨j, 1, none⟩ v).cell? ⟨ab, ao + i * 4 + 2, none⟩ = some (.int .u64 x.o) ∧ ((W.setCell ⟨j, 0, none⟩ u).setCell ⟨j, 1, none⟩ v).cell? ⟨ab, ao + i * 4 + 3, none⟩ = some (.int .u64 x.n)) := fun W j u v hj h => K6.set2 (w := W) h (by have := HWl.out; have := HR.out.r.lt; omega) (by have := HWl.out; omega) u v
        have HS4 : Hid (∀ (W : World) (j : Nat) (u v y z : Value), wr.heap.size ≤ j → ((W).cell? ⟨br, 0, none⟩ = some (.int .i64 N) ∧ (W).cell? ⟨br, 1, none⟩ = some (.slice p l c) ∧ (W).cell? ⟨ab, ao + i * 4, none⟩ = some (.int .i64 x.k) ∧ (W).cell? ⟨ab, ao + i * 4 + 1, none⟩ = some (.int .i64 x.a) ∧ (W).cell? ⟨ab, ao + i * 4 + 2, none⟩ = some (.int .u64 x.o) ∧ (W).cell? ⟨ab, ao + i * 4 + 3, none⟩ = some (.int .u64 x.n)) → ((((W.setCell ⟨j, 0, none⟩ u).setCell ⟨j, 1, none⟩ v).setCell ⟨j, 2, none⟩ y).setCell ⟨j, 3, none⟩ z).cell? ⟨br, 0, none⟩ = some (.int .i64 N) ∧ ((((W.setCell ⟨j, 0, none⟩ u).setCell ⟨j, 1, none⟩ v).setCell ⟨j, 2, none⟩ y).setCell ⟨j, 3, none⟩ z).cell? ⟨br, 1, none⟩ = some (.slice p l c) ∧ ((((W.setCell ⟨j, 0, none⟩ u).setCell ⟨j, 1, none⟩ v).setCell ⟨j, 2, none⟩ y).setCell ⟨j, 3, none⟩ z).cell? ⟨ab, ao + i * 4, none⟩ = some (.int .i64 x.k) ∧ ((((W.setCell ⟨j, 0, none⟩ u).setCell ⟨j, 1, none⟩ v).setCell ⟨j, 2, none⟩ y).setCell ⟨j, 3, none⟩ z).cell? ⟨ab, ao + i * 4 + 1, none⟩ = some (.int .i64 x.a) ∧ ((((W.setCell ⟨j, 0, none⟩ u).setCell ⟨j, 1, none⟩ v).setCell ⟨j, 2, none⟩ y).setCell ⟨j, 3, none⟩ z).cell? ⟨ab, ao + i * 4 + 2, none⟩ = some (.int .u64 x.o) ∧ ((((W.setCell ⟨j, 0, none⟩ u).setCell ⟨j, 1, none⟩ v).setCell ⟨j, 2, none⟩ y).setCell ⟨j, 3, none⟩ z).cell? ⟨ab, ao + i * 4 + 3, none⟩ = some (.int .u64 x.n)) := fun W j u v y z hj h => (K6.set2 (w := W) h (by have := HWl.out; have := HR.out.r.lt; omega) (by have := HWl.out; omega) u v).tch (S := fun k => k = j) (((Tch.refl (fun k => k = j) _).setCell (p := ⟨j, 2, none⟩) (.inl rfl) y).setCell (p := ⟨j, 3, none⟩) (.inl rfl) z) (by have := HWl.out; have := HR.out.r.lt; omega) (by have := HWl.out; omega)
        go_region_held3 (fun w' => w'.cell? ⟨br, 0, none⟩ = some (.int .i64 N) ∧ w'.cell? ⟨br, 1, none⟩ = some (.slice p l c) ∧ w'.cell? ⟨ab, ao + i * 4, none⟩ = some (.int .i64 x.k) ∧ w'.cell? ⟨ab, ao + i * 4 + 1, none⟩ = some (.int .i64 x.a) ∧ w'.cell? ⟨ab, ao + i * 4 + 2, none⟩ = some (.int .u64 x.o) ∧ w'.cell? ⟨ab, ao + i * 4 + 3, none⟩ = some (.int .u64 x.n))
          (first | (with_reducible exact HKon.out _ HBd.out) | (with_reducible exact HKon.out _ HB8.out) | (with_reducible exact HKon.out _ HB9.out) | (with_reducible exact HKon.out _ HB89.out) | (with_reducible exact HKon.out _ HB98.out) | (with_reducible exact HKon.out _ HB3.out) | (with_reducible exact HKon.out _ (HB3.out.alloc HB3.out.size _)) | (with_reducible exact HKon.out _ ((HB3.out.alloc HB3.out.size _).alloc (Below.size (HB3.out.alloc HB3.out.size _)) _)) | (with_reducible exact HKon.out _ (((HB3.out.alloc HB3.out.size _).setCell (p := ⟨wr.heap.size, 0, none⟩) (Nat.le_refl _) _).setCell (p := ⟨wr.heap.size, 1, none⟩) (Nat.le_refl _) _)) | (with_reducible exact HKon.out _ (((((HB3.out.alloc HB3.out.size _).setCell (p := ⟨wr.heap.size, 0, none⟩) (Nat.le_refl _) _).setCell (p := ⟨wr.heap.size, 1, none⟩) (Nat.le_refl _) _).setCell (p := ⟨wr.heap.size, 2, none⟩) (Nat.le_refl _) _).setCell (p := ⟨wr.heap.size, 3, none⟩) (Nat.le_refl _) _)) | with_reducible exact HS2.out _ _ _ _ (by first | exact Nat.le_refl _ | exact Nat.le_succ _ | exact HB3.out.size | (have := HB3.out.size; simp; omega)) (by assumption) | with_reducible exact HS4.out _ _ _ _ _ _ (by first | exact Nat.le_refl _ | exact Nat.le_succ _ | exact HB3.out.size | (have := HB3.out.size; simp; omega)) (by assumption))
          (first | (go_at_call 32; first
            | ((with_reducible refine (HDo.out _ HBd.out).mono ?_); rintro e w3 ⟨q, l2, c2, rfl, hk3, hb3⟩; have HB3 := Lib.hid (HBd.out.trans (hb3.mono HBd.out.size)); have HK3 := Lib.hid hk3; clear hk3 hb3)
            | ((with_reducible refine (HDo.out _ HB8.out).mono ?_); rintro e w3 ⟨q, l2, c2, rfl, hk3, hb3⟩; have HB3 := Lib.hid (HB8.out.trans (hb3.mono HB8.out.size)); have HK3 := Lib.hid hk3; have r8 := HR8.out.on' hb3; have d0 := r8.cell 0; have d1 := r8.cell 1; have f0 := r8.frozen 0; have f1 := r8.frozen 1; simp only [List.getElem?_cons_zero, List.getElem?_cons_succ] at d0 d1; have ra := r8.on' ((Below.refl w3.heap.size w3).alloc (Nat.le_refl _) (.cells #[.int .i64 0, .int .i64 0, .int .u64 0, .int .u64 0] 43)); have a0 := ra.cell 0; have a1 := ra.cell 1; have b0 := ra.frozen 0; have b1 := ra.frozen 1; simp only [List.getElem?_cons_zero, List.getElem?_cons_succ] at a0 a1; clear ra; have HR8 := Lib.hid r8; have n8 := Nat.ne_of_lt r8.lt; have n8' := Nat.ne_of_gt r8.lt; clear r8; clear hk3 hb3)
            | ((with_reducible refine (HDo.out _ HB9.out).mono ?_); rintro e w3 ⟨q, l2, c2, rfl, hk3, hb3⟩; have HB3 := Lib.hid (HB9.out.trans (hb3.mono HB9.out.size)); have HK3 := Lib.hid hk3; have r9 := HR9.out.on' hb3; have d2 := r9.cell 0; have d3 := r9.cell 1; have d4 := r9.cell 2; have d5 := r9.cell 3; have f2 := r9.frozen 0; have f3 := r9.frozen 1; have f4 := r9.frozen 2; have f5 := r9.frozen 3; simp only [List.getElem?_cons_zero, List.getElem?_cons_succ] at d2 d3 d4 d5; have ra := r9.on' ((Below.refl w3.heap.size w3).alloc (Nat.le_refl _) (.cells #[.int .i64 N, .slice q l2 c2] 29)); have a2 := ra.cell 0; have a3 := ra.cell 1; have a4 := ra.cell 2; have a5 := ra.cell 3; have b2 := ra.frozen 0; have b3 := ra.frozen 1; have b4 := ra.frozen 2; have b5 := ra.frozen 3; simp only [List.getElem?_cons_zero, List.getElem?_cons_succ] at a2 a3 a4 a5; clear ra; have HR9 := Lib.hid r9; have n9 := Nat.ne_of_lt r9.lt; have n9' := Nat.ne_of_gt r9.lt; clear r9; clear hk3 hb3)
            | ((with_reducible refine (HDo.out _ HB89.out).mono ?_); rintro e w3 ⟨q, l2, c2, rfl, hk3, hb3⟩; have HB3 := Lib.hid (HB89.out.trans (hb3.mono HB89.out.size)); have HK3 := Lib.hid hk3; have r8 := HRx.out.on' hb3; have d0 := r8.cell 0; have d1 := r8.cell 1; have f0 := r8.frozen 0; have f1 := r8.frozen 1; simp only [List.getElem?_cons_zero, List.getElem?_cons_succ] at d0 d1; have ra := r8.on' ((Below.refl w3.heap.size w3).alloc (Nat.le_refl _) (.cells #[.int .i64 0, .int .i64 0, .int .u64 0, .int .u64 0] 43)); have a0 := ra.cell 0; have a1 := ra.cell 1; have b0 := ra.frozen 0; have b1 := ra.frozen 1; simp only [List.getElem?_cons_zero, List.getElem?_cons_succ] at a0 a1; clear ra; have HR8 := Lib.hid r8; have n8 := Nat.ne_of_lt r8.lt; have n8' := Nat.ne_of_gt r8.lt; clear r8; have r9 := HR89.out.on' hb3; have d2 := r9.cell 0; have d3 := r9.cell 1; have d4 := r9.cell 2; have d5 := r9.cell 3; have f2 := r9.frozen 0; have f3 := r9.frozen 1; have f4 := r9.frozen 2; have f5 := r9.frozen 3; simp only [List.getElem?_cons_zero, List.getElem?_cons_succ] at d2 d3 d4 d5; have ra := r9.on' ((Below.refl w3.heap.size w3).alloc (Nat.le_refl _) (.cells #[.int .i64 N, .slice q l2 c2] 29)); have a2 := ra.cell 0; have a3 := ra.cell 1; have a4 := ra.cell 2; have a5 := ra.cell 3; have b2 := ra.frozen 0; have b3 := ra.frozen 1; have b4 := ra.frozen 2; have b5 := ra.frozen 3; simp only [List.getElem?_cons_zero, List.getElem?_cons_succ] at a2 a3 a4 a5; clear ra; have HR9 := Lib.hid r9; have n9 := Nat.ne_of_lt r9.lt; have n9' := Nat.ne_of_gt r9.lt; clear r9; clear hk3 hb3)
            | ((with_reducible refine (HDo.out _ HB98.out).mono ?_); rintro e w3 ⟨q, l2, c2, rfl, hk3, hb3⟩; have HB3 := Lib.hid (HB98.out.trans (hb3.mono HB98.out.size)); have HK3 := Lib.hid hk3; have r8 := HR98.out.on' hb3; have d0 := r8.cell 0; have d1 := r8.cell 1; have f0 := r8.frozen 0; have f1 := r8.frozen 1; simp only [List.getElem?_cons_zero, List.getElem?_cons_succ] at d0 d1; have ra := r8.on' ((Below.refl w3.heap.size w3).alloc (Nat.le_refl _) (.cells #[.int .i64 0, .int .i64 0, .int .u64 0, .int .u64 0] 43)); have a0 := ra.cell 0; have a1 := ra.cell 1; have b0 := ra.frozen 0; have b1 := ra.frozen 1; simp only [List.getElem?_cons_zero, List.getElem?_cons_succ] at a0 a1; clear ra; have HR8 := Lib.hid r8; have n8 := Nat.ne_of_lt r8.lt; have n8' := Nat.ne_of_gt r8.lt; clear r8; have r9 := HRy.out.on' hb3; have d2 := r9.cell 0; have d3 := r9.cell 1; have d4 := r9.cell 2; have d5 := r9.cell 3; have f2 := r9.frozen 0; have f3 := r9.frozen 1; have f4 := r9.frozen 2; have f5 := r9.frozen 3; simp only [List.getElem?_cons_zero, List.getElem?_cons_succ] at d2 d3 d4 d5; have ra := r9.on' ((Below.refl w3.heap.size w3).alloc (Nat.le_refl _) (.cells #[.int .i64 N, .slice q l2 c2] 29)); have a2 := ra.cell 0; have a3 := ra.cell 1; have a4 := ra.cell 2; have a5 := ra.cell 3; have b2 := ra.frozen 0; have b3 := ra.frozen 1; have b4 := ra.frozen 2; have b5 := ra.frozen 3; simp only [List.getElem?_cons_zero, List.getElem?_cons_succ] at a2 a3 a4 a5; clear ra; have HR9 := Lib.hid r9; have n9 := Nat.ne_of_lt r9.lt; have n9' := Nat.ne_of_gt r9.lt; clear r9; clear hk3 hb3)))
        all_goals
          have HCb : Hid (Cb w w3 zb br cb wr.heap.size m N p q l c l2 c2 ys) := ⟨HR.out.on HB3.out, HK3.out, by have := HR.out.z.lt; have := HR.out.r.lt; have := HR.out.c.lt; omega⟩
          go_wp2_with fail
          go_meet
          first
            | with_reducible exact ⟨_, _, q, l2, c2, rfl, rfl, rfl, Lib.hid (cd_aa HCb.out HB3.out.size)⟩
            | with_reducible exact ⟨_, _, q, l2, c2, rfl, rfl, rfl, Lib.hid (cd_bb HCb.out HB3.out.size)⟩
            | with_reducible exact ⟨_, _, q, l2, c2, rfl, rfl, rfl, Lib.hid (cd_8a HCb.out HR8.out (Nat.le_refl _))⟩
            | with_reducible exact ⟨_, _, q, l2, c2, rfl, rfl, rfl, Lib.hid (cd_9a HCb.out HR9.out (Nat.le_refl _) HKind.out)⟩
            | with_reducible exact ⟨_, _, q, l2, c2, rfl, rfl, rfl, Lib.hid (cd_89 HCb.out HR8.out HR9.out (Nat.le_refl _) (Nat.le_succ _) (by omega) HKind.out)⟩
            | with_reducible exact ⟨_, _, q, l2, c2, rfl, rfl, rfl, Lib.hid (cd_89 HCb.out HR8.out HR9.out (Nat.le_succ _) (Nat.le_refl _) (by omega) HKind.out)⟩
      case rest =>
        clear HK0 HKon HDo HBk
        obtain ⟨t8, t9, q, l2, c2, rfl, rfl, rfl, HD⟩ := hcut
        have HCx := Lib.hid HD.out.put
        have s0 := HD.out.s.cell 0
        have s1 := HD.out.s.cell 1
        have k0 := HD.out.ct.r.cell 0
        have k1 := HD.out.ct.r.cell 1
        have j0 := HD.out.ct.r.frozen 0
        have j1 := HD.out.ct.r.frozen 1
        simp only [List.getElem?_cons_zero, List.getElem?_cons_succ] at s0 s1 k0 k1
        go_upto_region 8 with (fail)
        obtain ⟨W2, hW2⟩ : ∃ W2, (wc.setCell ⟨br, 0, none⟩ (.int .i64 N)).setCell ⟨br, 1, none⟩ (.slice q l2 c2) = W2 := ⟨_, rfl⟩
        rw [hW2] at HCx
        rw [hW2]
        clear hW2 s0 s1 k0 k1 j0 j1 HD HR
        obtain ⟨k, a, o, nw⟩ := x
        obtain ⟨ek, ea, eo, en⟩ := E
        have e0 := HCx.out.e.cell 0
        have e1 := HCx.out.e.cell 1
        have e2 := HCx.out.e.cell 2
        have e3 := HCx.out.e.cell 3
        have c0 := HCx.out.ct.c.cell 0
        have c1 := HCx.out.ct.c.cell 1
        have c2' := HCx.out.ct.c.cell 2
        have c3 := HCx.out.ct.c.cell 3
        have c4 := HCx.out.ct.c.cell 4
        have f0 := HCx.out.ct.c.frozen 0
        have f1 := HCx.out.ct.c.frozen 1
        have f2 := HCx.out.ct.c.frozen 2
        have f3 := HCx.out.ct.c.frozen 3
        have f4 := HCx.out.ct.c.frozen 4
        simp only [accC, List.getElem?_cons_zero, List.getElem?_cons_succ] at e0 e1 e2 e3 c0 c1 c2' c3 c4
        have hbd := cnt_le (m := m) (n := 1000) (by rw [HTie.out.ops]; have := HXl.out; have := HLA.out.2; have := HK.out; omega)
        have v0 : IntKind.u64.wrap ((m.k.l : Int) + 1) = ((m.k.l + 1 : Nat) : Int) := by rw [IntWalk.u64_in _ (by omega)]; rfl
        have v1 : IntKind.u64.wrap ((m.k.s : Int) + 1) = ((m.k.s + 1 : Nat) : Int) := by rw [IntWalk.u64_in _ (by omega)]; rfl
        have v2 : IntKind.u64.wrap ((m.k.w : Int) + 1) = ((m.k.w + 1 : Nat) : Int) := by rw [IntWalk.u64_in _ (by omega)]; rfl
        have v3 : IntKind.u64.wrap ((m.k.f : Int) + 1) = ((m.k.f + 1 : Nat) : Int) := by rw [IntWalk.u64_in _ (by omega)]; rfl
        have v4 : IntKind.u64.wrap ((m.k.a : Int) + 1) = ((m.k.a + 1 : Nat) : Int) := by rw [IntWalk.u64_in _ (by omega)]; rfl
        clear hbd
        obtain ⟨hE, hbb, -⟩ := HEs.out
        clear HEs
        cases bb with
        | false =>
          have hbad : Bad (N : Int) k a := by simpa using hbb
          have HCt : Hid (Ct w W2 zb br cb (runM (PM.new N) (l0.take (i + 1))) N q l2 c2) := HCx.out.ct.same (HX2.out.1.trans (cnt_bad HTie.out hbad))
          have HBk : Hid (BookIs W2 q l2 c2 (runX N [] (l0.take (i + 1)))) := by show BookIs _ _ _ _ _; rw [HX2.out.2]; exact HCx.out.bk
          clear hE hbb hbad e0 e1 e2 e3 c0 c1 c2' c3 c4 f0 f1 f2 f3 f4 v0 v1 v2 v3 v4
          go_wp2_with fail
          go_roundw
          case rel => exact ⟨i + 1, HK.out, by go_num, q, l2, c2, HCt, HBk⟩
          case measure =>
            show _ < _
            have := HK.out
            simp only [intOf]; omega
        | true =>
          have hok : ¬ Bad (N : Int) k a := by simpa using hbb
          have hEq : accV xs k a o nw = ⟨ek, ea, eo, en⟩ := by rw [← hE]; exact (doE_ok hok _ _ _).symm
          have hek : ek = k := by have := congrArg Acc.k hEq; exact this.symm
          have heo : (accV xs k a o nw).o = eo := by rw [hEq]
          have hk4 : k = 1 ∨ k = 2 ∨ k = 3 ∨ k = 4 := by unfold Bad at hok; omega
          subst hek
          have HOk := Lib.hid hok
          have HEo := Lib.hid heo
          clear hE hbb hok hEq heo
          rcases hk4 with rfl | rfl | rfl | rfl
          · have hc := HCx.out.count (m.go 1 a o nw) 0 (.int .u64 ((m.k.l + 1 : Nat) : Int)) (by rw [cnt_1 HTie.out HOk.out]; rfl)
            rw [← HX2.out.1, ← HX2.out.2] at hc
            have HCt := Lib.hid hc.1
            have HBk := Lib.hid hc.2
            clear hc
            go_wp2_with fail
            go_roundw
            case rel => exact ⟨i + 1, HK.out, by go_num, q, l2, c2, HCt, HBk⟩
            case measure =>
              show _ < _
              have := HK.out
              simp only [intOf]; omega
          · have hc := HCx.out.count (m.go 2 a o nw) 1 (.int .u64 ((m.k.s + 1 : Nat) : Int)) (by rw [cnt_2 HTie.out HOk.out]; rfl)
            rw [← HX2.out.1, ← HX2.out.2] at hc
            have HCt := Lib.hid hc.1
            have HBk := Lib.hid hc.2
            clear hc
            go_wp2_with fail
            go_roundw
            case rel => exact ⟨i + 1, HK.out, by go_num, q, l2, c2, HCt, HBk⟩
            case measure =>
              show _ < _
              have := HK.out
              simp only [intOf]; omega
          · obtain ⟨t, ht⟩ : ∃ t, decide ((3 : Int) = 3 ∧ eo = o) = t := ⟨_, rfl⟩
            have cS : ∀ d os, Calls Try.prog 33 #[.agg #[.int .i64 3, .int .i64 ea, .int .u64 eo, .int .u64 en], .int .u64 o] (Sort.grow (redrawn W2 d) os) fun e w'' => e = .returned (.bool t) ∧ ∃ p : Regrown, w'' = Sort.grow (redrawn W2 p.d) p.os := fun d os => by
              have := swapped_any ⟨3, ea, eo, en⟩ o (Sort.grow (redrawn W2 d) os)
              rw [show (decide ((⟨3, ea, eo, en⟩ : Acc).k = 3 ∧ (⟨3, ea, eo, en⟩ : Acc).o = o)) = t from ht] at this
              exact Calls.regrown_of this
            have HcS := Lib.hid cS
            have x2 : W2.cell? ⟨ab, ao + i * 4 + 2, none⟩ = some (.int .u64 o) := by rw [HCx.out.ct.bel.cell HWl.out.1]; exact HE2.out
            have y0 := cell_regrown e0
            have y1 := cell_regrown e1
            have y2 := cell_regrown e2
            have y3 := cell_regrown e3
            have y4 := cell_regrown x2
            have hm : (runM (PM.new N) (l0.take (i + 1))).k = if t = true then { m.k with w := m.k.w + 1 } else { m.k with f := m.k.f + 1 } := by
              rw [HX2.out.1, cnt_3 HTie.out HOk.out, HEo.out]
              subst ht
              by_cases h : eo = o <;> simp [h]
            have HM := Lib.hid hm
            clear cS x2 c0 c1 c2' c3 c4 f0 f1 f2 f3 f4 hm ht
            go_upto_region 16 with (fail)
            refine wp_region_quiet_below (by kernel_rfl) (by kernel_rfl) ?_
            repeat (go_big_quiet_step (exact HcS.out _ _))
            refine wpQuiet_nil ?_
            intro W3 hw'
            obtain ⟨⟨dq, osq⟩, hw2⟩ := hw'
            have HCx3 := Lib.hid (show Cx w W3 zb br cb t9 m N q l2 c2 _ ys by rw [hw2]; exact HCx.out.on (below_regrown W2 dq osq))
            clear hw2 e0 e1 e2 e3 y0 y1 y2 y3 y4
            have c2' := HCx3.out.ct.c.cell 2
            have c3 := HCx3.out.ct.c.cell 3
            have f2 := HCx3.out.ct.c.frozen 2
            have f3 := HCx3.out.ct.c.frozen 3
            simp only [List.getElem?_cons_zero, List.getElem?_cons_succ] at c2' c3
            cases t with
            | true =>
              have hc := HCx3.out.count (runM (PM.new N) (l0.take (i + 1))) 2 (.int .u64 ((m.k.w + 1 : Nat) : Int)) (by rw [HM.out]; rfl)
              rw [← HX2.out.2] at hc
              have HCt := Lib.hid hc.1
              have HBk := Lib.hid hc.2
              clear hc
              go_wp2_with fail
              go_roundw
              case rel => exact ⟨i + 1, HK.out, by go_num, q, l2, c2, HCt, HBk⟩
              case measure =>
                show _ < _
                have := HK.out
                simp only [intOf]; omega
            | false =>
              have hc := HCx3.out.count (runM (PM.new N) (l0.take (i + 1))) 3 (.int .u64 ((m.k.f + 1 : Nat) : Int)) (by rw [HM.out]; rfl)
              rw [← HX2.out.2] at hc
              have HCt := Lib.hid hc.1
              have HBk := Lib.hid hc.2
              clear hc
              go_wp2_with fail
              go_roundw
              case rel => exact ⟨i + 1, HK.out, by go_num, q, l2, c2, HCt, HBk⟩
              case measure =>
                show _ < _
                have := HK.out
                simp only [intOf]; omega
          · have hc := HCx.out.count (m.go 4 a o nw) 4 (.int .u64 ((m.k.a + 1 : Nat) : Int)) (by rw [cnt_4 HTie.out HOk.out]; rfl)
            rw [← HX2.out.1, ← HX2.out.2] at hc
            have HCt := Lib.hid hc.1
            have HBk := Lib.hid hc.2
            clear hc
            go_wp2_with fail
            go_roundw
            case rel => exact ⟨i + 1, HK.out, by go_num, q, l2, c2, HCt, HBk⟩
            case measure =>
              show _ < _
              have := HK.out
              simp only [intOf]; omega
    · obtain rfl : i = la := by omega
      have hfull : l0.take i = l0 := List.take_of_length_le (by have := HLA.out; omega)
      rw [hfull] at HR
      have c0 := HR.out.c.cell 0
      have c1 := HR.out.c.cell 1
      have c2' := HR.out.c.cell 2
      have c3 := HR.out.c.cell 3
      have c4 := HR.out.c.cell 4
      have z0 := HR.out.z.cell 0
      have z1 := HR.out.z.cell 1
      have z2 := HR.out.z.cell 2
      have z3 := HR.out.z.cell 3
      have z4 := HR.out.z.cell 4
      have f0 := HR.out.z.frozen 0
      have f1 := HR.out.z.frozen 1
      have f2 := HR.out.z.frozen 2
      have f3 := HR.out.z.frozen 3
      have f4 := HR.out.z.frozen 4
      rw [HRes.out] at c0 c1 c2' c3 c4
      simp only [List.getElem?_cons_zero, List.getElem?_cons_succ] at c0 c1 c2' c3 c4 z0 z1 z2 z3 z4
      have HBe := Lib.hid (((((HR.out.bel.setCell (p := ⟨zb, 0, none⟩) HR.out.ge.1 (.int .u64 r.l)).setCell (p := ⟨zb, 1, none⟩) HR.out.ge.1 (.int .u64 r.s)).setCell (p := ⟨zb, 2, none⟩) HR.out.ge.1 (.int .u64 r.w)).setCell (p := ⟨zb, 3, none⟩) HR.out.ge.1 (.int .u64 r.f)).setCell (p := ⟨zb, 4, none⟩) HR.out.ge.1 (.int .u64 r.a))
      have hlb : ¬ ((i : Int) < (i : Int)) := by omega
      clear hfull
      go_wp2_with fail
      refine bodyPost_ret (v := .agg #[.int .u64 r.l, .int .u64 r.s, .int .u64 r.w, .int .u64 r.f, .int .u64 r.a]) (by simp [results, Try.results19, go_sem, *]) rfl ⟨rfl, HBe.out⟩
end Go.Proofs.Ytnakaifnalojeaa
