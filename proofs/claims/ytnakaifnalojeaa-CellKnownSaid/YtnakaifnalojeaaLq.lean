/- A memory that is none (layer 6): Last, could, Redo. Two rows that grow beside each other. -/
import Derived.Test.YtnakaifnalojeaaLp
import Derived.Test.YtnakaifnalojeaaLb
import Derived.Test.YtnakaifnalojeaaLe
import Derived.Test.YtnakaifnalojeaaMu
set_option linter.unusedSimpArgs false
set_option linter.unusedVariables false
namespace Go.Proofs.Ytnakaifnalojeaa
open Go.RowKit Go.Ce

theorem last_nil (w : World) : Calls Try.prog 14 #[.pointer none] w (Ans (.tuple #[.agg #[.int .i64 0, .int .i64 0, .int .u64 0, .int .u64 0], .bool false]) w) := by
  have hops := ops_nil (w.alloc (.cells #[.int .i64 0, .int .i64 0, .int .u64 0, .int .u64 0] 38))
  go_enter Try.func14, Try.ntmps14
  go_wp2_with fail
  refine hops.mono ?_
  rintro e w1 ⟨rfl, hb⟩
  have hr := (Row.new w 38 [.int .i64 0, .int .i64 0, .int .u64 0, .int .u64 0]).on' hb
  have d0 := hr.cell 0
  have d1 := hr.cell 1
  have d2 := hr.cell 2
  have d3 := hr.cell 3
  have f0 := hr.frozen 0
  have f1 := hr.frozen 1
  have f2 := hr.frozen 2
  have f3 := hr.frozen 3
  simp only [List.getElem?_cons_zero, List.getElem?_cons_succ] at d0 d1 d2 d3
  have HB := Lib.hid hb
  clear hb hr
  go_wp2
  refine bodyPost_ret (v := .tuple #[.agg #[.int .i64 0, .int .i64 0, .int .u64 0, .int .u64 0], .bool false]) (by simp [results, Try.results14, go_sem, *]) rfl ⟨rfl, ?_⟩
  exact (((((((Below.refl _ _).alloc (Nat.le_refl _) _).trans (HB.out.mono (by simp))).setCell (Nat.le_refl _) _).setCell (Nat.le_refl _) _).setCell (Nat.le_refl _) _).setCell (Nat.le_refl _) _)
theorem could_nil (a o n : Int) (w : World) : Calls Try.prog 46 #[.pointer none, .agg #[.int .i64 4, .int .i64 a, .int .u64 o, .int .u64 n]] w (Ans (.bool false) w) := by
  have HBe := Lib.hid ((Below.refl w.heap.size w).alloc (Nat.le_refl _) (.cells #[.int .i64 4, .int .i64 a, .int .u64 o, .int .u64 n] 38))
  have hhas := has_nil (w.alloc (.cells #[.int .i64 4, .int .i64 a, .int .u64 o, .int .u64 n] 38)) a
  go_enter Try.func46, Try.ntmps46
  go_wp2_with fail
  refine hhas.mono ?_
  rintro e w1 ⟨rfl, hb1⟩
  have HB1 := Lib.hid (HBe.out.trans (hb1.mono HBe.out.size))
  clear hb1 hhas
  go_wp2
  go_ret
  exact ⟨rfl, HB1.out⟩
set_option maxHeartbeats 1000000 in
/-- of accesses of which the first is an Add, none can be done to no memory -/
theorem redo_nil (p : Option Addr) (c : Nat) (l : List Acc) (w : World) (hl : LiesA w p l) (h0 : 0 < l.length) (hk : (l.getD 0 default).k = 4) :
    Calls Try.prog 23 #[.pointer none, .slice p l.length c] w (Ans (.int .i64 0) w) := by
  obtain ⟨n, hn⟩ : ∃ n, l.length = n := ⟨_, rfl⟩
  obtain ⟨gb, go, rfl, e0, e1, e2, e3⟩ := hl.at h0
  rw [hn] at h0
  rw [hk] at e0
  obtain ⟨xa, hxa⟩ : ∃ z, (l.getD 0 default).a = z := ⟨_, rfl⟩
  obtain ⟨xo, hxo⟩ : ∃ z, (l.getD 0 default).o = z := ⟨_, rfl⟩
  obtain ⟨xn, hxn⟩ : ∃ z, (l.getD 0 default).n = z := ⟨_, rfl⟩
  rw [hxa] at e1
  rw [hxo] at e2
  rw [hxn] at e3
  rw [Nat.zero_mul, Nat.add_zero] at e0 e1 e2 e3
  have i1 : (0 : Int) < (n : Int) := by omega
  have HE := Lib.hid (And.intro e0 (And.intro e1 (And.intro e2 e3)))
  rw [hn]
  clear hl hk hxa hxo hxn hn e0 e1 e2 e3
  go_enter Try.func23, Try.ntmps23
  go_wp2_with fail
  go_loopw [9] (fun vi wr => vi = .int .i64 0 ∧ Hid (Below w.heap.size w wr)) (fun _ _ => 0)
  case atStart => exact ⟨rfl, Lib.hid (.refl _ _)⟩
  case round =>
    obtain ⟨rfl, HB⟩ := hrel
    obtain ⟨e0, e1, e2, e3⟩ := HE.out
    have hg : gb < w.heap.size := block_lt_of_cell e0
    have y0 : wr.cell? ⟨gb, go, none⟩ = some (.int .i64 4) := by rw [HB.out.cell hg]; exact e0
    have y1 : wr.cell? ⟨gb, go + 1, none⟩ = some (.int .i64 xa) := by rw [HB.out.cell hg]; exact e1
    have y2 : wr.cell? ⟨gb, go + 2, none⟩ = some (.int .u64 xo) := by rw [HB.out.cell hg]; exact e2
    have y3 : wr.cell? ⟨gb, go + 3, none⟩ = some (.int .u64 xn) := by rw [HB.out.cell hg]; exact e3
    clear hg e0 e1 e2 e3
    have HBe := Lib.hid ((Below.refl wr.heap.size wr).alloc (Nat.le_refl _) (.cells #[.int .i64 4, .int .i64 xa, .int .u64 xo, .int .u64 xn] 38))
    have hcould := could_nil xa xo xn (wr.alloc (.cells #[.int .i64 4, .int .i64 xa, .int .u64 xo, .int .u64 xn] 38))
    go_wp2_with fail
    refine hcould.mono ?_
    rintro e w1 ⟨rfl, hb1⟩
    have HB1 := Lib.hid (HB.out.trans ((HBe.out.trans (hb1.mono HBe.out.size)).mono HB.out.size))
    clear hb1 hcould y0 y1 y2 y3
    go_wp2
    go_ret
    exact ⟨rfl, HB1.out⟩

/-- rows of different types lie apart -/
theorem owns_apart {w : World} {B n1 n2 s1 s2 : Nat} {E1 E2 : TypeId} {v1 v2 : Value} {xs ys : List Value} (h1 : w.ownsRow B E1 s1 v1 n1 xs) (h2 : w.ownsRow B E2 s2 v2 n2 ys) (hE : E1 ≠ E2) : v2.ownBlock = none ∨ v2.ownBlock ≠ v1.ownBlock := by
  rcases h2.2 with ⟨e, _⟩ | ⟨g2, cap2, cur2, e2, _, hg2, _⟩
  · subst e; exact .inl rfl
  · right
    rcases h1.2 with ⟨e, _⟩ | ⟨g1, cap1, cur1, e1, _, hg1, _⟩
    · subst e e2; intro h; cases h
    · subst e1 e2
      intro h
      have hgg : g2 = g1 := by simpa [Value.ownBlock] using h
      subst hgg
      rw [hg1] at hg2
      injection hg2 with h3
      injection h3 with h4 h5
      exact hE h5
/-- the law's rows, so far -/
structure Kw (w0 W : World) (v3 v4 : Value) (xs ys : List Acc) : Prop where
  o3 : W.ownsRow w0.heap.size 36 4 v3 xs.length (xs.flatMap accC)
  o4 : W.ownsRow w0.heap.size 38 4 v4 ys.length (ys.flatMap accC)
  bel : Below w0.heap.size w0 W
theorem Kw.nil {w0 W : World} (h : Below w0.heap.size w0 W) : Kw w0 W (.slice none 0 0) (.slice none 0 0) [] [] := ⟨World.ownsRow_nil _ _ _ _, World.ownsRow_nil _ _ _ _, h⟩
theorem flat_one (xs : List Acc) (x : Acc) : (xs ++ [x]).flatMap accC = xs.flatMap accC ++ accC x := by
  rw [List.flatMap_append, show [x].flatMap accC = accC x from List.append_nil _]
theorem Kw.push3 {w0 W W4 : World} {v3 v4 : Value} {xs ys : List Acc} (h : Kw w0 W v3 v4 xs ys) (o : Obj) (x : Acc) (g cap : Nat) (hown : W4.ownsRow w0.heap.size 36 4 (.slice (some ⟨g, 0, none⟩) (xs.length + 1) cap) (xs.length + 1) (xs.flatMap accC ++ accC x)) (hg : (W.alloc o).grownBy W4 v3.ownBlock) :
    Kw w0 W4 (.slice (some ⟨g, 0, none⟩) (xs.length + 1) cap) v4 (xs ++ [x]) ys := by
  refine ⟨by rw [List.length_append, flat_one]; exact hown, (h.o4.alloc o).kept hg (owns_apart h.o3 h.o4 (by decide)), (h.bel.alloc h.bel.size o).grown hg (by have := h.bel.size; simp; omega) (fun j hj => (h.o3.lt j hj).1)⟩
theorem Kw.push4 {w0 W W4 : World} {v3 v4 : Value} {xs ys : List Acc} (h : Kw w0 W v3 v4 xs ys) (o : Obj) (x : Acc) (g cap : Nat) (hown : W4.ownsRow w0.heap.size 38 4 (.slice (some ⟨g, 0, none⟩) (ys.length + 1) cap) (ys.length + 1) (ys.flatMap accC ++ accC x)) (hg : (W.alloc o).grownBy W4 v4.ownBlock) :
    Kw w0 W4 v3 (.slice (some ⟨g, 0, none⟩) (ys.length + 1) cap) xs (ys ++ [x]) := by
  refine ⟨(h.o3.alloc o).kept hg (owns_apart h.o4 h.o3 (by decide)), by rw [List.length_append, flat_one]; exact hown, (h.bel.alloc h.bel.size o).grown hg (by have := h.bel.size; simp; omega) (fun j hj => (h.o4.lt j hj).1)⟩
end Go.Proofs.Ytnakaifnalojeaa
