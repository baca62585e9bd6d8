/- The reference's get as it lies; New; Step's boxes (layer 10). -/
import Derived.Test.YtkhfanhboooilaaBa
import Derived.Test.YtkhfanhboooilaaRa
import Derived.Test.YtkhfanhboooilaaBf
import Derived.Test.YtkhfanhboooilaaBb
import Derived.Deep.RegionHeld3
set_option linter.unusedSimpArgs false
set_option linter.unusedVariables false
namespace Go.Proofs.Ytkhfanhboooilaa
open Go.RowKit Go.Cg Go.Pu Go.Wd Go.Ce

def rgC (c : Cfg) (p a x s g : Int) (h : Bool) (t : Int) : List Value := [.int .i64 c.n, .int .i64 c.q, .int .i64 c.g, .int .i64 c.m, .int .i64 c.t, .int .i64 c.s, .int .i64 p, .int .i64 a, .int .u64 x, .int .i64 s, .int .i64 g, .bool h, .int .i64 t]
def rgV (c : Cfg) (p a x s g : Int) (h : Bool) (t : Int) : Value := .agg #[.int .i64 c.n, .int .i64 c.q, .int .i64 c.g, .int .i64 c.m, .int .i64 c.t, .int .i64 c.s, .int .i64 p, .int .i64 a, .int .u64 x, .int .i64 s, .int .i64 g, .bool h, .int .i64 t]
/-- the reference's get, as a value -/
def rgVal (x : GS) : Value := rgV x.c x.p (x.a : Nat) (x.w : Nat) x.s x.got x.h (x.t : Nat)
theorem rg_cells {W : World} {b : Nat} {c : Cfg} {p a x s g t : Int} {h : Bool} (H : Row b 73 (rgC c p a x s g h t) W) : W.cell? ⟨b, 0, none⟩ = some (.int .i64 c.n) ∧ W.cell? ⟨b, 1, none⟩ = some (.int .i64 c.q) ∧ W.cell? ⟨b, 2, none⟩ = some (.int .i64 c.g) ∧ W.cell? ⟨b, 3, none⟩ = some (.int .i64 c.m) ∧ W.cell? ⟨b, 4, none⟩ = some (.int .i64 c.t) ∧ W.cell? ⟨b, 5, none⟩ = some (.int .i64 c.s) ∧ W.cell? ⟨b, 6, none⟩ = some (.int .i64 p) ∧ W.cell? ⟨b, 7, none⟩ = some (.int .i64 a) ∧ W.cell? ⟨b, 8, none⟩ = some (.int .u64 x) ∧ W.cell? ⟨b, 9, none⟩ = some (.int .i64 s) ∧ W.cell? ⟨b, 10, none⟩ = some (.int .i64 g) ∧ W.cell? ⟨b, 11, none⟩ = some (.bool h) ∧ W.cell? ⟨b, 12, none⟩ = some (.int .i64 t) :=
  ⟨H.cell 0, H.cell 1, H.cell 2, H.cell 3, H.cell 4, H.cell 5, H.cell 6, H.cell 7, H.cell 8, H.cell 9, H.cell 10, H.cell 11, H.cell 12⟩
theorem rg_frozen {W : World} {b : Nat} {c : Cfg} {p a x s g t : Int} {h : Bool} (H : Row b 73 (rgC c p a x s g h t) W) : W.frozen? ⟨b, 0, none⟩ = false ∧ W.frozen? ⟨b, 1, none⟩ = false ∧ W.frozen? ⟨b, 2, none⟩ = false ∧ W.frozen? ⟨b, 3, none⟩ = false ∧ W.frozen? ⟨b, 4, none⟩ = false ∧ W.frozen? ⟨b, 5, none⟩ = false ∧ W.frozen? ⟨b, 6, none⟩ = false ∧ W.frozen? ⟨b, 7, none⟩ = false ∧ W.frozen? ⟨b, 8, none⟩ = false ∧ W.frozen? ⟨b, 9, none⟩ = false ∧ W.frozen? ⟨b, 10, none⟩ = false ∧ W.frozen? ⟨b, 11, none⟩ = false ∧ W.frozen? ⟨b, 12, none⟩ = false :=
  ⟨H.frozen 0, H.frozen 1, H.frozen 2, H.frozen 3, H.frozen 4, H.frozen 5, H.frozen 6, H.frozen 7, H.frozen 8, H.frozen 9, H.frozen 10, H.frozen 11, H.frozen 12⟩
theorem rgts (b o : Nat) (v : Value) (w : World) : Tch (fun k => k = b) w (w.setCell ⟨b, o, none⟩ v) := (Tch.refl (fun k => k = b) w).setCell (p := ⟨b, o, none⟩) (.inl rfl) _
theorem rg_put {w : World} {b : Nat} {c0 : Cfg} {p0 a0 x0 s0 g0 t0 : Int} {h0 : Bool} (H : Row b 73 (rgC c0 p0 a0 x0 s0 g0 h0 t0) w) (c : Cfg) (p a x s g : Int) (h : Bool) (t : Int) : ∃ W, (((((((((((((w.setCell ⟨b, 0, none⟩ (.int .i64 c.n)).setCell ⟨b, 1, none⟩ (.int .i64 c.q)).setCell ⟨b, 2, none⟩ (.int .i64 c.g)).setCell ⟨b, 3, none⟩ (.int .i64 c.m)).setCell ⟨b, 4, none⟩ (.int .i64 c.t)).setCell ⟨b, 5, none⟩ (.int .i64 c.s)).setCell ⟨b, 6, none⟩ (.int .i64 p)).setCell ⟨b, 7, none⟩ (.int .i64 a)).setCell ⟨b, 8, none⟩ (.int .u64 x)).setCell ⟨b, 9, none⟩ (.int .i64 s)).setCell ⟨b, 10, none⟩ (.int .i64 g)).setCell ⟨b, 11, none⟩ (.bool h)).setCell ⟨b, 12, none⟩ (.int .i64 t)) = W ∧ Row b 73 (rgC c p a x s g h t) W ∧ Tch (fun k => k = b) w W :=
  ⟨_, rfl, (((((((((((((H.set 0 (.int .i64 c.n)).set 1 (.int .i64 c.q)).set 2 (.int .i64 c.g)).set 3 (.int .i64 c.m)).set 4 (.int .i64 c.t)).set 5 (.int .i64 c.s)).set 6 (.int .i64 p)).set 7 (.int .i64 a)).set 8 (.int .u64 x)).set 9 (.int .i64 s)).set 10 (.int .i64 g)).set 11 (.bool h)).set 12 (.int .i64 t)), ((((((((((((rgts b 0 _ _).trans (rgts b 1 _ _)).trans (rgts b 2 _ _)).trans (rgts b 3 _ _)).trans (rgts b 4 _ _)).trans (rgts b 5 _ _)).trans (rgts b 6 _ _)).trans (rgts b 7 _ _)).trans (rgts b 8 _ _)).trans (rgts b 9 _ _)).trans (rgts b 10 _ _)).trans (rgts b 11 _ _)).trans (rgts b 12 _ _)⟩
/-- New's answer -/
def RGNewPost (x : GS) (w : World) (e : Ending) (w' : World) : Prop := e = .returned (rgVal x) ∧ Below w.heap.size w w'
set_option maxRecDepth 20000 in
set_option maxHeartbeats 4000000 in
theorem rgnew_any (c : Cfg) (p : Int) (w : World) : Calls Try.prog 39 #[cVal c, .int .i64 p] w (RGNewPost (newG c p) w) := by
  have HT := Lib.hid (fun W => rthere_any c p W)
  obtain ⟨xx, hxx⟩ : ∃ xx, newG c p = xx := ⟨_, rfl⟩
  rw [hxx]
  obtain ⟨tb, htb⟩ : ∃ tb, thB c p = tb := ⟨_, rfl⟩
  rw [htb] at HT
  have HX0 : Hid ((if tb = true then (⟨c, p, 1, 0, 0, false, 0⟩ : GS) else GS.zero) = xx) := by rw [← hxx, ← htb]; rfl
  obtain ⟨n, q, g', m, t, s⟩ := c
  change Hid (∀ W, Calls Try.prog 67 #[.agg #[.int .i64 n, .int .i64 q, .int .i64 g', .int .i64 m, .int .i64 t, .int .i64 s], .int .i64 p] W _) at HT
  show Calls _ _ #[.agg #[.int .i64 n, .int .i64 q, .int .i64 g', .int .i64 m, .int .i64 t, .int .i64 s], .int .i64 p] _ _
  clear hxx htb
  go_enter Try.func39, Try.ntmps39
  go_upto_region 1 with (fail)
  have hW1 := Row.new w 37 (cCells ⟨n, q, g', m, t, s⟩)
  have hW2 := Row.new' (w.alloc (.cells (cCells ⟨n, q, g', m, t, s⟩).toArray 37)) 73 (rgC cfg0 0 0 0 0 0 false 0) (w.heap.size + 1) (by simp)
  have hB1 := (Below.refl w.heap.size w).alloc (Nat.le_refl _) (.cells (cCells ⟨n, q, g', m, t, s⟩).toArray 37)
  have hB2 := (Below.refl _ (w.alloc (.cells (cCells ⟨n, q, g', m, t, s⟩).toArray 37))).alloc (Nat.le_refl _) (.cells (rgC cfg0 0 0 0 0 0 false 0).toArray 73)
  change Code.wp _ _ _ _ ((w.alloc (.cells (cCells ⟨n, q, g', m, t, s⟩).toArray 37)).alloc (.cells (rgC cfg0 0 0 0 0 0 false 0).toArray 73))
  obtain ⟨W, hW⟩ : ∃ W, (w.alloc (.cells (cCells ⟨n, q, g', m, t, s⟩).toArray 37)).alloc (.cells (rgC cfg0 0 0 0 0 0 false 0).toArray 73) = W := ⟨_, rfl⟩
  have HRs : Hid (Row w.heap.size 37 (cCells ⟨n, q, g', m, t, s⟩) W ∧ Row (w.heap.size + 1) 73 (rgC cfg0 0 0 0 0 0 false 0) W ∧ Below w.heap.size w W) := by
    rw [← hW]
    exact ⟨hW1.on' hB2, hW2, hB1.trans (hB2.mono hB1.size)⟩
  rw [hW]
  obtain ⟨bb, hbb⟩ : ∃ x, w.heap.size + 1 = x := ⟨_, rfl⟩
  rw [hbb] at HRs
  rw [hbb]
  have HBB := Lib.hid hbb
  clear hW1 hW2 hB1 hB2 hW hbb
  have c0 := HRs.out.1.cell 0
  have c1 := HRs.out.1.cell 1
  have c2 := HRs.out.1.cell 2
  have c3 := HRs.out.1.cell 3
  have c4 := HRs.out.1.cell 4
  have c5 := HRs.out.1.cell 5
  simp only [cCells, List.getElem?_cons_zero, List.getElem?_cons_succ] at c0 c1 c2 c3 c4 c5
  go_wp2_with fail
  (with_reducible refine (HT.out _).mono ?_)
  rintro e w3 ⟨rfl, hb3⟩
  have HRs := Lib.hid (And.intro (HRs.out.1.on' hb3) (And.intro (HRs.out.2.1.on' hb3) (HRs.out.2.2.trans (hb3.mono HRs.out.2.2.size))))
  clear hb3 c0 c1 c2 c3 c4 c5
  obtain ⟨d0, d1, d2, d3, d4, d5, d6, d7, d8, d9, da, db, dc⟩ := rg_cells HRs.out.2.1
  obtain ⟨f0, f1, f2, f3, f4, f5, f6, f7, f8, f9, fa, fb, fc⟩ := rg_frozen HRs.out.2.1
  have c0 := HRs.out.1.cell 0
  have c1 := HRs.out.1.cell 1
  have c2 := HRs.out.1.cell 2
  have c3 := HRs.out.1.cell 3
  have c4 := HRs.out.1.cell 4
  have c5 := HRs.out.1.cell 5
  simp only [cCells, cfg0, List.getElem?_cons_zero, List.getElem?_cons_succ] at c0 c1 c2 c3 c4 c5 d0 d1 d2 d3 d4 d5
  have HBx := Lib.hid HRs.out.2.2
  cases tb with
  | false =>
    obtain rfl : GS.zero = xx := by have := HX0.out; rw [if_neg (fun h => by cases h)] at this; exact this
    clear HX0
    go_wp2_with fail
    obtain ⟨W', hW', hr, ht⟩ := rg_put HRs.out.2.1 cfg0 0 0 0 0 0 false 0
    simp only [cfg0] at hW'
    rw [hW']
    obtain ⟨e0, e1, e2, e3, e4, e5, e6, e7, e8, e9, ea, eb, ec⟩ := rg_cells hr
    simp only [cfg0] at e0 e1 e2 e3 e4 e5
    have HE : Hid (Below w.heap.size w W') := HBx.out.trans (ht.below HBx.out.size (fun k hk => by have := HBB.out; omega))
    clear d0 d1 d2 d3 d4 d5 d6 d7 d8 d9 da db dc f0 f1 f2 f3 f4 f5 f6 f7 f8 f9 fa fb fc hW' hr ht c0 c1 c2 c3 c4 c5
    refine bodyPost_ret (v := rgV cfg0 0 0 0 0 0 false 0) (by simp [results, Try.results39, rgV, cfg0, go_sem, e0, e1, e2, e3, e4, e5, e6, e7, e8, e9, ea, eb, ec]) rfl ?_
    exact ⟨rfl, HE.out⟩
  | true =>
    obtain rfl : (⟨⟨n, q, g', m, t, s⟩, p, 1, 0, 0, false, 0⟩ : GS) = xx := by have := HX0.out; rw [if_pos rfl] at this; exact this
    clear HX0
    go_wp2_with fail
    obtain ⟨W', hW', hr, ht⟩ := rg_put HRs.out.2.1 ⟨n, q, g', m, t, s⟩ p 1 0 0 0 false 0
    simp only [cfg0] at hW'
    rw [hW']
    obtain ⟨e0, e1, e2, e3, e4, e5, e6, e7, e8, e9, ea, eb, ec⟩ := rg_cells hr
    simp only [cfg0] at e0 e1 e2 e3 e4 e5
    have HE : Hid (Below w.heap.size w W') := HBx.out.trans (ht.below HBx.out.size (fun k hk => by have := HBB.out; omega))
    clear d0 d1 d2 d3 d4 d5 d6 d7 d8 d9 da db dc f0 f1 f2 f3 f4 f5 f6 f7 f8 f9 fa fb fc hW' hr ht c0 c1 c2 c3 c4 c5
    refine bodyPost_ret (v := rgV ⟨n, q, g', m, t, s⟩ p 1 0 0 0 false 0) (by simp [results, Try.results39, rgV, go_sem, e0, e1, e2, e3, e4, e5, e6, e7, e8, e9, ea, eb, ec]) rfl ?_
    exact ⟨rfl, HE.out⟩

end Go.Proofs.Ytkhfanhboooilaa
