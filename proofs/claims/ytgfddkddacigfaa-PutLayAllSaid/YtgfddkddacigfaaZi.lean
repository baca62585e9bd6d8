/- ringOf and New (layer 9's code). -/
import Derived.Test.YtgfddkddacigfaaZh
set_option linter.unusedSimpArgs false
set_option linter.unusedVariables false
namespace Go.Proofs.Ytgfddkddacigfaa
open Go.RowKit Go.Cg Go.Pu Go.Wd Go.Ce

def rgVal (c : Cfg) (p a : Int) (s : Nat) (k : Int) : Value := .agg #[.int .i64 c.n, .int .i64 c.q, .int .i64 c.g, .int .i64 c.m, .int .i64 c.t, .int .i64 c.s, .int .i64 p, .int .i64 a, .int .u64 s, .int .i64 k]
theorem rg_frozen {W : World} {b : Nat} {t : TypeId} {c : Cfg} {p a : Int} {s : Nat} {k : Int} {rest : List Value} (h : Row b t (rgV c p a s k rest) W) : W.frozen? ⟨b, 0, none⟩ = false ∧ W.frozen? ⟨b, 1, none⟩ = false ∧ W.frozen? ⟨b, 2, none⟩ = false ∧ W.frozen? ⟨b, 3, none⟩ = false ∧ W.frozen? ⟨b, 4, none⟩ = false ∧ W.frozen? ⟨b, 5, none⟩ = false ∧ W.frozen? ⟨b, 6, none⟩ = false ∧ W.frozen? ⟨b, 7, none⟩ = false ∧ W.frozen? ⟨b, 8, none⟩ = false ∧ W.frozen? ⟨b, 9, none⟩ = false :=
  ⟨h.frozen 0, h.frozen 1, h.frozen 2, h.frozen 3, h.frozen 4, h.frozen 5, h.frozen 6, h.frozen 7, h.frozen 8, h.frozen 9⟩
theorem rg_put {w : World} {b : Nat} {t : TypeId} {c0 : Cfg} {p0 a0 : Int} {s0 : Nat} {k0 : Int} {rest : List Value} (h : Row b t (rgV c0 p0 a0 s0 k0 rest) w) (c : Cfg) (p a : Int) (s : Nat) (k : Int) : ∃ W, ((((((((((w.setCell ⟨b, 0, none⟩ (.int .i64 c.n)).setCell ⟨b, 1, none⟩ (.int .i64 c.q)).setCell ⟨b, 2, none⟩ (.int .i64 c.g)).setCell ⟨b, 3, none⟩ (.int .i64 c.m)).setCell ⟨b, 4, none⟩ (.int .i64 c.t)).setCell ⟨b, 5, none⟩ (.int .i64 c.s)).setCell ⟨b, 6, none⟩ (.int .i64 p)).setCell ⟨b, 7, none⟩ (.int .i64 a)).setCell ⟨b, 8, none⟩ (.int .u64 s)).setCell ⟨b, 9, none⟩ (.int .i64 k)) = W ∧ Row b t (rgV c p a s k rest) W ∧ Tch (fun k => k = b) w W :=
  ⟨_, rfl, ((((((((((h.set 0 (.int .i64 c.n)).set 1 (.int .i64 c.q)).set 2 (.int .i64 c.g)).set 3 (.int .i64 c.m)).set 4 (.int .i64 c.t)).set 5 (.int .i64 c.s)).set 6 (.int .i64 p)).set 7 (.int .i64 a)).set 8 (.int .u64 s)).set 9 (.int .i64 k)), (((((((((tset b 0 _ _).trans (tset b 1 _ _)).trans (tset b 2 _ _)).trans (tset b 3 _ _)).trans (tset b 4 _ _)).trans (tset b 5 _ _)).trans (tset b 6 _ _)).trans (tset b 7 _ _)).trans (tset b 8 _ _)).trans (tset b 9 _ _)⟩
set_option maxRecDepth 20000 in
set_option maxHeartbeats 4000000 in
theorem ringof_any (c : Cfg) (p : Int) (w : World) : Calls Try.prog 49 #[cVal c, .int .i64 p] w (Ans (if thB c p = true then rgVal c p 1 0 0 else rgVal cfg0 0 0 0 0) w) := by
  have HW := Lib.hid (fun W => word_any c p W)
  obtain ⟨res, hres⟩ : ∃ v, (if thB c p = true then rgVal c p 1 0 0 else rgVal cfg0 0 0 0 0) = v := ⟨_, rfl⟩
  rw [hres]
  obtain ⟨z, hz⟩ : ∃ z, plV c p 0 = z := ⟨_, rfl⟩
  rw [hz] at HW
  have hzB : (thB c p = true ∧ ¬ z < 0) ∨ (thB c p = false ∧ z < 0) := by
    by_cases hth : Right c ∧ 0 ≤ p ∧ p < c.n
    · refine .inl ⟨thB_iff.2 hth, ?_⟩
      have h2 := pl_lt (k := 0) hth (by omega) (by have := hth.1.q; omega)
      rw [← hz, plV_yes hth]
      simp only [Int.natCast_zero] at h2 ⊢
      omega
    · refine .inr ⟨by cases h : thB c p with | false => rfl | true => exact absurd (thB_iff.1 h) hth, ?_⟩
      rw [← hz, plV_no hth]; omega
  have HR := Lib.hid hres
  have HZ := Lib.hid hzB
  obtain ⟨n, q, g, m, t, s⟩ := c
  change Hid (∀ W, Calls Try.prog 37 #[.agg #[.int .i64 n, .int .i64 q, .int .i64 g, .int .i64 m, .int .i64 t, .int .i64 s], .int .i64 p] W _) at HW
  show Calls _ _ #[.agg #[.int .i64 n, .int .i64 q, .int .i64 g, .int .i64 m, .int .i64 t, .int .i64 s], .int .i64 p] _ _
  clear hz hres hzB
  go_enter Try.func49, Try.ntmps49
  go_wp2_with fail
  have hW1 := Row.new w 23 (cCells ⟨n, q, g, m, t, s⟩)
  have hW2 := Row.new' (w.alloc (.cells (cCells ⟨n, q, g, m, t, s⟩).toArray 23)) 75 (rgV cfg0 0 0 0 0 []) (w.heap.size + 1) (by simp)
  have hB1 := (Below.refl w.heap.size w).alloc (Nat.le_refl _) (.cells (cCells ⟨n, q, g, m, t, s⟩).toArray 23)
  have hB2 := (Below.refl _ (w.alloc (.cells (cCells ⟨n, q, g, m, t, s⟩).toArray 23))).alloc (Nat.le_refl _) (.cells (rgV cfg0 0 0 0 0 []).toArray 75)
  obtain ⟨W, hW⟩ : ∃ W, (w.alloc (.cells #[.int .i64 n, .int .i64 q, .int .i64 g, .int .i64 m, .int .i64 t, .int .i64 s] 23)).alloc (.cells #[.int .i64 0, .int .i64 0, .int .i64 0, .int .i64 0, .int .i64 0, .int .i64 0, .int .i64 0, .int .i64 0, .int .u64 0, .int .i64 0] 75) = W := ⟨_, rfl⟩
  have HRs : Hid (Row w.heap.size 23 (cCells ⟨n, q, g, m, t, s⟩) W ∧ Row (w.heap.size + 1) 75 (rgV cfg0 0 0 0 0 []) W ∧ Below w.heap.size w W) := by
    rw [← hW]
    exact ⟨hW1.on' hB2, hW2, hB1.trans (hB2.mono hB1.size)⟩
  rw [hW]
  obtain ⟨bb, hbb⟩ : ∃ x, w.heap.size + 1 = x := ⟨_, rfl⟩
  rw [hbb] at HRs
  rw [hbb]
  have HBB := Lib.hid hbb
  clear hW1 hW2 hB1 hB2 hW hbb
  (with_reducible refine (HW.out _).mono ?_)
  rintro e w3 ⟨rfl, hb3⟩
  have HRs := Lib.hid (And.intro (HRs.out.1.on' hb3) (And.intro (HRs.out.2.1.on' hb3) (HRs.out.2.2.trans (hb3.mono HRs.out.2.2.size))))
  clear hb3
  obtain ⟨d0, d1, d2, d3, d4, d5, d6, d7, d8, d9⟩ := rg_cells HRs.out.2.1
  obtain ⟨f0, f1, f2, f3, f4, f5, f6, f7, f8, f9⟩ := rg_frozen HRs.out.2.1
  have c0 := HRs.out.1.cell 0
  have c1 := HRs.out.1.cell 1
  have c2 := HRs.out.1.cell 2
  have c3 := HRs.out.1.cell 3
  have c4 := HRs.out.1.cell 4
  have c5 := HRs.out.1.cell 5
  simp only [cCells, cfg0, List.getElem?_cons_zero, List.getElem?_cons_succ] at c0 c1 c2 c3 c4 c5 d0 d1 d2 d3 d4 d5
  have HBx := Lib.hid HRs.out.2.2
  have hZ := HZ.out
  rcases hZ with ⟨hth, hz⟩ | ⟨hth, hz⟩
  · have HE1 : Hid (rgVal ⟨n, q, g, m, t, s⟩ p 1 0 0 = res) := by have := HR.out; rw [if_pos hth] at this; exact this
    clear hth
    go_wp2_with fail
    obtain ⟨W', hW', hr, ht⟩ := rg_put HRs.out.2.1 ⟨n, q, g, m, t, s⟩ p 1 0 0
    simp only [cfg0, Int.natCast_zero] at hW'
    rw [hW']
    obtain ⟨e0, e1, e2, e3, e4, e5, e6, e7, e8, e9⟩ := rg_cells hr
    simp only [cfg0] at e0 e1 e2 e3 e4 e5 e6 e7 e8 e9
    have HE : Hid (Below w.heap.size w W') := HBx.out.trans (ht.below HBx.out.size (fun k hk => by have := HBB.out; omega))
    clear d0 d1 d2 d3 d4 d5 d6 d7 d8 d9 f0 f1 f2 f3 f4 f5 f6 f7 f8 f9 hW' hr ht c0 c1 c2 c3 c4 c5
    refine bodyPost_ret (v := rgVal ⟨n, q, g, m, t, s⟩ p 1 0 0) (by simp [results, Try.results49, rgVal, cfg0, go_sem, e0, e1, e2, e3, e4, e5, e6, e7, e8, e9]) rfl ?_
    exact ⟨by rw [HE1.out], HE.out⟩
  · have HE1 : Hid (rgVal cfg0 0 0 0 0 = res) := by have := HR.out; rw [if_neg (by rw [hth]; decide)] at this; exact this
    clear hth
    go_wp2_with fail
    obtain ⟨W', hW', hr, ht⟩ := rg_put HRs.out.2.1 cfg0 0 0 0 0
    simp only [cfg0, Int.natCast_zero] at hW'
    rw [hW']
    obtain ⟨e0, e1, e2, e3, e4, e5, e6, e7, e8, e9⟩ := rg_cells hr
    simp only [cfg0] at e0 e1 e2 e3 e4 e5 e6 e7 e8 e9
    have HE : Hid (Below w.heap.size w W') := HBx.out.trans (ht.below HBx.out.size (fun k hk => by have := HBB.out; omega))
    clear d0 d1 d2 d3 d4 d5 d6 d7 d8 d9 f0 f1 f2 f3 f4 f5 f6 f7 f8 f9 hW' hr ht c0 c1 c2 c3 c4 c5
    refine bodyPost_ret (v := rgVal cfg0 0 0 0 0) (by simp [results, Try.results49, rgVal, cfg0, go_sem, e0, e1, e2, e3, e4, e5, e6, e7, e8, e9]) rfl ?_
    exact ⟨by rw [HE1.out], HE.out⟩
end Go.Proofs.Ytgfddkddacigfaa
