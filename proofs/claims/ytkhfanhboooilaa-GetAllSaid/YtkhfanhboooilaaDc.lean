/- Filled, whatever the config; Made (layer 9). -/
import Derived.Test.YtkhfanhboooilaaDf
import Derived.Test.YtkhfanhboooilaaBb
import Derived.Deep.QuietTactic
import Derived.BigQuiet
import Derived.StillTailTactics
import Derived.Deep.RegionHeld3
set_option linter.unusedSimpArgs false
set_option linter.unusedVariables false
namespace Go.Proofs.Ytkhfanhboooilaa
open Go.RowKit Go.Cg Go.Pu Go.Wd Go.Ce

theorem filled_any (c : Cfg) (pb : Option Addr) (cb : Nat) (bs : List Int) (hbs : bs.length ≤ 1000000) (w : World) (hby : Byts w pb bs) : Calls Try.prog 13 #[cVal c, .slice pb bs.length cb] w (FilledPost c w) := by
  by_cases hR : Right c
  · obtain ⟨a, b, g, m, t, s, rfl, -⟩ := hR.small
    exact filled_right a b g m t s hR pb cb bs hbs w hby
  · exact filled_wrong c hR _ ⟨_, _, _, rfl⟩ w
/-- a config that is right, and small -/
structure Small (N Q G M T S : Nat) : Prop where
  right : Right ⟨N, Q, G, M, T, S⟩
  n : 1 ≤ N ∧ N ≤ 4
  q : Q = 2 ∨ Q = 4 ∨ Q = 8
def MadeCP (w : World) (e : Ending) (w' : World) : Prop := ∃ N Q G M T S : Nat, e = .returned (.agg #[.int .i64 N, .int .i64 Q, .int .i64 G, .int .i64 M, .int .i64 T, .int .i64 S]) ∧ Hid (Small N Q G M T S) ∧ Hid (Below w.heap.size w w')
/-- Pick, its answer named ahead -/
theorem pick_det (i : Int) (n : Nat) (h1 : -9223372036854775808 ≤ i ∧ i ≤ 9223372036854775807) (hn : 1 ≤ n ∧ n ≤ 1000000000) : ∃ k : Nat, k < n ∧ Hid (∀ W : World, Calls Try.prog 43 #[.int .i64 i, .int .i64 n] W (fun e w' => e = .returned (.int .i64 k) ∧ w' = W)) := by
  have b1 := Int.emod_nonneg i (show (n : Int) ≠ 0 by omega)
  have b2 := Int.emod_lt_of_pos i (show (0 : Int) < n by omega)
  refine ⟨(i % n).toNat, by omega, fun W => ?_⟩
  rw [show ((i % n).toNat : Int) = i % n by omega]
  exact (pick_any i n h1.1 h1.2 hn.1 hn.2 W).mono (fun e w' h => ⟨h.1, h.2.symm⟩)
/-- the six stores into the result's box -/
theorem madeC_row {w w1 : World} {bb : Nat} (hr : Row bb 23 (cCells cfg0) w1) (hb : Below w.heap.size w w1) (hg : w.heap.size ≤ bb) (a0 a1 a2 a3 a4 a5 : Int) : ∃ W, ((((((w1.setCell ⟨bb, 0, none⟩ (.int .i64 a0)).setCell ⟨bb, 1, none⟩ (.int .i64 a1)).setCell ⟨bb, 2, none⟩ (.int .i64 a2)).setCell ⟨bb, 3, none⟩ (.int .i64 a3)).setCell ⟨bb, 4, none⟩ (.int .i64 a4)).setCell ⟨bb, 5, none⟩ (.int .i64 a5)).drew = W ∧ Row bb 23 (cCells ⟨a0, a1, a2, a3, a4, a5⟩) W ∧ Below w.heap.size w W :=
  ⟨_, rfl, ((((((hr.set 0 (.int .i64 a0)).set 1 (.int .i64 a1)).set 2 (.int .i64 a2)).set 3 (.int .i64 a3)).set 4 (.int .i64 a4)).set 5 (.int .i64 a5)).drew, ((((((hb.setCell (p := ⟨bb, 0, none⟩) hg _).setCell (p := ⟨bb, 1, none⟩) hg _).setCell (p := ⟨bb, 2, none⟩) hg _).setCell (p := ⟨bb, 3, none⟩) hg _).setCell (p := ⟨bb, 4, none⟩) hg _).setCell (p := ⟨bb, 5, none⟩) hg _).drew⟩
theorem small_of (k0 k2 k3 k4 k5 Q : Nat) (h0 : k0 < 4) (h2 : k2 < 20) (h3 : k3 < 3) (h4 : k4 < 6) (h5 : k5 < 3) (hQ : Q = 2 ∨ Q = 4 ∨ Q = 8) : Small (1 + k0) Q (1 + k2) (1 + k0 + 1 + k3) (2 + k4) k5 := by
  refine ⟨⟨?_, ?_, ?_, ?_, ?_, ?_⟩, by omega, hQ⟩ <;> simp only <;> omega
set_option maxRecDepth 100000 in
set_option maxHeartbeats 400000 in
theorem made_any (n q g m t s : Int) (hc : ∀ z ∈ [n, q, g, m, t, s], -9223372036854775808 ≤ z ∧ z ≤ 9223372036854775807) (w : World) : Calls Try.prog 32 #[.agg #[.int .i64 n, .int .i64 q, .int .i64 g, .int .i64 m, .int .i64 t, .int .i64 s]] w (MadeCP w) := by
  obtain ⟨k0, hk0, P0⟩ := pick_det n 4 (hc n (by simp)) (by decide)
  obtain ⟨k1, hk1, P1⟩ := pick_det q 3 (hc q (by simp)) (by decide)
  obtain ⟨k2, hk2, P2⟩ := pick_det g 20 (hc g (by simp)) (by decide)
  obtain ⟨k3, hk3, P3⟩ := pick_det m 3 (hc m (by simp)) (by decide)
  obtain ⟨k4, hk4, P4⟩ := pick_det t 6 (hc t (by simp)) (by decide)
  obtain ⟨k5, hk5, P5⟩ := pick_det s 3 (hc s (by simp)) (by decide)
  clear hc
  go_enter Try.func32, Try.ntmps32
  go_wp2_with fail
  have hW1 := Row.new w 23 (cCells ⟨n, q, g, m, t, s⟩)
  have hW2 := Row.new' (w.alloc (.cells (cCells ⟨n, q, g, m, t, s⟩).toArray 23)) 23 (cCells cfg0) (w.heap.size + 1) (by simp)
  have hB1 := (Below.refl w.heap.size w).alloc (Nat.le_refl _) (.cells (cCells ⟨n, q, g, m, t, s⟩).toArray 23)
  have hB2 := (Below.refl _ (w.alloc (.cells (cCells ⟨n, q, g, m, t, s⟩).toArray 23))).alloc (Nat.le_refl _) (.cells (cCells cfg0).toArray 23)
  obtain ⟨W, hW⟩ : ∃ W, (w.alloc (.cells #[.int .i64 n, .int .i64 q, .int .i64 g, .int .i64 m, .int .i64 t, .int .i64 s] 23)).alloc (.cells #[.int .i64 0, .int .i64 0, .int .i64 0, .int .i64 0, .int .i64 0, .int .i64 0] 23) = W := ⟨_, rfl⟩
  have HRs : Hid (Row w.heap.size 23 (cCells ⟨n, q, g, m, t, s⟩) W ∧ Row (w.heap.size + 1) 23 (cCells cfg0) W ∧ Below w.heap.size w W) := by
    rw [← hW]
    exact ⟨hW1.on' hB2, hW2, hB1.trans (hB2.mono hB1.size)⟩
  rw [hW]
  obtain ⟨bb, hbb⟩ : ∃ x, w.heap.size + 1 = x := ⟨_, rfl⟩
  rw [hbb] at HRs
  rw [hbb]
  have HBB := Lib.hid hbb
  clear hW1 hW2 hB1 hB2 hW hbb
  have c0 := HRs.out.1.cell 0
  have c1 := HRs.out.1.cell 1
  have c2 := HRs.out.1.cell 2
  have c3 := HRs.out.1.cell 3
  have c4 := HRs.out.1.cell 4
  have c5 := HRs.out.1.cell 5
  simp only [cCells, List.getElem?_cons_zero, List.getElem?_cons_succ] at c0 c1 c2 c3 c4 c5
  refine (P0.out _).mono ?_
  rintro e w1 ⟨rfl, rfl⟩
  go_wp2_with fail
  have d0 := HRs.out.2.1.cell 0
  have d1 := HRs.out.2.1.cell 1
  have d2 := HRs.out.2.1.cell 2
  have d3 := HRs.out.2.1.cell 3
  have d4 := HRs.out.2.1.cell 4
  have d5 := HRs.out.2.1.cell 5
  simp only [cCells, cfg0, List.getElem?_cons_zero, List.getElem?_cons_succ] at d0 d1 d2 d3 d4 d5
  have f0 := HRs.out.2.1.frozen 0
  have f1 := HRs.out.2.1.frozen 1
  have f2 := HRs.out.2.1.frozen 2
  have f3 := HRs.out.2.1.frozen 3
  have f4 := HRs.out.2.1.frozen 4
  have f5 := HRs.out.2.1.frozen 5
  have hq : k1 = 0 ∨ k1 = 1 ∨ k1 = 2 := by omega
  rcases hq with rfl | rfl | rfl
  · clear hk1
    go_still_tail 23, (by kernel_rfl)
    still_call (P1.out _)
    iterate 3 still_step
    still_call (P2.out _)
    iterate 5 still_step
    still_call (P3.out _)
    iterate 3 still_step
    still_call (P4.out _)
    iterate 3 still_step
    still_call (P5.out _)
    still_step
    refine wpStill_nil ?_
    change wpList _ _ _ _ _ w1.drew
    go_wp2_with fail
    obtain ⟨W', hW', hr, hb⟩ := madeC_row HRs.out.2.1 HRs.out.2.2 (Nat.le_of_lt (Nat.lt_of_lt_of_le (Nat.lt_succ_self _) (Nat.le_of_eq HBB.out))) (1 + (k0 : Int)) 2 (1 + (k2 : Int)) (1 + (k0 : Int) + 1 + (k3 : Int)) (2 + (k4 : Int)) (k5 : Int)
    rw [hW']
    have HBe := Lib.hid hb
    have HSm := Lib.hid (small_of k0 k2 k3 k4 k5 2 hk0 hk2 hk3 hk4 hk5 (by decide))
    have e0 := hr.cell 0
    have e1 := hr.cell 1
    have e2 := hr.cell 2
    have e3 := hr.cell 3
    have e4 := hr.cell 4
    have e5 := hr.cell 5
    simp only [cCells, List.getElem?_cons_zero, List.getElem?_cons_succ] at e0 e1 e2 e3 e4 e5
    clear hr hb hW' c0 c1 c2 c3 c4 c5 d0 d1 d2 d3 d4 d5 f0 f1 f2 f3 f4 f5
    refine bodyPost_ret (v := .agg #[.int .i64 (1 + (k0 : Int)), .int .i64 2, .int .i64 (1 + (k2 : Int)), .int .i64 (1 + (k0 : Int) + 1 + (k3 : Int)), .int .i64 (2 + (k4 : Int)), .int .i64 (k5 : Int)]) (by simp [results, Try.results32, go_sem, e0, e1, e2, e3, e4, e5]) rfl ?_
    exact ⟨1 + k0, 2, 1 + k2, 1 + k0 + 1 + k3, 2 + k4, k5, by simp only [Int.natCast_add]; rfl, HSm.out, HBe.out⟩
  · clear hk1
    go_still_tail 23, (by kernel_rfl)
    still_call (P1.out _)
    iterate 3 still_step
    still_call (P2.out _)
    iterate 5 still_step
    still_call (P3.out _)
    iterate 3 still_step
    still_call (P4.out _)
    iterate 3 still_step
    still_call (P5.out _)
    still_step
    refine wpStill_nil ?_
    change wpList _ _ _ _ _ w1.drew
    go_wp2_with fail
    obtain ⟨W', hW', hr, hb⟩ := madeC_row HRs.out.2.1 HRs.out.2.2 (Nat.le_of_lt (Nat.lt_of_lt_of_le (Nat.lt_succ_self _) (Nat.le_of_eq HBB.out))) (1 + (k0 : Int)) 4 (1 + (k2 : Int)) (1 + (k0 : Int) + 1 + (k3 : Int)) (2 + (k4 : Int)) (k5 : Int)
    rw [hW']
    have HBe := Lib.hid hb
    have HSm := Lib.hid (small_of k0 k2 k3 k4 k5 4 hk0 hk2 hk3 hk4 hk5 (by decide))
    have e0 := hr.cell 0
    have e1 := hr.cell 1
    have e2 := hr.cell 2
    have e3 := hr.cell 3
    have e4 := hr.cell 4
    have e5 := hr.cell 5
    simp only [cCells, List.getElem?_cons_zero, List.getElem?_cons_succ] at e0 e1 e2 e3 e4 e5
    clear hr hb hW' c0 c1 c2 c3 c4 c5 d0 d1 d2 d3 d4 d5 f0 f1 f2 f3 f4 f5
    refine bodyPost_ret (v := .agg #[.int .i64 (1 + (k0 : Int)), .int .i64 4, .int .i64 (1 + (k2 : Int)), .int .i64 (1 + (k0 : Int) + 1 + (k3 : Int)), .int .i64 (2 + (k4 : Int)), .int .i64 (k5 : Int)]) (by simp [results, Try.results32, go_sem, e0, e1, e2, e3, e4, e5]) rfl ?_
    exact ⟨1 + k0, 4, 1 + k2, 1 + k0 + 1 + k3, 2 + k4, k5, by simp only [Int.natCast_add]; rfl, HSm.out, HBe.out⟩
  · clear hk1
    go_still_tail 23, (by kernel_rfl)
    still_call (P1.out _)
    iterate 3 still_step
    still_call (P2.out _)
    iterate 5 still_step
    still_call (P3.out _)
    iterate 3 still_step
    still_call (P4.out _)
    iterate 3 still_step
    still_call (P5.out _)
    still_step
    refine wpStill_nil ?_
    change wpList _ _ _ _ _ w1.drew
    go_wp2_with fail
    obtain ⟨W', hW', hr, hb⟩ := madeC_row HRs.out.2.1 HRs.out.2.2 (Nat.le_of_lt (Nat.lt_of_lt_of_le (Nat.lt_succ_self _) (Nat.le_of_eq HBB.out))) (1 + (k0 : Int)) 8 (1 + (k2 : Int)) (1 + (k0 : Int) + 1 + (k3 : Int)) (2 + (k4 : Int)) (k5 : Int)
    rw [hW']
    have HBe := Lib.hid hb
    have HSm := Lib.hid (small_of k0 k2 k3 k4 k5 8 hk0 hk2 hk3 hk4 hk5 (by decide))
    have e0 := hr.cell 0
    have e1 := hr.cell 1
    have e2 := hr.cell 2
    have e3 := hr.cell 3
    have e4 := hr.cell 4
    have e5 := hr.cell 5
    simp only [cCells, List.getElem?_cons_zero, List.getElem?_cons_succ] at e0 e1 e2 e3 e4 e5
    clear hr hb hW' c0 c1 c2 c3 c4 c5 d0 d1 d2 d3 d4 d5 f0 f1 f2 f3 f4 f5
    refine bodyPost_ret (v := .agg #[.int .i64 (1 + (k0 : Int)), .int .i64 8, .int .i64 (1 + (k2 : Int)), .int .i64 (1 + (k0 : Int) + 1 + (k3 : Int)), .int .i64 (2 + (k4 : Int)), .int .i64 (k5 : Int)]) (by simp [results, Try.results32, go_sem, e0, e1, e2, e3, e4, e5]) rfl ?_
    exact ⟨1 + k0, 8, 1 + k2, 1 + k0 + 1 + k3, 2 + k4, k5, by simp only [Int.natCast_add]; rfl, HSm.out, HBe.out⟩
/-- the documents' Config: the same six numbers -/
theorem docs_any (c : Cfg) (w : World) : Calls Try.prog 16 #[cVal c] w (Ans (cVal c) w) := by
  obtain ⟨n, q, g, m, t, s⟩ := c
  show Calls _ _ #[.agg #[.int .i64 n, .int .i64 q, .int .i64 g, .int .i64 m, .int .i64 t, .int .i64 s]] _ _
  go_enter Try.func16, Try.ntmps16
  go_wp2_with fail
  exact bodyPost_ret (v := .agg #[.int .i64 n, .int .i64 q, .int .i64 g, .int .i64 m, .int .i64 t, .int .i64 s]) (by simp [results, Try.results16, go_sem, *]) rfl ⟨rfl, (((Below.refl _ _).alloc (Nat.le_refl _) _).alloc (by simp) _)⟩
end Go.Proofs.Ytkhfanhboooilaa
