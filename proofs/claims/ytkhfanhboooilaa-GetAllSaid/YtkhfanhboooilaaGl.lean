/- The law's rings (layer 10), walked. -/
import Derived.Test.YtkhfanhboooilaaGd
import Derived.Test.YtkhfanhboooilaaBa
import Derived.Test.YtkhfanhboooilaaBf
set_option linter.unusedSimpArgs false
set_option linter.unusedVariables false
namespace Go.Proofs.Ytkhfanhboooilaa
open Go.RowKit Go.Cg Go.Pu Go.Wd Go.Ce

/-- the config's box, and the memory -/
structure RgG (w0 W : World) (r bb b g : Nat) (m : PM) : Prop where
  res : Row r 23 (cCells cfg0) W
  box : Row bb 23 (cCells cGk) W
  mem : MemIs W b g m
  bel : Below w0.heap.size w0 W
  ge : w0.heap.size ≤ r ∧ r < bb ∧ bb < b ∧ bb < g
theorem RgG.on {w0 W W' : World} {r bb b g : Nat} {m : PM} (h : RgG w0 W r bb b g m) (hb : Below W.heap.size W W') : RgG w0 W' r bb b g m := ⟨h.res.on' hb, h.box.on' hb, h.mem.on hb, h.bel.trans (hb.mono h.bel.size), h.ge⟩
theorem RgG.mem' {w0 W W' : World} {r bb b g : Nat} {m m' : PM} (h : RgG w0 W r bb b g m) (hm : MemIs W' b g m') (ht : Tch (Own b g) W W') : RgG w0 W' r bb b g m' := by
  have hg := h.ge
  have hn : ∀ k, k ≤ bb → ¬ Own b g k := fun k hk e => by rcases e with e | e <;> omega
  exact ⟨h.res.tch ht (hn r (by omega)), h.box.tch ht (hn bb (Nat.le_refl _)), hm, h.bel.trans (ht.below h.bel.size (fun k hk => by rcases hk with hk | hk <;> omega)), hg⟩
theorem RgG.six {w0 W : World} {r bb b g : Nat} {m : PM} (h : RgG w0 W r bb b g m) : W.cell? ⟨bb, 0, none⟩ = some (.int .i64 2) ∧ W.cell? ⟨bb, 1, none⟩ = some (.int .i64 4) ∧ W.cell? ⟨bb, 2, none⟩ = some (.int .i64 9) ∧ W.cell? ⟨bb, 3, none⟩ = some (.int .i64 3) ∧ W.cell? ⟨bb, 4, none⟩ = some (.int .i64 2) ∧ W.cell? ⟨bb, 5, none⟩ = some (.int .i64 0) :=
  ⟨h.box.cell 0, h.box.cell 1, h.box.cell 2, h.box.cell 3, h.box.cell 4, h.box.cell 5⟩
def GRingLP (w : World) (e : Ending) (w' : World) : Prop := ∃ b g, e = .returned (.tuple #[.agg #[.int .i64 2, .int .i64 4, .int .i64 9, .int .i64 3, .int .i64 2, .int .i64 0], gptr b]) ∧ Hid (MemIs w' b g mGk) ∧ Hid (w.heap.size ≤ b ∧ w.heap.size ≤ g) ∧ Hid (Below w.heap.size w w')
set_option maxRecDepth 100000 in
set_option maxHeartbeats 2000000 in
theorem gringlaw_any (w : World) : Calls Try.prog 93 #[] w (GRingLP w) := by
  have HCl : Hid (∀ W, Calls Try.prog 57 #[.agg #[.int .i64 2, .int .i64 4, .int .i64 9, .int .i64 3, .int .i64 2, .int .i64 0]] W (Ans (.int .i64 24) W)) := fun W => by
    have := ccells_any cGk W
    rw [ccG] at this
    exact this
  have HWd : Hid (∀ W, Calls Try.prog 33 #[.agg #[.int .i64 2, .int .i64 4, .int .i64 9, .int .i64 3, .int .i64 2, .int .i64 0], .int .i64 1] W (Ans (.int .i64 14) W)) := fun W => by
    have := word_any cGk 1 W
    rw [plV_yes thG] at this
    exact this
  have HSl : Hid (∀ (i : Nat) (W : World), i < 4294967296 → Calls Try.prog 60 #[.agg #[.int .i64 2, .int .i64 4, .int .i64 9, .int .i64 3, .int .i64 2, .int .i64 0], .int .i64 1, .int .u32 i] W (Ans (.int .i64 (20 + (i : Int) % 4)) W)) := fun i W hi => by
    have := cslot_any cGk 1 i hi W
    rw [slP_yes thG] at this
    exact this
  have HS0 : Hid (∀ W, Calls Try.prog 60 #[.agg #[.int .i64 2, .int .i64 4, .int .i64 9, .int .i64 3, .int .i64 2, .int .i64 0], .int .i64 1, .int .u32 0] W (Ans (.int .i64 20) W)) := fun W => HSl.out 0 W (by decide)
  have HS1 : Hid (∀ W, Calls Try.prog 60 #[.agg #[.int .i64 2, .int .i64 4, .int .i64 9, .int .i64 3, .int .i64 2, .int .i64 0], .int .i64 1, .int .u32 1] W (Ans (.int .i64 21) W)) := fun W => HSl.out 1 W (by decide)
  have HNew := Lib.hid (fun W => new_any 24 24 (by decide) W)
  clear HSl
  go_enter Try.func93, Try.ntmps93
  go_upto_region 2 with (fail)
  have hW1 := Row.new w 23 (cCells cfg0)
  have hW2 := Row.new' (w.alloc (.cells (cCells cfg0).toArray 23)) 23 (cCells cGk) (w.heap.size + 1) (by simp)
  have hB1 := (Below.refl w.heap.size w).alloc (Nat.le_refl _) (.cells (cCells cfg0).toArray 23)
  have hB2 := (Below.refl _ (w.alloc (.cells (cCells cfg0).toArray 23))).alloc (Nat.le_refl _) (.cells (cCells cGk).toArray 23)
  obtain ⟨W, hW⟩ : ∃ W, (w.alloc (.cells #[.int .i64 0, .int .i64 0, .int .i64 0, .int .i64 0, .int .i64 0, .int .i64 0] 23)).alloc (.cells #[.int .i64 2, .int .i64 4, .int .i64 9, .int .i64 3, .int .i64 2, .int .i64 0] 23) = W := ⟨_, rfl⟩
  have HRs : Hid (Row w.heap.size 23 (cCells cfg0) W ∧ Row (w.heap.size + 1) 23 (cCells cGk) W ∧ Below w.heap.size w W ∧ w.heap.size + 1 < W.heap.size) := by
    rw [← hW]
    exact ⟨hW1.on' hB2, hW2, hB1.trans (hB2.mono hB1.size), by simp⟩
  rw [hW]
  obtain ⟨bb, hbb⟩ : ∃ x, w.heap.size + 1 = x := ⟨_, rfl⟩
  rw [hbb] at HRs
  rw [hbb]
  have HBB := Lib.hid hbb
  clear hW1 hW2 hB1 hB2 hW hbb
  have c0 := HRs.out.2.1.cell 0
  have c1 := HRs.out.2.1.cell 1
  have c2 := HRs.out.2.1.cell 2
  have c3 := HRs.out.2.1.cell 3
  have c4 := HRs.out.2.1.cell 4
  have c5 := HRs.out.2.1.cell 5
  simp only [cCells, cGk, List.getElem?_cons_zero, List.getElem?_cons_succ] at c0 c1 c2 c3 c4 c5
  go_upto_region 3 with (first
    | (go_at_call 57; (with_reducible refine (HCl.out _).mono ?_); rintro e wq ⟨rfl, hbq⟩; have HRs := Lib.hid (And.intro (HRs.out.1.on' hbq) (And.intro (HRs.out.2.1.on' hbq) (And.intro (HRs.out.2.2.1.trans (hbq.mono HRs.out.2.2.1.size)) (Nat.lt_of_lt_of_le HRs.out.2.2.2 hbq.size)))); clear hbq)
    | (go_at_call 53; (with_reducible refine (HNew.out _).mono ?_); rintro e wn ⟨b, g, rfl, hm, hb, hg, hbe⟩; have HG : Hid (RgG w wn w.heap.size bb b g (PM.new 24)) := Lib.hid ⟨HRs.out.1.on' hbe, HRs.out.2.1.on' hbe, hm, HRs.out.2.2.1.trans (hbe.mono HRs.out.2.2.1.size), by have := HRs.out.2.2.2; have := HBB.out; omega⟩; clear hm hb hg hbe))
  clear c0 c1 c2 c3 c4 c5
  obtain ⟨c0, c1, c2, c3, c4, c5⟩ := HG.out.six
  obtain ⟨m1, hm1⟩ : ∃ m1, (PM.new 24).store 20 5 = m1 := ⟨_, rfl⟩
  obtain ⟨m2, hm2⟩ : ∃ m2, m1.store 21 6 = m2 := ⟨_, rfl⟩
  have hm3 : m2.store 14 2 = mGk := by rw [← hm2, ← hm1]; rfl
  have hf0 : (PM.new 24).k.ops = 0 := rfl
  have hf1 : m1.k.ops ≤ 1 := by rw [← hm1]; have := (mem_store (PM.new 24) 20 5).2.2; omega
  have hf2 : m2.k.ops ≤ 2 := by rw [← hm2]; have := (mem_store m1 21 6).2.2; omega
  have HSt1 : Hid (∀ W, MemIs W b g (PM.new 24) → Calls Try.prog 44 #[.pointer (some ⟨b, 0, none⟩), .int .i64 20, .int .u64 5] W (MemPost b g m1 (.tuple #[]) W)) := fun W hW => by rw [← hm1]; exact store_any 20 5 W hW (by omega)
  have HSt2 : Hid (∀ W, MemIs W b g m1 → Calls Try.prog 44 #[.pointer (some ⟨b, 0, none⟩), .int .i64 21, .int .u64 6] W (MemPost b g m2 (.tuple #[]) W)) := fun W hW => by rw [← hm2]; exact store_any 21 6 W hW (by omega)
  have HSt3 : Hid (∀ W, MemIs W b g m2 → Calls Try.prog 44 #[.pointer (some ⟨b, 0, none⟩), .int .i64 14, .int .u64 2] W (MemPost b g mGk (.tuple #[]) W)) := fun W hW => by rw [← hm3]; exact store_any 14 2 W hW (by omega)
  clear hm1 hm2 hm3 hf0 hf1 hf2
  go_upto_region 6 with (first
    | (go_at_call 60; (with_reducible refine (HS0.out _).mono ?_); rintro e wq ⟨rfl, hbq⟩; have HG := Lib.hid (HG.out.on hbq); clear hbq)
    | (go_at_call 60; (with_reducible refine (HS1.out _).mono ?_); rintro e wq ⟨rfl, hbq⟩; have HG := Lib.hid (HG.out.on hbq); clear hbq)
    | (go_at_call 33; (with_reducible refine (HWd.out _).mono ?_); rintro e wq ⟨rfl, hbq⟩; have HG := Lib.hid (HG.out.on hbq); clear hbq)
    | (go_at_call 44; (with_reducible refine (HSt1.out _ HG.out.mem).mono ?_); rintro e wq ⟨rfl, hmq, htq⟩; have HG := Lib.hid (HG.out.mem' hmq htq); clear hmq htq; obtain ⟨c0, c1, c2, c3, c4, c5⟩ := HG.out.six)
    | (go_at_call 44; (with_reducible refine (HSt2.out _ HG.out.mem).mono ?_); rintro e wq ⟨rfl, hmq, htq⟩; have HG := Lib.hid (HG.out.mem' hmq htq); clear hmq htq; obtain ⟨c0, c1, c2, c3, c4, c5⟩ := HG.out.six)
    | (go_at_call 44; (with_reducible refine (HSt3.out _ HG.out.mem).mono ?_); rintro e wq ⟨rfl, hmq, htq⟩; have HG := Lib.hid (HG.out.mem' hmq htq); clear hmq htq; obtain ⟨c0, c1, c2, c3, c4, c5⟩ := HG.out.six))
  have d0 := HG.out.res.cell 0
  have d1 := HG.out.res.cell 1
  have d2 := HG.out.res.cell 2
  have d3 := HG.out.res.cell 3
  have d4 := HG.out.res.cell 4
  have d5 := HG.out.res.cell 5
  simp only [cCells, cfg0, List.getElem?_cons_zero, List.getElem?_cons_succ] at d0 d1 d2 d3 d4 d5
  have f0 := HG.out.res.frozen 0
  have f1 := HG.out.res.frozen 1
  have f2 := HG.out.res.frozen 2
  have f3 := HG.out.res.frozen 3
  have f4 := HG.out.res.frozen 4
  have f5 := HG.out.res.frozen 5
  have HGe := Lib.hid HG.out.ge
  clear c0 c1 c2 c3 c4 c5
  obtain ⟨c0, c1, c2, c3, c4, c5⟩ := HG.out.six
  obtain ⟨W', hW'⟩ : ∃ W', (((((wq.setCell ⟨w.heap.size, 0, none⟩ (.int .i64 2)).setCell ⟨w.heap.size, 1, none⟩ (.int .i64 4)).setCell ⟨w.heap.size, 2, none⟩ (.int .i64 9)).setCell ⟨w.heap.size, 3, none⟩ (.int .i64 3)).setCell ⟨w.heap.size, 4, none⟩ (.int .i64 2)).setCell ⟨w.heap.size, 5, none⟩ (.int .i64 0) = W' := ⟨_, rfl⟩
  have hrow : Row w.heap.size 23 (cCells cGk) W' := by
    rw [← hW']
    exact (((((HG.out.res.set 0 (.int .i64 2)).set 1 (.int .i64 4)).set 2 (.int .i64 9)).set 3 (.int .i64 3)).set 4 (.int .i64 2)).set 5 (.int .i64 0)
  have ht : Tch (fun k => k = w.heap.size) wq W' := by
    rw [← hW']
    exact ((((((Tch.refl (fun k => k = w.heap.size) wq).setCell (p := ⟨w.heap.size, 0, none⟩) (.inl rfl) _).setCell (p := ⟨w.heap.size, 1, none⟩) (.inl rfl) _).setCell (p := ⟨w.heap.size, 2, none⟩) (.inl rfl) _).setCell (p := ⟨w.heap.size, 3, none⟩) (.inl rfl) _).setCell (p := ⟨w.heap.size, 4, none⟩) (.inl rfl) _).setCell (p := ⟨w.heap.size, 5, none⟩) (.inl rfl) _
  have hge := HGe.out
  have HT : Hid (MemIs W' b g mGk ∧ Below w.heap.size w W') := ⟨HG.out.mem.tch ht (fun e => by omega) (fun e => by omega), HG.out.bel.trans (ht.below HG.out.bel.size (fun k e => by omega))⟩
  have HRow := Lib.hid hrow
  have HW := Lib.hid hW'
  clear hrow ht hge hW'
  go_wp2_with fail
  rw [HW.out]
  have e0 := HRow.out.cell 0
  have e1 := HRow.out.cell 1
  have e2 := HRow.out.cell 2
  have e3 := HRow.out.cell 3
  have e4 := HRow.out.cell 4
  have e5 := HRow.out.cell 5
  simp only [cCells, cGk, List.getElem?_cons_zero, List.getElem?_cons_succ] at e0 e1 e2 e3 e4 e5
  clear c0 c1 c2 c3 c4 c5 d0 d1 d2 d3 d4 d5 f0 f1 f2 f3 f4 f5
  refine bodyPost_ret (v := .tuple #[.agg #[.int .i64 2, .int .i64 4, .int .i64 9, .int .i64 3, .int .i64 2, .int .i64 0], gptr b]) (by simp [results, Try.results93, go_sem, e0, e1, e2, e3, e4, e5]) rfl ?_
  exact ⟨b, g, rfl, HT.out.1, (by have := HGe.out; show _ ∧ _; omega), HT.out.2⟩
end Go.Proofs.Ytkhfanhboooilaa
