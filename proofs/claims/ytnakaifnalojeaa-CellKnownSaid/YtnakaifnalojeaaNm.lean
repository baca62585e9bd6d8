/- The reference's memory of cells (layer 6): Load, CAS, Add. -/
import Derived.Test.YtnakaifnalojeaaNl
namespace Go.Proofs.Ytnakaifnalojeaa
open Go.RowKit Go.Ce

theorem res_put2 {w w2 : World} {p : Option Addr} {l c : Nat} {cs : List Int} {n : Int} {v y : Value} {q : Option Addr} {lq cq : Nat} {t : TypeId} (hm : RM w2 p l c cs) (hr : Row (w.heap.size + 1) t [.slice q lq cq, y] w2) (hb : Below w.heap.size w w2) :
    RPost2 cs n v w (.returned (.tuple #[.agg #[.slice p l c, .int .u64 n], v])) ((w2.setCell ⟨w.heap.size + 1, 0, none⟩ (.slice p l c)).setCell ⟨w.heap.size + 1, 1, none⟩ (.int .u64 n)) := by
  obtain ⟨p', l', c', he, hm', hb'⟩ := res_put (n := n) hm hr hb
  cases he
  exact ⟨p, l, c, rfl, hm', hb'⟩
theorem RPost2.drew {cs : List Int} {n : Int} {v : Value} {w w' : World} {e : Ending} (h : RPost2 cs n v w e w') : RPost2 cs n v w e w'.drew := by
  obtain ⟨p, l, c, he, hm, hb⟩ := h
  exact ⟨p, l, c, he, hm.on ((Below.refl _ _).drew), hb.drew⟩
/-- nothing there -/
theorem rload_no {p : Option Addr} {l c : Nat} {cs : List Int} (n a : Int) (w : World) (h : RM w p l c cs) (ht : ¬ There cs a) :
    Calls Try.prog 35 #[.agg #[.slice p l c, .int .u64 n], .int .i64 a] w (RPost2 cs n (.int .u64 0) w) := by
  obtain ⟨hr0, hr1, hb⟩ := rboxes (w := w) (.slice p l c) (.int .u64 n) _ rfl
  have hth := there_any (p := p) (c := c) n a ((w.alloc (.cells #[.slice p l c, .int .u64 n] 76)).alloc (.cells #[.slice none 0 0, .int .u64 0] 76)) h.len
  have HM := Lib.hid h
  have HB := Lib.hid hb
  have HR0 := Lib.hid hr0
  have HR1 := Lib.hid hr1
  rw [decide_eq_false ht] at hth
  clear h hb hr0 hr1 ht
  go_enter Try.func35, Try.ntmps35
  go_wp2_with fail
  refine hth.mono ?_
  rintro e w2 ⟨rfl, hb1⟩
  have HB1 := Lib.hid (HB.out.trans (hb1.mono HB.out.size))
  have hr0 := HR0.out.on' hb1
  have hr1 := HR1.out.on' hb1
  have k0 := hr0.cell 0
  have k1 := hr0.cell 1
  have d0 := hr1.cell 0
  have d1 := hr1.cell 1
  have f0 := hr1.frozen 0
  have f1 := hr1.frozen 1
  simp only [List.getElem?_cons_zero, List.getElem?_cons_succ] at k0 k1 d0 d1
  have HF := Lib.hid (res_put2 (n := n) (v := (.int .u64 0)) (HM.out.on HB1.out) hr1 HB1.out)
  clear hb1 hr0 hr1 hth
  go_wp2
  exact bodyPost_ret (v := .tuple #[.agg #[.slice p l c, .int .u64 n], (.int .u64 0)]) (by simp [results, Try.results35, go_sem, *]) rfl HF.out
/-- nothing there -/
theorem rcas_no {p : Option Addr} {l c : Nat} {cs : List Int} (n a old v : Int) (w : World) (h : RM w p l c cs) (ht : ¬ There cs a) :
    Calls Try.prog 37 #[.agg #[.slice p l c, .int .u64 n], .int .i64 a, .int .u64 old, .int .u64 v] w (RPost2 cs n (.bool false) w) := by
  obtain ⟨hr0, hr1, hb⟩ := rboxes (w := w) (.slice p l c) (.int .u64 n) _ rfl
  have hth := there_any (p := p) (c := c) n a ((w.alloc (.cells #[.slice p l c, .int .u64 n] 76)).alloc (.cells #[.slice none 0 0, .int .u64 0] 76)) h.len
  have HM := Lib.hid h
  have HB := Lib.hid hb
  have HR0 := Lib.hid hr0
  have HR1 := Lib.hid hr1
  rw [decide_eq_false ht] at hth
  clear h hb hr0 hr1 ht
  go_enter Try.func37, Try.ntmps37
  go_wp2_with fail
  refine hth.mono ?_
  rintro e w2 ⟨rfl, hb1⟩
  have HB1 := Lib.hid (HB.out.trans (hb1.mono HB.out.size))
  have hr0 := HR0.out.on' hb1
  have hr1 := HR1.out.on' hb1
  have k0 := hr0.cell 0
  have k1 := hr0.cell 1
  have d0 := hr1.cell 0
  have d1 := hr1.cell 1
  have f0 := hr1.frozen 0
  have f1 := hr1.frozen 1
  simp only [List.getElem?_cons_zero, List.getElem?_cons_succ] at k0 k1 d0 d1
  have HF := Lib.hid (res_put2 (n := n) (v := (.bool false)) (HM.out.on HB1.out) hr1 HB1.out)
  clear hb1 hr0 hr1 hth
  go_wp2
  exact bodyPost_ret (v := .tuple #[.agg #[.slice p l c, .int .u64 n], (.bool false)]) (by simp [results, Try.results37, go_sem, *]) rfl HF.out
/-- nothing there -/
theorem radd_no {p : Option Addr} {l c : Nat} {cs : List Int} (n a d : Int) (w : World) (h : RM w p l c cs) (ht : ¬ There cs a) :
    Calls Try.prog 38 #[.agg #[.slice p l c, .int .u64 n], .int .i64 a, .int .u64 d] w (RPost2 cs n (.int .u64 0) w) := by
  obtain ⟨hr0, hr1, hb⟩ := rboxes (w := w) (.slice p l c) (.int .u64 n) _ rfl
  have hth := there_any (p := p) (c := c) n a ((w.alloc (.cells #[.slice p l c, .int .u64 n] 76)).alloc (.cells #[.slice none 0 0, .int .u64 0] 76)) h.len
  have HM := Lib.hid h
  have HB := Lib.hid hb
  have HR0 := Lib.hid hr0
  have HR1 := Lib.hid hr1
  rw [decide_eq_false ht] at hth
  clear h hb hr0 hr1 ht
  go_enter Try.func38, Try.ntmps38
  go_wp2_with fail
  refine hth.mono ?_
  rintro e w2 ⟨rfl, hb1⟩
  have HB1 := Lib.hid (HB.out.trans (hb1.mono HB.out.size))
  have hr0 := HR0.out.on' hb1
  have hr1 := HR1.out.on' hb1
  have k0 := hr0.cell 0
  have k1 := hr0.cell 1
  have d0 := hr1.cell 0
  have d1 := hr1.cell 1
  have f0 := hr1.frozen 0
  have f1 := hr1.frozen 1
  simp only [List.getElem?_cons_zero, List.getElem?_cons_succ] at k0 k1 d0 d1
  have HF := Lib.hid (res_put2 (n := n) (v := (.int .u64 0)) (HM.out.on HB1.out) hr1 HB1.out)
  clear hb1 hr0 hr1 hth
  go_wp2
  exact bodyPost_ret (v := .tuple #[.agg #[.slice p l c, .int .u64 n], (.int .u64 0)]) (by simp [results, Try.results38, go_sem, *]) rfl HF.out

theorem three_far {w w2 : World} {pb q : Nat} {x y z : Value} (hpb : pb < w.heap.size) (k0 : w2.cell? ⟨w.heap.size, 0, none⟩ = some x) (k1 : w2.cell? ⟨w.heap.size, 1, none⟩ = some y) (hc : w2.cell? ⟨pb, q, none⟩ = some z) (u v : Value) :
    ((w2.setCell ⟨w.heap.size + 1, 0, none⟩ u).setCell ⟨w.heap.size + 1, 1, none⟩ v).drew.cell? ⟨w.heap.size, 0, none⟩ = some x ∧ ((w2.setCell ⟨w.heap.size + 1, 0, none⟩ u).setCell ⟨w.heap.size + 1, 1, none⟩ v).drew.cell? ⟨w.heap.size, 1, none⟩ = some y ∧ ((w2.setCell ⟨w.heap.size + 1, 0, none⟩ u).setCell ⟨w.heap.size + 1, 1, none⟩ v).drew.cell? ⟨pb, q, none⟩ = some z := by
  simp only [World.cell?_drew]
  refine ⟨?_, ?_, ?_⟩
  · rw [World.cell?_setCell_far _ _ _ _ (by simp), World.cell?_setCell_far _ _ _ _ (by simp)]; exact k0
  · rw [World.cell?_setCell_far _ _ _ _ (by simp), World.cell?_setCell_far _ _ _ _ (by simp)]; exact k1
  · rw [World.cell?_setCell_far _ _ _ _ (by simp; omega), World.cell?_setCell_far _ _ _ _ (by simp; omega)]; exact hc
theorem rload_yes {p : Option Addr} {l c : Nat} {cs : List Int} (n : Int) (j : Nat) (w : World) (h : RM w p l c cs) (hj : j < cs.length) (hn : 0 ≤ n ∧ n ≤ 1000000) :
    Calls Try.prog 35 #[.agg #[.slice p l c, .int .u64 n], .int .i64 j] w (RPost2 cs (n + 1) (.int .u64 (cs.getD j 0)) w) := by
  obtain ⟨hr0, hr1, hb⟩ := rboxes (w := w) (.slice p l c) (.int .u64 n) _ rfl
  have hth := there_any (p := p) (c := c) n j ((w.alloc (.cells #[.slice p l c, .int .u64 n] 76)).alloc (.cells #[.slice none 0 0, .int .u64 0] 76)) h.len
  have HM := Lib.hid h
  have HB := Lib.hid hb
  have HR0 := Lib.hid hr0
  have HR1 := Lib.hid hr1
  have hw : IntKind.u64.wrap (n + 1) = n + 1 := IntWalk.u64_in _ (by omega)
  rw [decide_eq_true (show There cs (j : Int) from ⟨by omega, by omega⟩)] at hth
  have hl := h.len
  have hj2 : (j : Int) < (l : Int) := by omega
  obtain ⟨pb, po, rfl, hc⟩ := h.lies.cells j hj
  obtain ⟨x, hx⟩ : ∃ x, cs.getD j 0 = x := ⟨_, rfl⟩
  rw [hx] at hc ⊢
  have HC := Lib.hid hc
  clear h hb hr0 hr1 hn hx hc hl hj
  go_enter Try.func35, Try.ntmps35
  go_wp2_with fail
  refine hth.mono ?_
  rintro e w2 ⟨rfl, hb1⟩
  have HB1 := Lib.hid (HB.out.trans (hb1.mono HB.out.size))
  have hr0 := HR0.out.on' hb1
  have hr1 := HR1.out.on' hb1
  have k0 := hr0.cell 0
  have k1 := hr0.cell 1
  have d0 := hr1.cell 0
  have d1 := hr1.cell 1
  have f0 := hr1.frozen 0
  have f1 := hr1.frozen 1
  simp only [List.getElem?_cons_zero, List.getElem?_cons_succ] at k0 k1 d0 d1
  have hc : w2.cell? ⟨pb, po + j, none⟩ = some (.int .u64 x) := by rw [HB1.out.cell (block_lt_of_cell HC.out)]; exact HC.out
  have HF := Lib.hid (res_put2 (n := n + 1) (v := .int .u64 x) (HM.out.on HB1.out) hr1 HB1.out)
  clear hb1 hr0 hr1 hth
  have hpb : pb < w.heap.size := block_lt_of_cell HC.out
  go_wp2_with fail
  go_region_held3 (fun w' => w'.cell? ⟨w.heap.size, 0, none⟩ = some (.slice (some ⟨pb, po, none⟩) l c) ∧ w'.cell? ⟨w.heap.size, 1, none⟩ = some (.int .u64 n) ∧ w'.cell? ⟨pb, po + j, none⟩ = some (.int .u64 x)) (first | exact ⟨k0, k1, hc⟩ | exact three_far hpb k0 k1 hc _ _) (fail)
  go_wp2
  exact bodyPost_ret (v := .tuple #[.agg #[.slice (some ⟨pb, po, none⟩) l c, .int .u64 (n + 1)], .int .u64 x]) (by simp [results, Try.results35, go_sem, *]) rfl HF.out.drew
theorem rcas_miss {p : Option Addr} {l c : Nat} {cs : List Int} (n : Int) (j : Nat) (old v : Int) (w : World) (h : RM w p l c cs) (hj : j < cs.length) (hn : 0 ≤ n ∧ n ≤ 1000000) (hno : cs.getD j 0 ≠ old) :
    Calls Try.prog 37 #[.agg #[.slice p l c, .int .u64 n], .int .i64 j, .int .u64 old, .int .u64 v] w (RPost2 cs (n + 1) (.bool false) w) := by
  obtain ⟨hr0, hr1, hb⟩ := rboxes (w := w) (.slice p l c) (.int .u64 n) _ rfl
  have hth := there_any (p := p) (c := c) n j ((w.alloc (.cells #[.slice p l c, .int .u64 n] 76)).alloc (.cells #[.slice none 0 0, .int .u64 0] 76)) h.len
  have HM := Lib.hid h
  have HB := Lib.hid hb
  have HR0 := Lib.hid hr0
  have HR1 := Lib.hid hr1
  have hw : IntKind.u64.wrap (n + 1) = n + 1 := IntWalk.u64_in _ (by omega)
  rw [decide_eq_true (show There cs (j : Int) from ⟨by omega, by omega⟩)] at hth
  have hl := h.len
  have hj2 : (j : Int) < (l : Int) := by omega
  obtain ⟨pb, po, rfl, hc⟩ := h.lies.cells j hj
  obtain ⟨x, hx⟩ : ∃ x, cs.getD j 0 = x := ⟨_, rfl⟩
  rw [hx] at hc hno
  have z1 : (x == old) = false := by simpa using hno
  have z2 : (x != old) = true := by simpa using hno
  have HC := Lib.hid hc
  clear h hb hr0 hr1 hn hx hc hl hj hno
  go_enter Try.func37, Try.ntmps37
  go_wp2_with fail
  refine hth.mono ?_
  rintro e w2 ⟨rfl, hb1⟩
  have HB1 := Lib.hid (HB.out.trans (hb1.mono HB.out.size))
  have hr0 := HR0.out.on' hb1
  have hr1 := HR1.out.on' hb1
  have k0 := hr0.cell 0
  have k1 := hr0.cell 1
  have d0 := hr1.cell 0
  have d1 := hr1.cell 1
  have f0 := hr1.frozen 0
  have f1 := hr1.frozen 1
  simp only [List.getElem?_cons_zero, List.getElem?_cons_succ] at k0 k1 d0 d1
  have hc : w2.cell? ⟨pb, po + j, none⟩ = some (.int .u64 x) := by rw [HB1.out.cell (block_lt_of_cell HC.out)]; exact HC.out
  have HF := Lib.hid (res_put2 (n := n + 1) (v := .bool false) (HM.out.on HB1.out) hr1 HB1.out)
  clear hb1 hr0 hr1 hth
  go_wp2
  exact bodyPost_ret (v := .tuple #[.agg #[.slice (some ⟨pb, po, none⟩) l c, .int .u64 (n + 1)], .bool false]) (by simp [results, Try.results37, go_sem, *]) rfl HF.out
theorem rcas_hit {p : Option Addr} {l c : Nat} {cs : List Int} (n : Int) (j : Nat) (old v : Int) (w : World) (h : RM w p l c cs) (hj : j < cs.length) (hn : 0 ≤ n ∧ n ≤ 1000000) (hno : cs.getD j 0 = old) :
    Calls Try.prog 37 #[.agg #[.slice p l c, .int .u64 n], .int .i64 j, .int .u64 old, .int .u64 v] w (RPost2 (cs.set j v) (n + 1) (.bool true) w) := by
  obtain ⟨hr0, hr1, hb⟩ := rboxes (w := w) (.slice p l c) (.int .u64 n) _ rfl
  have hth := there_any (p := p) (c := c) n j ((w.alloc (.cells #[.slice p l c, .int .u64 n] 76)).alloc (.cells #[.slice none 0 0, .int .u64 0] 76)) h.len
  have HM := Lib.hid h
  have HB := Lib.hid hb
  have HR0 := Lib.hid hr0
  have HR1 := Lib.hid hr1
  have HN := Lib.hid hn
  have HJ := Lib.hid hj
  rw [decide_eq_true (show There cs (j : Int) from ⟨by omega, by omega⟩)] at hth
  have hl := h.len
  have hj2 : (j : Int) < (l : Int) := by omega
  obtain ⟨pb, po, rfl, hc⟩ := h.lies.cells j hj
  rw [hno] at hc
  have HC := Lib.hid hc
  clear h hb hr0 hr1 hn hc hl hj hno
  go_enter Try.func37, Try.ntmps37
  go_wp2_with fail
  refine hth.mono ?_
  rintro e w1 ⟨rfl, hb1⟩
  have HB1 := Lib.hid (HB.out.trans (hb1.mono HB.out.size))
  have hr0 := HR0.out.on' hb1
  have HR11 := Lib.hid (HR1.out.on' hb1)
  have k0 := hr0.cell 0
  have k1 := hr0.cell 1
  simp only [List.getElem?_cons_zero, List.getElem?_cons_succ] at k0 k1
  have hc : w1.cell? ⟨pb, po + j, none⟩ = some (.int .u64 old) := by rw [HB1.out.cell (block_lt_of_cell HC.out)]; exact HC.out
  clear hb1 hr0 hth
  go_wp2_with fail
  refine (with_any n j v w1 (HM.out.on HB1.out) HJ.out HN.out).mono ?_
  rintro e w2 ⟨p2, l2, c2, rfl, hm2, hb2⟩
  have hr1 := HR11.out.on' hb2
  have d0 := hr1.cell 0
  have d1 := hr1.cell 1
  have f0 := hr1.frozen 0
  have f1 := hr1.frozen 1
  simp only [List.getElem?_cons_zero, List.getElem?_cons_succ] at d0 d1
  have HF := Lib.hid (res_put2 (n := n + 1) (v := .bool true) hm2 hr1 (HB1.out.trans (hb2.mono HB1.out.size)))
  clear hm2 hb2 hr1
  go_wp2
  exact bodyPost_ret (v := .tuple #[.agg #[.slice p2 l2 c2, .int .u64 (n + 1)], .bool true]) (by simp [results, Try.results37, go_sem, *]) rfl HF.out

set_option maxHeartbeats 1000000 in
theorem radd_yes {p : Option Addr} {l c : Nat} {cs : List Int} (n : Int) (j : Nat) (d : Int) (w : World) (h : RM w p l c cs) (hj : j < cs.length) (hn : 0 ≤ n ∧ n ≤ 1000000) :
    Calls Try.prog 38 #[.agg #[.slice p l c, .int .u64 n], .int .i64 j, .int .u64 d] w (RPost2 (cs.set j (IntKind.u64.wrap (cs.getD j 0 + d))) (n + 1) (.int .u64 (cs.getD j 0)) w) := by
  obtain ⟨hr0, hr1, hb⟩ := rboxes (w := w) (.slice p l c) (.int .u64 n) _ rfl
  have hth := there_any (p := p) (c := c) n j ((w.alloc (.cells #[.slice p l c, .int .u64 n] 76)).alloc (.cells #[.slice none 0 0, .int .u64 0] 76)) h.len
  have HM := Lib.hid h
  have HB := Lib.hid hb
  have HR0 := Lib.hid hr0
  have HR1 := Lib.hid hr1
  have HN := Lib.hid hn
  have HJ := Lib.hid hj
  rw [decide_eq_true (show There cs (j : Int) from ⟨by omega, by omega⟩)] at hth
  have hl := h.len
  have hj2 : (j : Int) < (l : Int) := by omega
  obtain ⟨pb, po, rfl, hc⟩ := h.lies.cells j hj
  obtain ⟨x, hx⟩ : ∃ x, cs.getD j 0 = x := ⟨_, rfl⟩
  rw [hx] at hc ⊢
  obtain ⟨y, hy⟩ : ∃ y, IntKind.u64.wrap (x + d) = y := ⟨_, rfl⟩
  rw [hy]
  have HC := Lib.hid hc
  clear h hb hr0 hr1 hn hx hc hl hj
  go_enter Try.func38, Try.ntmps38
  go_wp2_with fail
  refine hth.mono ?_
  rintro e w1 ⟨rfl, hb1⟩
  have HB1 := Lib.hid (HB.out.trans (hb1.mono HB.out.size))
  have HR01 := Lib.hid (HR0.out.on' hb1)
  have HR11 := Lib.hid (HR1.out.on' hb1)
  have k0 := HR01.out.cell 0
  have k1 := HR01.out.cell 1
  simp only [List.getElem?_cons_zero, List.getElem?_cons_succ] at k0 k1
  have hc : w1.cell? ⟨pb, po + j, none⟩ = some (.int .u64 x) := by rw [HB1.out.cell (block_lt_of_cell HC.out)]; exact HC.out
  have hpb : pb < w.heap.size := block_lt_of_cell HC.out
  clear hb1 hth
  go_wp2_with fail
  go_region_held3 (fun w' => w'.cell? ⟨w.heap.size, 0, none⟩ = some (.slice (some ⟨pb, po, none⟩) l c) ∧ w'.cell? ⟨w.heap.size, 1, none⟩ = some (.int .u64 n) ∧ w'.cell? ⟨pb, po + j, none⟩ = some (.int .u64 x))
    (first | exact ⟨k0, k1, hc⟩ | exact ⟨kk0, kk1, kc⟩ | exact (three_far hpb kk0 kk1 kc _ _))
    (first
      | (go_at_call 56; refine (with_any n j y _ ((HM.out.on HB1.out).on (Below.refl _ _).drew) HJ.out HN.out).mono ?_; rintro e w2 ⟨p2, l2, c2, rfl, hm2, hb2⟩; have HB2 := Lib.hid (show Below w1.heap.size w1 w2 from ((Below.refl w1.heap.size w1).drew).trans hb2); have HM2 := Lib.hid hm2; have kk0 := (HR01.out.on' HB2.out).cell 0; have kk1 := (HR01.out.on' HB2.out).cell 1; have HR12 := Lib.hid (HR11.out.on' HB2.out); have d0 := HR12.out.cell 0; have d1 := HR12.out.cell 1; have f0 := HR12.out.frozen 0; have f1 := HR12.out.frozen 1; simp only [List.getElem?_cons_zero, List.getElem?_cons_succ] at kk0 kk1 d0 d1; have kc : w2.cell? ⟨pb, po + j, none⟩ = some (.int .u64 x) := (by rw [HB2.out.cell (block_lt_of_cell hc)]; exact hc)))
  have HF := Lib.hid (res_put2 (n := n + 1) (v := .int .u64 x) HM2.out HR12.out (HB1.out.trans (HB2.out.mono HB1.out.size)))
  go_wp2
  exact bodyPost_ret (v := .tuple #[.agg #[.slice p2 l2 c2, .int .u64 (n + 1)], .int .u64 x]) (by simp [results, Try.results38, go_sem, *]) rfl HF.out
end Go.Proofs.Ytnakaifnalojeaa
