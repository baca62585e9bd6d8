/- A get: Step, New; of nothing; all that the laws ask of a get and its memory (layer 10's code). -/
import Derived.Test.YtkhfanhboooilaaGb
import Derived.Laws.EntriesVeiled
set_option linter.unusedSimpArgs false
set_option linter.unusedVariables false
namespace Go.Proofs.Ytkhfanhboooilaa
open Go.RowKit Go.Cg Go.Pu Go.Wd Go.Ce

/-- a get as it lies -/
def gtX (x : GS) : List Value := gtC x.c x.p (x.a : Nat) x.w x.s x.h (x.t : Nat)
structure GetIs (w : World) (b : Nat) (x : GS) : Prop where
  row : Row b 92 (gtX x) w
  ok : x.Ok
/-- a step of a get, whichever -/
def GMid (b mb mg : Nat) (x' : GS) (m' : PM) (v : Value) (w : World) (e : Ending) (w' : World) : Prop :=
  e = .returned v ∧ Hid (GetIs w' b x') ∧ Hid (MemIs w' mb mg m') ∧ Hid (Tch (fun k => k = b ∨ Own mb mg k) w w')
section
variable {w w' : World} {b mb mg : Nat} {x : GS} {m : PM}
theorem GetIs.on (h : GetIs w b x) (hb : Below w.heap.size w w') : GetIs w' b x := ⟨h.row.on' hb, h.ok⟩
theorem GetIs.tch {S : Nat → Prop} (h : GetIs w b x) (ht : Tch S w w') (hs : ¬ S b) : GetIs w' b x := ⟨h.row.tch ht hs, h.ok⟩
/-- a step's result, under letters -/
theorem gstep_let (hok : x.Ok) (hu : U64 m) {y : GS} {n : PM} (e : gStep x m = (y, n)) : ∃ X M, gStep x m = (X, M) ∧ X.Ok ∧ X = y ∧ M = n := by
  have := (gstep_ok hok hu).1
  rw [e] at this
  exact ⟨y, n, e, this, rfl, rfl⟩
theorem glook_any (h : GetIs w b x) (hm : MemIs w mb mg m) (hb : ¬ Own mb mg b) (hu : U64 m) (hk : m.k.ops + 1 ≤ 1000000000) (ha : x.a = 1) : Calls Try.prog 94 #[gptr b, gptr mb] w (GMid b mb mg (gStep x m).1 (gStep x m).2 (.tuple #[]) w) := by
  obtain ⟨X, M, hXM, hok, hX, hM⟩ := gstep_let h.ok hu (gstep1 ha m)
  rw [hXM]
  refine (glook_row h.row hm hu hb (by omega) (h.ok.th (by omega))).mono ?_
  rintro e w' ⟨rfl, h1, h2, h3⟩
  refine ⟨rfl, ⟨?_, hok⟩, by rw [hM]; exact h2, h3⟩
  obtain ⟨q1, q2, q3, q4, q5, q6, q7⟩ := gs_parts hX
  unfold gtX
  rw [q1, q2, q3, q4, q5, q6, q7]
  have e1 : x.wa = aW x.c x.p := rfl
  have e2 : x.q = x.c.q.toNat := rfl
  rw [e1, e2]
  exact h1
theorem gcopy_any (h : GetIs w b x) (hm : MemIs w mb mg m) (hb : ¬ Own mb mg b) (hu : U64 m) (hk : m.k.ops + 1 ≤ 1000000000) (ha : x.a = 2) : Calls Try.prog 95 #[gptr b, gptr mb] w (GMid b mb mg (gStep x m).1 (gStep x m).2 (.tuple #[]) w) := by
  obtain ⟨X, M, hXM, hok, hX, hM⟩ := gstep_let h.ok hu (gstep2 ha m)
  rw [hXM]
  refine (gcopy_row h.row hm hu hb (by omega) (h.ok.th (by omega)) h.ok.w).mono ?_
  rintro e w' ⟨rfl, h1, h2, h3⟩
  refine ⟨rfl, ⟨?_, hok⟩, by rw [hM]; exact h2, h3⟩
  rw [hX]
  exact h1
theorem ggain_any (h : GetIs w b x) (hm : MemIs w mb mg m) (hb : ¬ Own mb mg b) (hu : U64 m) (hk : m.k.ops + 1 ≤ 1000000000) (ht : x.t + 1 ≤ 1000000000) (ha : x.a = 3) : Calls Try.prog 96 #[gptr b, gptr mb] w (GMid b mb mg (gStep x m).1 (gStep x m).2 (.tuple #[]) w) := by
  obtain ⟨X, M, hXM, hok, hX, hM⟩ := gstep_let h.ok hu (gstep3 ha m)
  rw [hXM]
  refine (ggain_row x.t ht h.row hm hb (by omega) (h.ok.th (by omega)) h.ok.w _ rfl).mono ?_
  rintro e w' ⟨rfl, h1, h2, h3⟩
  refine ⟨rfl, ⟨?_, hok⟩, by rw [hM]; exact h2, h3⟩
  have hh := h.ok.h (by omega)
  by_cases hi : m.hit (aW x.c x.p) x.w
  · have hi' : m.hit x.wa x.w := hi
    rw [if_pos hi'] at hX
    rw [decide_eq_true hi] at h1
    rw [hX]
    exact h1
  · have hi' : ¬ m.hit x.wa x.w := hi
    rw [if_neg hi'] at hX
    rw [decide_eq_false hi] at h1
    rw [hX]
    unfold gtX
    rw [show ({ x with a := 1, t := x.t + 1 } : GS).h = false from hh]
    exact h1
theorem gdone_any (h : GetIs w b x) : Calls Try.prog 49 #[gptr b] w (fun e w' => e = .returned (.bool (decide (x.a = 0))) ∧ w' = w) := by
  have := gdone_row h.row
  rw [show decide ((x.a : Int) = 0) = decide (x.a = 0) from decide_eq_decide.2 (by omega)] at this
  exact this
theorem ggot_any (h : GetIs w b x) : Calls Try.prog 51 #[gptr b] w (fun e w' => e = .returned (.tuple #[.int .i64 x.got, .bool x.h]) ∧ w' = w) := ggot_row h.row
theorem gtries_any (h : GetIs w b x) : Calls Try.prog 52 #[gptr b] w (fun e w' => e = .returned (.int .i64 (x.t : Nat)) ∧ w' = w) := gtries_row h.row
theorem ghands_any (h : GetIs w b x) : Calls Try.prog 54 #[gptr b] w (RowPost8 x.hands w) := ghands_row h.row
theorem gstep_nil (q : Option Addr) (w : World) : Calls Try.prog 42 #[.pointer none, .pointer q] w (Ans (.bool true) w) := by
  have HD := Lib.hid (fun w => gdone_nil w)
  go_enter Try.func42, Try.ntmps42
  go_wp2_with (go_at_call 49; (with_reducible refine (HD.out _).mono ?_); rintro e w3 ⟨rfl, rfl⟩)
  go_ret
  exact ⟨rfl, Below.refl _ _⟩
theorem gstep_done (h : GetIs w b x) (h0 : x.a = 0) (v : Value) : Calls Try.prog 42 #[gptr b, v] w (Ans (.bool true) w) := by
  have HD := Lib.hid (gdone_any h)
  rw [decide_eq_true h0] at HD
  clear h h0
  go_enter Try.func42, Try.ntmps42
  go_wp2_with (go_at_call 49; (with_reducible refine HD.out.mono ?_); rintro e w3 ⟨rfl, rfl⟩)
  go_ret
  exact ⟨rfl, .refl _ _⟩
set_option maxHeartbeats 1000000 in
theorem gstep_any (h : GetIs w b x) (hm : MemIs w mb mg m) (hb : ¬ Own mb mg b) (hu : U64 m) (hk : m.k.ops + 1 ≤ 1000000000) (ht : x.t + 1 ≤ 1000000000) : Calls Try.prog 42 #[gptr b, gptr mb] w (GMid b mb mg (gStep x m).1 (gStep x m).2 (.bool (decide ((gStep x m).1.a = 0))) w) := by
  have HD := Lib.hid (gdone_any h)
  by_cases h0 : x.a = 0
  · rw [gstep0 h0]
    refine (gstep_done h h0 _).mono ?_
    rintro e w' ⟨rfl, h1⟩
    exact ⟨by rw [decide_eq_true h0], h.on h1, hm.on h1, Tch.of _ h1⟩
  · rw [decide_eq_false h0] at HD
    have hM1 : x.a = 1 → Hid (∀ w1, Below w.heap.size w w1 → Calls Try.prog 94 #[gptr b, gptr mb] w1 (GMid b mb mg (gStep x m).1 (gStep x m).2 (.tuple #[]) w1)) := fun ha w1 hb1 => glook_any (h.on hb1) (hm.on hb1) hb hu hk ha
    have hM2 : x.a = 2 → Hid (∀ w1, Below w.heap.size w w1 → Calls Try.prog 95 #[gptr b, gptr mb] w1 (GMid b mb mg (gStep x m).1 (gStep x m).2 (.tuple #[]) w1)) := fun ha w1 hb1 => gcopy_any (h.on hb1) (hm.on hb1) hb hu hk ha
    have hM3 : x.a = 3 → Hid (∀ w1, Below w.heap.size w w1 → Calls Try.prog 96 #[gptr b, gptr mb] w1 (GMid b mb mg (gStep x m).1 (gStep x m).2 (.tuple #[]) w1)) := fun ha w1 hb1 => ggain_any (h.on hb1) (hm.on hb1) hb hu hk ht ha
    have ha3 := h.ok.a
    have c7 : w.cell? ⟨b, 7, none⟩ = some (.int .i64 (x.a : Int)) := h.row.cell 7
    have hbw := h.row.lt
    obtain ⟨⟨X, M⟩, hXM⟩ : ∃ P, gStep x m = P := ⟨_, rfl⟩
    rw [hXM] at hM1 hM2 hM3 ⊢
    have HF : Hid (∀ (w1 w2 : World), Below w.heap.size w w1 → GetIs w2 b X → MemIs w2 mb mg M → Tch (fun k => k = b ∨ Own mb mg k) w1 w2 → GMid b mb mg X M (.bool (decide (X.a = 0))) w (.returned (.bool (decide (X.a = 0)))) w2) := fun w1 w2 hb1 i1 i2 i4 => ⟨rfl, i1, i2, (Tch.of _ hb1).trans i4⟩
    show Calls _ _ _ _ (GMid b mb mg X M (.bool (decide (X.a = 0))) w)
    obtain ⟨a, ha⟩ : ∃ a, x.a = a := ⟨_, rfl⟩
    rw [ha] at hM1 hM2 hM3 ha3 c7 h0
    clear h hm hb hu hk ht hXM ha
    have hcases : a = 1 ∨ a = 2 ∨ a = 3 := by omega
    rcases hcases with rfl | rfl | rfl
    · have HM := hM1 rfl
      have c7' : w.cell? ⟨b, 7, none⟩ = some (.int .i64 1) := c7
      clear hM1 hM2 hM3 ha3 h0 c7
      go_enter Try.func42, Try.ntmps42
      go_wp2_with (first
        | (go_at_call 49; (with_reducible refine HD.out.mono ?_); rintro e w3 ⟨rfl, rfl⟩)
        | (go_at_call 49; (with_reducible refine HD2.out.mono ?_); rintro e w5 ⟨rfl, rfl⟩)
        | (go_at_call 94; (with_reducible refine (HM.out _ ((Below.refl _ _).alloc (Nat.le_refl _) _)).mono ?_); rintro e w4 ⟨rfl, i1, i2, i4⟩; have HD2 := Lib.hid (gdone_any i1.out)))
      go_ret
      exact HF.out _ _ ((Below.refl _ _).alloc (Nat.le_refl _) _) i1.out i2.out i4.out
    · have HM := hM2 rfl
      have c7' : w.cell? ⟨b, 7, none⟩ = some (.int .i64 2) := c7
      clear hM1 hM2 hM3 ha3 h0 c7
      go_enter Try.func42, Try.ntmps42
      go_wp2_with (first
        | (go_at_call 49; (with_reducible refine HD.out.mono ?_); rintro e w3 ⟨rfl, rfl⟩)
        | (go_at_call 49; (with_reducible refine HD2.out.mono ?_); rintro e w5 ⟨rfl, rfl⟩)
        | (go_at_call 95; (with_reducible refine (HM.out _ ((Below.refl _ _).alloc (Nat.le_refl _) _)).mono ?_); rintro e w4 ⟨rfl, i1, i2, i4⟩; have HD2 := Lib.hid (gdone_any i1.out)))
      go_ret
      exact HF.out _ _ ((Below.refl _ _).alloc (Nat.le_refl _) _) i1.out i2.out i4.out
    · have HM := hM3 rfl
      have c7' : w.cell? ⟨b, 7, none⟩ = some (.int .i64 3) := c7
      clear hM1 hM2 hM3 ha3 h0 c7
      go_enter Try.func42, Try.ntmps42
      go_wp2_with (first
        | (go_at_call 49; (with_reducible refine HD.out.mono ?_); rintro e w3 ⟨rfl, rfl⟩)
        | (go_at_call 49; (with_reducible refine HD2.out.mono ?_); rintro e w5 ⟨rfl, rfl⟩)
        | (go_at_call 96; (with_reducible refine (HM.out _ ((Below.refl _ _).alloc (Nat.le_refl _) _)).mono ?_); rintro e w4 ⟨rfl, i1, i2, i4⟩; have HD2 := Lib.hid (gdone_any i1.out)))
      go_ret
      exact HF.out _ _ ((Below.refl _ _).alloc (Nat.le_refl _) _) i1.out i2.out i4.out
/-- New -/
def GMade (x : GS) (w : World) (e : Ending) (w' : World) : Prop := ∃ b, e = .returned (gptr b) ∧ Hid (GetIs w' b x) ∧ Hid (w.heap.size ≤ b) ∧ Hid (Below w.heap.size w w')
theorem get_made {w1 : World} (hb : Below w.heap.size w w1) (ok : x.Ok) : GMade x w (.returned (gptr w1.heap.size)) (w1.alloc (.cells (gtX x).toArray 92)) :=
  ⟨_, rfl, ⟨Row.new _ _ _, ok⟩, hb.size, hb.alloc hb.size _⟩
set_option maxRecDepth 20000 in
set_option maxHeartbeats 2000000 in
theorem gnew_any (c : Cfg) (p : Int) (w : World) : Calls Try.prog 38 #[cVal c, .int .i64 p] w (GMade (newG c p) w) := by
  have HW := Lib.hid (fun W => word_any c p W)
  obtain ⟨X, hX⟩ : ∃ X, newG c p = X := ⟨_, rfl⟩
  have hok : X.Ok := by rw [← hX]; exact newG_ok c p
  rw [hX]
  obtain ⟨z, hz⟩ : ∃ z, plV c p 0 = z := ⟨_, rfl⟩
  rw [hz] at HW
  have hzB : (X = ⟨c, p, 1, 0, 0, false, 0⟩ ∧ ¬ z < 0) ∨ (X = GS.zero ∧ z < 0) := by
    by_cases hth : Right c ∧ 0 ≤ p ∧ p < c.n
    · refine .inl ⟨by rw [← hX]; unfold newG; rw [if_pos (thB_iff.2 hth)], ?_⟩
      have h2 := pl_lt (k := 0) hth (by omega) (by have := hth.1.q; omega)
      rw [← hz, plV_yes hth]
      simp only [Int.natCast_zero] at h2 ⊢
      omega
    · refine .inr ⟨by rw [← hX]; unfold newG; rw [if_neg (fun h => hth (thB_iff.1 h))], ?_⟩
      rw [← hz, plV_no hth]; omega
  have HZ := Lib.hid hzB
  have HOk := Lib.hid hok
  have hbx := (Below.refl w.heap.size w).alloc (Nat.le_refl _) (.cells (cCells c).toArray 23)
  have hrx := Row.new w 23 (cCells c)
  obtain ⟨n, q, g', m, t, s⟩ := c
  change Hid (∀ W, Calls Try.prog 33 #[.agg #[.int .i64 n, .int .i64 q, .int .i64 g', .int .i64 m, .int .i64 t, .int .i64 s], .int .i64 p] W _) at HW
  show Calls _ _ #[.agg #[.int .i64 n, .int .i64 q, .int .i64 g', .int .i64 m, .int .i64 t, .int .i64 s], .int .i64 p] _ _
  change Below w.heap.size w (w.alloc (.cells #[.int .i64 n, .int .i64 q, .int .i64 g', .int .i64 m, .int .i64 t, .int .i64 s] 23)) at hbx
  change Row w.heap.size 23 [.int .i64 n, .int .i64 q, .int .i64 g', .int .i64 m, .int .i64 t, .int .i64 s] (w.alloc (.cells #[.int .i64 n, .int .i64 q, .int .i64 g', .int .i64 m, .int .i64 t, .int .i64 s] 23)) at hrx
  have HB := Lib.hid hbx
  have HRx := Lib.hid hrx
  have c0 := hrx.cell 0
  have c1 := hrx.cell 1
  have c2 := hrx.cell 2
  have c3 := hrx.cell 3
  have c4 := hrx.cell 4
  have c5 := hrx.cell 5
  simp only [List.getElem?_cons_zero, List.getElem?_cons_succ] at c0 c1 c2 c3 c4 c5
  clear hX hbx hrx hz hzB hok
  rcases HZ.out with ⟨rfl, hz⟩ | ⟨rfl, hz⟩
  · clear HZ
    go_enter Try.func38, Try.ntmps38
    go_wp2_with (go_at_call 33; (with_reducible refine (HW.out _).mono ?_); rintro e w3 ⟨rfl, hb3⟩; have HB3 := Lib.hid (HB.out.trans (hb3.mono HB.out.size)); have HR3 := HRx.out.on' hb3; have c0' := HR3.cell 0; have c1' := HR3.cell 1; have c2' := HR3.cell 2; have c3' := HR3.cell 3; have c4' := HR3.cell 4; have c5' := HR3.cell 5; simp only [List.getElem?_cons_zero, List.getElem?_cons_succ] at c0' c1' c2' c3' c4' c5'; clear hb3 c0 c1 c2 c3 c4 c5 HR3)
    go_ret
    exact get_made HB3.out HOk.out
  · clear HZ
    go_enter Try.func38, Try.ntmps38
    go_wp2_with (go_at_call 33; (with_reducible refine (HW.out _).mono ?_); rintro e w3 ⟨rfl, hb3⟩; have HB3 := Lib.hid (HB.out.trans (hb3.mono HB.out.size)); have HR3 := HRx.out.on' hb3; have c0' := HR3.cell 0; have c1' := HR3.cell 1; have c2' := HR3.cell 2; have c3' := HR3.cell 3; have c4' := HR3.cell 4; have c5' := HR3.cell 5; simp only [List.getElem?_cons_zero, List.getElem?_cons_succ] at c0' c1' c2' c3' c4' c5'; clear hb3 c0 c1 c2 c3 c4 c5 HR3)
    go_ret
    exact get_made HB3.out HOk.out
end
end Go.Proofs.Ytkhfanhboooilaa
