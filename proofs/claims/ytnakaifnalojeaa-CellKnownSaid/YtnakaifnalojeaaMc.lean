/- The reference's Redo (layer 6), walked. -/
import Derived.Test.YtnakaifnalojeaaMb
import Derived.Lib.QuietBelow
import Derived.BigQuiet
namespace Go.Proofs.Ytnakaifnalojeaa
open Go.RowKit Go.Ce

/-- accesses don't lie in a block of fewer than four cells -/
theorem LiesA.ne {w : World} {b o g : Nat} {t : TypeId} {xs : List Acc} {cs : List Value} (h : LiesA w (some ⟨b, o, none⟩) xs) (hx : xs ≠ []) (hr : Row g t cs w) (hc : cs.length ≤ 3) : b ≠ g := fun e => by
  subst e
  obtain ⟨b', o', hp, hcell⟩ := h.cells 0 (List.length_pos_iff.2 hx)
  cases hp
  have := hcell 3 (by decide)
  rw [hr.cell, List.getElem?_eq_none (by omega)] at this
  cases this
theorem LiesA.put {w : World} {g j : Nat} {t : TypeId} {p : Option Addr} {xs : List Acc} {cs : List Value} (h : LiesA w p xs) (hr : Row g t cs w) (hc : cs.length ≤ 3) (v : Value) : LiesA (w.setCell ⟨g, j, none⟩ v) p xs := by
  by_cases hx : xs = []
  · subst hx; exact .nil _ _
  · obtain ⟨b, o, hp, -⟩ := h.cells 0 (List.length_pos_iff.2 hx)
    subst hp
    exact h.set (q := ⟨g, j, none⟩) (fun e => h.ne hx hr hc e.symm) v
theorem BookIs.put {w : World} {g j : Nat} {t : TypeId} {p : Option Addr} {l c : Nat} {xs : List Acc} {cs : List Value} (h : BookIs w p l c xs) (hr : Row g t cs w) (hc : cs.length ≤ 3) (v : Value) : BookIs (w.setCell ⟨g, j, none⟩ v) p l c xs := ⟨h.len, h.lm, h.nl, h.cp, (fun b o e hx => by
  obtain ⟨cur, fr, hb⟩ := h.typ b o e hx
  by_cases hbg : b = g
  · subst hbg
    subst e
    exact absurd rfl (h.lies.ne (List.length_pos_iff.1 hx) hr hc)
  · exact ⟨cur, fr, by rw [Below.heap_setCell w ⟨g, j, none⟩ v b hbg]; exact hb⟩), h.lies.put hr hc v⟩

/-- the variables of Redo, so far -/
structure RSt (w : World) (N : Int) (xs : List Acc) (p : Option Addr) (l c : Nat) (w' : World) : Prop where
  r0 : Row w.heap.size 29 [.int .i64 N, .slice p l c] w'
  r1 : Row (w.heap.size + 1) 29 [.int .i64 0, .slice none 0 0] w'
  bk : BookIs w' p l c xs
  bel : Below w.heap.size w w'
theorem RSt.on {w w1 w2 : World} {N : Int} {xs : List Acc} {p : Option Addr} {l c : Nat} (h : RSt w N xs p l c w1) (hb : Below w1.heap.size w1 w2) : RSt w N xs p l c w2 :=
  ⟨h.r0.on' hb, h.r1.on' hb, h.bk.on hb, h.bel.trans (hb.mono h.bel.size)⟩
theorem RSt.start (w : World) (N : Int) (xs : List Acc) (p : Option Addr) (l c : Nat) (h : BookIs w p l c xs) : RSt w N xs p l c ((w.alloc (.cells #[.int .i64 N, .slice p l c] 29)).alloc (.cells #[.int .i64 0, .slice none 0 0] 29)) := by
  have hb := ((Below.refl w.heap.size w).alloc (Nat.le_refl _) (.cells #[.int .i64 N, .slice p l c] 29)).alloc (by simp) (.cells #[.int .i64 0, .slice none 0 0] 29)
  exact ⟨(Row.new w 29 [.int .i64 N, .slice p l c]).on' ((Below.refl _ _).alloc (Nat.le_refl _) _), Row.new' (w.alloc (.cells #[.int .i64 N, .slice p l c] 29)) 29 [.int .i64 0, .slice none 0 0] (w.heap.size + 1) (by simp), h.on hb, hb⟩
/-- a new book is stored into the box -/
theorem RSt.store {w w1 : World} {N : Int} {xs ys : List Acc} {p q : Option Addr} {l c l2 c2 : Nat} (h : RSt w N xs p l c w1) (hk : BookIs w1 q l2 c2 ys) : RSt w N ys q l2 c2 ((w1.setCell ⟨w.heap.size, 0, none⟩ (.int .i64 N)).setCell ⟨w.heap.size, 1, none⟩ (.slice q l2 c2)) := by
  have h0 := h.r0.set 0 (.int .i64 N)
  refine ⟨h.r0.put2 _ _, (h.r1.far (p := ⟨w.heap.size, 0, none⟩) (by show w.heap.size + 1 ≠ w.heap.size; omega) _).far (p := ⟨w.heap.size, 1, none⟩) (by show w.heap.size + 1 ≠ w.heap.size; omega) _, (hk.put h.r0 (by simp) _).put h0 (by simp) _, (h.bel.setCell (p := ⟨w.heap.size, 0, none⟩) (Nat.le_refl _) _).setCell (p := ⟨w.heap.size, 1, none⟩) (Nat.le_refl _) _⟩
/-- the book is stored into the result -/
theorem RSt.res {w w1 : World} {N : Int} {xs : List Acc} {p : Option Addr} {l c : Nat} (h : RSt w N xs p l c w1) (x y : Value) : BookIs ((w1.setCell ⟨w.heap.size + 1, 0, none⟩ x).setCell ⟨w.heap.size + 1, 1, none⟩ y) p l c xs ∧ Below w.heap.size w ((w1.setCell ⟨w.heap.size + 1, 0, none⟩ x).setCell ⟨w.heap.size + 1, 1, none⟩ y) := by
  have h0 := h.r1.set 0 x
  exact ⟨(h.bk.put h.r1 (by simp) _).put h0 (by simp) _, (h.bel.setCell (p := ⟨w.heap.size + 1, 0, none⟩) (Nat.le_succ _) _).setCell (p := ⟨w.heap.size + 1, 1, none⟩) (Nat.le_succ _) _⟩

theorem stuck_iff (N : Int) (zs : List Acc) (k a old nw : Int) : Stuck N zs ⟨k, a, old, nw⟩ ↔ (a < 0 ∨ N ≤ a ∨ k < 1 ∨ 4 < k) ∨ atV zs a ≠ old ∨ k = 1 ∧ nw ≠ old := Iff.rfl
def RedoPost (N : Int) (xs ys : List Acc) (w : World) (e : Ending) (w' : World) : Prop :=
  ∃ p l c, e = .returned (.tuple #[.agg #[.int .i64 N, .slice p l c], .int .i64 (redoV N xs ys).2]) ∧ BookIs w' p l c (redoV N xs ys).1 ∧ Below w.heap.size w w'
theorem redo_drop {N : Int} {xs ys zs : List Acc} {i : Nat} (h : redoV N xs ys = ((redoV N zs (ys.drop i)).1, (redoV N zs (ys.drop i)).2 + i)) (hi : i < ys.length) (hs : ¬ Stuck N zs (ys.getD i default)) :
    redoV N xs ys = ((redoV N (doL N zs (ys.getD i default).k (ys.getD i default).a (ys.getD i default).o (tellV (ys.getD i default))) (ys.drop (i + 1))).1, (redoV N (doL N zs (ys.getD i default).k (ys.getD i default).a (ys.getD i default).o (tellV (ys.getD i default))) (ys.drop (i + 1))).2 + (i + 1)) := by
  have e : ys.drop i = ys.getD i default :: ys.drop (i + 1) := by
    rw [List.drop_eq_getElem_cons hi]; simp [List.getD, hi]
  rw [h, e, redoV_go hs]
  simp only [Nat.add_assoc, Nat.add_comm 1 i]
theorem redo_end {N : Int} {xs ys zs : List Acc} {i : Nat} (h : redoV N xs ys = ((redoV N zs (ys.drop i)).1, (redoV N zs (ys.drop i)).2 + i)) (hs : i < ys.length → Stuck N zs (ys.getD i default)) : redoV N xs ys = (zs, i) ∨ ys.length < i := by
  rcases Nat.lt_trichotomy i ys.length with hi | hi | hi
  · have e : ys.drop i = ys.getD i default :: ys.drop (i + 1) := by
      rw [List.drop_eq_getElem_cons hi]; simp [List.getD, hi]
    left; rw [h, e, redoV_stuck (hs hi)]; simp
  · left; rw [h, List.drop_of_length_le (by omega), redoV_nil]; simp
  · exact .inr hi

set_option maxRecDepth 10000 in
set_option maxHeartbeats 8000000 in
theorem redo_any (N : Int) (p : Option Addr) (l c : Nat) (xs : List Acc) (q : Option Addr) (m cq : Nat) (ys : List Acc) (w : World) (h : BookIs w p l c xs) (hq : BookIs w q m cq ys) (hlm : l + m ≤ 900000) : Calls Try.prog 21 #[.agg #[.int .i64 N, .slice p l c], .slice q m cq] w (RedoPost N xs ys w) := by
  have HQ := Lib.hid hq
  have HMY := Lib.hid hq.len
  have HLX := Lib.hid h.len
  have HS0 := Lib.hid (RSt.start w N xs p l c h)
  clear h hq
  go_enter Try.func21, Try.ntmps21
  go_wp2_with fail
  obtain ⟨W, hW⟩ : ∃ W, ((w.alloc (.cells #[.int .i64 N, .slice p l c] 29)).alloc (.cells #[.int .i64 0, .slice none 0 0] 29)) = W := ⟨_, rfl⟩
  rw [hW] at HS0 ⊢
  clear hW
  go_loopw [6] (fun vi wr => ∃ i : Nat, i ≤ m ∧ vi = .int .i64 i ∧ ∃ p1 l1 c1' zs, Hid (RSt w N zs p1 l1 c1' wr) ∧ l1 ≤ l + i ∧ Hid (redoV N xs ys = ((redoV N zs (ys.drop i)).1, (redoV N zs (ys.drop i)).2 + i))) (fun vi _ => m - (intOf vi).toNat)
  case atStart => exact ⟨0, by omega, rfl, p, l, c, xs, HS0, by omega, by show _ = _; simp⟩
  case round =>
    obtain ⟨i, him, rfl, p1, l1, c1', zs, HS, hl1, HR⟩ := hrel
    clear HS0
    by_cases hlt : i < m
    · have hiy : i < ys.length := by rw [← HMY.out]; exact hlt
      obtain ⟨b, o, rfl, d0, d1, d2, d3⟩ := (HQ.out.on HS.out.bel).lies.at hiy
      obtain ⟨x, hx⟩ : ∃ x, ys.getD i default = x := ⟨_, rfl⟩
      rw [hx] at d0 d1 d2 d3
      obtain ⟨k, a, old, nw⟩ := x
      have HX := Lib.hid hx
      have i1 : (0 : Int) ≤ i := by omega
      have i2 : (i : Int) < m := by omega
      clear hx
      simp only at d0 d1 d2 d3
      have HSix : Hid (Stuck N zs ⟨k, a, old, nw⟩ ↔ (a < 0 ∨ N ≤ a ∨ k < 1 ∨ 4 < k) ∨ atV zs a ≠ old ∨ k = 1 ∧ nw ≠ old) := stuck_iff N zs k a old nw
      obtain ⟨was, hwas⟩ : ∃ v, atV zs a = v := ⟨_, rfl⟩
      have HAt := Lib.hid hwas
      rw [hwas] at HSix
      clear hwas
      have hbe := (Below.refl wr.heap.size wr).alloc (Nat.le_refl _) (.cells #[.int .i64 k, .int .i64 a, .int .u64 old, .int .u64 nw] 43)
      have HS2 := Lib.hid (HS.out.on hbe)
      have hre := Row.new wr 43 [.int .i64 k, .int .i64 a, .int .u64 old, .int .u64 nw]
      go_wp2_with fail
      obtain ⟨W2, hW2⟩ : ∃ W2, wr.alloc (.cells #[.int .i64 k, .int .i64 a, .int .u64 old, .int .u64 nw] 43) = W2 := ⟨_, rfl⟩
      change Row wr.heap.size 43 [.int .i64 k, .int .i64 a, .int .u64 old, .int .u64 nw] (wr.alloc (.cells #[.int .i64 k, .int .i64 a, .int .u64 old, .int .u64 nw] 43)) at hre
      rw [hW2] at HS2 hre ⊢
      have HRe := Lib.hid hre
      have c0 := cell_regrown (HS2.out.r0.cell 0)
      have c1 := cell_regrown (HS2.out.r0.cell 1)
      have e0 := cell_regrown (hre.cell 0)
      have e1 := cell_regrown (hre.cell 1)
      have e2 := cell_regrown (hre.cell 2)
      have e3 := cell_regrown (hre.cell 3)
      have cA : ∀ d os, Calls Try.prog 45 #[.agg #[.int .i64 N, .slice p1 l1 c1'], .int .i64 a] (Sort.grow (redrawn W2 d) os) fun e w'' => e = .returned (.int .u64 was) ∧ ∃ p : Regrown, w'' = Sort.grow (redrawn W2 p.d) p.os := fun d os => by
        have := at_any N a p1 l1 c1' zs _ (HS2.out.bk.on (below_regrown W2 d os))
        rw [HAt.out] at this
        exact Calls.regrown_of this
      have HcA := Lib.hid cA
      clear hre hbe hW2 d0 d1 d2 d3 HS cA
      by_cases g1 : k < 1
      · have hst := HSix.out.2 (.inl (.inr (.inr (.inl g1))))
        clear HSix
        go_wp2_with fail
        refine wp_region_quiet_below (by kernel_rfl) (by kernel_rfl) ?_
        repeat (go_big_quiet_step (exact HcA.out _ _))
        refine wpQuiet_nil ?_
        intro W3 hw'
        obtain ⟨⟨dq, osq⟩, hw2⟩ := hw'
        have HS3 := Lib.hid (show RSt w N zs p1 l1 c1' W3 by rw [hw2]; exact HS2.out.on (below_regrown W2 dq osq))
        have HRe3 := Lib.hid (show Row wr.heap.size 43 [.int .i64 k, .int .i64 a, .int .u64 old, .int .u64 nw] W3 by rw [hw2]; exact HRe.out.on' (below_regrown W2 dq osq))
        clear hw2
        have HD : Hid (redoV N xs ys = (zs, i)) := (redo_end HR.out (fun _ => by rw [HX.out]; exact hst)).resolve_right (by omega)
        have q0 := HS3.out.r1.cell 0
        have q1 := HS3.out.r1.cell 1
        have y0 := HS3.out.r1.frozen 0
        have y1 := HS3.out.r1.frozen 1
        have w0 := HS3.out.r0.cell 0
        have w1 := HS3.out.r0.cell 1
        simp only [List.getElem?_cons_zero, List.getElem?_cons_succ] at q0 q1 w0 w1
        clear hst
        go_wp2_with fail
        refine bodyPost_ret (v := .tuple #[.agg #[.int .i64 N, .slice p1 l1 c1'], .int .i64 i]) (by simp [results, Try.results21, go_sem, *]) rfl ?_
        obtain ⟨hk, hw⟩ := HS3.out.res (.int .i64 N) (.slice p1 l1 c1')
        exact ⟨p1, l1, c1', by rw [HD.out], by rw [HD.out]; exact hk, hw⟩
      · have z1 : decide (k < 1) = false := decide_eq_false g1
        by_cases g2 : 4 < k
        · have hst := HSix.out.2 (.inl (.inr (.inr (.inr g2))))
          clear HSix
          go_wp2_with fail
          refine wp_region_quiet_below (by kernel_rfl) (by kernel_rfl) ?_
          repeat (go_big_quiet_step (exact HcA.out _ _))
          refine wpQuiet_nil ?_
          intro W3 hw'
          obtain ⟨⟨dq, osq⟩, hw2⟩ := hw'
          have HS3 := Lib.hid (show RSt w N zs p1 l1 c1' W3 by rw [hw2]; exact HS2.out.on (below_regrown W2 dq osq))
          have HRe3 := Lib.hid (show Row wr.heap.size 43 [.int .i64 k, .int .i64 a, .int .u64 old, .int .u64 nw] W3 by rw [hw2]; exact HRe.out.on' (below_regrown W2 dq osq))
          clear hw2
          have HD : Hid (redoV N xs ys = (zs, i)) := (redo_end HR.out (fun _ => by rw [HX.out]; exact hst)).resolve_right (by omega)
          have q0 := HS3.out.r1.cell 0
          have q1 := HS3.out.r1.cell 1
          have y0 := HS3.out.r1.frozen 0
          have y1 := HS3.out.r1.frozen 1
          have w0 := HS3.out.r0.cell 0
          have w1 := HS3.out.r0.cell 1
          simp only [List.getElem?_cons_zero, List.getElem?_cons_succ] at q0 q1 w0 w1
          clear hst
          go_wp2_with fail
          refine bodyPost_ret (v := .tuple #[.agg #[.int .i64 N, .slice p1 l1 c1'], .int .i64 i]) (by simp [results, Try.results21, go_sem, *]) rfl ?_
          obtain ⟨hk, hw⟩ := HS3.out.res (.int .i64 N) (.slice p1 l1 c1')
          exact ⟨p1, l1, c1', by rw [HD.out], by rw [HD.out]; exact hk, hw⟩
        · have z2 : decide (4 < k) = false := decide_eq_false g2
          by_cases g3 : a < 0
          · have hst := HSix.out.2 (.inl (.inl g3))
            clear HSix
            go_wp2_with fail
            refine wp_region_quiet_below (by kernel_rfl) (by kernel_rfl) ?_
            repeat (go_big_quiet_step (exact HcA.out _ _))
            refine wpQuiet_nil ?_
            intro W3 hw'
            obtain ⟨⟨dq, osq⟩, hw2⟩ := hw'
            have HS3 := Lib.hid (show RSt w N zs p1 l1 c1' W3 by rw [hw2]; exact HS2.out.on (below_regrown W2 dq osq))
            have HRe3 := Lib.hid (show Row wr.heap.size 43 [.int .i64 k, .int .i64 a, .int .u64 old, .int .u64 nw] W3 by rw [hw2]; exact HRe.out.on' (below_regrown W2 dq osq))
            clear hw2
            have HD : Hid (redoV N xs ys = (zs, i)) := (redo_end HR.out (fun _ => by rw [HX.out]; exact hst)).resolve_right (by omega)
            have q0 := HS3.out.r1.cell 0
            have q1 := HS3.out.r1.cell 1
            have y0 := HS3.out.r1.frozen 0
            have y1 := HS3.out.r1.frozen 1
            have w0 := HS3.out.r0.cell 0
            have w1 := HS3.out.r0.cell 1
            simp only [List.getElem?_cons_zero, List.getElem?_cons_succ] at q0 q1 w0 w1
            clear hst
            go_wp2_with fail
            refine bodyPost_ret (v := .tuple #[.agg #[.int .i64 N, .slice p1 l1 c1'], .int .i64 i]) (by simp [results, Try.results21, go_sem, *]) rfl ?_
            obtain ⟨hk, hw⟩ := HS3.out.res (.int .i64 N) (.slice p1 l1 c1')
            exact ⟨p1, l1, c1', by rw [HD.out], by rw [HD.out]; exact hk, hw⟩
          · have z3 : decide (a < 0) = false := decide_eq_false g3
            by_cases g4 : N ≤ a
            · have hst := HSix.out.2 (.inl (.inr (.inl g4)))
              clear HSix
              go_wp2_with fail
              refine wp_region_quiet_below (by kernel_rfl) (by kernel_rfl) ?_
              repeat (go_big_quiet_step (exact HcA.out _ _))
              refine wpQuiet_nil ?_
              intro W3 hw'
              obtain ⟨⟨dq, osq⟩, hw2⟩ := hw'
              have HS3 := Lib.hid (show RSt w N zs p1 l1 c1' W3 by rw [hw2]; exact HS2.out.on (below_regrown W2 dq osq))
              have HRe3 := Lib.hid (show Row wr.heap.size 43 [.int .i64 k, .int .i64 a, .int .u64 old, .int .u64 nw] W3 by rw [hw2]; exact HRe.out.on' (below_regrown W2 dq osq))
              clear hw2
              have HD : Hid (redoV N xs ys = (zs, i)) := (redo_end HR.out (fun _ => by rw [HX.out]; exact hst)).resolve_right (by omega)
              have q0 := HS3.out.r1.cell 0
              have q1 := HS3.out.r1.cell 1
              have y0 := HS3.out.r1.frozen 0
              have y1 := HS3.out.r1.frozen 1
              have w0 := HS3.out.r0.cell 0
              have w1 := HS3.out.r0.cell 1
              simp only [List.getElem?_cons_zero, List.getElem?_cons_succ] at q0 q1 w0 w1
              clear hst
              go_wp2_with fail
              refine bodyPost_ret (v := .tuple #[.agg #[.int .i64 N, .slice p1 l1 c1'], .int .i64 i]) (by simp [results, Try.results21, go_sem, *]) rfl ?_
              obtain ⟨hk, hw⟩ := HS3.out.res (.int .i64 N) (.slice p1 l1 c1')
              exact ⟨p1, l1, c1', by rw [HD.out], by rw [HD.out]; exact hk, hw⟩
            · have z4 : decide (N ≤ a) = false := decide_eq_false g4
              by_cases g5 : was = old
              rotate_left
              · have hst := HSix.out.2 (.inr (.inl g5))
                clear HSix
                have g6 : (was == old) = false := by simpa using g5
                have g6b : (was != old) = true := by simp [bne, g6]
                have g6c : decide (was = old) = false := decide_eq_false g5
                go_wp2_with fail
                refine wp_region_quiet_below (by kernel_rfl) (by kernel_rfl) ?_
                repeat (go_big_quiet_step (exact HcA.out _ _))
                refine wpQuiet_nil ?_
                intro W3 hw'
                obtain ⟨⟨dq, osq⟩, hw2⟩ := hw'
                have HS3 := Lib.hid (show RSt w N zs p1 l1 c1' W3 by rw [hw2]; exact HS2.out.on (below_regrown W2 dq osq))
                have HRe3 := Lib.hid (show Row wr.heap.size 43 [.int .i64 k, .int .i64 a, .int .u64 old, .int .u64 nw] W3 by rw [hw2]; exact HRe.out.on' (below_regrown W2 dq osq))
                clear hw2
                have HD : Hid (redoV N xs ys = (zs, i)) := (redo_end HR.out (fun _ => by rw [HX.out]; exact hst)).resolve_right (by omega)
                have q0 := HS3.out.r1.cell 0
                have q1 := HS3.out.r1.cell 1
                have y0 := HS3.out.r1.frozen 0
                have y1 := HS3.out.r1.frozen 1
                have w0 := HS3.out.r0.cell 0
                have w1 := HS3.out.r0.cell 1
                simp only [List.getElem?_cons_zero, List.getElem?_cons_succ] at q0 q1 w0 w1
                clear hst
                go_wp2_with fail
                refine bodyPost_ret (v := .tuple #[.agg #[.int .i64 N, .slice p1 l1 c1'], .int .i64 i]) (by simp [results, Try.results21, go_sem, *]) rfl ?_
                obtain ⟨hk, hw⟩ := HS3.out.res (.int .i64 N) (.slice p1 l1 c1')
                exact ⟨p1, l1, c1', by rw [HD.out], by rw [HD.out]; exact hk, hw⟩
              · subst g5
                by_cases g7 : k = 1
                · subst g7
                  by_cases g8 : nw = was
                  · subst g8
                    have hst : ¬ Stuck N zs ⟨1, a, nw, nw⟩ := fun h => by have := HSix.out.1 h; omega
                    clear HSix
                    go_wp2_with fail
                    refine wp_region_quiet_below (by kernel_rfl) (by kernel_rfl) ?_
                    repeat (go_big_quiet_step (exact HcA.out _ _))
                    refine wpQuiet_nil ?_
                    intro W3 hw'
                    obtain ⟨⟨dq, osq⟩, hw2⟩ := hw'
                    have HS3 := Lib.hid (show RSt w N zs p1 l1 c1' W3 by rw [hw2]; exact HS2.out.on (below_regrown W2 dq osq))
                    have HRe3 := Lib.hid (show Row wr.heap.size 43 [.int .i64 1, .int .i64 a, .int .u64 nw, .int .u64 nw] W3 by rw [hw2]; exact HRe.out.on' (below_regrown W2 dq osq))
                    clear hw2
                    have HR2 := Lib.hid (redo_drop HR.out hiy (by rw [HX.out]; exact hst))
                    rw [HX.out] at HR2
                    have w0 := HS3.out.r0.cell 0
                    have w1 := HS3.out.r0.cell 1
                    have e0 := HRe3.out.cell 0
                    have e1 := HRe3.out.cell 1
                    have e2 := HRe3.out.cell 2
                    have e3 := HRe3.out.cell 3
                    simp only [List.getElem?_cons_zero, List.getElem?_cons_succ] at w0 w1 e0 e1 e2 e3
                    clear hst
                    go_wp2_with fail
                    refine (do_any N 1 a nw nw p1 l1 c1' zs _ HS3.out.bk (by omega)).mono ?_
                    rintro e w4 ⟨p2, l2, c2, rfl, hk2, hb4⟩
                    have HS4 := Lib.hid ((HS3.out.on hb4).store hk2)
                    have hl2 : l2 ≤ l1 + 1 := by
                      have h1 := hk2.len
                      have h2 := doL_len N zs 1 a nw nw
                      have h3 := HS3.out.bk.len
                      omega
                    have hr4 := HS3.out.r0.on' hb4
                    have m0 := hr4.cell 0
                    have m1 := hr4.cell 1
                    have f0 := hr4.frozen 0
                    have f1 := hr4.frozen 1
                    simp only [List.getElem?_cons_zero, List.getElem?_cons_succ] at m0 m1
                    clear hk2 hb4 hr4 w0 w1 e0 e1 e2 e3
                    go_wp2_with fail
                    have hi7 : i + 1 ≤ m := hlt
                    go_roundw
                    case rel => exact ⟨i + 1, hi7, by go_num, p2, l2, c2, _, HS4, by omega, HR2⟩
                    case measure =>
                      show _ < _
                      simp only [intOf]; omega
                  · have hst := HSix.out.2 (.inr (.inr ⟨rfl, g8⟩))
                    clear HSix
                    have g9 : (nw == was) = false := by simpa using g8
                    have g9b : (nw != was) = true := by simp [bne, g9]
                    have g9c : decide (nw = was) = false := decide_eq_false g8
                    go_wp2_with fail
                    refine wp_region_quiet_below (by kernel_rfl) (by kernel_rfl) ?_
                    repeat (go_big_quiet_step (exact HcA.out _ _))
                    refine wpQuiet_nil ?_
                    intro W3 hw'
                    obtain ⟨⟨dq, osq⟩, hw2⟩ := hw'
                    have HS3 := Lib.hid (show RSt w N zs p1 l1 c1' W3 by rw [hw2]; exact HS2.out.on (below_regrown W2 dq osq))
                    have HRe3 := Lib.hid (show Row wr.heap.size 43 [.int .i64 1, .int .i64 a, .int .u64 was, .int .u64 nw] W3 by rw [hw2]; exact HRe.out.on' (below_regrown W2 dq osq))
                    clear hw2
                    have HD : Hid (redoV N xs ys = (zs, i)) := (redo_end HR.out (fun _ => by rw [HX.out]; exact hst)).resolve_right (by omega)
                    have q0 := HS3.out.r1.cell 0
                    have q1 := HS3.out.r1.cell 1
                    have y0 := HS3.out.r1.frozen 0
                    have y1 := HS3.out.r1.frozen 1
                    have w0 := HS3.out.r0.cell 0
                    have w1 := HS3.out.r0.cell 1
                    simp only [List.getElem?_cons_zero, List.getElem?_cons_succ] at q0 q1 w0 w1
                    clear hst
                    go_wp2_with fail
                    refine bodyPost_ret (v := .tuple #[.agg #[.int .i64 N, .slice p1 l1 c1'], .int .i64 i]) (by simp [results, Try.results21, go_sem, *]) rfl ?_
                    obtain ⟨hk, hw⟩ := HS3.out.res (.int .i64 N) (.slice p1 l1 c1')
                    exact ⟨p1, l1, c1', by rw [HD.out], by rw [HD.out]; exact hk, hw⟩
                · have z7 : decide (k = 1) = false := decide_eq_false g7
                  have z7' : (k == 1) = false := by simpa using g7
                  by_cases g9 : k = 4
                  · subst g9
                    have hst : ¬ Stuck N zs ⟨4, a, was, nw⟩ := fun h => by have := HSix.out.1 h; omega
                    clear HSix
                    obtain ⟨tv, htv⟩ : ∃ v, IntKind.u64.wrap (nw - was) = v := ⟨_, rfl⟩
                    have HTe : Hid (tellV ⟨4, a, was, nw⟩ = tv) := by show _ = _; unfold tellV; rw [if_pos rfl]; exact htv
                    go_wp2_with fail
                    refine wp_region_quiet_below (by kernel_rfl) (by kernel_rfl) ?_
                    repeat (go_big_quiet_step (exact HcA.out _ _))
                    refine wpQuiet_nil ?_
                    intro W3 hw'
                    obtain ⟨⟨dq, osq⟩, hw2⟩ := hw'
                    have HS3 := Lib.hid (show RSt w N zs p1 l1 c1' W3 by rw [hw2]; exact HS2.out.on (below_regrown W2 dq osq))
                    have HRe3 := Lib.hid (show Row wr.heap.size 43 [.int .i64 4, .int .i64 a, .int .u64 was, .int .u64 nw] W3 by rw [hw2]; exact HRe.out.on' (below_regrown W2 dq osq))
                    clear hw2
                    have HR2 := Lib.hid (redo_drop HR.out hiy (by rw [HX.out]; exact hst))
                    rw [HX.out] at HR2
                    rw [HTe.out] at HR2
                    have w0 := HS3.out.r0.cell 0
                    have w1 := HS3.out.r0.cell 1
                    have e0 := HRe3.out.cell 0
                    have e1 := HRe3.out.cell 1
                    have e2 := HRe3.out.cell 2
                    have e3 := HRe3.out.cell 3
                    simp only [List.getElem?_cons_zero, List.getElem?_cons_succ] at w0 w1 e0 e1 e2 e3
                    clear hst
                    go_wp2_with fail
                    refine (do_any N 4 a was tv p1 l1 c1' zs _ HS3.out.bk (by omega)).mono ?_
                    rintro e w4 ⟨p2, l2, c2, rfl, hk2, hb4⟩
                    have HS4 := Lib.hid ((HS3.out.on hb4).store hk2)
                    have hl2 : l2 ≤ l1 + 1 := by
                      have h1 := hk2.len
                      have h2 := doL_len N zs 4 a was tv
                      have h3 := HS3.out.bk.len
                      omega
                    have hr4 := HS3.out.r0.on' hb4
                    have m0 := hr4.cell 0
                    have m1 := hr4.cell 1
                    have f0 := hr4.frozen 0
                    have f1 := hr4.frozen 1
                    simp only [List.getElem?_cons_zero, List.getElem?_cons_succ] at m0 m1
                    clear hk2 hb4 hr4 w0 w1 e0 e1 e2 e3
                    go_wp2_with fail
                    have hi7 : i + 1 ≤ m := hlt
                    go_roundw
                    case rel => exact ⟨i + 1, hi7, by go_num, p2, l2, c2, _, HS4, by omega, HR2⟩
                    case measure =>
                      show _ < _
                      simp only [intOf]; omega
                  · have hst : ¬ Stuck N zs ⟨k, a, was, nw⟩ := fun h => by have := HSix.out.1 h; omega
                    clear HSix
                    have HTe : Hid (tellV ⟨k, a, was, nw⟩ = nw) := by show _ = _; unfold tellV; rw [if_neg g9]
                    go_wp2_with fail
                    refine wp_region_quiet_below (by kernel_rfl) (by kernel_rfl) ?_
                    repeat (go_big_quiet_step (exact HcA.out _ _))
                    refine wpQuiet_nil ?_
                    intro W3 hw'
                    obtain ⟨⟨dq, osq⟩, hw2⟩ := hw'
                    have HS3 := Lib.hid (show RSt w N zs p1 l1 c1' W3 by rw [hw2]; exact HS2.out.on (below_regrown W2 dq osq))
                    have HRe3 := Lib.hid (show Row wr.heap.size 43 [.int .i64 k, .int .i64 a, .int .u64 was, .int .u64 nw] W3 by rw [hw2]; exact HRe.out.on' (below_regrown W2 dq osq))
                    clear hw2
                    have HR2 := Lib.hid (redo_drop HR.out hiy (by rw [HX.out]; exact hst))
                    rw [HX.out] at HR2
                    rw [HTe.out] at HR2
                    have w0 := HS3.out.r0.cell 0
                    have w1 := HS3.out.r0.cell 1
                    have e0 := HRe3.out.cell 0
                    have e1 := HRe3.out.cell 1
                    have e2 := HRe3.out.cell 2
                    have e3 := HRe3.out.cell 3
                    simp only [List.getElem?_cons_zero, List.getElem?_cons_succ] at w0 w1 e0 e1 e2 e3
                    clear hst
                    go_wp2_with fail
                    refine (do_any N k a was nw p1 l1 c1' zs _ HS3.out.bk (by omega)).mono ?_
                    rintro e w4 ⟨p2, l2, c2, rfl, hk2, hb4⟩
                    have HS4 := Lib.hid ((HS3.out.on hb4).store hk2)
                    have hl2 : l2 ≤ l1 + 1 := by
                      have h1 := hk2.len
                      have h2 := doL_len N zs k a was nw
                      have h3 := HS3.out.bk.len
                      omega
                    have hr4 := HS3.out.r0.on' hb4
                    have m0 := hr4.cell 0
                    have m1 := hr4.cell 1
                    have f0 := hr4.frozen 0
                    have f1 := hr4.frozen 1
                    simp only [List.getElem?_cons_zero, List.getElem?_cons_succ] at m0 m1
                    clear hk2 hb4 hr4 w0 w1 e0 e1 e2 e3
                    go_wp2_with fail
                    have hi7 : i + 1 ≤ m := hlt
                    go_roundw
                    case rel => exact ⟨i + 1, hi7, by go_num, p2, l2, c2, _, HS4, by omega, HR2⟩
                    case measure =>
                      show _ < _
                      simp only [intOf]; omega
    · have hie : i = m := by omega
      subst hie
      have HD : Hid (redoV N xs ys = (zs, i)) := (redo_end HR.out (fun h => by have := HMY.out; omega)).resolve_right (by have := HMY.out; omega)
      have q0 := HS.out.r1.cell 0
      have q1 := HS.out.r1.cell 1
      have y0 := HS.out.r1.frozen 0
      have y1 := HS.out.r1.frozen 1
      have w0 := HS.out.r0.cell 0
      have w1 := HS.out.r0.cell 1
      simp only [List.getElem?_cons_zero, List.getElem?_cons_succ] at q0 q1 w0 w1
      go_wp2_with fail
      refine bodyPost_ret (v := .tuple #[.agg #[.int .i64 N, .slice p1 l1 c1'], .int .i64 i]) (by simp [results, Try.results21, go_sem, *]) rfl ?_
      obtain ⟨hk, hw⟩ := HS.out.res (.int .i64 N) (.slice p1 l1 c1')
      exact ⟨p1, l1, c1', by rw [HD.out], by rw [HD.out]; exact hk, hw⟩
end Go.Proofs.Ytnakaifnalojeaa
