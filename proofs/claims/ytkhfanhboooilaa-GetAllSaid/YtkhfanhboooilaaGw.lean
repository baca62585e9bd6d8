/- The law's works (layer 10), walked. -/
import Derived.Test.YtkhfanhboooilaaGl
import Derived.Test.YtkhfanhboooilaaDh
set_option linter.unusedSimpArgs false
set_option linter.unusedVariables false
namespace Go.Proofs.Ytkhfanhboooilaa
open Go.RowKit Go.Cg Go.Pu Go.Wd Go.Ce

/-- a row beside a literal of the same numbers -/
theorem same_lit {B n c : Nat} {W : World} {p : Option Addr} {xs : List Int} (h : NewRow B W (.slice p n c) xs) (hl : xs.length ≤ 1000) (k : Nat) (hk : k = xs.length) (arr : Array Value) (ha : (xs.map (Value.int .i64)).toArray = arr) (t : TypeId) :
    Calls Try.prog 19 #[.slice p n c, .slice (some ⟨W.heap.size, 0, none⟩) k k] (W.alloc (.cells arr t)) (Ans (.bool true) (W.alloc (.cells arr t))) := by
  subst hk ha
  have hb := (Below.refl W.heap.size W).alloc (Nat.le_refl _) (.cells (xs.map (Value.int .i64)).toArray t)
  have h1 : SlIs (fun _ => False) (W.alloc (.cells (xs.map (Value.int .i64)).toArray t)) (.slice p n c) xs := (h.on hb).sl (by omega) (fun _ _ h => h)
  have h2 : SlIs (fun _ => False) (W.alloc (.cells (xs.map (Value.int .i64)).toArray t)) (.slice (some ⟨W.heap.size, 0, none⟩) xs.length xs.length) xs := ⟨_, _, rfl, Nat.le_refl _, by unfold maxLen; omega, (fun e => by cases e), LiesN.made (lies_new .i64 xs W t _ rfl hl) (fun _ _ _ h => h)⟩
  have := sameints_gen xs xs _ _ _ h1 h2
  rw [show sameB xs xs = true by unfold sameB; exact decide_eq_true rfl] at this
  exact this
abbrev isK (k1 : Nat) : Nat → Prop := fun k => k = k1
theorem boxG {k1 : Nat} {W : World} (h : Row k1 23 (cCells cGk) W) : W.cell? ⟨k1, 0, none⟩ = some (.int .i64 2) ∧ W.cell? ⟨k1, 1, none⟩ = some (.int .i64 4) ∧ W.cell? ⟨k1, 2, none⟩ = some (.int .i64 9) ∧ W.cell? ⟨k1, 3, none⟩ = some (.int .i64 3) ∧ W.cell? ⟨k1, 4, none⟩ = some (.int .i64 2) ∧ W.cell? ⟨k1, 5, none⟩ = some (.int .i64 0) :=
  ⟨h.cell 0, h.cell 1, h.cell 2, h.cell 3, h.cell 4, h.cell 5⟩
/-- the runs' facts about their states, under letters -/
structure GkF (w : World) (xs ys : Nat → GS) (ms ns : Nat → PM) : Prop where
  u0 : U64 (ms 0)
  v0 : U64 (ns 0)
  xy : ys 0 = xs 1
  ring : Hid (∀ W, Calls Try.prog 93 #[] W (fun e w' => ∃ b g, e = .returned (.tuple #[.agg #[.int .i64 2, .int .i64 4, .int .i64 9, .int .i64 3, .int .i64 2, .int .i64 0], gptr b]) ∧ Hid (MemIs w' b g (ms 0)) ∧ Hid (W.heap.size ≤ b ∧ W.heap.size ≤ g) ∧ Hid (Below W.heap.size W w')))
  new : Hid (∀ W, Calls Try.prog 38 #[.agg #[.int .i64 2, .int .i64 4, .int .i64 9, .int .i64 3, .int .i64 2, .int .i64 0], .int .i64 1] W (GMade (xs 0) W))
  st : ∀ k, k < 3 → Hid (∀ k1 W pb b g, GX (isK k1) w W pb b g (xs k) (ms k) → Calls Try.prog 42 #[gptr pb, gptr b] W (fun e w' => e = .returned (.bool (decide (k = 2))) ∧ Hid (GX (isK k1) w w' pb b g (xs (k + 1)) (ms (k + 1))) ∧ Hid (Tch (fun k => ¬ isK k1 k) W w')))
  got : Hid (∀ k1 W pb b g, GX (isK k1) w W pb b g (xs 3) (ms 3) → Calls Try.prog 51 #[gptr pb] W (fun e w' => e = .returned (.tuple #[.int .i64 5, .bool true]) ∧ w' = W))
  rg : Hid (∀ W b g, MemIs W b g (ms 3) → Calls Try.prog 46 #[.agg #[.int .i64 2, .int .i64 4, .int .i64 9, .int .i64 3, .int .i64 2, .int .i64 0], gptr b, .int .i64 1] W (RowPost8 [6] W))
  th : Hid (∀ W b g, MemIs W b g (ms 1) → Calls Try.prog 50 #[.agg #[.int .i64 2, .int .i64 4, .int .i64 9, .int .i64 3, .int .i64 2, .int .i64 0], gptr b, .int .i64 1, .int .i64 1] W (fun e w' => ∃ q k c2, e = .returned (.slice q k c2) ∧ Hid (MemIs w' b g (ns 0)) ∧ Hid (Tch (Own b g) W w')))
  vst : ∀ k, k < 5 → Hid (∀ k1 W pb b g, GX (isK k1) w W pb b g (ys k) (ns k) → Calls Try.prog 42 #[gptr pb, gptr b] W (fun e w' => e = .returned (.bool (decide (k = 4))) ∧ Hid (GX (isK k1) w w' pb b g (ys (k + 1)) (ns (k + 1))) ∧ Hid (Tch (fun k => ¬ isK k1 k) W w')))
  vgot : Hid (∀ k1 W pb b g, GX (isK k1) w W pb b g (ys 5) (ns 5) → Calls Try.prog 51 #[gptr pb] W (fun e w' => e = .returned (.tuple #[.int .i64 6, .bool true]) ∧ w' = W))
  vtries : Hid (∀ k1 W pb b g, GX (isK k1) w W pb b g (ys 5) (ns 5) → Calls Try.prog 52 #[gptr pb] W (fun e w' => e = .returned (.int .i64 1) ∧ w' = W))
  all : Hid (∀ W b g, MemIs W b g (ms 0) → Calls Try.prog 48 #[.agg #[.int .i64 2, .int .i64 4, .int .i64 9, .int .i64 3, .int .i64 2, .int .i64 0], gptr b, .int .i64 1] W (fun e w' => ∃ q n cc, e = .returned (.slice q n cc) ∧ Hid (NewRow W.heap.size w' (.slice q n cc) [5, 6]) ∧ Hid (Tch (Own b g) W w')))
theorem gkF (w : World) : GkF w (fun k => (gk k).1) (fun k => (hk k).1) (fun k => (gk k).2) (fun k => (hk k).2) := by
  obtain ⟨r1, r2, r3, r4, r5, r6, r7, r8⟩ := gk_run
  obtain ⟨s1, s2, s3, s4, s5, s6, s7, s8⟩ := hk_run
  have e0 : (gk 0).1 = newG cGk 1 := by simp only [gk]
  have e1 : (gk 0).2 = mGk := by simp only [gk]
  have e2 : (hk 0).1 = (gk 1).1 := by simp only [hk]
  have e3 : (hk 0).2 = hk0 := by simp only [hk]
  refine ⟨(gk_ok 0).2.u, (hk_ok 0).2.u, e2, ?_, ?_, fun k hk' => ?_, ?_, ?_, ?_, fun k hk' => ?_, ?_, ?_, ?_⟩
  · show ∀ W, _
    simp only [e1]
    exact fun W => gringlaw_any W
  · show ∀ W, _
    simp only [e0]
    exact fun W => gnew_any cGk 1 W
  · intro k1 W pb b g h
    have h1 : (gStep (gk k).1 (gk k).2).1 = (gk (k + 1)).1 := by simp only [gk]
    have h2 : (gStep (gk k).1 (gk k).2).2 = (gk (k + 1)).2 := by simp only [gk]
    have h3 : decide ((gk (k + 1)).1.a = 0) = decide (k = 2) := by
      have hk3 : k = 0 ∨ k = 1 ∨ k = 2 := by omega
      rcases hk3 with rfl | rfl | rfl
      · rw [r1]; rfl
      · rw [r2]; rfl
      · rw [r3]; rfl
    obtain ⟨o1, o2⟩ := gk_ops k (by omega)
    exact h.step (by omega) (by omega) h1 h2 h3
  · intro k1 W pb b g h
    have := ggot_any h.is
    rw [r4, r5] at this
    exact this
  · intro W b g h
    have := ring_any 2 4 9 3 2 0 1 (gk_ok 3).2 h
    rw [← r6]
    exact this
  · intro W b g h
    have o := (gk_ops 1 (by omega)).1
    simp only [e3]
    refine (thief_any 2 4 9 3 2 0 1 1 (gk_ok 1).2 h (by omega) (by decide)).mono ?_
    rintro e w' ⟨q, k, c2, h1, _, h3, h4⟩
    exact ⟨q, k, c2, h1, h3, h4⟩
  · intro k1 W pb b g h
    have h1 : (gStep (hk k).1 (hk k).2).1 = (hk (k + 1)).1 := by simp only [hk]
    have h2 : (gStep (hk k).1 (hk k).2).2 = (hk (k + 1)).2 := by simp only [hk]
    have h3 : decide ((hk (k + 1)).1.a = 0) = decide (k = 4) := by
      have hk3 : k = 0 ∨ k = 1 ∨ k = 2 ∨ k = 3 ∨ k = 4 := by omega
      rcases hk3 with rfl | rfl | rfl | rfl | rfl
      · rw [s1]; rfl
      · rw [s2]; rfl
      · rw [s3]; rfl
      · rw [s4]; rfl
      · rw [s5]; rfl
    obtain ⟨o1, o2⟩ := hk_ops k (by omega)
    exact h.step (by omega) (by omega) h1 h2 h3
  · intro k1 W pb b g h
    have := ggot_any h.is
    rw [s6, s7] at this
    exact this
  · intro k1 W pb b g h
    have := gtries_any h.is
    rw [s8] at this
    exact this
  · intro W b g h
    have h' : MemIs W b g mGk := by rw [← e1]; exact h
    have ho := mGk_ops
    refine (gall_any cGk 1 h' mGk_mk.u (by omega)).mono ?_
    rintro e w' ⟨q, n, cc, h1, _, h3, _, h5⟩
    rw [gk_all] at h3
    exact ⟨q, n, cc, h1, h3, h5⟩
set_option maxRecDepth 100000 in
set_option maxHeartbeats 4000000 in
theorem gworks_any (w : World) : Calls Try.prog 37 #[] w (Ans (.bool true) w) := by
  obtain ⟨xs, ys, ms, ns, hF⟩ : ∃ xs ys ms ns, GkF w xs ys ms ns := ⟨_, _, _, _, gkF w⟩
  obtain ⟨hU0, hV0, hXY, HRg, HNew, HSt, HGot, HRi, HTh, HVt, HVgot, HVtr, HAll⟩ := hF
  go_enter Try.func37, Try.ntmps37
  go_upto_region 2 with (go_at_call 93; refine (HRg.out _).mono ?_; rintro e w1 ⟨b, g, rfl, HM, HGe, HB⟩)
  have hbx := Row.new w1 23 (cCells cGk)
  have hb1 := (Below.refl w1.heap.size w1).alloc (Nat.le_refl _) (.cells (cCells cGk).toArray 23)
  obtain ⟨W1, hW1⟩ : ∃ W, w1.alloc (.cells #[.int .i64 2, .int .i64 4, .int .i64 9, .int .i64 3, .int .i64 2, .int .i64 0] 23) = W := ⟨_, rfl⟩
  obtain ⟨k1, hk1⟩ : ∃ k, w1.heap.size = k := ⟨_, rfl⟩
  have HBx : Hid (Row k1 23 (cCells cGk) W1) := by rw [← hW1, ← hk1]; exact hbx
  have HB1 : Hid (Below w1.heap.size w1 W1) := by rw [← hW1]; exact hb1
  have HKp : Hid (∀ k, isK k1 k → k < W1.heap.size ∧ ¬ Own b g k) := fun k hk => by
    have h1 := HM.out.lt
    have h2 := HBx.out.lt
    subst hk
    exact ⟨h2, fun e => by rcases e with e | e <;> omega⟩
  rw [hW1, hk1]
  clear hbx hb1 hW1 hk1
  obtain ⟨c0, c1, c2, c3, c4, c5⟩ := boxG HBx.out
  go_upto_region 3 with (go_at_call 38; (with_reducible refine (HNew.out _).mono ?_); rintro e w2 ⟨pb, rfl, i1, i2, i3⟩; have HP : Hid (GX (isK k1) w w2 pb b g (xs 0) (ms 0)) := Lib.hid (GX.made (HM.out.on HB1.out) hU0 (HB.out.trans (HB1.out.mono HB.out.size)) HGe.out HKp.out i1.out i2.out i3.out); have HBx := Lib.hid (HBx.out.on' i3.out); clear i1 i2 i3)
  clear c0 c1 c2 c3 c4 c5
  go_wp2_with fail
  go_loopg [4] 2 (fun g0 s4 wy => ∃ k : Nat, k + g0 = 2 ∧ s4 = .int .i64 ((k : Int) + 1) ∧ Hid (GX (isK k1) w wy pb b g (xs k) (ms k)) ∧ Hid (Row k1 23 (cCells cGk) wy))
  case atStart => exact ⟨0, rfl, rfl, HP, HBx⟩
  case round =>
    clear HP HBx HM HB HGe HKp HB1
    obtain ⟨k, hkg, rfl, HP, HBx⟩ := hrel
    cases gk with
    | succ g0 =>
      have HS := HSt k (by omega)
      rw [decide_eq_false (show ¬ k = 2 by omega)] at HS
      go_wp2_with (go_at_call 42; (with_reducible refine (HS.out _ _ _ _ _ HP.out).mono ?_); rintro e wq ⟨rfl, HP, ht⟩; have HBx := Lib.hid (HBx.out.tch ht.out (fun h => h rfl)); clear ht)
      go_roundg g0
      case measure => omega
      case rel => exact ⟨k + 1, by omega, by go_num, HP, HBx⟩
    | zero =>
      obtain rfl : k = 2 := by omega
      have HS := HSt 2 (by omega)
      rw [decide_eq_true rfl] at HS
      obtain ⟨c0, c1, c2, c3, c4, c5⟩ := boxG HBx.out
      go_upto_region 8 with (first
        | (go_at_call 42; (with_reducible refine (HS.out _ _ _ _ _ HP.out).mono ?_); rintro e wq ⟨rfl, HP, ht⟩; have HBx := Lib.hid (HBx.out.tch ht.out (fun h => h rfl)); clear ht; obtain ⟨c0, c1, c2, c3, c4, c5⟩ := boxG HBx.out)
        | (go_at_call 51; (with_reducible refine (HGot.out _ _ _ _ _ HP.out).mono ?_); rintro e wq' ⟨rfl, rfl⟩)
        | (go_at_call 46; (with_reducible refine (HRi.out _ _ _ HP.out.mem).mono ?_); rintro e ws ⟨p2, n2, e2, rfl, hn2, hO2, hb2⟩; have HO2 := Lib.hid hO2; have HP := Lib.hid (HP.out.on hb2); have HBx := Lib.hid (HBx.out.on' hb2); clear hn2 hO2 hb2)
        | (go_at_call 19; refine (same_lit HO2.out (by decide) 1 rfl _ rfl _).mono ?_; rintro e wt ⟨rfl, hbr⟩; have hba := (Below.refl ws.heap.size ws).alloc (Nat.le_refl _) (.cells #[.int .i64 6] 3); have HP := Lib.hid ((HP.out.on hba).on hbr); have HBx := Lib.hid ((HBx.out.on' hba).on' hbr); clear hba hbr HO2; obtain ⟨c0, c1, c2, c3, c4, c5⟩ := boxG HBx.out))
      have HK1 : Hid (k1 < wt.heap.size) := Lib.hid HBx.out.lt
      have HBw : Hid (Below w.heap.size w wt) := Lib.hid HP.out.bel
      have hs1 := HSt 1 (by omega)
      have HSt0 := HSt 0 (by omega)
      rw [decide_eq_false (show ¬ 0 = 2 by decide)] at HSt0
      change Hid (∀ k1 W pb b g, GX (isK k1) w W pb b g (xs 0) (ms 0) → Calls Try.prog 42 #[gptr pb, gptr b] W (fun e w' => e = .returned (.bool false) ∧ Hid (GX (isK k1) w w' pb b g (xs 1) (ms 1)) ∧ Hid (Tch (fun k => ¬ isK k1 k) W w'))) at HSt0
      rw [← hXY] at HSt0
      clear HGot HRi HP HS hs1 hXY
      refine (HRg.out _).mono ?_
      rintro e y1 ⟨b', g', rfl, HM, HGe, HB⟩
      have HBx := Lib.hid (HBx.out.on' HB.out)
      clear c0 c1 c2 c3 c4 c5
      obtain ⟨c0, c1, c2, c3, c4, c5⟩ := boxG HBx.out
      go_upto_region 10 with fail
      have hb1 := (Below.refl y1.heap.size y1).alloc (Nat.le_refl _) (.cells (cCells cGk).toArray 23)
      obtain ⟨W2, hW2⟩ : ∃ W, y1.alloc (.cells #[.int .i64 2, .int .i64 4, .int .i64 9, .int .i64 3, .int .i64 2, .int .i64 0] 23) = W := ⟨_, rfl⟩
      have HB1 : Hid (Below y1.heap.size y1 W2) := by rw [← hW2]; exact hb1
      have HKp : Hid (∀ k, isK k1 k → k < W2.heap.size ∧ ¬ Own b' g' k) := fun k hk => by
        have h2 := HB1.out.size
        have h3 := HBx.out.lt
        have h4 := HGe.out
        have h5 := HK1.out
        subst hk
        exact ⟨by omega, fun e => by rcases e with e | e <;> omega⟩
      have HBx := Lib.hid (HBx.out.on' HB1.out)
      rw [hW2]
      clear hb1 hW2
      clear c0 c1 c2 c3 c4 c5
      obtain ⟨c0, c1, c2, c3, c4, c5⟩ := boxG HBx.out
      go_upto_region 11 with (go_at_call 38; (with_reducible refine (HNew.out _).mono ?_); rintro e y2 ⟨pb', rfl, i1, i2, i3⟩; have HP : Hid (GX (isK k1) w y2 pb' b' g' (xs 0) (ms 0)) := Lib.hid (GX.made (HM.out.on HB1.out) hU0 (HBw.out.trans ((HB.out.mono HBw.out.size).trans (HB1.out.mono (Nat.le_trans HBw.out.size HB.out.size)))) (And.intro (Nat.le_trans HBw.out.size HGe.out.1) (Nat.le_trans HBw.out.size HGe.out.2)) HKp.out i1.out i2.out i3.out); have HBx := Lib.hid (HBx.out.on' i3.out); clear i1 i2 i3)
      clear c0 c1 c2 c3 c4 c5
      obtain ⟨c0, c1, c2, c3, c4, c5⟩ := boxG HBx.out
      go_wp2_with (first
        | (go_at_call 42; (with_reducible refine (HSt0.out _ _ _ _ _ HP.out).mono ?_); rintro e wq ⟨rfl, HP, ht⟩; have HBx := Lib.hid (HBx.out.tch ht.out (fun h => h rfl)); clear ht; obtain ⟨c0, c1, c2, c3, c4, c5⟩ := boxG HBx.out)
        | (go_at_call 50; (with_reducible refine (HTh.out _ _ _ HP.out.mem).mono ?_); rintro e wq ⟨q0, k0, c20, rfl, hm0, ht0⟩; have HBx := Lib.hid (HBx.out.tch ht0.out (HP.out.kp k1 rfl).2.1); have HP := Lib.hid (HP.out.mem' hm0.out hV0 ht0.out); clear hm0 ht0; obtain ⟨c0, c1, c2, c3, c4, c5⟩ := boxG HBx.out))
      clear c0 c1 c2 c3 c4 c5
      go_loopg [4] 4 (fun g0 s4 wy => ∃ k : Nat, k + g0 = 4 ∧ s4 = .int .i64 ((k : Int) + 2) ∧ Hid (GX (isK k1) w wy pb' b' g' (ys k) (ns k)) ∧ Hid (Row k1 23 (cCells cGk) wy))
      case atStart => exact ⟨0, rfl, rfl, HP, HBx⟩
      case round =>
        clear HP HBx HM HB HGe HKp HB1
        obtain ⟨k, hkg, rfl, HP, HBx⟩ := hrel
        cases gk with
        | succ g0 =>
          have HS := HVt k (by omega)
          rw [decide_eq_false (show ¬ k = 4 by omega)] at HS
          go_wp2_with (go_at_call 42; (with_reducible refine (HS.out _ _ _ _ _ HP.out).mono ?_); rintro e wq ⟨rfl, HP, ht⟩; have HBx := Lib.hid (HBx.out.tch ht.out (fun h => h rfl)); clear ht)
          go_roundg g0
          case measure => omega
          case rel => exact ⟨k + 1, by omega, by go_num, HP, HBx⟩
        | zero =>
          obtain rfl : k = 4 := by omega
          have HS := HVt 4 (by omega)
          rw [decide_eq_true rfl] at HS
          obtain ⟨c0, c1, c2, c3, c4, c5⟩ := boxG HBx.out
          go_upto_region 17 with (first
            | (go_at_call 42; (with_reducible refine (HS.out _ _ _ _ _ HP.out).mono ?_); rintro e wq ⟨rfl, HP, ht⟩; have HBx := Lib.hid (HBx.out.tch ht.out (fun h => h rfl)); clear ht; obtain ⟨c0, c1, c2, c3, c4, c5⟩ := boxG HBx.out)
            | (go_at_call 51; (with_reducible refine (HVgot.out _ _ _ _ _ HP.out).mono ?_); rintro e wq' ⟨rfl, rfl⟩))
          go_upto_region 18 with (go_at_call 93; refine (HRg.out _).mono ?_; rintro e u1 ⟨b3, g3, rfl, HM, HGe, HB⟩; have HGe2 := Lib.hid (And.intro (Nat.le_trans HP.out.bel.size HGe.out.1) (Nat.le_trans HP.out.bel.size HGe.out.2)); have HP := Lib.hid (HP.out.on HB.out); have HBx := Lib.hid (HBx.out.on' HB.out))
          clear c0 c1 c2 c3 c4 c5
          obtain ⟨W3, hW3⟩ : ∃ W, u1.alloc (.cells #[.int .i64 2, .int .i64 4, .int .i64 9, .int .i64 3, .int .i64 2, .int .i64 0] 23) = W := ⟨_, rfl⟩
          have HB1 : Hid (Below u1.heap.size u1 W3) := by rw [← hW3]; exact (Below.refl u1.heap.size u1).alloc (Nat.le_refl _) _
          rw [hW3]
          clear hW3
          have HM := Lib.hid (HM.out.on HB1.out)
          have HP := Lib.hid (HP.out.on HB1.out)
          have HBx := Lib.hid (HBx.out.on' HB1.out)
          obtain ⟨c0, c1, c2, c3, c4, c5⟩ := boxG HBx.out
          go_wp2_with (first
            | (go_at_call 52; (with_reducible refine (HVtr.out _ _ _ _ _ HP.out).mono ?_); rintro e u2 ⟨rfl, rfl⟩)
            | (go_at_call 48; (with_reducible refine (HAll.out _ _ _ HM.out).mono ?_); rintro e u3 ⟨p4, n4, e4, rfl, hO4, ht4⟩; have HO4 := Lib.hid hO4.out; have HBE := Lib.hid (HP.out.bel.trans (ht4.out.below HP.out.bel.size (fun k hk => by have := HGe2.out; rcases hk with hk | hk <;> omega))); clear hO4 ht4)
            | (go_at_call 19; obtain ⟨_, _, _, ee, hnn⟩ := HO4.out.form; cases ee; refine (same_lit HO4.out (by decide) 2 rfl _ rfl _).mono ?_; rintro e u5 ⟨rfl, hb5⟩; have HBE := Lib.hid (HBE.out.trans ((((Below.refl u3.heap.size u3).alloc (Nat.le_refl _) (.cells #[.int .i64 5, .int .i64 6] 3)).trans (hb5.mono (by simp))).mono HBE.out.size)); clear hb5))
          go_ret
          exact ⟨rfl, HBE.out⟩
end Go.Proofs.Ytkhfanhboooilaa
