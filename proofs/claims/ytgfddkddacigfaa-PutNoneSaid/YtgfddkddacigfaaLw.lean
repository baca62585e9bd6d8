/- The law's works (layer 9), walked over what is asked of the code's put. -/
import Derived.Test.YtgfddkddacigfaaLr
set_option linter.unusedSimpArgs false
set_option linter.unusedVariables false
namespace Go.Proofs.Ytgfddkddacigfaa
open Go.RowKit Go.Cg Go.Pu Go.Wd Go.Ce

/-- a row beside a literal of the same numbers -/
theorem same_lit {B n c : Nat} {W : World} {p : Option Addr} {xs : List Int} (h : NewRow B W (.slice p n c) xs) (hl : xs.length ≤ 1000) (k : Nat) (hk : k = xs.length) (arr : Array Value) (ha : (xs.map (Value.int .i64)).toArray = arr) (t : TypeId) :
    Calls Try.prog 17 #[.slice p n c, .slice (some ⟨W.heap.size, 0, none⟩) k k] (W.alloc (.cells arr t)) (Ans (.bool true) (W.alloc (.cells arr t))) := by
  subst hk ha
  have hb := (Below.refl W.heap.size W).alloc (Nat.le_refl _) (.cells (xs.map (Value.int .i64)).toArray t)
  have h1 : SlIs (fun _ => False) (W.alloc (.cells (xs.map (Value.int .i64)).toArray t)) (.slice p n c) xs := (h.on hb).sl (by omega) (fun _ _ h => h)
  have h2 : SlIs (fun _ => False) (W.alloc (.cells (xs.map (Value.int .i64)).toArray t)) (.slice (some ⟨W.heap.size, 0, none⟩) xs.length xs.length) xs := ⟨_, _, rfl, Nat.le_refl _, by unfold maxLen; omega, (fun e => by cases e), LiesN.made (lies_new .i64 xs W t _ rfl hl) (fun _ _ _ h => h)⟩
  have := sameints_gen xs xs _ _ _ h1 h2
  rw [show sameB xs xs = true by unfold sameB; exact decide_eq_true rfl] at this
  exact this
abbrev isK (k1 : Nat) : Nat → Prop := fun k => k = k1
theorem boxW {k1 : Nat} {W : World} (h : Row k1 23 (cCells cWk) W) : W.cell? ⟨k1, 0, none⟩ = some (.int .i64 1) ∧ W.cell? ⟨k1, 1, none⟩ = some (.int .i64 2) ∧ W.cell? ⟨k1, 2, none⟩ = some (.int .i64 9) ∧ W.cell? ⟨k1, 3, none⟩ = some (.int .i64 2) ∧ W.cell? ⟨k1, 4, none⟩ = some (.int .i64 2) ∧ W.cell? ⟨k1, 5, none⟩ = some (.int .i64 0) :=
  ⟨h.cell 0, h.cell 1, h.cell 2, h.cell 3, h.cell 4, h.cell 5⟩
/-- the first run's facts about its states, under letters -/
structure WkF (D : PutApi) (w : World) (x0 x1 x2 x3 : PS) (m0 m1 m2 m3 : PM) : Prop where
  u0 : U64 m0
  ring : Hid (∀ W, Calls Try.prog 38 #[] W (fun e w' => ∃ b g, e = .returned (.tuple #[.agg #[.int .i64 1, .int .i64 2, .int .i64 9, .int .i64 2, .int .i64 2, .int .i64 0], pptr b]) ∧ Hid (MemIs w' b g m0) ∧ Hid (W.heap.size ≤ b ∧ W.heap.size ≤ g) ∧ Hid (Below W.heap.size W w')))
  new : Hid (∀ W, Calls Try.prog 12 #[.agg #[.int .i64 1, .int .i64 2, .int .i64 9, .int .i64 2, .int .i64 2, .int .i64 0], .int .i64 0, .int .i64 7] W (MadeP D.Is x0 W))
  st1 : Hid (∀ k1 W pb b g, PX D (isK k1) w W pb b g x0 m0 → Calls Try.prog 22 #[pptr pb, pptr b] W (fun e w' => e = .returned (.bool false) ∧ Hid (PX D (isK k1) w w' pb b g x1 m1) ∧ Hid (Tch (fun k => ¬ isK k1 k) W w')))
  st2 : Hid (∀ k1 W pb b g, PX D (isK k1) w W pb b g x1 m1 → Calls Try.prog 22 #[pptr pb, pptr b] W (fun e w' => e = .returned (.bool false) ∧ Hid (PX D (isK k1) w w' pb b g x2 m2) ∧ Hid (Tch (fun k => ¬ isK k1 k) W w')))
  st3 : Hid (∀ k1 W pb b g, PX D (isK k1) w W pb b g x2 m2 → Calls Try.prog 22 #[pptr pb, pptr b] W (fun e w' => e = .returned (.bool true) ∧ Hid (PX D (isK k1) w w' pb b g x3 m3) ∧ Hid (Tch (fun k => ¬ isK k1 k) W w')))
  over : Hid (∀ k1 W pb b g, PX D (isK k1) w W pb b g x3 m3 → Calls Try.prog 16 #[pptr pb] W (RowPost8 [6, 7] W))
  rg : Hid (∀ W b g, MemIs W b g m3 → Calls Try.prog 32 #[.agg #[.int .i64 1, .int .i64 2, .int .i64 9, .int .i64 2, .int .i64 2, .int .i64 0], pptr b, .int .i64 0] W (RowPost8 [5] W))
theorem wkF (D : PutApi) (w : World) : WkF D w (newP cWk 0 7) wk1.1 wk2.1 wk3.1 mWk wk1.2 wk2.2 wk3.2 := by
  obtain ⟨r1, r2, r3, ro, rr⟩ := wk_run
  obtain ⟨o0, o1, o2, -⟩ := wk_ops
  exact ⟨mWk_mk.u, fun W => ringlaw_any W, fun W => D.new_any cWk 0 7 W,
    fun k1 W pb b g h => h.step (by rw [o0]; decide) rfl rfl r1,
    fun k1 W pb b g h => h.step (Nat.le_trans (Nat.succ_le_succ o1) (by decide)) rfl rfl r2,
    fun k1 W pb b g h => h.step (Nat.le_trans (Nat.succ_le_succ o2) (by decide)) rfl rfl r3,
    fun k1 W pb b g h => by rw [← ro]; exact h.over,
    fun W b g h => by
      have := ring_any 1 2 9 2 2 0 0 wk_mk.1 h
      rw [← rr]
      exact this⟩
/-- the second run's, behind its thief -/
structure VkF (D : PutApi) (w : World) (x1 v1 v2 v3 v4 v5 : PS) (m1 n0 n1 n2 n3 n4 n5 : PM) : Prop where
  u0 : U64 n0
  th : Hid (∀ W b g, MemIs W b g m1 → Calls Try.prog 33 #[.agg #[.int .i64 1, .int .i64 2, .int .i64 9, .int .i64 2, .int .i64 2, .int .i64 0], pptr b, .int .i64 0, .int .i64 1] W (fun e w' => ∃ q k c2, e = .returned (.slice q k c2) ∧ Hid (MemIs w' b g n0) ∧ Hid (Tch (Own b g) W w')))
  st1 : Hid (∀ k1 W pb b g, PX D (isK k1) w W pb b g x1 n0 → Calls Try.prog 22 #[pptr pb, pptr b] W (fun e w' => e = .returned (.bool false) ∧ Hid (PX D (isK k1) w w' pb b g v1 n1) ∧ Hid (Tch (fun k => ¬ isK k1 k) W w')))
  st2 : Hid (∀ k1 W pb b g, PX D (isK k1) w W pb b g v1 n1 → Calls Try.prog 22 #[pptr pb, pptr b] W (fun e w' => e = .returned (.bool false) ∧ Hid (PX D (isK k1) w w' pb b g v2 n2) ∧ Hid (Tch (fun k => ¬ isK k1 k) W w')))
  st3 : Hid (∀ k1 W pb b g, PX D (isK k1) w W pb b g v2 n2 → Calls Try.prog 22 #[pptr pb, pptr b] W (fun e w' => e = .returned (.bool false) ∧ Hid (PX D (isK k1) w w' pb b g v3 n3) ∧ Hid (Tch (fun k => ¬ isK k1 k) W w')))
  st4 : Hid (∀ k1 W pb b g, PX D (isK k1) w W pb b g v3 n3 → Calls Try.prog 22 #[pptr pb, pptr b] W (fun e w' => e = .returned (.bool false) ∧ Hid (PX D (isK k1) w w' pb b g v4 n4) ∧ Hid (Tch (fun k => ¬ isK k1 k) W w')))
  st5 : Hid (∀ k1 W pb b g, PX D (isK k1) w W pb b g v4 n4 → Calls Try.prog 22 #[pptr pb, pptr b] W (fun e w' => e = .returned (.bool true) ∧ Hid (PX D (isK k1) w w' pb b g v5 n5) ∧ Hid (Tch (fun k => ¬ isK k1 k) W w')))
  over : Hid (∀ k1 W pb b g, PX D (isK k1) w W pb b g v5 n5 → Calls Try.prog 16 #[pptr pb] W (RowPost8 [] W))
  rg : Hid (∀ W b g, MemIs W b g n5 → Calls Try.prog 32 #[.agg #[.int .i64 1, .int .i64 2, .int .i64 9, .int .i64 2, .int .i64 2, .int .i64 0], pptr b, .int .i64 0] W (RowPost8 [6, 7] W))
theorem vkF (D : PutApi) (w : World) : VkF D w wk1.1 vk1.1 vk2.1 vk3.1 vk4.1 vk5.1 wk1.2 vk0 vk1.2 vk2.2 vk3.2 vk4.2 vk5.2 := by
  obtain ⟨r1, r2, r3, r4, r5, ro, rr⟩ := vk_run
  obtain ⟨-, q1, -, o0, o1, o2, o3, o4⟩ := wk_ops
  exact ⟨vk_mk.2.u, fun W b g h => (thief_any 1 2 9 2 2 0 0 1 wk_mk.2 h (Nat.le_trans (Nat.add_le_add_right q1 2) (by decide)) (by decide)).mono (fun e w' ⟨q, k, c2, h1, _, h3, h4⟩ => ⟨q, k, c2, h1, h3, h4⟩),
    fun k1 W pb b g h => h.step (Nat.le_trans (Nat.succ_le_succ o0) (by decide)) rfl rfl r1,
    fun k1 W pb b g h => h.step (Nat.le_trans (Nat.succ_le_succ o1) (by decide)) rfl rfl r2,
    fun k1 W pb b g h => h.step (Nat.le_trans (Nat.succ_le_succ o2) (by decide)) rfl rfl r3,
    fun k1 W pb b g h => h.step (Nat.le_trans (Nat.succ_le_succ o3) (by decide)) rfl rfl r4,
    fun k1 W pb b g h => h.step (Nat.le_trans (Nat.succ_le_succ o4) (by decide)) rfl rfl r5,
    fun k1 W pb b g h => by rw [← ro]; exact h.over,
    fun W b g h => by
      have := ring_any 1 2 9 2 2 0 0 vk_mk.1 h
      rw [← rr]
      exact this⟩
set_option maxRecDepth 100000 in
set_option maxHeartbeats 4000000 in
theorem works_any (D : PutApi) (w : World) : Calls Try.prog 9 #[] w (Ans (.bool true) w) := by
  obtain ⟨x0, x1, x2, x3, m0, m1, m2, m3, hF, hV⟩ : ∃ x0 x1 x2 x3 m0 m1 m2 m3, WkF D w x0 x1 x2 x3 m0 m1 m2 m3 ∧ ∃ v1 v2 v3 v4 v5 n0 n1 n2 n3 n4 n5, VkF D w x1 v1 v2 v3 v4 v5 m1 n0 n1 n2 n3 n4 n5 := ⟨_, _, _, _, _, _, _, _, wkF D w, _, _, _, _, _, _, _, _, _, _, _, vkF D w⟩
  obtain ⟨v1, v2, v3, v4, v5, n0, n1, n2, n3, n4, n5, hG⟩ := hV
  obtain ⟨hU0, HRg, HNew, HSt1, HSt2, HSt3, HOv, HRi⟩ := hF
  obtain ⟨hV0, HTh, HVt1, HVt2, HVt3, HVt4, HVt5, HVv, HVi⟩ := hG
  go_enter Try.func9, Try.ntmps9
  go_upto_region 2 with (go_at_call 38; refine (HRg.out _).mono ?_; rintro e w1 ⟨b, g, rfl, HM, HGe, HB⟩)
  have hbx := Row.new w1 23 (cCells cWk)
  have hb1 := (Below.refl w1.heap.size w1).alloc (Nat.le_refl _) (.cells (cCells cWk).toArray 23)
  obtain ⟨W1, hW1⟩ : ∃ W, w1.alloc (.cells #[.int .i64 1, .int .i64 2, .int .i64 9, .int .i64 2, .int .i64 2, .int .i64 0] 23) = W := ⟨_, rfl⟩
  obtain ⟨k1, hk1⟩ : ∃ k, w1.heap.size = k := ⟨_, rfl⟩
  have HBx : Hid (Row k1 23 (cCells cWk) W1) := by rw [← hW1, ← hk1]; exact hbx
  have HB1 : Hid (Below w1.heap.size w1 W1) := by rw [← hW1]; exact hb1
  have HKp : Hid (∀ k, isK k1 k → k < W1.heap.size ∧ ¬ Own b g k) := fun k hk => by
    have h1 := HM.out.lt
    have h2 := HBx.out.lt
    subst hk
    exact ⟨h2, fun e => by rcases e with e | e <;> omega⟩
  rw [hW1, hk1]
  clear hbx hb1 hW1 hk1
  obtain ⟨c0, c1, c2, c3, c4, c5⟩ := boxW HBx.out
  go_upto_region 3 with (go_at_call 12; (with_reducible refine (HNew.out _).mono ?_); rintro e w2 ⟨pb, S, rfl, i1, i2, i3⟩; have HP : Hid (PX D (isK k1) w w2 pb b g x0 m0) := Lib.hid (PX.made (HM.out.on HB1.out) hU0 (HB.out.trans (HB1.out.mono HB.out.size)) HGe.out HKp.out i1.out i2.out i3.out); have HBx := Lib.hid (HBx.out.on' i3.out); clear i1 i2 i3)
  clear c0 c1 c2 c3 c4 c5
  obtain ⟨c0, c1, c2, c3, c4, c5⟩ := boxW HBx.out
  go_upto_region 5 with (first
    | (go_at_call 22; (with_reducible refine (HSt1.out _ _ _ _ _ HP.out).mono ?_); rintro e wq ⟨rfl, HP, ht⟩; have HBx := Lib.hid (HBx.out.tch ht.out (fun h => h rfl)); clear ht; obtain ⟨c0, c1, c2, c3, c4, c5⟩ := boxW HBx.out)
    | (go_at_call 22; (with_reducible refine (HSt2.out _ _ _ _ _ HP.out).mono ?_); rintro e wq ⟨rfl, HP, ht⟩; have HBx := Lib.hid (HBx.out.tch ht.out (fun h => h rfl)); clear ht; obtain ⟨c0, c1, c2, c3, c4, c5⟩ := boxW HBx.out)
    | (go_at_call 22; (with_reducible refine (HSt3.out _ _ _ _ _ HP.out).mono ?_); rintro e wq ⟨rfl, HP, ht⟩; have HBx := Lib.hid (HBx.out.tch ht.out (fun h => h rfl)); clear ht; obtain ⟨c0, c1, c2, c3, c4, c5⟩ := boxW HBx.out)
    | (go_at_call 16; (with_reducible refine (HOv.out _ _ _ _ _ HP.out).mono ?_); rintro e wq ⟨p1, n1, e1, rfl, hn1, hO1, hb1⟩; have HO1 := Lib.hid hO1; have HP := Lib.hid (HP.out.on hb1); have HBx := Lib.hid (HBx.out.on' hb1); clear hn1 hO1 hb1)
    | (go_at_call 17; refine (same_lit HO1.out (by decide) 2 rfl _ rfl _).mono ?_; rintro e wr ⟨rfl, hbr⟩; have hba := (Below.refl wq.heap.size wq).alloc (Nat.le_refl _) (.cells #[.int .i64 6, .int .i64 7] 3); have HP := Lib.hid ((HP.out.on hba).on hbr); have HBx := Lib.hid ((HBx.out.on' hba).on' hbr); clear hba hbr HO1; obtain ⟨c0, c1, c2, c3, c4, c5⟩ := boxW HBx.out)
    | (go_at_call 32; (with_reducible refine (HRi.out _ _ _ HP.out.mem).mono ?_); rintro e ws ⟨p2, n2, e2, rfl, hn2, hO2, hb2⟩; have HO2 := Lib.hid hO2; have HP := Lib.hid (HP.out.on hb2); have HBx := Lib.hid (HBx.out.on' hb2); clear hn2 hO2 hb2)
    | (go_at_call 17; refine (same_lit HO2.out (by decide) 1 rfl _ rfl _).mono ?_; rintro e wt ⟨rfl, hbr⟩; have hba := (Below.refl ws.heap.size ws).alloc (Nat.le_refl _) (.cells #[.int .i64 5] 3); have HP := Lib.hid ((HP.out.on hba).on hbr); have HBx := Lib.hid ((HBx.out.on' hba).on' hbr); clear hba hbr HO2; obtain ⟨c0, c1, c2, c3, c4, c5⟩ := boxW HBx.out))
  have HK1 : Hid (k1 < wt.heap.size) := Lib.hid HBx.out.lt
  have HBw : Hid (Below w.heap.size w wt) := Lib.hid HP.out.bel
  clear HSt2 HSt3 HOv HRi HP HM HGe HB HKp HB1
  go_upto_region 6 with (go_at_call 38; refine (HRg.out _).mono ?_; rintro e y1 ⟨b', g', rfl, HM, HGe, HB⟩; have HBx := Lib.hid (HBx.out.on' HB.out); obtain ⟨c0, c1, c2, c3, c4, c5⟩ := boxW HBx.out)
  have hb1 := (Below.refl y1.heap.size y1).alloc (Nat.le_refl _) (.cells (cCells cWk).toArray 23)
  obtain ⟨W2, hW2⟩ : ∃ W, y1.alloc (.cells #[.int .i64 1, .int .i64 2, .int .i64 9, .int .i64 2, .int .i64 2, .int .i64 0] 23) = W := ⟨_, rfl⟩
  have HB1 : Hid (Below y1.heap.size y1 W2) := by rw [← hW2]; exact hb1
  have HKp : Hid (∀ k, isK k1 k → k < W2.heap.size ∧ ¬ Own b' g' k) := fun k hk => by
    have h2 := HB1.out.size
    have h3 := HBx.out.lt
    have h4 := HGe.out
    have h5 := HK1.out
    subst hk
    exact ⟨by omega, fun e => by rcases e with e | e <;> omega⟩
  have HBx := Lib.hid (HBx.out.on' HB1.out)
  rw [hW2]
  clear hb1 hW2
  clear c0 c1 c2 c3 c4 c5
  obtain ⟨c0, c1, c2, c3, c4, c5⟩ := boxW HBx.out
  go_upto_region 7 with (go_at_call 12; (with_reducible refine (HNew.out _).mono ?_); rintro e y2 ⟨pb', S', rfl, i1, i2, i3⟩; have HP : Hid (PX D (isK k1) w y2 pb' b' g' x0 m0) := Lib.hid (PX.made (HM.out.on HB1.out) hU0 (HBw.out.trans ((HB.out.mono HBw.out.size).trans (HB1.out.mono (Nat.le_trans HBw.out.size HB.out.size)))) (And.intro (Nat.le_trans HBw.out.size HGe.out.1) (Nat.le_trans HBw.out.size HGe.out.2)) HKp.out i1.out i2.out i3.out); have HBx := Lib.hid (HBx.out.on' i3.out); clear i1 i2 i3)
  clear c0 c1 c2 c3 c4 c5
  obtain ⟨c0, c1, c2, c3, c4, c5⟩ := boxW HBx.out
  go_upto_region 9 with (first
    | (go_at_call 22; (with_reducible refine (HSt1.out _ _ _ _ _ HP.out).mono ?_); rintro e wq ⟨rfl, HP, ht⟩; have HBx := Lib.hid (HBx.out.tch ht.out (fun h => h rfl)); clear ht; obtain ⟨c0, c1, c2, c3, c4, c5⟩ := boxW HBx.out)
    | (go_at_call 33; (with_reducible refine (HTh.out _ _ _ HP.out.mem).mono ?_); rintro e wq ⟨q0, k0, c20, rfl, hm0, ht0⟩; have HBx := Lib.hid (HBx.out.tch ht0.out (HP.out.kp k1 rfl).2); have HP := Lib.hid (HP.out.mem' hm0.out hV0 ht0.out); clear hm0 ht0; obtain ⟨c0, c1, c2, c3, c4, c5⟩ := boxW HBx.out))
  go_upto_region 11 with (first
    | (go_at_call 22; (with_reducible refine (HVt1.out _ _ _ _ _ HP.out).mono ?_); rintro e wq ⟨rfl, HP, ht⟩; have HBx := Lib.hid (HBx.out.tch ht.out (fun h => h rfl)); clear ht; obtain ⟨c0, c1, c2, c3, c4, c5⟩ := boxW HBx.out)
    | (go_at_call 22; (with_reducible refine (HVt2.out _ _ _ _ _ HP.out).mono ?_); rintro e wq ⟨rfl, HP, ht⟩; have HBx := Lib.hid (HBx.out.tch ht.out (fun h => h rfl)); clear ht; obtain ⟨c0, c1, c2, c3, c4, c5⟩ := boxW HBx.out)
    | (go_at_call 22; (with_reducible refine (HVt3.out _ _ _ _ _ HP.out).mono ?_); rintro e wq ⟨rfl, HP, ht⟩; have HBx := Lib.hid (HBx.out.tch ht.out (fun h => h rfl)); clear ht; obtain ⟨c0, c1, c2, c3, c4, c5⟩ := boxW HBx.out)
    | (go_at_call 22; (with_reducible refine (HVt4.out _ _ _ _ _ HP.out).mono ?_); rintro e wq ⟨rfl, HP, ht⟩; have HBx := Lib.hid (HBx.out.tch ht.out (fun h => h rfl)); clear ht; obtain ⟨c0, c1, c2, c3, c4, c5⟩ := boxW HBx.out)
    | (go_at_call 22; (with_reducible refine (HVt5.out _ _ _ _ _ HP.out).mono ?_); rintro e wq ⟨rfl, HP, ht⟩; have HBx := Lib.hid (HBx.out.tch ht.out (fun h => h rfl)); clear ht; obtain ⟨c0, c1, c2, c3, c4, c5⟩ := boxW HBx.out))
  go_wp2_with fail
  refine (HVv.out _ _ _ _ _ HP.out).mono ?_
  rintro e z1 ⟨p3, n3, e3, rfl, hn3, -, hb3⟩
  have hn3 := hn3.out
  simp only [List.length_nil] at hn3
  subst hn3
  have HP := Lib.hid (HP.out.on hb3)
  have HBx := Lib.hid (HBx.out.on' hb3)
  clear hb3
  obtain ⟨c0, c1, c2, c3, c4, c5⟩ := boxW HBx.out
  go_wp2_with fail
  refine (HVi.out _ _ _ HP.out.mem).mono ?_
  rintro e z2 ⟨p4, n4, e4, rfl, hn4, hO4, hb4⟩
  have HO4 := Lib.hid hO4
  have HP := Lib.hid (HP.out.on hb4)
  clear hn4 hO4 hb4
  go_wp2_with fail
  refine (same_lit HO4.out (by decide) 2 rfl _ rfl _).mono ?_
  rintro e z3 ⟨rfl, hb5⟩
  have HB5 := Lib.hid (HP.out.bel.trans ((((Below.refl z2.heap.size z2).alloc (Nat.le_refl _) (.cells #[.int .i64 6, .int .i64 7] 3)).trans (hb5.mono (by simp))).mono HP.out.bel.size))
  clear hb5 HO4
  go_wp2
  go_ret
  exact ⟨rfl, HB5.out⟩
end Go.Proofs.Ytgfddkddacigfaa
