/- The law's does (layer 8), walked: a Steal, a Get. -/
import Derived.Test.YtjdbmedealhbjaaDo
set_option linter.unusedSimpArgs false
set_option linter.unusedVariables false
namespace Go.Proofs.Ytjdbmedealhbjaa
open Go.RowKit Go.Wd Go.Dk

set_option maxRecDepth 20000 in
set_option maxHeartbeats 4000000 in
theorem does_steal (D : DqApi) {T S R : Nat → Prop} {w : World} {a b q p : Nat} {xs ys : List Int} {u v vl : Value} (g : Int) (h : DS D T S R w a b q p xs ys u v xs ys) (hT : ∀ k, T k → k < w.heap.size) (hvl : ∃ pl nl cl, vl = .slice pl nl cl) :
    Calls Try.prog 13 #[dptr a, dptr b, .agg #[.int .i64 q, u], .agg #[.int .i64 p, v], .agg #[.int .i64 4, .int .i64 g, vl]] w (DoesPost D T S R a b q p (stL xs) ys w) := by
  obtain ⟨p1, n1, c1, rfl, hn1, _⟩ := h.ru.form
  obtain ⟨p2, n2, c2, rfl, hn2, _⟩ := h.rv.form
  obtain ⟨pl, nl, cl, rfl⟩ := hvl
  have HH := Lib.hid h
  have HT := Lib.hid hT
  have HLow : Hid (∀ k, (S k ∨ R k) → k < w.heap.size) := fun k e => ds_lt h hT k (.inr e)
  have HQ := Lib.hid (room_le (D.room h.one))
  have HXl := Lib.hid (D.len h.one)
  clear h hT hn1 hn2
  unfold dptr
  go_enter Try.func13, Try.ntmps13
  go_wp2_with fail
  have HDB := Lib.hid (db_new w q (.slice p1 n1 c1) p (.slice p2 n2 c2) 4 g (.slice pl nl cl) HLow.out)
  obtain ⟨W, hW⟩ : ∃ W, ((((w.alloc (.cells #[.int .i64 q, .slice p1 n1 c1] 32)).alloc (.cells #[.int .i64 p, .slice p2 n2 c2] 32)).alloc (.cells #[.int .i64 4, .int .i64 g, .slice pl nl cl] 38)).alloc (.cells #[.int .i64 0, .slice none 0 0] 32)).alloc (.cells #[.int .i64 0, .slice none 0 0] 32) = W := ⟨_, rfl⟩
  obtain ⟨f, hf⟩ : ∃ f, w.heap.size = f := ⟨_, rfl⟩
  obtain ⟨t, ht⟩ : ∃ t, f + 1 = t := ⟨_, rfl⟩
  obtain ⟨c, hc⟩ : ∃ c, t + 1 = c := ⟨_, rfl⟩
  obtain ⟨r, hr⟩ : ∃ r, c + 1 = r := ⟨_, rfl⟩
  obtain ⟨s, hs⟩ : ∃ s, r + 1 = s := ⟨_, rfl⟩
  rw [hW, hf, ht, hc, hr, hs] at HDB
  rw [hW, hf, ht, hc, hr, hs]
  have HF := Lib.hid hf
  have HBW : Hid (Below w.heap.size w W) := by
    show Below _ _ _
    rw [← hW]
    exact (((((Below.refl _ _).alloc (Nat.le_refl _) _).alloc (by simp) _).alloc (by simp; omega) _).alloc (by simp; omega) _).alloc (by simp; omega) _
  clear hW hf ht hc hr hs
  have HSW : Hid (s < W.heap.size) := HDB.out.lt
  have HH0 : Hid (DS D (fun k => T k ∨ k = r ∨ k = s) S R W a b q p xs ys (.slice p1 n1 c1) (.slice p2 n2 c2) xs ys) := (HH.out.less (T' := fun k => T k ∨ k = r ∨ k = s) (fun k e => e.imp id (fun e => by have := HDB.out.ge; have := HF.out; rcases e with e | e <;> omega))).on HBW.out
  have HT0 : Hid (∀ k, (T k ∨ k = r ∨ k = s) → k < W.heap.size) := fun k e => by
    have := HDB.out.ge
    have := HSW.out
    have := HBW.out.size
    rcases e with e | e | e
    · have := HT.out k e; omega
    · omega
    · omega
  clear HH HT
  refine (rsteal_any q xs _ _ HH0.out.ru).mono ?_
  rintro e w1 ⟨p3, n3, c3, p4, n4, c4, rfl, hn3, hn4, hs3, hs4, hb1⟩
  have HX1 := Lib.hid (HDB.out.dx1 (q' := q) (u' := .slice p3 n3 c3) hb1)
  have HH1 := Lib.hid ((HH0.out.ref1 hb1 hs3).on ((Below.refl w1.heap.size w1).alloc (Nat.le_refl _) (.cells #[.int .i64 q, .slice p3 n3 c3] 32)))
  have HS1 : Hid (s < w1.heap.size + 1 ∧ w.heap.size ≤ w1.heap.size + 1) := ⟨by have := HSW.out; have := hb1.size; omega, by have := HBW.out.size; have := hb1.size; omega⟩
  have HO1 := Lib.hid (hs4.on ((Below.refl w1.heap.size w1).alloc (Nat.le_refl _) (.cells #[.int .i64 q, .slice p3 n3 c3] 32)))
  clear hn3 hn4 hs3 hs4 hb1 HH0 HT0 HDB
  go_wp2_with fail
  obtain ⟨W1, hW1⟩ : ∃ W1, w1.alloc (.cells #[.int .i64 q, .slice p3 n3 c3] 32) = W1 := ⟨_, rfl⟩
  obtain ⟨x, hx⟩ : ∃ x, w1.heap.size = x := ⟨_, rfl⟩
  have hW1s : w1.heap.size + 1 = W1.heap.size := by rw [← hW1]; simp
  rw [hW1s] at HS1
  rw [hW1, hx] at HX1
  rw [hW1] at HH1 HO1
  rw [hW1, hx]
  clear hW1 hx hW1s
  go_wp2_with fail
  have HKd := Lib.hid HX1.out.ecellsd
  have HPut := Lib.hid (D.steal_any (D.on HH1.out.one ((Below.refl W1.heap.size W1).drew)))
  have HOl : Hid ((stO xs).length ≤ 1000000) := by have := HXl.out; have := HQ.out; show _ ≤ _; rw [stO_len]; unfold stN; omega
  have ne1 : ¬ (s = r) := by have := HX1.out.ge; omega
  have ne2 : ¬ (r = s) := by have := HX1.out.ge; omega
  go_region_held3 (fun w' => (w'.cell? ⟨x, 0, none⟩ = some (.int .i64 q) ∧ w'.cell? ⟨x, 1, none⟩ = some (.slice p3 n3 c3)) ∧ w'.cell? ⟨t, 0, none⟩ = some (.int .i64 p) ∧ w'.cell? ⟨t, 1, none⟩ = some (.slice p2 n2 c2))
    (first | (with_reducible exact HKd.out) | (with_reducible exact HX2.out.ecells) | (with_reducible exact HX3.out.ecells) | (with_reducible exact HX3.out.ekept _ _) | (with_reducible exact HX3.out.ekept2 _ _ _ _))
    (first
      | (go_at_call 21; (with_reducible refine HPut.out.mono ?_); rintro e w2 ⟨p5, n5, c5, S', rfl, hn5, hI, hrow, hap, hsub, ht2d⟩; have ht2 := ht2d.undrew; have HT2 := Lib.hid ht2; have HX2 := Lib.hid (HX1.out.go ht2 (fun k e => .inl (.inl e))); have HI2 := Lib.hid hI; have HR2 := Lib.hid hrow; have HA2 := Lib.hid (And.intro hap hsub); have HO2 := Lib.hid ((HO1.out).tch (ht2.wide (R := fun k => (T k ∨ k = r ∨ k = s) ∨ S k ∨ R k) (fun k e => .inr (.inl e)))); have HF2 : Hid (∀ k, (Value.slice p5 n5 c5).ownBlock = some k → W1.heap.size ≤ k) := (fun k e => (hrow.lt k e).1); clear hI hrow hap hsub ht2 ht2d hn5)
      | (go_at_call 27; (with_reducible refine (row_same (stO xs) _ _ _ HR2.out HOl.out HO2.out).mono ?_); rintro e w3 ⟨rfl, ht3⟩; have HT3 := Lib.hid ((HT2.out.wide (R := fun k => S k ∨ R k) (fun k e => .inl e)).into ht3 (fun k e => .inr (HF2.out k e))); have HX3 := Lib.hid (HX1.out.go HT3.out (fun k e => .inl e)); have HW3 := Lib.hid ht3; obtain ⟨rc0, rc1, rf0, rf1⟩ := HX3.out.res.two; obtain ⟨sc0, sc1, sf0, sf1⟩ := HX3.out.ses.two; clear ht3))
  have HE := Lib.hid (does_end HH1.out (D.tch HI2.out HW3.out (fun k e e2 => HA2.out.1 k e2 e)) (D.tch (D.tch HH1.out.two HT2.out (fun k e e2 => HH1.out.ap k e2 e)) HW3.out (fun k e e2 => by have h1 := HF2.out k e2; have h2 := D.lt HH1.out.two k e; omega)) (fun k e e2 => by
    rcases HA2.out.2 k e with e3 | e3
    · exact HH1.out.ap k e3 e2
    · have h2 := D.lt HH1.out.two k e2
      have e4 : W1.drew.heap.size = W1.heap.size := rfl
      omega) HA2.out.2 (fun k e => .inl e) HT3.out HX3.out HS1.out.1 HS1.out.2)
  have HP := HX3.out.put (.int .i64 q) (.slice p3 n3 c3) (.int .i64 p) (.slice p2 n2 c2)
  unfold putT at HP HE
  have hp0 := HP.1.cell 0
  have hp1 := HP.1.cell 1
  have hq0 := HP.2.1.cell 0
  have hq1 := HP.2.1.cell 1
  simp only [List.getElem?_cons_zero, List.getElem?_cons_succ] at hp0 hp1 hq0 hq1
  have HTw := Lib.hid HP.2.2
  clear HP rc0 rc1 rf0 rf1 sc0 sc1 sf0 sf1 ne1 ne2
  go_wp2
  exact bodyPost_ret (v := .tuple #[.agg #[.int .i64 q, .slice p3 n3 c3], .agg #[.int .i64 p, .slice p2 n2 c2], .bool true]) (by simp [results, Try.results13, go_sem, hp0, hp1, hq0, hq1]) rfl ⟨S', R, _, _, _, _, _, _, rfl, HE.out.1, HE.out.2.1, HE.out.2.2, HTw.out⟩
set_option maxRecDepth 20000 in
set_option maxHeartbeats 4000000 in
theorem does_get (D : DqApi) {T S R : Nat → Prop} {w : World} {a b q p : Nat} {xs ys : List Int} {u v vl : Value} (g : Int) (h : DS D T S R w a b q p xs ys u v xs ys) (hT : ∀ k, T k → k < w.heap.size) (hvl : ∃ pl nl cl, vl = .slice pl nl cl) :
    Calls Try.prog 13 #[dptr a, dptr b, .agg #[.int .i64 q, u], .agg #[.int .i64 p, v], .agg #[.int .i64 3, .int .i64 g, vl]] w (DoesPost D T S R a b q p xs.tail ys w) := by
  obtain ⟨p1, n1, c1, rfl, hn1, _⟩ := h.ru.form
  obtain ⟨p2, n2, c2, rfl, hn2, _⟩ := h.rv.form
  obtain ⟨pl, nl, cl, rfl⟩ := hvl
  have HH := Lib.hid h
  have HT := Lib.hid hT
  have HLow : Hid (∀ k, (S k ∨ R k) → k < w.heap.size) := fun k e => ds_lt h hT k (.inr e)
  have HQ := Lib.hid (room_le (D.room h.one))
  have HXl := Lib.hid (D.len h.one)
  clear h hT hn1 hn2
  obtain ⟨zs, hzs⟩ : ∃ zs, xs.tail = zs := ⟨_, rfl⟩
  obtain ⟨vv, hvv⟩ : ∃ vv, xs.headD 0 = vv := ⟨_, rfl⟩
  obtain ⟨ok, hok⟩ : ∃ ok, decide (0 < xs.length) = ok := ⟨_, rfl⟩
  have HGr : Hid (∀ (S0 : Nat → Prop) (W : World), SlIs S0 W (.slice p1 n1 c1) xs → Calls Try.prog 34 #[.agg #[.int .i64 q, .slice p1 n1 c1]] W (RG S0 q zs vv ok W)) := by
    intro S0 W h
    have := rget_any q xs _ _ h
    rw [hzs, hvv, hok] at this
    exact this
  have HGd : Hid (∀ (S0 : Nat → Prop) (W : World), D.Is S0 W a q xs → Calls Try.prog 20 #[dptr a] W (ValPost D.Is S0 a q zs (.tuple #[.int .i64 vv, .bool ok]) W)) := by
    intro S0 W h
    have := D.get_any h
    rw [hzs, hvv, hok] at this
    exact this
  rw [hzs]
  clear hzs hvv hok
  unfold dptr
  go_enter Try.func13, Try.ntmps13
  go_wp2_with fail
  have HDB := Lib.hid (db_new w q (.slice p1 n1 c1) p (.slice p2 n2 c2) 3 g (.slice pl nl cl) HLow.out)
  obtain ⟨W, hW⟩ : ∃ W, ((((w.alloc (.cells #[.int .i64 q, .slice p1 n1 c1] 32)).alloc (.cells #[.int .i64 p, .slice p2 n2 c2] 32)).alloc (.cells #[.int .i64 3, .int .i64 g, .slice pl nl cl] 38)).alloc (.cells #[.int .i64 0, .slice none 0 0] 32)).alloc (.cells #[.int .i64 0, .slice none 0 0] 32) = W := ⟨_, rfl⟩
  obtain ⟨f, hf⟩ : ∃ f, w.heap.size = f := ⟨_, rfl⟩
  obtain ⟨t, ht⟩ : ∃ t, f + 1 = t := ⟨_, rfl⟩
  obtain ⟨c, hc⟩ : ∃ c, t + 1 = c := ⟨_, rfl⟩
  obtain ⟨r, hr⟩ : ∃ r, c + 1 = r := ⟨_, rfl⟩
  obtain ⟨s, hs⟩ : ∃ s, r + 1 = s := ⟨_, rfl⟩
  rw [hW, hf, ht, hc, hr, hs] at HDB
  rw [hW, hf, ht, hc, hr, hs]
  have HF := Lib.hid hf
  have HBW : Hid (Below w.heap.size w W) := by
    show Below _ _ _
    rw [← hW]
    exact (((((Below.refl _ _).alloc (Nat.le_refl _) _).alloc (by simp) _).alloc (by simp; omega) _).alloc (by simp; omega) _).alloc (by simp; omega) _
  clear hW hf ht hc hr hs
  have HSW : Hid (s < W.heap.size) := HDB.out.lt
  have HH0 : Hid (DS D (fun k => T k ∨ k = r ∨ k = s) S R W a b q p xs ys (.slice p1 n1 c1) (.slice p2 n2 c2) xs ys) := (HH.out.less (T' := fun k => T k ∨ k = r ∨ k = s) (fun k e => e.imp id (fun e => by have := HDB.out.ge; have := HF.out; rcases e with e | e <;> omega))).on HBW.out
  have HT0 : Hid (∀ k, (T k ∨ k = r ∨ k = s) → k < W.heap.size) := fun k e => by
    have := HDB.out.ge
    have := HSW.out
    have := HBW.out.size
    rcases e with e | e | e
    · have := HT.out k e; omega
    · omega
    · omega
  clear HH HT
  refine (HGr.out _ _ HH0.out.ru).mono ?_
  rintro e w1 ⟨p3, n3, c3, rfl, hn3, hs3, hb1⟩
  have HX1 := Lib.hid (HDB.out.dx1 (q' := q) (u' := .slice p3 n3 c3) hb1)
  have HH1 := Lib.hid ((HH0.out.ref1 hb1 hs3).on ((Below.refl w1.heap.size w1).alloc (Nat.le_refl _) (.cells #[.int .i64 q, .slice p3 n3 c3] 32)))
  have HS1 : Hid (s < w1.heap.size + 1 ∧ w.heap.size ≤ w1.heap.size + 1) := ⟨by have := HSW.out; have := hb1.size; omega, by have := HBW.out.size; have := hb1.size; omega⟩
  clear hn3 hs3 hb1 HH0 HT0 HDB
  go_wp2_with fail
  obtain ⟨W1, hW1⟩ : ∃ W1, w1.alloc (.cells #[.int .i64 q, .slice p3 n3 c3] 32) = W1 := ⟨_, rfl⟩
  obtain ⟨x, hx⟩ : ∃ x, w1.heap.size = x := ⟨_, rfl⟩
  have hW1s : w1.heap.size + 1 = W1.heap.size := by rw [← hW1]; simp
  rw [hW1s] at HS1
  rw [hW1, hx] at HX1
  rw [hW1] at HH1
  rw [hW1, hx]
  clear hW1 hx hW1s
  go_wp2_with fail
  refine (HGd.out _ _ HH1.out.one).mono ?_
  rintro e w2 ⟨S', rfl, hI, hsub, ht2⟩
  have HT2 := Lib.hid (ht2.wide (R := fun k => S k ∨ R k) (fun k e => .inl e))
  have HX2 := Lib.hid (HX1.out.go HT2.out (fun k e => .inl e))
  have HI2 := Lib.hid hI
  have HA2 := Lib.hid hsub
  have HR2 : Hid (D.Is R w2 b p ys) := D.tch HH1.out.two ht2 (fun k e e2 => HH1.out.ap k e2 e)
  have HLR : Hid (∀ k, R k → k < W1.heap.size) := fun k e => D.lt HH1.out.two k e
  clear hI hsub ht2
  go_wp2_with fail
  have HKd := Lib.hid HX2.out.ecellsd
  have ne1 : ¬ (s = r) := by have := HX2.out.ge; omega
  have ne2 : ¬ (r = s) := by have := HX2.out.ge; omega
  obtain ⟨rc0, rc1, rf0, rf1⟩ := HX2.out.res.two
  obtain ⟨sc0, sc1, sf0, sf1⟩ := HX2.out.ses.two
  go_region_held3 (fun w' => (w'.cell? ⟨x, 0, none⟩ = some (.int .i64 q) ∧ w'.cell? ⟨x, 1, none⟩ = some (.slice p3 n3 c3)) ∧ w'.cell? ⟨t, 0, none⟩ = some (.int .i64 p) ∧ w'.cell? ⟨t, 1, none⟩ = some (.slice p2 n2 c2))
    (first | (with_reducible exact HKd.out) | (with_reducible exact HX2.out.ekeptd _ _) | (with_reducible exact HX2.out.ekept2d _ _ _ _)) (fail)
  have HE := Lib.hid (does_end HH1.out HI2.out HR2.out (fun k e e2 => by
    rcases HA2.out k e with e3 | e3
    · exact HH1.out.ap k e3 e2
    · have h2 := HLR.out k e2
      omega) HA2.out (fun k e => .inl e) HT2.out HX2.out HS1.out.1 HS1.out.2)
  have HP := HX2.out.put (.int .i64 q) (.slice p3 n3 c3) (.int .i64 p) (.slice p2 n2 c2)
  unfold putT at HP HE
  have hp0 := HP.1.cell 0
  have hp1 := HP.1.cell 1
  have hq0 := HP.2.1.cell 0
  have hq1 := HP.2.1.cell 1
  simp only [List.getElem?_cons_zero, List.getElem?_cons_succ] at hp0 hp1 hq0 hq1
  have HTw := Lib.hid HP.2.2
  have HEd := Lib.hid (HE.out.1.on ((Below.refl _ _).drew))
  clear HP rc0 rc1 rf0 rf1 sc0 sc1 sf0 sf1 ne1 ne2
  go_wp2
  exact bodyPost_ret (v := .tuple #[.agg #[.int .i64 q, .slice p3 n3 c3], .agg #[.int .i64 p, .slice p2 n2 c2], .bool true]) (by simp [results, Try.results13, go_sem, hp0, hp1, hq0, hq1]) rfl ⟨S', R, _, _, _, _, _, _, rfl, HEd.out, HE.out.2.1, HE.out.2.2, HTw.out.trans (Tch.of _ ((Below.refl _ _).drew))⟩
end Go.Proofs.Ytjdbmedealhbjaa
