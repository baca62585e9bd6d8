/- The law's does (layer 8), walked: a Move, and none. -/
import Derived.Test.YtjdbmedealhbjaaDo
set_option linter.unusedSimpArgs false
set_option linter.unusedVariables false
namespace Go.Proofs.Ytjdbmedealhbjaa
open Go.RowKit Go.Wd Go.Dk

set_option maxRecDepth 20000 in
set_option maxHeartbeats 4000000 in
theorem does_move5 (D : DqApi) {T S R : Nat → Prop} {w : World} {a b q p : Nat} {xs ys : List Int} {u v vl : Value} (g : Int) (h : DS D T S R w a b q p xs ys u v xs ys) (hT : ∀ k, T k → k < w.heap.size) (hvl : ∃ pl nl cl, vl = .slice pl nl cl) (h64 : q ≤ 64 ∧ p ≤ 64) :
    Calls Try.prog 13 #[dptr a, dptr b, .agg #[.int .i64 q, u], .agg #[.int .i64 p, v], .agg #[.int .i64 5, .int .i64 g, vl]] w (DoesPost D T S R a b q p (mvF xs ys) (mvT p xs ys) w) := by
  obtain ⟨p1, n1, c1, rfl, hn1, _⟩ := h.ru.form
  obtain ⟨p2, n2, c2, rfl, hn2, _⟩ := h.rv.form
  obtain ⟨pl, nl, cl, rfl⟩ := hvl
  have HH := Lib.hid h
  have HT := Lib.hid hT
  have HLow : Hid (∀ k, (S k ∨ R k) → k < w.heap.size) := fun k e => ds_lt h hT k (.inr e)
  have HQ := Lib.hid (room_le (D.room h.one))
  have HXl := Lib.hid (And.intro (D.len h.one) (And.intro (D.len h.two) h64))
  have HQp := Lib.hid (room_le (D.room h.two))
  clear h hT hn1 hn2 h64
  obtain ⟨zs, hzs⟩ : ∃ zs, mvF xs ys = zs := ⟨_, rfl⟩
  obtain ⟨ms, hms⟩ : ∃ ms, mvT p xs ys = ms := ⟨_, rfl⟩
  obtain ⟨vv, hvv⟩ : ∃ vv, mvV xs ys = vv := ⟨_, rfl⟩
  obtain ⟨ok, hok⟩ : ∃ ok, mvB xs ys = ok := ⟨_, rfl⟩
  have HGr : Hid (∀ (S0 : Nat → Prop) (W : World), SlIs S0 W (.slice p1 n1 c1) xs → SlIs S0 W (.slice p2 n2 c2) ys → (∀ k, S0 k → k < W.heap.size) → Calls Try.prog 36 #[.agg #[.int .i64 q, .slice p1 n1 c1], .agg #[.int .i64 p, .slice p2 n2 c2]] W (RM S0 q zs p ms vv ok W)) := by
    intro S0 W h1 h2 hS
    have := rmove_any q p xs ys _ _ _ h1 h2 HQp.out (by have := HXl.out; omega) hS
    rw [hzs, hms, hvv, hok] at this
    exact this
  have HGd : Hid (∀ (S0 R0 : Nat → Prop) (W : World), D.Is S0 W a q xs → D.Is R0 W b p ys → (∀ k, S0 k → ¬ R0 k) → Calls Try.prog 23 #[dptr a, dptr b] W (MovePost D.Is S0 R0 a q zs b p ms (.tuple #[.int .i64 vv, .bool ok]) W)) := by
    intro S0 R0 W h1 h2 hap
    have := D.move_any h1 h2 hap
    rw [hzs, hms, hvv, hok] at this
    exact this
  rw [hzs, hms]
  clear hzs hms hvv hok
  unfold dptr
  go_enter Try.func13, Try.ntmps13
  go_wp2_with fail
  have HDB := Lib.hid (db_new w q (.slice p1 n1 c1) p (.slice p2 n2 c2) 5 g (.slice pl nl cl) HLow.out)
  obtain ⟨W, hW⟩ : ∃ W, ((((w.alloc (.cells #[.int .i64 q, .slice p1 n1 c1] 32)).alloc (.cells #[.int .i64 p, .slice p2 n2 c2] 32)).alloc (.cells #[.int .i64 5, .int .i64 g, .slice pl nl cl] 38)).alloc (.cells #[.int .i64 0, .slice none 0 0] 32)).alloc (.cells #[.int .i64 0, .slice none 0 0] 32) = W := ⟨_, rfl⟩
  obtain ⟨f, hf⟩ : ∃ f, w.heap.size = f := ⟨_, rfl⟩
  obtain ⟨t, ht⟩ : ∃ t, f + 1 = t := ⟨_, rfl⟩
  obtain ⟨c, hc⟩ : ∃ c, t + 1 = c := ⟨_, rfl⟩
  obtain ⟨r, hr⟩ : ∃ r, c + 1 = r := ⟨_, rfl⟩
  obtain ⟨s, hs⟩ : ∃ s, r + 1 = s := ⟨_, rfl⟩
  rw [hW, hf, ht, hc, hr, hs] at HDB
  rw [hW, hf, ht, hc, hr, hs]
  have HF := Lib.hid hf
  have HBW : Hid (Below w.heap.size w W) := by
    show Below _ _ _
    rw [← hW]
    exact (((((Below.refl _ _).alloc (Nat.le_refl _) _).alloc (by simp) _).alloc (by simp; omega) _).alloc (by simp; omega) _).alloc (by simp; omega) _
  clear hW hf ht hc hr hs
  have HSW : Hid (s < W.heap.size) := HDB.out.lt
  have HH0 : Hid (DS D (fun k => T k ∨ k = r ∨ k = s) S R W a b q p xs ys (.slice p1 n1 c1) (.slice p2 n2 c2) xs ys) := (HH.out.less (T' := fun k => T k ∨ k = r ∨ k = s) (fun k e => e.imp id (fun e => by have := HDB.out.ge; have := HF.out; rcases e with e | e <;> omega))).on HBW.out
  have HT0 : Hid (∀ k, (T k ∨ k = r ∨ k = s) → k < W.heap.size) := fun k e => by
    have := HDB.out.ge
    have := HSW.out
    have := HBW.out.size
    rcases e with e | e | e
    · have := HT.out k e; omega
    · omega
    · omega
  clear HH HT
  refine (HGr.out _ _ HH0.out.ru HH0.out.rv (ds_lt HH0.out HT0.out)).mono ?_
  rintro e w1 ⟨p3, n3, c3, p4, n4, c4, rfl, hn3, hn4, hs3, hs4, hb1⟩
  have HX1 := Lib.hid (HDB.out.dx2 (q' := q) (u' := .slice p3 n3 c3) (p' := p) (v' := .slice p4 n4 c4) hb1).1
  have HHn : Hid (Below w1.heap.size w1 ((w1.alloc (.cells #[.int .i64 q, .slice p3 n3 c3] 32)).alloc (.cells #[.int .i64 p, .slice p4 n4 c4] 32))) := ((Below.refl _ _).alloc (Nat.le_refl _) _).alloc (by simp) _
  have HH1 := Lib.hid ((HH0.out.refs hb1 hs3 hs4).on HHn.out)
  have HS1 : Hid (s < w1.heap.size + 1 + 1 ∧ w.heap.size ≤ w1.heap.size + 1 + 1) := ⟨by have := HSW.out; have := hb1.size; omega, by have := HBW.out.size; have := hb1.size; omega⟩
  clear hn3 hn4 hs3 hs4 hb1 HH0 HT0 HDB
  go_wp2_with fail
  obtain ⟨W1, hW1⟩ : ∃ W1, (w1.alloc (.cells #[.int .i64 q, .slice p3 n3 c3] 32)).alloc (.cells #[.int .i64 p, .slice p4 n4 c4] 32) = W1 := ⟨_, rfl⟩
  obtain ⟨x, hx⟩ : ∃ x, w1.heap.size = x := ⟨_, rfl⟩
  obtain ⟨y, hy⟩ : ∃ y, x + 1 = y := ⟨_, rfl⟩
  have hW1s : w1.heap.size + 1 + 1 = W1.heap.size := by rw [← hW1]; simp
  rw [hW1s] at HS1
  rw [hW1, hx, hy] at HX1
  rw [hW1] at HH1
  rw [hW1, hx, hy]
  clear hW1 hx hy hW1s HHn
  go_wp2_with fail
  refine (HGd.out _ _ _ HH1.out.one HH1.out.two HH1.out.ap).mono ?_
  rintro e w2 ⟨S', R', rfl, hI, hJ, hap, hsub, hsub2, ht2⟩
  have HT2 := Lib.hid ht2
  have HX2 := Lib.hid (HX1.out.go HT2.out (fun k e => .inl e))
  have HI2 := Lib.hid hI
  have HA2 := Lib.hid (And.intro hap (And.intro hsub hsub2))
  have HR2 := Lib.hid hJ
  clear hI hJ hap hsub hsub2 ht2
  go_wp2_with fail
  have HKd := Lib.hid HX2.out.ecellsd
  have ne1 : ¬ (s = r) := by have := HX2.out.ge; omega
  have ne2 : ¬ (r = s) := by have := HX2.out.ge; omega
  obtain ⟨rc0, rc1, rf0, rf1⟩ := HX2.out.res.two
  obtain ⟨sc0, sc1, sf0, sf1⟩ := HX2.out.ses.two
  go_region_held3 (fun w' => (w'.cell? ⟨x, 0, none⟩ = some (.int .i64 q) ∧ w'.cell? ⟨x, 1, none⟩ = some (.slice p3 n3 c3)) ∧ w'.cell? ⟨y, 0, none⟩ = some (.int .i64 p) ∧ w'.cell? ⟨y, 1, none⟩ = some (.slice p4 n4 c4))
    (first | (with_reducible exact HKd.out) | (with_reducible exact HX2.out.ekeptd _ _) | (with_reducible exact HX2.out.ekept2d _ _ _ _)) (fail)
  have HE := Lib.hid (does_end HH1.out HI2.out HR2.out HA2.out.1 HA2.out.2.1 HA2.out.2.2 HT2.out HX2.out HS1.out.1 HS1.out.2)
  have HP := HX2.out.put (.int .i64 q) (.slice p3 n3 c3) (.int .i64 p) (.slice p4 n4 c4)
  unfold putT at HP HE
  have hp0 := HP.1.cell 0
  have hp1 := HP.1.cell 1
  have hq0 := HP.2.1.cell 0
  have hq1 := HP.2.1.cell 1
  simp only [List.getElem?_cons_zero, List.getElem?_cons_succ] at hp0 hp1 hq0 hq1
  have HTw := Lib.hid HP.2.2
  have HEd := Lib.hid (HE.out.1.on ((Below.refl _ _).drew))
  clear HP rc0 rc1 rf0 rf1 sc0 sc1 sf0 sf1 ne1 ne2
  go_wp2
  exact bodyPost_ret (v := .tuple #[.agg #[.int .i64 q, .slice p3 n3 c3], .agg #[.int .i64 p, .slice p4 n4 c4], .bool true]) (by simp [results, Try.results13, go_sem, hp0, hp1, hq0, hq1]) rfl ⟨S', R', _, _, _, _, _, _, rfl, HEd.out, HE.out.2.1, HE.out.2.2, HTw.out.trans (Tch.of _ ((Below.refl _ _).drew))⟩
set_option maxRecDepth 20000 in
set_option maxHeartbeats 4000000 in
theorem does_move6 (D : DqApi) {T S R : Nat → Prop} {w : World} {a b q p : Nat} {xs ys : List Int} {u v vl : Value} (g : Int) (h : DS D T S R w a b q p xs ys u v xs ys) (hT : ∀ k, T k → k < w.heap.size) (hvl : ∃ pl nl cl, vl = .slice pl nl cl) (h64 : q ≤ 64 ∧ p ≤ 64) :
    Calls Try.prog 13 #[dptr a, dptr b, .agg #[.int .i64 q, u], .agg #[.int .i64 p, v], .agg #[.int .i64 6, .int .i64 g, vl]] w (DoesPost D T S R a b q p (mvT q ys xs) (mvF ys xs) w) := by
  obtain ⟨p1, n1, c1, rfl, hn1, _⟩ := h.ru.form
  obtain ⟨p2, n2, c2, rfl, hn2, _⟩ := h.rv.form
  obtain ⟨pl, nl, cl, rfl⟩ := hvl
  have HH := Lib.hid h
  have HT := Lib.hid hT
  have HLow : Hid (∀ k, (S k ∨ R k) → k < w.heap.size) := fun k e => ds_lt h hT k (.inr e)
  have HQ := Lib.hid (room_le (D.room h.one))
  have HXl := Lib.hid (And.intro (D.len h.one) (And.intro (D.len h.two) h64))
  have HQp := Lib.hid (room_le (D.room h.two))
  clear h hT hn1 hn2 h64
  obtain ⟨zs, hzs⟩ : ∃ zs, mvT q ys xs = zs := ⟨_, rfl⟩
  obtain ⟨ms, hms⟩ : ∃ ms, mvF ys xs = ms := ⟨_, rfl⟩
  obtain ⟨vv, hvv⟩ : ∃ vv, mvV ys xs = vv := ⟨_, rfl⟩
  obtain ⟨ok, hok⟩ : ∃ ok, mvB ys xs = ok := ⟨_, rfl⟩
  have HGr : Hid (∀ (S0 : Nat → Prop) (W : World), SlIs S0 W (.slice p1 n1 c1) xs → SlIs S0 W (.slice p2 n2 c2) ys → (∀ k, S0 k → k < W.heap.size) → Calls Try.prog 36 #[.agg #[.int .i64 p, .slice p2 n2 c2], .agg #[.int .i64 q, .slice p1 n1 c1]] W (RM S0 p ms q zs vv ok W)) := by
    intro S0 W h1 h2 hS
    have := rmove_any p q ys xs _ _ _ h2 h1 HQ.out (by have := HXl.out; omega) hS
    rw [hzs, hms, hvv, hok] at this
    exact this
  have HGd : Hid (∀ (S0 R0 : Nat → Prop) (W : World), D.Is S0 W a q xs → D.Is R0 W b p ys → (∀ k, S0 k → ¬ R0 k) → Calls Try.prog 23 #[dptr b, dptr a] W (MovePost D.Is R0 S0 b p ms a q zs (.tuple #[.int .i64 vv, .bool ok]) W)) := by
    intro S0 R0 W h1 h2 hap
    have := D.move_any h2 h1 (fun k e e2 => hap k e2 e)
    rw [hzs, hms, hvv, hok] at this
    exact this
  rw [hzs, hms]
  clear hzs hms hvv hok
  unfold dptr
  go_enter Try.func13, Try.ntmps13
  go_wp2_with fail
  have HDB := Lib.hid (db_new w q (.slice p1 n1 c1) p (.slice p2 n2 c2) 6 g (.slice pl nl cl) HLow.out)
  obtain ⟨W, hW⟩ : ∃ W, ((((w.alloc (.cells #[.int .i64 q, .slice p1 n1 c1] 32)).alloc (.cells #[.int .i64 p, .slice p2 n2 c2] 32)).alloc (.cells #[.int .i64 6, .int .i64 g, .slice pl nl cl] 38)).alloc (.cells #[.int .i64 0, .slice none 0 0] 32)).alloc (.cells #[.int .i64 0, .slice none 0 0] 32) = W := ⟨_, rfl⟩
  obtain ⟨f, hf⟩ : ∃ f, w.heap.size = f := ⟨_, rfl⟩
  obtain ⟨t, ht⟩ : ∃ t, f + 1 = t := ⟨_, rfl⟩
  obtain ⟨c, hc⟩ : ∃ c, t + 1 = c := ⟨_, rfl⟩
  obtain ⟨r, hr⟩ : ∃ r, c + 1 = r := ⟨_, rfl⟩
  obtain ⟨s, hs⟩ : ∃ s, r + 1 = s := ⟨_, rfl⟩
  rw [hW, hf, ht, hc, hr, hs] at HDB
  rw [hW, hf, ht, hc, hr, hs]
  have HF := Lib.hid hf
  have HBW : Hid (Below w.heap.size w W) := by
    show Below _ _ _
    rw [← hW]
    exact (((((Below.refl _ _).alloc (Nat.le_refl _) _).alloc (by simp) _).alloc (by simp; omega) _).alloc (by simp; omega) _).alloc (by simp; omega) _
  clear hW hf ht hc hr hs
  have HSW : Hid (s < W.heap.size) := HDB.out.lt
  have HH0 : Hid (DS D (fun k => T k ∨ k = r ∨ k = s) S R W a b q p xs ys (.slice p1 n1 c1) (.slice p2 n2 c2) xs ys) := (HH.out.less (T' := fun k => T k ∨ k = r ∨ k = s) (fun k e => e.imp id (fun e => by have := HDB.out.ge; have := HF.out; rcases e with e | e <;> omega))).on HBW.out
  have HT0 : Hid (∀ k, (T k ∨ k = r ∨ k = s) → k < W.heap.size) := fun k e => by
    have := HDB.out.ge
    have := HSW.out
    have := HBW.out.size
    rcases e with e | e | e
    · have := HT.out k e; omega
    · omega
    · omega
  clear HH HT
  refine (HGr.out _ _ HH0.out.ru HH0.out.rv (ds_lt HH0.out HT0.out)).mono ?_
  rintro e w1 ⟨p4, n4, c4, p3, n3, c3, rfl, hn4, hn3, hs4, hs3, hb1⟩
  have HX1 := Lib.hid (HDB.out.dx2 (q' := p) (u' := .slice p4 n4 c4) (p' := q) (v' := .slice p3 n3 c3) hb1).2
  have HHn : Hid (Below w1.heap.size w1 ((w1.alloc (.cells #[.int .i64 p, .slice p4 n4 c4] 32)).alloc (.cells #[.int .i64 q, .slice p3 n3 c3] 32))) := ((Below.refl _ _).alloc (Nat.le_refl _) _).alloc (by simp) _
  have HH1 := Lib.hid ((HH0.out.refs hb1 hs3 hs4).on HHn.out)
  have HS1 : Hid (s < w1.heap.size + 1 + 1 ∧ w.heap.size ≤ w1.heap.size + 1 + 1) := ⟨by have := HSW.out; have := hb1.size; omega, by have := HBW.out.size; have := hb1.size; omega⟩
  clear hn3 hn4 hs3 hs4 hb1 HH0 HT0 HDB
  go_wp2_with fail
  obtain ⟨W1, hW1⟩ : ∃ W1, (w1.alloc (.cells #[.int .i64 p, .slice p4 n4 c4] 32)).alloc (.cells #[.int .i64 q, .slice p3 n3 c3] 32) = W1 := ⟨_, rfl⟩
  obtain ⟨x, hx⟩ : ∃ x, w1.heap.size = x := ⟨_, rfl⟩
  obtain ⟨y, hy⟩ : ∃ y, x + 1 = y := ⟨_, rfl⟩
  have hW1s : w1.heap.size + 1 + 1 = W1.heap.size := by rw [← hW1]; simp
  rw [hW1s] at HS1
  rw [hW1, hx, hy] at HX1
  rw [hW1] at HH1
  rw [hW1, hx, hy]
  clear hW1 hx hy hW1s HHn
  go_wp2_with fail
  refine (HGd.out _ _ _ HH1.out.one HH1.out.two HH1.out.ap).mono ?_
  rintro e w2 ⟨R', S', rfl, hJ, hI, hap', hsub2, hsub, ht2⟩
  have hap : ∀ k, S' k → ¬ R' k := fun k e e2 => hap' k e2 e
  have HT2 := Lib.hid (ht2.wide (R := fun k => S k ∨ R k) (fun k e => e.symm))
  have HX2 := Lib.hid (HX1.out.go HT2.out (fun k e => .inl e))
  have HI2 := Lib.hid hI
  have HA2 := Lib.hid (And.intro hap (And.intro hsub hsub2))
  have HR2 := Lib.hid hJ
  clear hI hJ hap hsub hsub2 ht2 hap'
  go_wp2_with fail
  have HKd := Lib.hid HX2.out.ecellsd
  have ne1 : ¬ (s = r) := by have := HX2.out.ge; omega
  have ne2 : ¬ (r = s) := by have := HX2.out.ge; omega
  obtain ⟨rc0, rc1, rf0, rf1⟩ := HX2.out.res.two
  obtain ⟨sc0, sc1, sf0, sf1⟩ := HX2.out.ses.two
  go_region_held3 (fun w' => (w'.cell? ⟨y, 0, none⟩ = some (.int .i64 q) ∧ w'.cell? ⟨y, 1, none⟩ = some (.slice p3 n3 c3)) ∧ w'.cell? ⟨x, 0, none⟩ = some (.int .i64 p) ∧ w'.cell? ⟨x, 1, none⟩ = some (.slice p4 n4 c4))
    (first | (with_reducible exact HKd.out) | (with_reducible exact HX2.out.ekeptd _ _) | (with_reducible exact HX2.out.ekept2d _ _ _ _)) (fail)
  have HE := Lib.hid (does_end HH1.out HI2.out HR2.out HA2.out.1 HA2.out.2.1 HA2.out.2.2 HT2.out HX2.out HS1.out.1 HS1.out.2)
  have HP := HX2.out.put (.int .i64 q) (.slice p3 n3 c3) (.int .i64 p) (.slice p4 n4 c4)
  unfold putT at HP HE
  have hp0 := HP.1.cell 0
  have hp1 := HP.1.cell 1
  have hq0 := HP.2.1.cell 0
  have hq1 := HP.2.1.cell 1
  simp only [List.getElem?_cons_zero, List.getElem?_cons_succ] at hp0 hp1 hq0 hq1
  have HTw := Lib.hid HP.2.2
  have HEd := Lib.hid (HE.out.1.on ((Below.refl _ _).drew))
  clear HP rc0 rc1 rf0 rf1 sc0 sc1 sf0 sf1 ne1 ne2
  go_wp2
  exact bodyPost_ret (v := .tuple #[.agg #[.int .i64 q, .slice p3 n3 c3], .agg #[.int .i64 p, .slice p4 n4 c4], .bool true]) (by simp [results, Try.results13, go_sem, hp0, hp1, hq0, hq1]) rfl ⟨S', R', _, _, _, _, _, _, rfl, HEd.out, HE.out.2.1, HE.out.2.2, HTw.out.trans (Tch.of _ ((Below.refl _ _).drew))⟩
end Go.Proofs.Ytjdbmedealhbjaa
