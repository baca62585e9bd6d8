/- The law's does (layer 8), walked: a Lay. -/
import Derived.Test.YtjdbmedealhbjaaDt
import Derived.Deep.Cut
set_option linter.unusedSimpArgs false
set_option linter.unusedVariables false
namespace Go.Proofs.Ytjdbmedealhbjaa
open Go.RowKit Go.Wd Go.Dk

set_option maxRecDepth 20000 in
set_option maxHeartbeats 4000000 in
theorem does_lay (D : DqApi) {T S R : Nat → Prop} {w : World} {a b q p : Nat} {xs ys : List Int} {u v vl : Value} (g : Int) (h : DS D T S R w a b q p xs ys u v xs ys) (hT : ∀ k, T k → k < w.heap.size) (l : List Int) (hvl : SlIs (fun k => T k ∨ S k ∨ R k) w vl l) (hll : l.length ≤ 80) :
    Calls Try.prog 13 #[dptr a, dptr b, .agg #[.int .i64 q, u], .agg #[.int .i64 p, v], .agg #[.int .i64 2, .int .i64 g, vl]] w (DoesPost D T S R a b q p (layL q xs l) ys w) := by
  obtain ⟨p1, n1, c1, rfl, hn1, _⟩ := h.ru.form
  obtain ⟨p2, n2, c2, rfl, hn2, _⟩ := h.rv.form
  obtain ⟨pl, nl, cl, rfl, hnl⟩ := hid_slice hvl
  have HVL := Lib.hid hvl
  have HLL := Lib.hid (And.intro hll hnl)
  have HH := Lib.hid h
  have HT := Lib.hid hT
  have HLow : Hid (∀ k, (S k ∨ R k) → k < w.heap.size) := fun k e => ds_lt h hT k (.inr e)
  have HQ := Lib.hid (room_le (D.room h.one))
  have HXl := Lib.hid (D.len h.one)
  clear h hT hn1 hn2 hvl hll hnl
  obtain ⟨zs, hzs⟩ : ∃ zs, layL q xs l = zs := ⟨_, rfl⟩
  obtain ⟨vv, hvv⟩ : ∃ vv, layN q xs l = vv := ⟨_, rfl⟩
  have HGr : Hid (∀ (S0 R0 : Nat → Prop) (W : World), SlIs S0 W (.slice p1 n1 c1) xs → SlIs R0 W (.slice pl nl cl) l → (∀ k, S0 k → k < W.heap.size) → Calls Try.prog 33 #[.agg #[.int .i64 q, .slice p1 n1 c1], .slice pl nl cl] W (RL S0 q zs vv W)) := by
    intro S0 R0 W h1 h2 h3
    have := rlay_any q xs l _ _ _ h1 h2 HQ.out HXl.out (by have := HLL.out; omega) h3
    rw [hzs, hvv] at this
    exact this
  have HGd : Hid (∀ (S0 : Nat → Prop) (W : World) (v : Value), D.Is S0 W a q xs → SlIs S0 W v l → Calls Try.prog 19 #[dptr a, v] W (ValPost D.Is S0 a q zs (.int .i64 vv) W)) := by
    intro S0 W v h1 h2
    have := D.lay_any v l h1 h2 (by have := HLL.out; omega)
    rw [hzs, hvv] at this
    exact this
  rw [hzs]
  clear hzs hvv
  unfold dptr
  go_enter Try.func13, Try.ntmps13
  go_upto_region 8 with (fail)
  have HDB := Lib.hid (db_new w q (.slice p1 n1 c1) p (.slice p2 n2 c2) 2 g (.slice pl nl cl) HLow.out)
  obtain ⟨W, hW⟩ : ∃ W, ((((w.alloc (.cells #[.int .i64 q, .slice p1 n1 c1] 32)).alloc (.cells #[.int .i64 p, .slice p2 n2 c2] 32)).alloc (.cells #[.int .i64 2, .int .i64 g, .slice pl nl cl] 38)).alloc (.cells #[.int .i64 0, .slice none 0 0] 32)).alloc (.cells #[.int .i64 0, .slice none 0 0] 32) = W := ⟨_, rfl⟩
  obtain ⟨f, hf⟩ : ∃ f, w.heap.size = f := ⟨_, rfl⟩
  obtain ⟨t, ht⟩ : ∃ t, f + 1 = t := ⟨_, rfl⟩
  obtain ⟨c, hc⟩ : ∃ c, t + 1 = c := ⟨_, rfl⟩
  obtain ⟨r, hr⟩ : ∃ r, c + 1 = r := ⟨_, rfl⟩
  obtain ⟨s, hs⟩ : ∃ s, r + 1 = s := ⟨_, rfl⟩
  rw [hW, hf, ht, hc, hr, hs] at HDB
  rw [hW, hf, ht, hc, hr, hs]
  have HF := Lib.hid hf
  have HBW : Hid (Below w.heap.size w W) := by
    show Below _ _ _
    rw [← hW]
    exact (((((Below.refl _ _).alloc (Nat.le_refl _) _).alloc (by simp) _).alloc (by simp; omega) _).alloc (by simp; omega) _).alloc (by simp; omega) _
  clear hW hf ht hc hr hs
  have HSW : Hid (s < W.heap.size) := HDB.out.lt
  have HH0 : Hid (DS D (fun k => T k ∨ k = r ∨ k = s) S R W a b q p xs ys (.slice p1 n1 c1) (.slice p2 n2 c2) xs ys) := (HH.out.less (T' := fun k => T k ∨ k = r ∨ k = s) (fun k e => e.imp id (fun e => by have := HDB.out.ge; have := HF.out; rcases e with e | e <;> omega))).on HBW.out
  have HT0 : Hid (∀ k, (T k ∨ k = r ∨ k = s) → k < W.heap.size) := fun k e => by
    have := HDB.out.ge
    have := HSW.out
    have := HBW.out.size
    rcases e with e | e | e
    · have := HT.out k e; omega
    · omega
    · omega
  clear HH HT
  have HV0 := Lib.hid (HVL.out.on HBW.out)
  have HC9 := HDB.out.act.cell 2
  simp only [List.getElem?_cons_zero, List.getElem?_cons_succ] at HC9
  have HLn : Hid (([] : List Int).length + l.length ≤ 1000000) := by have := HLL.out; show _ ≤ _; simp; omega
  go_wp2_with (at_builtin; ((refine append_new (B := W.heap.size) W rfl (.tmp 63) (.tmp 65) (by rfl) _ (.slice none 0 0) [] l (by kernel_rfl) (NewRow.nil _ _) (by kernel_rfl) HV0.out HLn.out (Nat.le_refl _) ?_); intro v1 W1 hn1 hg1; obtain ⟨p5, n5, c5, rfl, hn5⟩ := hn1.begun.form; have HN1 := Lib.hid hn1.begun; have HB1 := Lib.hid (nil_begun hg1); have HN5 := Lib.hid hn5; have hC9b := HB1.out.cell (p := ⟨c, 2, none⟩) (show c < W.heap.size from HDB.out.act.lt); rw [HC9] at hC9b; obtain ⟨⟨fc0, fc1⟩, _, _⟩ := (HDB.out.on HB1.out).dx.cells; clear hn1 hg1 hn5))
  have HH1 := Lib.hid ((HH0.out.less (T' := fun k => (T k ∨ (Value.slice p5 n5 c5).ownBlock = some k) ∨ k = r ∨ k = s) (fun k e => by
    rcases e with (e | e) | e
    · exact .inl (.inl e)
    · exact .inr (HN1.out.lt k e).1
    · exact .inl (.inr e))).on HB1.out)
  have HD1 := Lib.hid (HDB.out.on HB1.out)
  have HTl : Hid (∀ k, ((T k ∨ (Value.slice p5 n5 c5).ownBlock = some k) ∨ k = r ∨ k = s) → k < W1.heap.size) := fun k e => by
    have := HB1.out.size
    rcases e with (e | e) | e
    · have := HT0.out k (.inl e); omega
    · exact (HN1.out.lt k e).2
    · have := HT0.out k (.inr e); omega
  have HV1 := Lib.hid (HV0.out.on HB1.out)
  refine (HGr.out _ _ _ HH1.out.ru HV1.out (ds_lt HH1.out HTl.out)).mono ?_
  rintro e w2 ⟨p3, n3, c3, rfl, hn3, hs3, hb2⟩
  have HX2 := Lib.hid (HD1.out.dx1 (q' := q) (u' := .slice p3 n3 c3) hb2)
  have HBn : Hid (Below w2.heap.size w2 (w2.alloc (.cells #[.int .i64 q, .slice p3 n3 c3] 32))) := (Below.refl _ _).alloc (Nat.le_refl _) _
  have HH2 := Lib.hid ((HH1.out.ref1 hb2 hs3).on HBn.out)
  have HR2 := Lib.hid ((HN1.out.on hb2).on HBn.out)
  have HOx : Hid (∀ k, (Value.slice p5 n5 c5).ownBlock = some k → k ≠ w2.heap.size) := fun k e => by have := (HN1.out.lt k e).2; have := hb2.size; omega
  have HS1 : Hid (s < w2.heap.size + 1 ∧ w.heap.size ≤ w2.heap.size + 1 ∧ W.heap.size ≤ w2.heap.size + 1) := ⟨by have := HSW.out; have := hb2.size; have := HB1.out.size; omega, by have := HBW.out.size; have := hb2.size; have := HB1.out.size; omega, by have := hb2.size; have := HB1.out.size; omega⟩
  clear hn3 hs3 hb2 HH0 HT0 HDB HV1 hC9b HC9 fc0 fc1
  go_wp2_with fail
  obtain ⟨W2, hW2⟩ : ∃ W2, w2.alloc (.cells #[.int .i64 q, .slice p3 n3 c3] 32) = W2 := ⟨_, rfl⟩
  obtain ⟨x, hx⟩ : ∃ x, w2.heap.size = x := ⟨_, rfl⟩
  have hW2s : w2.heap.size + 1 = W2.heap.size := by rw [← hW2]; simp
  rw [hW2s] at HS1
  rw [hW2, hx] at HX2
  rw [hx] at HOx
  rw [hW2] at HH2 HR2
  rw [hW2, hx]
  clear hW2 hx hW2s HBn
  go_wp2_with fail
  have HOwn : Hid (∀ k, (Value.slice p5 n5 c5).ownBlock = some k → W.heap.size ≤ k ∧ k < W2.heap.size ∧ k ≠ x) := fun k e => ⟨(HR2.out.lt k e).1, (HR2.out.lt k e).2, HOx.out k e⟩
  have HLow2 : Hid (∀ k, (S k ∨ R k) → k < W.heap.size) := fun k e => by have := HX2.out.low k e; have := HBW.out.size; omega
  have HSl2 : Hid (SlIs S W2 (.slice p5 n5 c5) l) := HR2.out.sl (by have := HLL.out; omega) (fun k e e2 => by have := (HOwn.out k e).1; have := HLow2.out k (.inl e2); omega)
  refine (HGd.out _ _ _ HH2.out.one HSl2.out).mono ?_
  rintro e w3 ⟨S', rfl, hI, hsub, ht3⟩
  have HT3 := Lib.hid ht3
  have HI3 := Lib.hid hI
  have HA3 := Lib.hid hsub
  have HO3 : Hid (OwnW p5 n5 w3) := (HR2.out.ownw HN5.out).tch (c := c5) ht3 (fun k e e2 => by have := (HOwn.out k e).1; have := HLow2.out k (.inl e2); omega)
  have l5 : n5 ≤ 80 := by have := HN5.out; have := HLL.out; omega
  clear hI hsub ht3
  go_wp2_with fail
  go_loopw [19] (fun vi wr => ∃ k : Nat, k ≤ n5 ∧ vi = .int .i64 k ∧ Hid (OwnW p5 n5 wr) ∧ Hid (Tch (fun k => (Value.slice p5 n5 c5).ownBlock = some k) w3 wr)) (fun vi _ => n5 - (intOf vi).toNat)
  case atStart => exact ⟨0, by omega, rfl, HO3, Lib.hid (Tch.refl _ _)⟩
  case round =>
    obtain ⟨k, hk, rfl, HO, HTr⟩ := hrel
    by_cases hlt : k < n5
    · rcases HO.out with h0 | ⟨gg, cs, rfl, hr, hcl⟩
      · omega
      have hcell : wr.cell? ⟨gg, 0 + k, none⟩ = some (cs.getD k default) := by
        rw [Nat.zero_add, hr.cell, List.getElem?_eq_getElem (by omega)]
        simp [List.getD, show k < cs.length by omega]
      have hfr : wr.frozen? ⟨gg, 0 + k, none⟩ = false := hr.frozen _
      have HR1 : Hid (Row gg 3 (cs.set k (.int .i64 (-77))) (wr.setCell ⟨gg, k, none⟩ (.int .i64 (-77)))) := hr.set _ _
      have HL := Lib.hid hcl
      clear hr hcl HO
      generalize cs.getD k default = zz at hcell
      simp only [Nat.zero_add] at hcell hfr
      go_wp2_with fail
      go_roundw
      case rel => exact ⟨k + 1, by omega, by go_num, Lib.hid (.inr ⟨gg, _, rfl, HR1.out, by simpa using HL.out⟩), Lib.hid (HTr.out.setCell (p := ⟨gg, k, none⟩) (.inl rfl) _)⟩
      case measure =>
        show _ < _
        simp only [intOf]; omega
    · obtain rfl : k = n5 := by omega
      obtain ⟨O, hO⟩ : ∃ O : Nat → Prop, (fun j => (Value.slice p5 k c5).ownBlock = some j) = O := ⟨_, rfl⟩
      have HTo : Hid (Tch O w3 wr) := by show Tch _ _ _; rw [← hO]; exact HTr.out
      have HOo : Hid (∀ j, O j → W.heap.size ≤ j ∧ j < W2.heap.size ∧ j ≠ x) := fun j e => by rw [← hO] at e; exact HOwn.out j e
      have HHo : Hid (DS D (fun j => (T j ∨ O j) ∨ j = r ∨ j = s) S R W2 a b q p xs ys (.slice p3 n3 c3) (.slice p2 n2 c2) zs ys) := by show DS _ _ _ _ _ _ _ _ _ _ _ _ _ _ _; rw [← hO]; exact HH2.out
      clear hO HTr HO HOwn HH2
      have HTq : Hid (Tch (fun j => (T j ∨ O j) ∨ S j ∨ R j) W2 wr) := (HT3.out.wide (fun j e => .inr (.inl e))).trans (HTo.out.wide (fun j e => .inl (.inr e)))
      have HXr := Lib.hid (HX2.out.go2 ((HT3.out.wide (R := fun j => S j ∨ O j) (fun j e => .inl e)).trans (HTo.out.wide (fun j e => .inr e))) (fun j e => by
        rcases e with e | e
        · exact .inl (.inl e)
        · have h1 := HOo.out j e
          have h2 := HX2.out.ge
          have h3 := HD1.out.ge
          have h4 := HSW.out
          have h5 := HBW.out.size
          exact .inr (by omega)))
      have HIr : Hid (D.Is S' wr a q zs) := D.tch HI3.out HTo.out (fun j e e2 => by
        have h1 := HOo.out j e2
        rcases HA3.out j e with e3 | e3
        · have := HLow2.out j (.inl e3); omega
        · omega)
      have HJr : Hid (D.Is R wr b p ys) := D.tch (D.tch HHo.out.two HT3.out (fun j e e2 => HHo.out.ap j e2 e)) HTo.out (fun j e e2 => by have h1 := HOo.out j e2; have := HLow2.out j (.inr e); omega)
      have HLR : Hid (∀ j, R j → j < W2.heap.size) := fun j e => D.lt HHo.out.two j e
      go_wp2_with fail
      have HKd := Lib.hid HXr.out.ecellsd
      have ne1 : ¬ (s = r) := by have := HXr.out.ge; omega
      have ne2 : ¬ (r = s) := by have := HXr.out.ge; omega
      obtain ⟨rc0, rc1, rf0, rf1⟩ := HXr.out.res.two
      obtain ⟨sc0, sc1, sf0, sf1⟩ := HXr.out.ses.two
      go_region_held3 (fun w' => (w'.cell? ⟨x, 0, none⟩ = some (.int .i64 q) ∧ w'.cell? ⟨x, 1, none⟩ = some (.slice p3 n3 c3)) ∧ w'.cell? ⟨t, 0, none⟩ = some (.int .i64 p) ∧ w'.cell? ⟨t, 1, none⟩ = some (.slice p2 n2 c2))
        (first | (with_reducible exact HKd.out) | (with_reducible exact HXr.out.ekeptd _ _) | (with_reducible exact HXr.out.ekept2d _ _ _ _)) (fail)
      have HE := Lib.hid (does_end2 (T := fun j => T j ∨ O j) HHo.out HIr.out HJr.out (fun j e e2 => by
        rcases HA3.out j e with e3 | e3
        · exact HHo.out.ap j e3 e2
        · have h2 := HLR.out j e2
          omega) HA3.out (fun j e => .inl e) HTq.out HXr.out HS1.out.1 HS1.out.2.1)
      have HP := HXr.out.put (.int .i64 q) (.slice p3 n3 c3) (.int .i64 p) (.slice p2 n2 c2)
      unfold putT at HP HE
      have hp0 := HP.1.cell 0
      have hp1 := HP.1.cell 1
      have hq0 := HP.2.1.cell 0
      have hq1 := HP.2.1.cell 1
      simp only [List.getElem?_cons_zero, List.getElem?_cons_succ] at hp0 hp1 hq0 hq1
      have HTw := Lib.hid HP.2.2
      have HEd := Lib.hid ((HE.out.1.less (T' := T) (fun j e => .inl (.inl e))).on ((Below.refl _ _).drew))
      clear HP rc0 rc1 rf0 rf1 sc0 sc1 sf0 sf1 ne1 ne2
      go_wp2
      exact bodyPost_ret (v := .tuple #[.agg #[.int .i64 q, .slice p3 n3 c3], .agg #[.int .i64 p, .slice p2 n2 c2], .bool true]) (by simp [results, Try.results13, go_sem, hp0, hp1, hq0, hq1]) rfl ⟨S', R, _, _, _, _, _, _, rfl, HEd.out, HE.out.2.1, HE.out.2.2, HTw.out.trans (Tch.of _ ((Below.refl _ _).drew))⟩
end Go.Proofs.Ytjdbmedealhbjaa
