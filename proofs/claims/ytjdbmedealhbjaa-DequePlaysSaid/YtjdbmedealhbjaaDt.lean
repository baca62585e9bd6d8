/- The law's does (layer 8), walked: none, a Lay. -/
import Derived.Test.YtjdbmedealhbjaaDo
set_option linter.unusedSimpArgs false
set_option linter.unusedVariables false
namespace Go.Proofs.Ytjdbmedealhbjaa
open Go.RowKit Go.Wd Go.Dk

theorem hid_slice {S : Nat → Prop} {w : World} {v : Value} {l : List Int} (h : SlIs S w v l) : ∃ pl nl cl, v = .slice pl nl cl ∧ nl = l.length := by
  obtain ⟨p, n, c, e, hn, _⟩ := h.form
  exact ⟨p, n, c, e, hn⟩
/-- a row of one's own, that may be written over -/
def OwnW (p : Option Addr) (n : Nat) (w : World) : Prop := n = 0 ∨ ∃ g cs, p = some ⟨g, 0, none⟩ ∧ Row g 3 cs w ∧ n ≤ cs.length
theorem NewRow.ownw {B : Nat} {w : World} {p : Option Addr} {n c : Nat} {xs : List Int} (h : NewRow B w (.slice p n c) xs) (hn : n = xs.length) : OwnW p n w := by
  rcases h.2 with ⟨hv, hz⟩ | ⟨g, cap, cur, hv, hB, hg, hc, hc2, hsz, htk⟩
  · exact .inl (by rw [hn]; exact hz)
  · cases hv
    refine .inr ⟨g, cur.toList, rfl, ?_, ?_⟩
    · unfold Row; rw [hg]
    · have := hsz; simp; omega
theorem OwnW.on {p : Option Addr} {n : Nat} {w w' : World} (h : OwnW p n w) (hb : Below w.heap.size w w') : OwnW p n w' := h.imp id (fun ⟨g, cs, e, hr, hl⟩ => ⟨g, cs, e, hr.on' hb, hl⟩)
theorem OwnW.tch {p : Option Addr} {n c : Nat} {w w' : World} {S : Nat → Prop} (h : OwnW p n w) (ht : Tch S w w') (hs : ∀ k, (Value.slice p n c).ownBlock = some k → ¬ S k) : OwnW p n w' := h.imp id (fun ⟨g, cs, e, hr, hl⟩ => ⟨g, cs, e, hr.tch ht (hs g (by rw [e]; rfl)), hl⟩)
set_option maxRecDepth 20000 in
set_option maxHeartbeats 4000000 in
theorem does_none (D : DqApi) {T S R : Nat → Prop} {w : World} {a b q p : Nat} {xs ys : List Int} {u v vl : Value} (g : Int) (h : DS D T S R w a b q p xs ys u v xs ys) (hT : ∀ k, T k → k < w.heap.size) (hvl : ∃ pl nl cl, vl = .slice pl nl cl) (d : Int) (hd : ¬ (0 ≤ d ∧ d ≤ 6)) :
    Calls Try.prog 13 #[dptr a, dptr b, .agg #[.int .i64 q, u], .agg #[.int .i64 p, v], .agg #[.int .i64 d, .int .i64 g, vl]] w (DoesPost D T S R a b q p xs ys w) := by
  obtain ⟨p1, n1, c1, rfl, hn1, _⟩ := h.ru.form
  obtain ⟨p2, n2, c2, rfl, hn2, _⟩ := h.rv.form
  obtain ⟨pl, nl, cl, rfl⟩ := hvl
  have HH := Lib.hid h
  have HT := Lib.hid hT
  have HLow : Hid (∀ k, (S k ∨ R k) → k < w.heap.size) := fun k e => ds_lt h hT k (.inr e)
  have HQ := Lib.hid (room_le (D.room h.one))
  have HXl := Lib.hid (D.len h.one)
  clear h hT hn1 hn2
  have e0 : (d == 0) = false := by have : ¬ (d = 0) := by omega
                                   simpa using this
  have e1 : (d == 1) = false := by have : ¬ (d = 1) := by omega
                                   simpa using this
  have e2 : (d == 2) = false := by have : ¬ (d = 2) := by omega
                                   simpa using this
  have e3 : (d == 3) = false := by have : ¬ (d = 3) := by omega
                                   simpa using this
  have e4 : (d == 4) = false := by have : ¬ (d = 4) := by omega
                                   simpa using this
  have e5 : (d == 5) = false := by have : ¬ (d = 5) := by omega
                                   simpa using this
  have e6 : (d == 6) = false := by have : ¬ (d = 6) := by omega
                                   simpa using this
  clear hd
  unfold dptr
  go_enter Try.func13, Try.ntmps13
  go_wp2_with fail
  have HDB := Lib.hid (db_new w q (.slice p1 n1 c1) p (.slice p2 n2 c2) d g (.slice pl nl cl) HLow.out)
  obtain ⟨W, hW⟩ : ∃ W, ((((w.alloc (.cells #[.int .i64 q, .slice p1 n1 c1] 32)).alloc (.cells #[.int .i64 p, .slice p2 n2 c2] 32)).alloc (.cells #[.int .i64 d, .int .i64 g, .slice pl nl cl] 38)).alloc (.cells #[.int .i64 0, .slice none 0 0] 32)).alloc (.cells #[.int .i64 0, .slice none 0 0] 32) = W := ⟨_, rfl⟩
  obtain ⟨f, hf⟩ : ∃ f, w.heap.size = f := ⟨_, rfl⟩
  obtain ⟨t, ht⟩ : ∃ t, f + 1 = t := ⟨_, rfl⟩
  obtain ⟨c, hc⟩ : ∃ c, t + 1 = c := ⟨_, rfl⟩
  obtain ⟨r, hr⟩ : ∃ r, c + 1 = r := ⟨_, rfl⟩
  obtain ⟨s, hs⟩ : ∃ s, r + 1 = s := ⟨_, rfl⟩
  rw [hW, hf, ht, hc, hr, hs] at HDB
  rw [hW, hf, ht, hc, hr, hs]
  have HF := Lib.hid hf
  have HBW : Hid (Below w.heap.size w W) := by
    show Below _ _ _
    rw [← hW]
    exact (((((Below.refl _ _).alloc (Nat.le_refl _) _).alloc (by simp) _).alloc (by simp; omega) _).alloc (by simp; omega) _).alloc (by simp; omega) _
  clear hW hf ht hc hr hs
  have HSW : Hid (s < W.heap.size) := HDB.out.lt
  have HH0 : Hid (DS D (fun k => T k ∨ k = r ∨ k = s) S R W a b q p xs ys (.slice p1 n1 c1) (.slice p2 n2 c2) xs ys) := (HH.out.less (T' := fun k => T k ∨ k = r ∨ k = s) (fun k e => e.imp id (fun e => by have := HDB.out.ge; have := HF.out; rcases e with e | e <;> omega))).on HBW.out
  have HT0 : Hid (∀ k, (T k ∨ k = r ∨ k = s) → k < W.heap.size) := fun k e => by
    have := HDB.out.ge
    have := HSW.out
    have := HBW.out.size
    rcases e with e | e | e
    · have := HT.out k e; omega
    · omega
    · omega
  clear HH HT
  clear e0 e1 e2 e3 e4 e5 e6
  refine (D.move_self HH0.out.one).mono ?_
  rintro e w2 ⟨rfl, hb2⟩
  have HX2 := Lib.hid (HDB.out.on hb2).dx
  have HH2 := Lib.hid (HH0.out.on hb2)
  have HS1 : Hid (s < w2.heap.size ∧ w.heap.size ≤ w2.heap.size) := ⟨by have := HSW.out; have := hb2.size; omega, by have := HBW.out.size; have := hb2.size; omega⟩
  clear hb2 HH0 HT0 HDB
  go_wp2_with fail
  have HKd := Lib.hid HX2.out.ecellsd
  have ne1 : ¬ (s = r) := by have := HX2.out.ge; omega
  have ne2 : ¬ (r = s) := by have := HX2.out.ge; omega
  obtain ⟨rc0, rc1, rf0, rf1⟩ := HX2.out.res.two
  obtain ⟨sc0, sc1, sf0, sf1⟩ := HX2.out.ses.two
  go_region_held3 (fun w' => (w'.cell? ⟨f, 0, none⟩ = some (.int .i64 q) ∧ w'.cell? ⟨f, 1, none⟩ = some (.slice p1 n1 c1)) ∧ w'.cell? ⟨t, 0, none⟩ = some (.int .i64 p) ∧ w'.cell? ⟨t, 1, none⟩ = some (.slice p2 n2 c2))
    (first | (with_reducible exact HKd.out) | (with_reducible exact HX2.out.ekeptd _ _) | (with_reducible exact HX2.out.ekept2d _ _ _ _)) (fail)
  have HE := Lib.hid (does_end HH2.out HH2.out.one HH2.out.two HH2.out.ap (fun k e => .inl e) (fun k e => .inl e) (Tch.refl _ _) HX2.out HS1.out.1 HS1.out.2)
  have HP := HX2.out.put (.int .i64 q) (.slice p1 n1 c1) (.int .i64 p) (.slice p2 n2 c2)
  unfold putT at HP HE
  have hp0 := HP.1.cell 0
  have hp1 := HP.1.cell 1
  have hq0 := HP.2.1.cell 0
  have hq1 := HP.2.1.cell 1
  simp only [List.getElem?_cons_zero, List.getElem?_cons_succ] at hp0 hp1 hq0 hq1
  have HTw := Lib.hid HP.2.2
  have HEd := Lib.hid (HE.out.1.on ((Below.refl _ _).drew))
  clear HP rc0 rc1 rf0 rf1 sc0 sc1 sf0 sf1 ne1 ne2
  go_wp2
  exact bodyPost_ret (v := .tuple #[.agg #[.int .i64 q, .slice p1 n1 c1], .agg #[.int .i64 p, .slice p2 n2 c2], .bool true]) (by simp [results, Try.results13, go_sem, hp0, hp1, hq0, hq1]) rfl ⟨S, R, _, _, _, _, _, _, rfl, HEd.out, HE.out.2.1, HE.out.2.2, HTw.out.trans (Tch.of _ ((Below.refl _ _).drew))⟩
end Go.Proofs.Ytjdbmedealhbjaa
