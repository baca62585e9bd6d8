/- The law's move where something is moved (layer 8), walked. -/
import Derived.Test.YtjdbmedealhbjaaMv
import Derived.Deep.Cut
import Derived.Deep.DeepCutAuto
set_option linter.unusedSimpArgs false
set_option linter.unusedVariables false
namespace Go.Proofs.Ytjdbmedealhbjaa
open Go.RowKit Go.Wd Go.Dk

/-- behind Lay: the rest and what is full in their boxes, the results, what was taken -/
structure Mw5 (S : Nat → Prop) (w W : World) (q1 q2 r s rb tb : Nat) (vr vf : Value) (zs fs : List Int) (ab ao : Nat) (x : Int) : Prop where
  below : Below w.heap.size w W
  res : Row r 32 [.int .i64 0, .slice none 0 0] W
  ses : Row s 32 [.int .i64 0, .slice none 0 0] W
  rbx : Row rb 32 [.int .i64 q1, vr] W
  tbx : Row tb 32 [.int .i64 q2, vf] W
  sr : SlIs (fun k => S k ∨ k = r ∨ k = s) W vr zs
  sf : SlIs (fun k => S k ∨ k = r ∨ k = s) W vf fs
  hd : W.cell? ⟨ab, ao, none⟩ = some (.int .i64 x)
  ge : w.heap.size ≤ r ∧ r < s ∧ rb ≠ r ∧ rb ≠ s ∧ tb ≠ r ∧ tb ≠ s ∧ ab ≠ r ∧ ab ≠ s
/-- behind Steal: the rest in its box -/
structure Mw3 (S : Nat → Prop) (w W : World) (q1 q2 t r s rb : Nat) (vr v2 : Value) (zs : List Int) (ab ao : Nat) (x : Int) : Prop where
  below : Below w.heap.size w W
  two : Row t 32 [.int .i64 q2, v2] W
  res : Row r 32 [.int .i64 0, .slice none 0 0] W
  ses : Row s 32 [.int .i64 0, .slice none 0 0] W
  rbx : Row rb 32 [.int .i64 q1, vr] W
  sr : SlIs (fun k => S k ∨ k = r ∨ k = s) W vr zs
  hd : W.cell? ⟨ab, ao, none⟩ = some (.int .i64 x)
  ge : w.heap.size ≤ t ∧ t < r ∧ r < s ∧ s < rb ∧ ab ≠ r ∧ ab ≠ s
section
variable {S : Nat → Prop} {w W W' : World} {q1 q2 t r s rb : Nat} {vr v2 : Value} {zs : List Int} {ab ao : Nat} {x : Int}
theorem Mw3.on (h : Mw3 S w W q1 q2 t r s rb vr v2 zs ab ao x) (hb : Below W.heap.size W W') : Mw3 S w W' q1 q2 t r s rb vr v2 zs ab ao x :=
  ⟨h.below.trans (hb.mono h.below.size), h.two.on' hb, h.res.on' hb, h.ses.on' hb, h.rbx.on' hb, h.sr.on hb, by rw [hb.cell (block_lt_of_cell h.hd)]; exact h.hd, h.ge⟩
theorem mw5_after (h : Mw3 S w W q1 q2 t r s rb vr v2 zs ab ao x) (hb : Below W.heap.size W W') {vf : Value} {fs : List Int} (hf : SlIs (fun k => S k ∨ k = r ∨ k = s) W' vf fs) :
    Mw5 S w (W'.alloc (.cells #[.int .i64 q2, vf] 32)) q1 q2 r s rb W'.heap.size vr vf zs fs ab ao x := by
  have h1 := h.on hb
  have b1 := (Below.refl W'.heap.size W').alloc (Nat.le_refl _) (.cells #[.int .i64 q2, vf] 32)
  have h2 := h1.on b1
  have g := h.ge
  have l1 := h1.res.lt
  have l2 := h1.ses.lt
  exact ⟨h2.below, h2.res, h2.ses, h2.rbx, Row.new W' _ [.int .i64 q2, vf], h2.sr, hf.on b1, h2.hd, by omega⟩
theorem mw5_ahead (h : Mw3 S w W q1 q2 t r s rb vr v2 zs ab ao x) (hb : Below W.heap.size W W') {vf : Value} {fs : List Int} {tb : Nat} {u v : Value} (hf : SlIs (fun k => (S k ∨ k = r ∨ k = s) ∨ k = tb) W' vf fs) (ht : Row tb 32 [u, v] W') (hge : W.heap.size ≤ tb) :
    Mw5 S w ((W'.setCell ⟨tb, 0, none⟩ (.int .i64 q2)).setCell ⟨tb, 1, none⟩ vf) q1 q2 r s rb tb vr vf zs fs ab ao x := by
  have g := h.ge
  have l1 := h.res.lt
  have l2 := h.ses.lt
  have l3 := h.rbx.lt
  have l4 := block_lt_of_cell h.hd
  have e4 : (⟨ab, ao, none⟩ : Addr).block = ab := rfl
  have h1 := h.on hb
  have t1 : Tch (fun k => k = tb) W' ((W'.setCell ⟨tb, 0, none⟩ (.int .i64 q2)).setCell ⟨tb, 1, none⟩ vf) := ((Tch.refl (fun k => k = tb) W').setCell (p := ⟨tb, 0, none⟩) (.inl rfl) _).setCell (p := ⟨tb, 1, none⟩) (.inl rfl) _
  have hsr : SlIs (fun k => (S k ∨ k = r ∨ k = s) ∨ k = tb) W' vr zs := (h.sr.more (fun b hb => hb.imp id (fun e => by omega))).on hb
  have hB := h.below.size
  refine ⟨(h1.below.setCell (p := ⟨tb, 0, none⟩) (by show _ ≤ tb; omega) _).setCell (p := ⟨tb, 1, none⟩) (by show _ ≤ tb; omega) _, h1.res.tch t1 (by omega), h1.ses.tch t1 (by omega), h1.rbx.tch t1 (by omega), ht.put2 _ _, (hsr.tch (t1.wide (fun k e => .inr e))).less (fun k e => .inl e), (hf.tch (t1.wide (fun k e => .inr e))).less (fun k e => .inl e), t1.cell h1.hd (by rw [e4]; omega), by omega⟩
/-- the results are stored -/
theorem Mw5.put {tb : Nat} {vf : Value} {fs : List Int} (h : Mw5 S w W q1 q2 r s rb tb vr vf zs fs ab ao x) (y z u v : Value) : Below w.heap.size w (putT W r s y z u v) ∧ Row r 32 [y, z] (putT W r s y z u v) ∧ Row s 32 [u, v] (putT W r s y z u v) ∧ SlIs S (putT W r s y z u v) vr zs ∧ SlIs S (putT W r s y z u v) vf fs := by
  have g := h.ge
  have hne : r ≠ s := by omega
  have hne2 : s ≠ r := by omega
  have tt : Tch (fun k => k = r ∨ k = s) W (putT W r s y z u v) := ((((Tch.refl (fun k => k = r ∨ k = s) W).setCell (p := ⟨r, 0, none⟩) (.inl (.inl rfl)) _).setCell (p := ⟨r, 1, none⟩) (.inl (.inl rfl)) _).setCell (p := ⟨s, 0, none⟩) (.inl (.inr rfl)) _).setCell (p := ⟨s, 1, none⟩) (.inl (.inr rfl)) _
  have tw := tt.wide (R := fun k => S k ∨ k = r ∨ k = s) (fun k e => .inr e)
  refine ⟨?_, ?_, ?_, (h.sr.tch tw).less (fun k e => .inl e), (h.sf.tch tw).less (fun k e => .inl e)⟩
  · unfold putT
    exact (((h.below.setCell (p := ⟨r, 0, none⟩) (by show _ ≤ r; omega) _).setCell (p := ⟨r, 1, none⟩) (by show _ ≤ r; omega) _).setCell (p := ⟨s, 0, none⟩) (by show _ ≤ s; omega) _).setCell (p := ⟨s, 1, none⟩) (by show _ ≤ s; omega) _
  · unfold putT
    exact ((h.res.put2 _ _).far (p := ⟨s, 0, none⟩) hne _).far (p := ⟨s, 1, none⟩) hne _
  · unfold putT
    exact ((h.ses.far (p := ⟨r, 0, none⟩) hne2 _).far (p := ⟨r, 1, none⟩) hne2 _).put2 _ _
/-- all that the last statement reads -/
abbrev Mw5C (rb tb q1 q2 : Nat) (vr vf : Value) (ab ao : Nat) (x : Int) (W : World) : Prop := (W.cell? ⟨rb, 0, none⟩ = some (.int .i64 q1) ∧ W.cell? ⟨rb, 1, none⟩ = some vr) ∧ (W.cell? ⟨tb, 0, none⟩ = some (.int .i64 q2) ∧ W.cell? ⟨tb, 1, none⟩ = some vf) ∧ W.cell? ⟨ab, ao, none⟩ = some (.int .i64 x)
theorem Mw5.cells {tb : Nat} {vf : Value} {fs : List Int} (h : Mw5 S w W q1 q2 r s rb tb vr vf zs fs ab ao x) : Mw5C rb tb q1 q2 vr vf ab ao x W := ⟨⟨h.rbx.cell 0, h.rbx.cell 1⟩, ⟨h.tbx.cell 0, h.tbx.cell 1⟩, h.hd⟩
theorem Mw5.kept {tb : Nat} {vf : Value} {fs : List Int} (h : Mw5 S w W q1 q2 r s rb tb vr vf zs fs ab ao x) (y z : Value) : Mw5C rb tb q1 q2 vr vf ab ao x ((W.setCell ⟨r, 0, none⟩ y).setCell ⟨r, 1, none⟩ z).drew := by
  have g := h.ge
  have t1 : Tch (fun k => k = r) W ((W.setCell ⟨r, 0, none⟩ y).setCell ⟨r, 1, none⟩ z) := ((Tch.refl (fun k => k = r) W).setCell (p := ⟨r, 0, none⟩) (.inl rfl) _).setCell (p := ⟨r, 1, none⟩) (.inl rfl) _
  have h1 := (h.rbx.tch t1 g.2.2.1).drew
  have h2 := (h.tbx.tch t1 (by omega)).drew
  exact ⟨⟨h1.cell 0, h1.cell 1⟩, ⟨h2.cell 0, h2.cell 1⟩, by rw [World.cell?_drew]; exact t1.cell h.hd (by show ¬ (ab = r); omega)⟩
theorem Mw5.kept2 {tb : Nat} {vf : Value} {fs : List Int} (h : Mw5 S w W q1 q2 r s rb tb vr vf zs fs ab ao x) (y z u v : Value) : Mw5C rb tb q1 q2 vr vf ab ao x ((((W.setCell ⟨r, 0, none⟩ y).setCell ⟨r, 1, none⟩ z).setCell ⟨s, 0, none⟩ u).setCell ⟨s, 1, none⟩ v).drew := by
  have g := h.ge
  have t1 : Tch (fun k => k = r ∨ k = s) W ((((W.setCell ⟨r, 0, none⟩ y).setCell ⟨r, 1, none⟩ z).setCell ⟨s, 0, none⟩ u).setCell ⟨s, 1, none⟩ v) := ((((Tch.refl (fun k => k = r ∨ k = s) W).setCell (p := ⟨r, 0, none⟩) (.inl (.inl rfl)) _).setCell (p := ⟨r, 1, none⟩) (.inl (.inl rfl)) _).setCell (p := ⟨s, 0, none⟩) (.inl (.inr rfl)) _).setCell (p := ⟨s, 1, none⟩) (.inl (.inr rfl)) _
  have h1 := (h.rbx.tch t1 (by omega)).drew
  have h2 := (h.tbx.tch t1 (by omega)).drew
  exact ⟨⟨h1.cell 0, h1.cell 1⟩, ⟨h2.cell 0, h2.cell 1⟩, by rw [World.cell?_drew]; exact t1.cell h.hd (by show ¬ (ab = r ∨ ab = s); omega)⟩
end
theorem stO_cons {xs : List Int} (h : xs ≠ []) : stO xs = xs.headD 0 :: (stO xs).tail := by
  have h1 := stN_pos h
  cases xs with
  | nil => exact absurd rfl h
  | cons x r =>
    unfold stO at *
    obtain ⟨k, hk⟩ : ∃ k, stN (x :: r) = k + 1 := ⟨stN (x :: r) - 1, by omega⟩
    rw [hk]; rfl
theorem SlIs.tail {S : Nat → Prop} {w : World} {b o c n : Nat} {x : Int} {xs : List Int} (h : SlIs S w (.slice (some ⟨b, o, none⟩) n c) (x :: xs)) : SlIs S w (.slice (if c = 1 then some ⟨b, o, none⟩ else some ⟨b, o + 1, none⟩) (n - 1) (c - 1)) xs := by
  obtain ⟨_, _, _, e, hn, hc, _⟩ := h.form
  cases e
  have h1 := h.cut (k := 1) (by rw [hn]; simp)
  have h2 : (x :: xs).drop 1 = xs := rfl
  rw [h2] at h1
  by_cases hc1 : c = 1
  · rw [if_pos hc1]; exact h1.2.2 (by rw [List.length_cons] at hn; omega)
  · rw [if_neg hc1]; exact h1.2.1
set_option maxRecDepth 20000 in
set_option maxHeartbeats 4000000 in
theorem mv_yes {S : Nat → Prop} (q1 q2 : Nat) (xs : List Int) (u1 u2 : Value) (w : World) (h1 : SlIs S w u1 xs) (h2 : SlIs S w u2 []) (hx : xs ≠ []) (hq : 2 ≤ q2 ∧ q2 ≤ 65536) (hl : xs.length ≤ 65536) (hl2 : (stO xs).length ≤ 1000) (hS : ∀ k, S k → k < w.heap.size) :
    Calls Try.prog 36 #[.agg #[.int .i64 q1, u1], .agg #[.int .i64 q2, u2]] w (RM S q1 (stL xs) q2 (layL q2 [] (stO xs).tail) (xs.headD 0) true w) := by
  have HX : Hid (∀ W, Below w.heap.size w W → SlIs S W u1 xs ∧ SlIs S W u2 []) := fun W hb => ⟨h1.on hb, h2.on hb⟩
  obtain ⟨p, n, c, rfl, hn, hc1, hc2⟩ := h1.form
  obtain ⟨p2, n2, c2, rfl, hn2, hd1, hd2⟩ := h2.form
  obtain rfl : n2 = 0 := hn2
  have hnp : 0 < n := by rw [hn]; exact List.length_pos_iff.2 hx
  have hcons := stO_cons hx
  obtain ⟨x, hxv⟩ : ∃ x, xs.headD 0 = x := ⟨_, rfl⟩
  obtain ⟨m, hm⟩ : ∃ m, (stO xs).tail = m := ⟨_, rfl⟩
  obtain ⟨zs, hzs⟩ : ∃ zs, stL xs = zs := ⟨_, rfl⟩
  obtain ⟨fs, hfs⟩ : ∃ fs, layL q2 [] m = fs := ⟨_, rfl⟩
  rw [hxv, hm] at hcons
  rw [hxv, hm, hzs, hfs]
  have hml : m.length ≤ 1000 := by rw [← hm, List.length_tail]; omega
  have HQ := Lib.hid (And.intro hq hml)
  have HC := Lib.hid (And.intro hcons (And.intro hzs hfs))
  have HS := Lib.hid hS
  have z3 : ¬ ((n : Int) = 0) := by omega
  clear h1 h2 hn hc1 hc2 hd1 hd2 hq hl hl2 hS hx hxv hm hzs hfs hml hcons
  go_enter Try.func36, Try.ntmps36
  go_wp2_with fail
  have HH := Lib.hid (mvh_new w q1 (.slice p n c) q2 (.slice p2 0 c2))
  obtain ⟨W, hW⟩ : ∃ W, (((w.alloc (.cells #[.int .i64 q1, .slice p n c] 32)).alloc (.cells #[.int .i64 q2, .slice p2 0 c2] 32)).alloc (.cells #[.int .i64 0, .slice none 0 0] 32)).alloc (.cells #[.int .i64 0, .slice none 0 0] 32) = W := ⟨_, rfl⟩
  obtain ⟨f, hf⟩ : ∃ f, w.heap.size = f := ⟨_, rfl⟩
  obtain ⟨t, ht⟩ : ∃ t, f + 1 = t := ⟨_, rfl⟩
  obtain ⟨r, hr⟩ : ∃ r, t + 1 = r := ⟨_, rfl⟩
  obtain ⟨s, hs⟩ : ∃ s, r + 1 = s := ⟨_, rfl⟩
  rw [hW, hf, ht, hr, hs] at HH
  rw [hW, hf, ht, hr, hs]
  have HF := Lib.hid hf
  clear hW hf ht hr hs
  have hS1 : SlIs (fun k => S k ∨ k = r ∨ k = s) W (.slice p n c) xs := ((HX.out w (Below.refl _ _)).1.more (fun b hb => hb.imp id (fun e => by have := HH.out.ge; have := HF.out; omega))).on HH.out.below
  have HS1 := Lib.hid hS1
  clear hS1
  refine (rsteal_any q1 xs _ _ HS1.out).mono ?_
  rintro e w1 ⟨p3, n3, c3, p4, n4, c4, rfl, hn3, hn4, hs3, hs4, hb1⟩
  rw [HC.out.1] at hn4 hs4
  rw [HC.out.2.1] at hn3 hs3
  obtain ⟨ab, ao, rfl, hn4', hc4, hc4m, hns, hcell⟩ := hs4.at (show 0 < n4 from by have := hn4; unfold Hid at this; rw [this]; simp)
  have hd4 := hcell 0 (by have := hn4; unfold Hid at this; rw [this]; simp)
  rw [Nat.add_zero] at hd4
  have htl := hs4.tail
  obtain ⟨pl, hpl⟩ : ∃ pl, (if c4 = 1 then some (⟨ab, ao, none⟩ : Addr) else some ⟨ab, ao + 1, none⟩) = pl := ⟨_, rfl⟩
  rw [hpl] at htl
  have HTl := Lib.hid htl
  have H3 : Hid (Mw3 S w (w1.alloc (.cells #[.int .i64 q1, .slice p3 n3 c3] 32)) q1 q2 t r s w1.heap.size (.slice p3 n3 c3) (.slice p2 0 c2) zs ab ao x) := by
    have h1 := HH.out.on hb1
    have b1 := (Below.refl w1.heap.size w1).alloc (Nat.le_refl _) (.cells #[.int .i64 q1, .slice p3 n3 c3] 32)
    have g := HH.out.ge
    have l1 := h1.ses.lt
    have hF := HF.out
    refine ⟨h1.below.trans (b1.mono h1.below.size), h1.two.on' b1, h1.res.on' b1, h1.ses.on' b1, Row.new w1 _ [.int .i64 q1, .slice p3 n3 c3], hs3.on b1, by rw [b1.cell (block_lt_of_cell hd4)]; exact hd4, by omega, by omega, by omega, by omega, fun e => hns (.inr (.inl e)), fun e => hns (.inr (.inr e))⟩
  have n41 : (1 : Int) ≤ (n4 : Int) := by have := hn4; unfold Hid at this; rw [this, List.length_cons]; omega
  have n42 : (n4 : Int) ≤ (c4 : Int) := by omega
  have n43 : (1 : Int) ≤ (c4 : Int) := by omega
  have n44 : 0 < n4 := by omega
  unfold maxLen at hc4m
  clear hs3 hs4 hb1 hcell hd4 htl hns HH hn4'
  go_wp2_with fail
  have HTl3 : Hid (SlIs (fun k => S k ∨ k = r ∨ k = s) (w1.alloc (.cells #[.int .i64 q1, .slice p3 n3 c3] 32)) (.slice pl (n4 - 1) (c4 - 1)) m) := HTl.out.on ((Below.refl _ _).alloc (Nat.le_refl _) _)
  obtain ⟨W3, hW3⟩ : ∃ W3, w1.alloc (.cells #[.int .i64 q1, .slice p3 n3 c3] 32) = W3 := ⟨_, rfl⟩
  obtain ⟨rb, hrb⟩ : ∃ rb, w1.heap.size = rb := ⟨_, rfl⟩
  rw [hW3, hrb] at H3
  rw [hW3] at HTl3
  rw [hW3, hrb]
  clear hW3 hrb HTl
  have HX3 : Hid (SlIs S W3 (.slice p2 0 c2) []) := (HX.out _ H3.out.below).2
  go_cut [10, 11] (fun v10 v11 wx => ∃ tb p5 n5 c5, v10 = .pointer (some ⟨tb, 0, none⟩) ∧ Hid (n5 = fs.length) ∧ Hid (Mw5 S w wx q1 q2 r s rb tb (.slice p3 n3 c3) (.slice p5 n5 c5) zs fs ab ao x))
  case first =>
    have HBd : Hid (Below W3.heap.size W3 W3.drew) := (Below.refl _ _).drew
    have HBa : Hid (Below W3.heap.size W3 (W3.alloc (.cells #[.int .i64 0, .slice none 0 0] 32)).drew) := ((Below.refl _ _).alloc (Nat.le_refl _) _).drew
    have HTb : Hid (Row W3.heap.size 32 [.int .i64 0, .slice none 0 0] (W3.alloc (.cells #[.int .i64 0, .slice none 0 0] 32)).drew) := Row.new W3 32 [.int .i64 0, .slice none 0 0]
    have HCell : Hid (∀ W', Below W3.heap.size W3 W' → W'.cell? ⟨t, 0, none⟩ = some (.int .i64 q2) ∧ W'.cell? ⟨t, 1, none⟩ = some (.slice p2 0 c2)) := fun W' hb => ⟨(H3.out.two.on' hb).cell 0, (H3.out.two.on' hb).cell 1⟩
    have HCell2 : Hid (∀ W' y z, Below W3.heap.size W3 W' → ((W'.setCell ⟨W3.heap.size, 0, none⟩ y).setCell ⟨W3.heap.size, 1, none⟩ z).cell? ⟨t, 0, none⟩ = some (.int .i64 q2) ∧ ((W'.setCell ⟨W3.heap.size, 0, none⟩ y).setCell ⟨W3.heap.size, 1, none⟩ z).cell? ⟨t, 1, none⟩ = some (.slice p2 0 c2)) := fun W' y z hb => HCell.out _ ((hb.setCell (p := ⟨W3.heap.size, 0, none⟩) (Nat.le_refl _) _).setCell (p := ⟨W3.heap.size, 1, none⟩) (Nat.le_refl _) _)
    have HS1 : Hid (∀ k, (S k ∨ k = r ∨ k = s) → k < W3.heap.size) := fun k hk => by
      have l1 := H3.out.res.lt
      have l2 := H3.out.ses.lt
      have l3 := H3.out.below.size
      rcases hk with hk | hk | hk
      · have := HS.out k hk; omega
      · omega
      · omega
    have HU1 : Hid (SlIs (fun k => S k ∨ k = r ∨ k = s) W3.drew (.slice p2 0 c2) []) := by
      obtain ⟨p, c, e, a1, a2, a3, a4⟩ := HX3.out
      cases e
      exact ⟨_, _, rfl, a1, a2, a3, .nil _ _ _ _⟩
    have HU2 : Hid (SlIs (fun k => (S k ∨ k = r ∨ k = s) ∨ k = W3.heap.size) (W3.alloc (.cells #[.int .i64 0, .slice none 0 0] 32)).drew (.slice p2 0 c2) []) := by
      obtain ⟨p, c, e, a1, a2, a3, a4⟩ := HX3.out
      cases e
      exact ⟨_, _, rfl, a1, a2, a3, .nil _ _ _ _⟩
    have HS2 : Hid (∀ k, ((S k ∨ k = r ∨ k = s) ∨ k = W3.heap.size) → k < (W3.alloc (.cells #[.int .i64 0, .slice none 0 0] 32)).drew.heap.size) := fun k hk => by
      show k < (W3.alloc (.cells #[.int .i64 0, .slice none 0 0] 32)).heap.size
      rw [World.size_alloc]
      rcases hk with hk | hk
      · have := HS1.out k hk; omega
      · omega
    have HS1d : Hid (∀ k, (S k ∨ k = r ∨ k = s) → k < W3.drew.heap.size) := HS1.out
    have HV1 := Lib.hid (HTl3.out.on HBd.out)
    have HV2 := Lib.hid (HTl3.out.on HBa.out)
    clear HTl3
    go_region_held3 (fun w' => w'.cell? ⟨t, 0, none⟩ = some (.int .i64 q2) ∧ w'.cell? ⟨t, 1, none⟩ = some (.slice p2 0 c2))
      (first | (with_reducible exact HCell.out _ HBd.out) | (with_reducible exact HCell.out _ HBa.out) | (with_reducible exact HCell.out _ HB5.out) | (with_reducible exact HCell.out _ (HB5.out.alloc HB5.out.size _)) | (with_reducible exact HCell2.out _ _ _ HB5.out))
      (first | (go_at_call 33; first
        | ((with_reducible refine (rlay_any q2 [] m _ _ _ HU1.out HV1.out HQ.out.1 (Nat.zero_le _) HQ.out.2 HS1d.out).mono ?_); rintro e w5 ⟨p5, n5, c5, rfl, hn5, hs5, hb5⟩; rw [HC.out.2.2] at hn5 hs5; have HN5 := Lib.hid hn5; have HL5 := Lib.hid hs5; have HB5 := Lib.hid (HBd.out.trans (hb5.mono HBd.out.size)); clear hn5 hs5 hb5)
        | ((with_reducible refine (rlay_any q2 [] m _ _ _ HU2.out HV2.out HQ.out.1 (Nat.zero_le _) HQ.out.2 HS2.out).mono ?_); rintro e w5 ⟨p5, n5, c5, rfl, hn5, hs5, hb5⟩; rw [HC.out.2.2] at hn5 hs5; have HN5 := Lib.hid hn5; have HM5 := Lib.hid hs5; have HB5 := Lib.hid (HBa.out.trans (hb5.mono HBa.out.size)); have htb := HTb.out.on' hb5; obtain ⟨d0, d1, f0, f1⟩ := htb.two; have HT5 := Lib.hid htb; clear hn5 hs5 hb5 htb)))
    all_goals
      go_wp2_with fail
      go_meet
      first
        | with_reducible exact ⟨_, p5, n5, c5, rfl, HN5.out, Lib.hid (mw5_after H3.out HB5.out HL5.out)⟩
        | with_reducible exact ⟨_, p5, n5, c5, rfl, HN5.out, Lib.hid (mw5_ahead H3.out HB5.out HM5.out HT5.out (Nat.le_refl _))⟩
  case rest =>
    obtain ⟨tb, p5, n5, c5, rfl, HN5, H5⟩ := hcut
    have HKd : Hid ((wc.drew.cell? ⟨rb, 0, none⟩ = some (.int .i64 q1) ∧ wc.drew.cell? ⟨rb, 1, none⟩ = some (.slice p3 n3 c3)) ∧ (wc.drew.cell? ⟨tb, 0, none⟩ = some (.int .i64 q2) ∧ wc.drew.cell? ⟨tb, 1, none⟩ = some (.slice p5 n5 c5)) ∧ wc.drew.cell? ⟨ab, ao, none⟩ = some (.int .i64 x)) := H5.out.cells
    have HKs : Hid (∀ y z, Mw5C rb tb q1 q2 (.slice p3 n3 c3) (.slice p5 n5 c5) ab ao x ((wc.setCell ⟨r, 0, none⟩ y).setCell ⟨r, 1, none⟩ z).drew) := fun y z => H5.out.kept y z
    have HK2 : Hid (∀ y z u v, Mw5C rb tb q1 q2 (.slice p3 n3 c3) (.slice p5 n5 c5) ab ao x ((((wc.setCell ⟨r, 0, none⟩ y).setCell ⟨r, 1, none⟩ z).setCell ⟨s, 0, none⟩ u).setCell ⟨s, 1, none⟩ v).drew) := fun y z u v => H5.out.kept2 y z u v
    have ne1 : ¬ (s = r) := by have := H5.out.ge; omega
    have ne2 : ¬ (r = s) := by have := H5.out.ge; omega
    obtain ⟨rc0, rc1, rf0, rf1⟩ := H5.out.res.two
    obtain ⟨sc0, sc1, sf0, sf1⟩ := H5.out.ses.two
    clear H3 HX3 HTl3 hpl
    go_wp2_with fail
    go_region_held3 (fun w' => (w'.cell? ⟨rb, 0, none⟩ = some (.int .i64 q1) ∧ w'.cell? ⟨rb, 1, none⟩ = some (.slice p3 n3 c3)) ∧ (w'.cell? ⟨tb, 0, none⟩ = some (.int .i64 q2) ∧ w'.cell? ⟨tb, 1, none⟩ = some (.slice p5 n5 c5)) ∧ w'.cell? ⟨ab, ao, none⟩ = some (.int .i64 x))
      (first | (with_reducible exact HKd.out) | (with_reducible exact HKs.out _ _) | (with_reducible exact HK2.out _ _ _ _)) (fail)
    have HP := H5.out.put (.int .i64 q1) (.slice p3 n3 c3) (.int .i64 q2) (.slice p5 n5 c5)
    unfold putT at HP
    have hp0 := HP.2.1.cell 0
    have hp1 := HP.2.1.cell 1
    have hq0 := HP.2.2.1.cell 0
    have hq1 := HP.2.2.1.cell 1
    simp only [List.getElem?_cons_zero, List.getElem?_cons_succ] at hp0 hp1 hq0 hq1
    have HB2 := Lib.hid HP.1
    have HS2 := Lib.hid HP.2.2.2
    have hn3' : Hid (n3 = zs.length) := hn3
    clear HP rc0 rc1 rf0 rf1 sc0 sc1 sf0 sf1 ne1 ne2
    go_wp2
    exact bodyPost_ret (v := .tuple #[.agg #[.int .i64 q1, .slice p3 n3 c3], .agg #[.int .i64 q2, .slice p5 n5 c5], .int .i64 x, .bool true]) (by simp [results, Try.results36, go_sem, hp0, hp1, hq0, hq1]) rfl ⟨_, _, _, _, _, _, rfl, hn3', HN5, HS2.out.1.drew, HS2.out.2.drew, HB2.out.drew⟩
theorem mvB_no {xs ys : List Int} (h : mvB xs ys = false) : mvF xs ys = xs ∧ (∀ q, mvT q xs ys = ys) ∧ mvV xs ys = 0 := by
  unfold mvF mvT mvV
  refine ⟨by rw [h]; rfl, fun q => by rw [h]; rfl, by rw [h]; rfl⟩
theorem rmove_any {S : Nat → Prop} (q1 q2 : Nat) (xs ys : List Int) (u1 u2 : Value) (w : World) (h1 : SlIs S w u1 xs) (h2 : SlIs S w u2 ys) (hq : 2 ≤ q2 ∧ q2 ≤ 65536) (hl : xs.length ≤ 1000) (hS : ∀ k, S k → k < w.heap.size) :
    Calls Try.prog 36 #[.agg #[.int .i64 q1, u1], .agg #[.int .i64 q2, u2]] w (RM S q1 (mvF xs ys) q2 (mvT q2 xs ys) (mvV xs ys) (mvB xs ys) w) := by
  cases hb : mvB xs ys with
  | false =>
    obtain ⟨e1, e2, e3⟩ := mvB_no hb
    rw [e1, e2, e3]
    exact mv_no q1 q2 xs ys u1 u2 w h1 h2 hb
  | true =>
    have hd : xs ≠ [] ∧ ys = [] := of_decide_eq_true hb
    obtain ⟨hx, rfl⟩ := hd
    have e1 : mvF xs [] = stL xs := by unfold mvF; rw [if_pos hb]
    have e2 : mvT q2 xs [] = layL q2 [] (stO xs).tail := by unfold mvT; rw [if_pos hb]
    have e3 : mvV xs [] = xs.headD 0 := by unfold mvV; rw [if_pos hb]
    rw [e1, e2, e3]
    exact mv_yes q1 q2 xs u1 u2 w h1 h2 hx hq (by omega) (by rw [stO_len]; unfold stN; omega) hS
end Go.Proofs.Ytjdbmedealhbjaa
