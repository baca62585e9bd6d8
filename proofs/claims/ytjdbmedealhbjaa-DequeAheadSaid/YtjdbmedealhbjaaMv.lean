/- The law's move, of two of the reference's deques (layer 8), walked. -/
import Derived.Test.YtjdbmedealhbjaaRr
namespace Go.Proofs.Ytjdbmedealhbjaa
open Go.RowKit Go.Wd Go.Dk

/-- the head of move: what came, and two results, in blocks of their own -/
structure MvH (w W : World) (q1 : Nat) (u1 : Value) (q2 : Nat) (u2 : Value) (f t r s : Nat) : Prop where
  below : Below w.heap.size w W
  one : Row f 32 [.int .i64 q1, u1] W
  two : Row t 32 [.int .i64 q2, u2] W
  res : Row r 32 [.int .i64 0, .slice none 0 0] W
  ses : Row s 32 [.int .i64 0, .slice none 0 0] W
  ge : w.heap.size ≤ f ∧ f < t ∧ t < r ∧ r < s
theorem mvh_new (w : World) (q1 : Nat) (u1 : Value) (q2 : Nat) (u2 : Value) : MvH w ((((w.alloc (.cells #[.int .i64 q1, u1] 32)).alloc (.cells #[.int .i64 q2, u2] 32)).alloc (.cells #[.int .i64 0, .slice none 0 0] 32)).alloc (.cells #[.int .i64 0, .slice none 0 0] 32)) q1 u1 q2 u2 w.heap.size (w.heap.size + 1) (w.heap.size + 1 + 1) (w.heap.size + 1 + 1 + 1) := by
  have a1 := (Below.refl w.heap.size w).alloc (Nat.le_refl _) (.cells #[.int .i64 q1, u1] 32)
  have h1 := Row.new w 32 [.int .i64 q1, u1]
  have a2 := (Below.refl _ (w.alloc (.cells #[.int .i64 q1, u1] 32))).alloc (Nat.le_refl _) (.cells #[.int .i64 q2, u2] 32)
  have h2 := Row.new' (w.alloc (.cells #[.int .i64 q1, u1] 32)) 32 [.int .i64 q2, u2] (w.heap.size + 1) (by simp)
  have a3 := (Below.refl _ ((w.alloc (.cells #[.int .i64 q1, u1] 32)).alloc (.cells #[.int .i64 q2, u2] 32))).alloc (Nat.le_refl _) (.cells #[.int .i64 0, .slice none 0 0] 32)
  have h3 := Row.new' ((w.alloc (.cells #[.int .i64 q1, u1] 32)).alloc (.cells #[.int .i64 q2, u2] 32)) 32 [.int .i64 0, .slice none 0 0] (w.heap.size + 1 + 1) (by simp)
  have a4 := (Below.refl _ (((w.alloc (.cells #[.int .i64 q1, u1] 32)).alloc (.cells #[.int .i64 q2, u2] 32)).alloc (.cells #[.int .i64 0, .slice none 0 0] 32))).alloc (Nat.le_refl _) (.cells #[.int .i64 0, .slice none 0 0] 32)
  have h4 := Row.new' (((w.alloc (.cells #[.int .i64 q1, u1] 32)).alloc (.cells #[.int .i64 q2, u2] 32)).alloc (.cells #[.int .i64 0, .slice none 0 0] 32)) 32 [.int .i64 0, .slice none 0 0] (w.heap.size + 1 + 1 + 1) (by simp)
  exact ⟨((a1.trans (a2.mono a1.size)).trans (a3.mono (Nat.le_trans a1.size a2.size))).trans (a4.mono (Nat.le_trans (Nat.le_trans a1.size a2.size) a3.size)), ((h1.on' a2).on' a3).on' a4, (h2.on' a3).on' a4, h3.on' a4, h4, by omega⟩
section
variable {w W W' : World} {q1 q2 : Nat} {u1 u2 : Value} {f t r s : Nat}
theorem MvH.on (h : MvH w W q1 u1 q2 u2 f t r s) (hb : Below W.heap.size W W') : MvH w W' q1 u1 q2 u2 f t r s :=
  ⟨h.below.trans (hb.mono h.below.size), h.one.on' hb, h.two.on' hb, h.res.on' hb, h.ses.on' hb, h.ge⟩
theorem MvH.cells (h : MvH w W q1 u1 q2 u2 f t r s) : (W.cell? ⟨f, 0, none⟩ = some (.int .i64 q1) ∧ W.cell? ⟨f, 1, none⟩ = some u1) ∧ W.cell? ⟨t, 0, none⟩ = some (.int .i64 q2) ∧ W.cell? ⟨t, 1, none⟩ = some u2 := ⟨⟨h.one.cell 0, h.one.cell 1⟩, h.two.cell 0, h.two.cell 1⟩
/-- the world behind the two stores -/
def putT (W : World) (r s : Nat) (x y z v : Value) : World := (((W.setCell ⟨r, 0, none⟩ x).setCell ⟨r, 1, none⟩ y).setCell ⟨s, 0, none⟩ z).setCell ⟨s, 1, none⟩ v
theorem MvH.put (h : MvH w W q1 u1 q2 u2 f t r s) (x y z v : Value) : Below w.heap.size w (putT W r s x y z v) ∧ Row r 32 [x, y] (putT W r s x y z v) ∧ Row s 32 [z, v] (putT W r s x y z v) ∧ Tch (fun k => k = r ∨ k = s) W (putT W r s x y z v) := by
  have g := h.ge
  have hne : r ≠ s := by omega
  have hne2 : s ≠ r := by omega
  unfold putT
  refine ⟨(((h.below.setCell (p := ⟨r, 0, none⟩) (by show _ ≤ r; omega) _).setCell (p := ⟨r, 1, none⟩) (by show _ ≤ r; omega) _).setCell (p := ⟨s, 0, none⟩) (by show _ ≤ s; omega) _).setCell (p := ⟨s, 1, none⟩) (by show _ ≤ s; omega) _, ((h.res.put2 _ _).far (p := ⟨s, 0, none⟩) hne _).far (p := ⟨s, 1, none⟩) hne _, ((h.ses.far (p := ⟨r, 0, none⟩) hne2 _).far (p := ⟨r, 1, none⟩) hne2 _).put2 _ _, ?_⟩
  exact ((((Tch.refl (fun k => k = r ∨ k = s) W).setCell (p := ⟨r, 0, none⟩) (.inl (.inl rfl)) _).setCell (p := ⟨r, 1, none⟩) (.inl (.inl rfl)) _).setCell (p := ⟨s, 0, none⟩) (.inl (.inr rfl)) _).setCell (p := ⟨s, 1, none⟩) (.inl (.inr rfl)) _
/-- what came stays behind the stores -/
abbrev MvC (f t q1 : Nat) (u1 : Value) (q2 : Nat) (u2 : Value) (W : World) : Prop := (W.cell? ⟨f, 0, none⟩ = some (.int .i64 q1) ∧ W.cell? ⟨f, 1, none⟩ = some u1) ∧ W.cell? ⟨t, 0, none⟩ = some (.int .i64 q2) ∧ W.cell? ⟨t, 1, none⟩ = some u2
theorem MvH.kept (h : MvH w W q1 u1 q2 u2 f t r s) (x y : Value) : MvC f t q1 u1 q2 u2 ((W.setCell ⟨r, 0, none⟩ x).setCell ⟨r, 1, none⟩ y).drew := by
  have g := h.ge
  have n1 : f ≠ r := by omega
  have n2 : t ≠ r := by omega
  have h1 := (h.one.far (p := ⟨r, 0, none⟩) n1 x).far (p := ⟨r, 1, none⟩) n1 y
  have h2 := (h.two.far (p := ⟨r, 0, none⟩) n2 x).far (p := ⟨r, 1, none⟩) n2 y
  have k1 := h1.drew
  have k2 := h2.drew
  exact ⟨⟨k1.cell 0, k1.cell 1⟩, k2.cell 0, k2.cell 1⟩
theorem MvH.kept2 (h : MvH w W q1 u1 q2 u2 f t r s) (x y z v : Value) : MvC f t q1 u1 q2 u2 ((((W.setCell ⟨r, 0, none⟩ x).setCell ⟨r, 1, none⟩ y).setCell ⟨s, 0, none⟩ z).setCell ⟨s, 1, none⟩ v).drew := by
  have g := h.ge
  have n1 : f ≠ r := by omega
  have n2 : t ≠ r := by omega
  have n3 : f ≠ s := by omega
  have n4 : t ≠ s := by omega
  have h1 := (((h.one.far (p := ⟨r, 0, none⟩) n1 x).far (p := ⟨r, 1, none⟩) n1 y).far (p := ⟨s, 0, none⟩) n3 z).far (p := ⟨s, 1, none⟩) n3 v
  have h2 := (((h.two.far (p := ⟨r, 0, none⟩) n2 x).far (p := ⟨r, 1, none⟩) n2 y).far (p := ⟨s, 0, none⟩) n4 z).far (p := ⟨s, 1, none⟩) n4 v
  have k1 := h1.drew
  have k2 := h2.drew
  exact ⟨⟨k1.cell 0, k1.cell 1⟩, k2.cell 0, k2.cell 1⟩
end
/-- what move answers -/
def RM (S : Nat → Prop) (q1 : Nat) (xs : List Int) (q2 : Nat) (ys : List Int) (v : Int) (ok : Bool) (w : World) (e : Ending) (w' : World) : Prop :=
  ∃ p n c p2 n2 c2, e = .returned (.tuple #[.agg #[.int .i64 q1, .slice p n c], .agg #[.int .i64 q2, .slice p2 n2 c2], .int .i64 v, .bool ok]) ∧ Hid (n = xs.length) ∧ Hid (n2 = ys.length) ∧ SlIs S w' (.slice p n c) xs ∧ SlIs S w' (.slice p2 n2 c2) ys ∧ Below w.heap.size w w'
set_option maxHeartbeats 2000000 in
theorem mv_no {S : Nat → Prop} (q1 q2 : Nat) (xs ys : List Int) (u1 u2 : Value) (w : World) (h1 : SlIs S w u1 xs) (h2 : SlIs S w u2 ys) (hno : mvB xs ys = false) :
    Calls Try.prog 36 #[.agg #[.int .i64 q1, u1], .agg #[.int .i64 q2, u2]] w (RM S q1 xs q2 ys 0 false w) := by
  have HX : Hid (∀ W, Below w.heap.size w W → SlIs S W u1 xs ∧ SlIs S W u2 ys) := fun W hb => ⟨h1.on hb, h2.on hb⟩
  obtain ⟨p, n, c, rfl, hn, hc1, hc2⟩ := h1.form
  obtain ⟨p2, n2, c2, rfl, hn2, hd1, hd2⟩ := h2.form
  have HN := Lib.hid (And.intro hn hn2)
  have hcase : n = 0 ∨ (0 < n ∧ 0 < n2) := by
    by_cases hx : xs = []
    · left; rw [hn, hx]; rfl
    · right
      have hy : ys ≠ [] := fun hy => by
        have : mvB xs ys = true := decide_eq_true ⟨hx, hy⟩
        rw [this] at hno; cases hno
      exact ⟨by rw [hn]; exact List.length_pos_iff.2 hx, by rw [hn2]; exact List.length_pos_iff.2 hy⟩
  clear h1 h2 hn hn2 hc1 hc2 hd1 hd2 hno
  rcases hcase with rfl | ⟨z1, z2⟩
  · go_enter Try.func36, Try.ntmps36
    go_wp2_with fail
    have HH := Lib.hid (mvh_new w q1 (.slice p 0 c) q2 (.slice p2 n2 c2))
    obtain ⟨W, hW⟩ : ∃ W, (((w.alloc (.cells #[.int .i64 q1, .slice p 0 c] 32)).alloc (.cells #[.int .i64 q2, .slice p2 n2 c2] 32)).alloc (.cells #[.int .i64 0, .slice none 0 0] 32)).alloc (.cells #[.int .i64 0, .slice none 0 0] 32) = W := ⟨_, rfl⟩
    obtain ⟨f, hf⟩ : ∃ f, w.heap.size = f := ⟨_, rfl⟩
    obtain ⟨t, ht⟩ : ∃ t, f + 1 = t := ⟨_, rfl⟩
    obtain ⟨r, hr⟩ : ∃ r, t + 1 = r := ⟨_, rfl⟩
    obtain ⟨s, hs⟩ : ∃ s, r + 1 = s := ⟨_, rfl⟩
    rw [hW, hf, ht, hr, hs] at HH
    rw [hW, hf, ht, hr, hs]
    clear hW hf ht hr hs
    have HKd : Hid (MvC f t q1 (.slice p 0 c) q2 (.slice p2 n2 c2) W.drew) := HH.out.cells
    have HKs : Hid (∀ x y, MvC f t q1 (.slice p 0 c) q2 (.slice p2 n2 c2) ((W.setCell ⟨r, 0, none⟩ x).setCell ⟨r, 1, none⟩ y).drew) := fun x y => HH.out.kept x y
    have HK2 : Hid (∀ x y z v, MvC f t q1 (.slice p 0 c) q2 (.slice p2 n2 c2) ((((W.setCell ⟨r, 0, none⟩ x).setCell ⟨r, 1, none⟩ y).setCell ⟨s, 0, none⟩ z).setCell ⟨s, 1, none⟩ v).drew) := fun x y z v => HH.out.kept2 x y z v
    have ne1 : ¬ (s = r) := by have := HH.out.ge; omega
    have ne2 : ¬ (r = s) := by have := HH.out.ge; omega
    obtain ⟨rc0, rc1, rf0, rf1⟩ := HH.out.res.two
    obtain ⟨sc0, sc1, sf0, sf1⟩ := HH.out.ses.two
    go_region_held3 (fun w' => (w'.cell? ⟨f, 0, none⟩ = some (.int .i64 q1) ∧ w'.cell? ⟨f, 1, none⟩ = some (.slice p 0 c)) ∧ w'.cell? ⟨t, 0, none⟩ = some (.int .i64 q2) ∧ w'.cell? ⟨t, 1, none⟩ = some (.slice p2 n2 c2))
      (first | (with_reducible exact HKd.out) | (with_reducible exact HKs.out _ _) | (with_reducible exact HK2.out _ _ _ _)) (fail)
    have HP := HH.out.put (.int .i64 q1) (.slice p 0 c) (.int .i64 q2) (.slice p2 n2 c2)
    unfold putT at HP
    have hp0 := HP.2.1.cell 0
    have hp1 := HP.2.1.cell 1
    have hq0 := HP.2.2.1.cell 0
    have hq1 := HP.2.2.1.cell 1
    simp only [List.getElem?_cons_zero, List.getElem?_cons_succ] at hp0 hp1 hq0 hq1
    have HB2 := Lib.hid HP.1
    have HS2 := Lib.hid (HX.out _ HB2.out)
    clear HP rc0 rc1 rf0 rf1 sc0 sc1 sf0 sf1 ne1 ne2
    go_wp2
    exact bodyPost_ret (v := .tuple #[.agg #[.int .i64 q1, .slice p 0 c], .agg #[.int .i64 q2, .slice p2 n2 c2], .int .i64 0, .bool false]) (by simp [results, Try.results36, go_sem, hp0, hp1, hq0, hq1]) rfl ⟨_, _, _, _, _, _, rfl, HN.out.1, HN.out.2, HS2.out.1.drew, HS2.out.2.drew, HB2.out.drew⟩
  · have z3 : ¬ ((n : Int) = 0) := by omega
    have z4 : (0 : Int) < (n2 : Int) := by omega
    go_enter Try.func36, Try.ntmps36
    go_wp2_with fail
    have HH := Lib.hid (mvh_new w q1 (.slice p n c) q2 (.slice p2 n2 c2))
    obtain ⟨W, hW⟩ : ∃ W, (((w.alloc (.cells #[.int .i64 q1, .slice p n c] 32)).alloc (.cells #[.int .i64 q2, .slice p2 n2 c2] 32)).alloc (.cells #[.int .i64 0, .slice none 0 0] 32)).alloc (.cells #[.int .i64 0, .slice none 0 0] 32) = W := ⟨_, rfl⟩
    obtain ⟨f, hf⟩ : ∃ f, w.heap.size = f := ⟨_, rfl⟩
    obtain ⟨t, ht⟩ : ∃ t, f + 1 = t := ⟨_, rfl⟩
    obtain ⟨r, hr⟩ : ∃ r, t + 1 = r := ⟨_, rfl⟩
    obtain ⟨s, hs⟩ : ∃ s, r + 1 = s := ⟨_, rfl⟩
    rw [hW, hf, ht, hr, hs] at HH
    rw [hW, hf, ht, hr, hs]
    clear hW hf ht hr hs
    have HKd : Hid (MvC f t q1 (.slice p n c) q2 (.slice p2 n2 c2) W.drew) := HH.out.cells
    have HKs : Hid (∀ x y, MvC f t q1 (.slice p n c) q2 (.slice p2 n2 c2) ((W.setCell ⟨r, 0, none⟩ x).setCell ⟨r, 1, none⟩ y).drew) := fun x y => HH.out.kept x y
    have HK2 : Hid (∀ x y z v, MvC f t q1 (.slice p n c) q2 (.slice p2 n2 c2) ((((W.setCell ⟨r, 0, none⟩ x).setCell ⟨r, 1, none⟩ y).setCell ⟨s, 0, none⟩ z).setCell ⟨s, 1, none⟩ v).drew) := fun x y z v => HH.out.kept2 x y z v
    have ne1 : ¬ (s = r) := by have := HH.out.ge; omega
    have ne2 : ¬ (r = s) := by have := HH.out.ge; omega
    obtain ⟨rc0, rc1, rf0, rf1⟩ := HH.out.res.two
    obtain ⟨sc0, sc1, sf0, sf1⟩ := HH.out.ses.two
    go_region_held3 (fun w' => (w'.cell? ⟨f, 0, none⟩ = some (.int .i64 q1) ∧ w'.cell? ⟨f, 1, none⟩ = some (.slice p n c)) ∧ w'.cell? ⟨t, 0, none⟩ = some (.int .i64 q2) ∧ w'.cell? ⟨t, 1, none⟩ = some (.slice p2 n2 c2))
      (first | (with_reducible exact HKd.out) | (with_reducible exact HKs.out _ _) | (with_reducible exact HK2.out _ _ _ _)) (fail)
    have HP := HH.out.put (.int .i64 q1) (.slice p n c) (.int .i64 q2) (.slice p2 n2 c2)
    unfold putT at HP
    have hp0 := HP.2.1.cell 0
    have hp1 := HP.2.1.cell 1
    have hq0 := HP.2.2.1.cell 0
    have hq1 := HP.2.2.1.cell 1
    simp only [List.getElem?_cons_zero, List.getElem?_cons_succ] at hp0 hp1 hq0 hq1
    have HB2 := Lib.hid HP.1
    have HS2 := Lib.hid (HX.out _ HB2.out)
    clear HP rc0 rc1 rf0 rf1 sc0 sc1 sf0 sf1 ne1 ne2
    go_wp2
    exact bodyPost_ret (v := .tuple #[.agg #[.int .i64 q1, .slice p n c], .agg #[.int .i64 q2, .slice p2 n2 c2], .int .i64 0, .bool false]) (by simp [results, Try.results36, go_sem, hp0, hp1, hq0, hq1]) rfl ⟨_, _, _, _, _, _, rfl, HN.out.1, HN.out.2, HS2.out.1.drew, HS2.out.2.drew, HB2.out.drew⟩
end Go.Proofs.Ytjdbmedealhbjaa
