/- The reference's deque (layer 8), walked. -/
import Derived.Test.YtjdbmedealhbjaaAp
import Derived.Test.YtjdbmedealhbjaaRo
import Derived.Deep.RegionHeld3
import Derived.Deep.DeepCutAuto
import Derived.BigQuiet
import Derived.BigRegion
import Derived.Deep.QuietTactic
import Derived.LoopTactic
namespace Go.Proofs.Ytjdbmedealhbjaa
open Go.RowKit Go.Wd Go.Dk

set_option maxHeartbeats 1000000 in
theorem join_any {S R : Nat → Prop} (xs ys : List Int) (u v : Value) (w : World) (h1 : SlIs S w u xs) (h2 : SlIs R w v ys) (hl : xs.length + ys.length ≤ 100000) :
    Calls Try.prog 30 #[u, v] w (RowPost8 (xs ++ ys) w) := by
  have H1 := Lib.hid h1
  have H2 := Lib.hid h2
  obtain ⟨p, c, rfl, _⟩ := h1
  obtain ⟨p2, c2, rfl, _⟩ := h2
  have HL := Lib.hid hl
  clear hl
  go_enter Try.func30, Try.ntmps30
  go_wp2_with (at_builtin; first
    | ((refine append_new (B := w.heap.size) w rfl (.tmp 6) (.tmp 7) (by rfl) _ (.slice none 0 0) [] xs (by kernel_rfl) (NewRow.nil _ _) (by kernel_rfl) H1.out (by have := HL.out; simp; omega) (Nat.le_refl _) ?_); intro v1 w1 hn1 hg1; have HN1 := Lib.hid hn1.begun; have HB1 := Lib.hid (nil_begun hg1); have H21 := Lib.hid (H2.out.on HB1.out); clear hn1 hg1)
    | ((refine append_new (B := w.heap.size) _ rfl (.tmp 9) (.tmp 10) (by rfl) _ v1 xs ys (by kernel_rfl) HN1.out (by kernel_rfl) H21.out (by have := HL.out; omega) HB1.out.size ?_); intro v2 w2 hn2 hg2; have HF : Hid (RowPost8 (xs ++ ys) w (.returned v2) w2) := hn2.post (new_below HN1.out HB1.out HB1.out.size hg2); clear hn2 hg2))
  go_ret
  exact HF.out

/-- a reference's deque, its row in no block of S -/
def RIs (S : Nat → Prop) (w : World) (v : Value) (q : Nat) (xs : List Int) : Prop := ∃ u, v = .agg #[.int .i64 q, u] ∧ SlIs S w u xs
theorem RIs.tch {S : Nat → Prop} {w w' : World} {v : Value} {q : Nat} {xs : List Int} (h : RIs S w v q xs) (ht : Tch S w w') : RIs S w' v q xs := by
  obtain ⟨u, h1, h2⟩ := h
  exact ⟨u, h1, h2.tch ht⟩
theorem RIs.on {S : Nat → Prop} {w w' : World} {v : Value} {q : Nat} {xs : List Int} (h : RIs S w v q xs) (hb : Below w.heap.size w w') : RIs S w' v q xs := h.tch (.of S hb)
theorem RIs.more {S R : Nat → Prop} {w : World} {v : Value} {q : Nat} {xs : List Int} (h : RIs S w v q xs) (hs : ∀ b, R b → S b ∨ w.heap.size ≤ b) : RIs R w v q xs := by
  obtain ⟨u, h1, h2⟩ := h
  exact ⟨u, h1, h2.more hs⟩
/-- one number in a new block -/
theorem sl_one {S : Nat → Prop} (g : Int) (w : World) (t : TypeId) (B : Nat) (hB : B = w.heap.size) (hs : ¬ S B) : SlIs S (w.alloc (.cells #[.int .i64 g] t)) (.slice (some ⟨B, 0, none⟩) 1 1) [g] := by
  subst hB
  refine ⟨_, 1, rfl, Nat.le_refl _, by unfold maxLen; omega, (fun e => by cases e), LiesN.made (lies_new .i64 [g] w t _ rfl (by simp)) ?_⟩
  rintro b o e
  cases e
  exact hs
/-- the head of a reference's function: what came, and a result, in blocks of their own -/
structure RefH (w W : World) (q : Nat) (u : Value) (b r : Nat) : Prop where
  below : Below w.heap.size w W
  box : Row b 32 [.int .i64 q, u] W
  res : Row r 32 [.int .i64 0, .slice none 0 0] W
  ge : w.heap.size ≤ b ∧ b < r
theorem refh_new (w : World) (q : Nat) (u : Value) : RefH w ((w.alloc (.cells #[.int .i64 q, u] 32)).alloc (.cells #[.int .i64 0, .slice none 0 0] 32)) q u w.heap.size (w.heap.size + 1) := by
  have b1 := (Below.refl w.heap.size w).alloc (Nat.le_refl _) (.cells #[.int .i64 q, u] 32)
  have h1 := Row.new w 32 [.int .i64 q, u]
  have b2 := (Below.refl _ (w.alloc (.cells #[.int .i64 q, u] 32))).alloc (Nat.le_refl _) (.cells #[.int .i64 0, .slice none 0 0] 32)
  exact ⟨b1.trans (b2.mono b1.size), h1.on' b2, Row.new' _ _ _ _ (by simp), Nat.le_refl _, Nat.lt_succ_self _⟩
theorem RefH.on {w W W' : World} {q : Nat} {u : Value} {b r : Nat} (h : RefH w W q u b r) (hb : Below W.heap.size W W') : RefH w W' q u b r :=
  ⟨h.below.trans (hb.mono h.below.size), h.box.on' hb, h.res.on' hb, h.ge⟩
/-- the two cells of what came -/
def BoxC (b q : Nat) (u : Value) (W : World) : Prop := W.cell? ⟨b, 0, none⟩ = some (.int .i64 q) ∧ W.cell? ⟨b, 1, none⟩ = some u
theorem RefH.cells {w W : World} {q : Nat} {u : Value} {b r : Nat} (h : RefH w W q u b r) : W.cell? ⟨b, 0, none⟩ = some (.int .i64 q) ∧ W.cell? ⟨b, 1, none⟩ = some u := ⟨h.box.cell 0, h.box.cell 1⟩
theorem RefH.resc {w W : World} {q : Nat} {u : Value} {b r : Nat} (h : RefH w W q u b r) : W.cell? ⟨r, 0, none⟩ = some (.int .i64 0) ∧ W.cell? ⟨r, 1, none⟩ = some (.slice none 0 0) ∧ W.frozen? ⟨r, 0, none⟩ = false ∧ W.frozen? ⟨r, 1, none⟩ = false := h.res.two
/-- the result is stored -/
theorem RefH.put {w W : World} {q : Nat} {u : Value} {b r : Nat} (h : RefH w W q u b r) (x y : Value) : Below w.heap.size w ((W.setCell ⟨r, 0, none⟩ x).setCell ⟨r, 1, none⟩ y) ∧ Row r 32 [x, y] ((W.setCell ⟨r, 0, none⟩ x).setCell ⟨r, 1, none⟩ y) ∧ Tch (fun k => k = r) W ((W.setCell ⟨r, 0, none⟩ x).setCell ⟨r, 1, none⟩ y) :=
  ⟨(h.below.setCell (p := ⟨r, 0, none⟩) (by have := h.ge; show _ ≤ r; omega) _).setCell (p := ⟨r, 1, none⟩) (by have := h.ge; show _ ≤ r; omega) _, h.res.put2 _ _, ((Tch.refl (fun k => k = r) W).setCell (p := ⟨r, 0, none⟩) (.inl rfl) _).setCell (p := ⟨r, 1, none⟩) (.inl rfl) _⟩
/-- a new row, and the reference's head -/
structure RefJ (w W : World) (q : Nat) (u : Value) (b r : Nat) (v : Value) (xs : List Int) : Prop where
  head : RefH w W q u b r
  row : NewRow w.heap.size W v xs
  ne : ∀ k, v.ownBlock = some k → k ≠ r
theorem RefH.join {w W w1 : World} {q : Nat} {u : Value} {b r : Nat} {v : Value} {xs : List Int} {B : Nat} (h : RefH w W q u b r) (hr : NewRow B w1 v xs) (hb : Below W.heap.size W w1) (hB : W.heap.size ≤ B) : RefJ w w1 q u b r v xs := by
  have h1 := h.res.lt
  have h2 := h.below.size
  exact ⟨h.on hb, hr.base (by omega), fun k hk e => by have := (hr.lt k hk).1; omega⟩
theorem RefJ.put {w W : World} {q : Nat} {u : Value} {b r : Nat} {v : Value} {xs : List Int} (h : RefJ w W q u b r v xs) (x y : Value) : NewRow w.heap.size ((W.setCell ⟨r, 0, none⟩ x).setCell ⟨r, 1, none⟩ y) v xs :=
  h.row.tch (h.head.put x y).2.2 h.ne
/-- .. and what came stays -/
theorem RefH.kept {w W W' : World} {q : Nat} {u : Value} {b r : Nat} (h : RefH w W q u b r) (hb : Below W.heap.size W W') (x y : Value) : ((W'.setCell ⟨r, 0, none⟩ x).setCell ⟨r, 1, none⟩ y).cell? ⟨b, 0, none⟩ = some (.int .i64 q) ∧ ((W'.setCell ⟨r, 0, none⟩ x).setCell ⟨r, 1, none⟩ y).cell? ⟨b, 1, none⟩ = some u := by
  have hne : b ≠ r := Nat.ne_of_lt h.ge.2
  have h1 := ((h.on hb).box.far (p := ⟨r, 0, none⟩) hne x).far (p := ⟨r, 1, none⟩) hne y
  exact ⟨h1.cell 0, h1.cell 1⟩
/-- what Put answers where there is room -/
def RPut1 (q : Nat) (xs : List Int) (w : World) (e : Ending) (w' : World) : Prop := ∃ v, e = .returned (.tuple #[.agg #[.int .i64 q, v], .slice none 0 0]) ∧ NewRow w.heap.size w' v xs ∧ Below w.heap.size w w'
set_option maxHeartbeats 1000000 in
theorem rput_room {S : Nat → Prop} (q : Nat) (xs : List Int) (g : Int) (u : Value) (w : World) (h : SlIs S w u xs) (hq : q ≤ 65536) (hl : xs.length < q) :
    Calls Try.prog 32 #[.agg #[.int .i64 q, u], .int .i64 g] w (RPut1 q (xs ++ [g]) w) := by
  have HX : Hid (∀ W, Below w.heap.size w W → SlIs S W u xs) := fun W hb => h.on hb
  obtain ⟨p, c, rfl, h1, h2, h3, h4⟩ := h
  have HQ := Lib.hid (And.intro hq hl)
  have l1 : (xs.length : Int) < (q : Int) := by omega
  obtain ⟨n, hn⟩ : ∃ n, xs.length = n := ⟨_, rfl⟩
  have HN := Lib.hid hn
  rw [hn] at l1 HX ⊢
  clear h1 h2 h3 h4 hq hl hn
  go_enter Try.func32, Try.ntmps32
  go_wp2_with fail
  have HH := Lib.hid (refh_new w q (.slice p n c))
  obtain ⟨W, hW⟩ : ∃ W, (w.alloc (.cells #[.int .i64 q, .slice p n c] 32)).alloc (.cells #[.int .i64 0, .slice none 0 0] 32) = W := ⟨_, rfl⟩
  obtain ⟨b, hb⟩ : ∃ b, w.heap.size = b := ⟨_, rfl⟩
  obtain ⟨r, hr⟩ : ∃ r, b + 1 = r := ⟨_, rfl⟩
  rw [hW, hb, hr] at HH
  rw [hW, hb, hr]
  have HBs := Lib.hid hb
  clear hW hb hr
  have hc := HH.out.cells
  have HBd : Hid (Below W.heap.size W W.drew) := (Below.refl _ _).drew
  have HBa : Hid (Below W.heap.size W (W.alloc (.cells #[.int .i64 g] 3)).drew) := ((Below.refl _ _).alloc (Nat.le_refl _) _).drew
  have HOne : Hid (SlIs (fun _ => False) (W.alloc (.cells #[.int .i64 g] 3)).drew (.slice (some ⟨W.heap.size, 0, none⟩) 1 1) [g]) := (sl_one g W _ _ rfl id).on ((Below.refl _ _).drew)
  have HKc : Hid (∀ W', Below W.heap.size W W' → W'.cell? ⟨b, 0, none⟩ = some (.int .i64 q) ∧ W'.cell? ⟨b, 1, none⟩ = some (.slice p n c)) := fun W' hb => (HH.out.on hb).cells
  have HXa : Hid (SlIs S (W.alloc (.cells #[.int .i64 g] 3)).drew (.slice p n c) xs) := HX.out _ (HH.out.below.trans (HBa.out.mono HH.out.below.size))
  have HLn : Hid (xs.length + [g].length ≤ 100000) := by have := HQ.out; show _ ≤ _; simp; omega
  have HKs : Hid (∀ W' x y, Below W.heap.size W W' → ((W'.setCell ⟨r, 0, none⟩ x).setCell ⟨r, 1, none⟩ y).cell? ⟨b, 0, none⟩ = some (.int .i64 q) ∧ ((W'.setCell ⟨r, 0, none⟩ x).setCell ⟨r, 1, none⟩ y).cell? ⟨b, 1, none⟩ = some (.slice p n c)) := fun W' x y hb => HH.out.kept hb x y
  clear hc
  go_region_held3 (fun w' => w'.cell? ⟨b, 0, none⟩ = some (.int .i64 q) ∧ w'.cell? ⟨b, 1, none⟩ = some (.slice p n c))
    (first | (with_reducible exact HKc.out _ HBd.out) | (with_reducible exact HKc.out _ HBa.out) | (with_reducible exact HKc.out _ HB1.out) | (with_reducible exact HKs.out _ _ _ HB1.out))
    (first | (go_at_call 30; (with_reducible refine (join_any xs [g] _ _ _ HXa.out HOne.out HLn.out).mono ?_); rintro e w1 ⟨p1, n1, c1, rfl, HN1, hn1, hb1⟩; have HB1 := Lib.hid (HBa.out.trans (hb1.mono HBa.out.size)); have HJ := Lib.hid (HH.out.join hn1 HB1.out HBa.out.size); have rc := HJ.out.head.resc; obtain ⟨rc0, rc1, rf0, rf1⟩ := rc; clear hn1 hb1))
  have HP := HJ.out.head.put (.int .i64 q) (.slice p1 n1 c1)
  have hp0 := HP.2.1.cell 0
  have hp1 := HP.2.1.cell 1
  simp only [List.getElem?_cons_zero, List.getElem?_cons_succ] at hp0 hp1
  have HR := Lib.hid (HJ.out.put (.int .i64 q) (.slice p1 n1 c1))
  have HB2 := Lib.hid HP.1
  clear HP rc0 rc1 rf0 rf1
  go_wp2
  exact bodyPost_ret (v := .tuple #[.agg #[.int .i64 q, .slice p1 n1 c1], .slice none 0 0]) (by simp [results, Try.results32, go_sem, hp0, hp1]) rfl ⟨_, rfl, HR.out, HB2.out⟩

/-- a slice's later part, and its earlier one -/
theorem SlIs.cut {S : Nat → Prop} {w : World} {b o c n : Nat} {xs : List Int} {k : Nat} (h : SlIs S w (.slice (some ⟨b, o, none⟩) n c) xs) (hk : k ≤ n) : SlIs S w (.slice (some ⟨b, o, none⟩) k c) (xs.take k) ∧ SlIs S w (.slice (some ⟨b, o + k, none⟩) (n - k) (c - k)) (xs.drop k) ∧ (n - k = 0 → SlIs S w (.slice (some ⟨b, o, none⟩) (n - k) (c - k)) (xs.drop k)) := by
  obtain ⟨p, c', e, h2, h3, _, h5⟩ := h
  cases e
  have l1 : (xs.take k).length = k := by rw [List.length_take]; omega
  have l2 : (xs.drop k).length = xs.length - k := List.length_drop
  have hc : ∀ j, j < xs.length → ∃ b' o', (some (⟨b, o, none⟩ : Addr)) = some ⟨b', o', none⟩ ∧ ¬ S b' ∧ w.cell? ⟨b', o' + j, none⟩ = some (.int .i64 (xs.getD j 0)) := h5.cells
  have hlen := h5.len
  refine ⟨⟨_, c, by rw [l1], by rw [l1]; omega, h3, (fun e => by cases e), ⟨by rw [l1]; omega, fun j hj => ?_⟩⟩, ⟨_, c - k, by rw [l2], by rw [l2]; omega, by omega, (fun e => by cases e), ⟨by rw [l2]; omega, fun j hj => ?_⟩⟩, fun hz => ⟨_, c - k, by rw [l2], by rw [l2]; omega, by omega, (fun e => by cases e), ⟨by rw [l2]; omega, fun j hj => ?_⟩⟩⟩
  · obtain ⟨b', o', e, hn, hcell⟩ := hc j (by omega)
    refine ⟨b', o', e, hn, ?_⟩
    rw [hcell]
    simp [List.getD, show j < k by omega]
  · obtain ⟨b', o', e, hn, hcell⟩ := hc (k + j) (by omega)
    cases e
    refine ⟨b, o + k, rfl, hn, ?_⟩
    rw [Nat.add_assoc, hcell]
    simp [List.getD, List.getElem?_drop]
  · omega
theorem SlIs.at {S : Nat → Prop} {w : World} {p : Option Addr} {n c : Nat} {xs : List Int} (h : SlIs S w (.slice p n c) xs) (hn : 0 < n) : ∃ b o, p = some ⟨b, o, none⟩ ∧ n = xs.length ∧ n ≤ c ∧ c ≤ maxLen ∧ ¬ S b ∧ ∀ j, j < n → w.cell? ⟨b, o + j, none⟩ = some (.int .i64 (xs.getD j 0)) := by
  obtain ⟨p, c', e, h2, h3, _, h5⟩ := h
  cases e
  obtain ⟨b, o, e, hs, _⟩ := h5.cells 0 hn
  subst e
  exact ⟨b, o, rfl, rfl, h2, h3, hs, fun j hj => by obtain ⟨b', o', e, _, hc⟩ := h5.cells j hj; cases e; exact hc⟩
/-- what Put answers where there is no room -/
def RPut2 (S : Nat → Prop) (q : Nat) (xs ys : List Int) (w : World) (e : Ending) (w' : World) : Prop := ∃ v p n c, e = .returned (.tuple #[.agg #[.int .i64 q, v], .slice p n c]) ∧ SlIs S w' v xs ∧ NewRow w.heap.size w' (.slice p n c) ys ∧ Below w.heap.size w w'
set_option maxHeartbeats 1000000 in
theorem rput_full {S : Nat → Prop} (q : Nat) (xs : List Int) (g : Int) (u : Value) (w : World) (h : SlIs S w u xs) (hq : 2 ≤ q ∧ q ≤ 65536) (hl : xs.length = q) :
    Calls Try.prog 32 #[.agg #[.int .i64 q, u], .int .i64 g] w (RPut2 S q (xs.take (q - q / 2)) (xs.drop (q - q / 2) ++ [g]) w) := by
  obtain ⟨p, n, c, rfl, hn⟩ : ∃ p n c, u = .slice p n c ∧ n = xs.length := by obtain ⟨p, c, e, _⟩ := h; exact ⟨p, _, c, e, rfl⟩
  obtain ⟨b0, o0, rfl, hn2, hc1, hc2, hs, hcell⟩ := h.at (by omega)
  have HX : Hid (∀ W, Below w.heap.size w W → SlIs S W (.slice (some ⟨b0, o0, none⟩) n c) xs) := fun W hb => h.on hb
  obtain rfl : n = q := by omega
  obtain ⟨k, hk⟩ : ∃ k, n - n / 2 = k := ⟨_, rfl⟩
  have HK := Lib.hid (show k < n ∧ 0 < k from by omega)
  have k1 : (n : Int) - (n : Int) / 2 = (k : Int) := by omega
  have HK1 := Lib.hid k1
  have HN := Lib.hid (And.intro hn hq)
  unfold maxLen at hc2
  rw [hk]
  have hck : ¬ (c = k) := by omega
  have hki : (0 : Int) ≤ (k : Int) ∧ (k : Int) ≤ (n : Int) ∧ (k : Int) ≤ (c : Int) ∧ (n : Int) ≤ (c : Int) := by omega
  obtain ⟨kk0, kk1, kk2, kk3⟩ := hki
  clear h hcell hk hn hl hs hn2
  go_enter Try.func32, Try.ntmps32
  go_wp2_with fail
  have HH := Lib.hid (refh_new w n (.slice (some ⟨b0, o0, none⟩) n c))
  obtain ⟨W, hW⟩ : ∃ W, (w.alloc (.cells #[.int .i64 n, .slice (some ⟨b0, o0, none⟩) n c] 32)).alloc (.cells #[.int .i64 0, .slice none 0 0] 32) = W := ⟨_, rfl⟩
  obtain ⟨b, hb⟩ : ∃ b, w.heap.size = b := ⟨_, rfl⟩
  obtain ⟨r, hr⟩ : ∃ r, b + 1 = r := ⟨_, rfl⟩
  rw [hW, hb, hr] at HH
  rw [hW, hb, hr]
  have HBs := Lib.hid hb
  clear hW hb hr
  have HBd : Hid (Below W.heap.size W W.drew) := (Below.refl _ _).drew
  have HBa : Hid (Below W.heap.size W (W.alloc (.cells #[.int .i64 g] 3)).drew) := ((Below.refl _ _).alloc (Nat.le_refl _) _).drew
  have HOne : Hid (SlIs (fun _ => False) (W.alloc (.cells #[.int .i64 g] 3)).drew (.slice (some ⟨W.heap.size, 0, none⟩) 1 1) [g]) := (sl_one g W _ _ rfl id).on ((Below.refl _ _).drew)
  have HKc : Hid (∀ W', Below W.heap.size W W' → W'.cell? ⟨b, 0, none⟩ = some (.int .i64 n) ∧ W'.cell? ⟨b, 1, none⟩ = some (.slice (some ⟨b0, o0, none⟩) n c)) := fun W' hb => (HH.out.on hb).cells
  have HXa : Hid (SlIs S (W.alloc (.cells #[.int .i64 g] 3)).drew (.slice (some ⟨b0, o0 + k, none⟩) (n - k) (c - k)) (xs.drop k)) := ((HX.out _ (HH.out.below.trans (HBa.out.mono HH.out.below.size))).cut (Nat.le_of_lt HK.out.1)).2.1
  have HLn : Hid ((xs.drop k).length + [g].length ≤ 100000) := by have := HN.out; show _ ≤ _; rw [List.length_drop]; simp; omega
  have HKs : Hid (∀ W' x y, Below W.heap.size W W' → ((W'.setCell ⟨r, 0, none⟩ x).setCell ⟨r, 1, none⟩ y).cell? ⟨b, 0, none⟩ = some (.int .i64 n) ∧ ((W'.setCell ⟨r, 0, none⟩ x).setCell ⟨r, 1, none⟩ y).cell? ⟨b, 1, none⟩ = some (.slice (some ⟨b0, o0, none⟩) n c)) := fun W' x y hb => HH.out.kept hb x y
  go_region_held3 (fun w' => w'.cell? ⟨b, 0, none⟩ = some (.int .i64 n) ∧ w'.cell? ⟨b, 1, none⟩ = some (.slice (some ⟨b0, o0, none⟩) n c))
    (first | (with_reducible exact HKc.out _ HBd.out) | (with_reducible exact HKc.out _ HBa.out) | (with_reducible exact HKc.out _ HB1.out) | (with_reducible exact HKs.out _ _ _ HB1.out))
    (first | (go_at_call 30; (with_reducible refine (join_any (xs.drop k) [g] _ _ _ HXa.out HOne.out HLn.out).mono ?_); rintro e w1 ⟨p1, n1, c1, rfl, HN1, hn1, hb1⟩; have HB1 := Lib.hid (HBa.out.trans (hb1.mono HBa.out.size)); have HJ := Lib.hid (HH.out.join hn1 HB1.out HBa.out.size); have rc := HJ.out.head.resc; obtain ⟨rc0, rc1, rf0, rf1⟩ := rc; clear hn1 hb1))
  have HP := HJ.out.head.put (.int .i64 n) (.slice (some ⟨b0, o0, none⟩) k c)
  have hp0 := HP.2.1.cell 0
  have hp1 := HP.2.1.cell 1
  simp only [List.getElem?_cons_zero, List.getElem?_cons_succ] at hp0 hp1
  have HR := Lib.hid (HJ.out.put (.int .i64 n) (.slice (some ⟨b0, o0, none⟩) k c))
  have HB2 := Lib.hid HP.1
  clear HP rc0 rc1 rf0 rf1
  go_wp2
  exact bodyPost_ret (v := .tuple #[.agg #[.int .i64 n, .slice (some ⟨b0, o0, none⟩) k c], .slice p1 n1 c1]) (by simp [results, Try.results32, go_sem, hp0, hp1]) rfl ⟨_, _, _, _, rfl, ((HX.out _ HB2.out).cut (Nat.le_of_lt HK.out.1)).1, HR.out, HB2.out⟩

theorem SlIs.take {S : Nat → Prop} {w : World} {p : Option Addr} {n c : Nat} {xs : List Int} {k : Nat} (h : SlIs S w (.slice p n c) xs) (hk : k ≤ n) : SlIs S w (.slice p k c) (xs.take k) := by
  obtain ⟨p, c', e, h2, h3, h4, h5⟩ := h
  cases e
  have l1 : (xs.take k).length = k := by rw [List.length_take]; omega
  refine ⟨_, c, by rw [l1], by rw [l1]; omega, h3, h4, ⟨by rw [l1]; have := h5.len; omega, fun j hj => ?_⟩⟩
  obtain ⟨b', o', e, hn, hcell⟩ := h5.cells j (by omega)
  refine ⟨b', o', e, hn, ?_⟩
  rw [hcell]
  simp [List.getD, show j < k by omega]
theorem SlIs.form {S : Nat → Prop} {w : World} {u : Value} {xs : List Int} (h : SlIs S w u xs) : ∃ p n c, u = .slice p n c ∧ n = xs.length ∧ n ≤ c ∧ c ≤ maxLen := by
  obtain ⟨p, c, e, h2, h3, _⟩ := h
  exact ⟨p, _, c, e, rfl, h2, h3⟩
/-- what Put and Steal answer -/
def RP (S : Nat → Prop) (q : Nat) (xs ys : List Int) (w : World) (e : Ending) (w' : World) : Prop :=
  ∃ p n c p2 n2 c2, e = .returned (.tuple #[.agg #[.int .i64 q, .slice p n c], .slice p2 n2 c2]) ∧ Hid (n = xs.length) ∧ Hid (n2 = ys.length) ∧ SlIs S w' (.slice p n c) xs ∧ SlIs S w' (.slice p2 n2 c2) ys ∧ Below w.heap.size w w'
theorem newrow_sl {S : Nat → Prop} {w w' : World} {v : Value} {xs : List Int} (h : NewRow w.heap.size w' v xs) (hS : ∀ k, S k → k < w.heap.size) (hl : xs.length ≤ 1000000000000000) : SlIs S w' v xs := h.sl hl (fun k hk hs => by have := (h.lt k hk).1; have := hS k hs; omega)
theorem rput_any {S : Nat → Prop} (q : Nat) (xs : List Int) (g : Int) (u : Value) (w : World) (h : SlIs S w u xs) (hq : 2 ≤ q ∧ q ≤ 65536) (hl : xs.length ≤ q) (hS : ∀ k, S k → k < w.heap.size) :
    Calls Try.prog 32 #[.agg #[.int .i64 q, u], .int .i64 g] w (RP S q (putL q xs g) (putO q xs g) w) := by
  unfold putL putO
  by_cases hr : xs.length < q
  · rw [if_pos hr, if_pos hr]
    refine (rput_room q xs g u w h hq.2 hr).mono ?_
    rintro e w' ⟨v, rfl, h1, h2⟩
    obtain ⟨p, n, c, rfl, e1⟩ := h1.form
    exact ⟨p, n, c, none, 0, 0, rfl, e1, Lib.hid rfl, newrow_sl h1 hS (by rw [List.length_append]; simp; omega), .nil .., h2⟩
  · rw [if_neg hr, if_neg hr]
    have hle : xs.length = q := by omega
    rw [hle]
    refine (rput_full q xs g u w h hq hle).mono ?_
    rintro e w' ⟨v, p2, n2, c2, rfl, h0, h1, h2⟩
    obtain ⟨p, n, c, rfl, e0, _⟩ := h0.form
    obtain ⟨_, _, _, e, e1⟩ := h1.form
    cases e
    exact ⟨p, n, c, p2, n2, c2, rfl, Lib.hid e0, Lib.hid e1, h0, newrow_sl h1 hS (by rw [List.length_append, List.length_drop]; simp; omega), h2⟩
/-- what Lay answers -/
def RL (S : Nat → Prop) (q : Nat) (xs : List Int) (m : Nat) (w : World) (e : Ending) (w' : World) : Prop :=
  ∃ p n c, e = .returned (.tuple #[.agg #[.int .i64 q, .slice p n c], .int .i64 m]) ∧ Hid (n = xs.length) ∧ SlIs S w' (.slice p n c) xs ∧ Below w.heap.size w w'
set_option maxHeartbeats 1000000 in
theorem rlay_any {S R : Nat → Prop} (q : Nat) (xs l : List Int) (u v : Value) (w : World) (h : SlIs S w u xs) (hv : SlIs R w v l) (hq : 2 ≤ q ∧ q ≤ 65536) (hl : xs.length ≤ q) (hll : l.length ≤ 1000) (hS : ∀ k, S k → k < w.heap.size) :
    Calls Try.prog 33 #[.agg #[.int .i64 q, u], v] w (RL S q (layL q xs l) (layN q xs l) w) := by
  have HX : Hid (∀ W, Below w.heap.size w W → SlIs S W u xs ∧ SlIs R W v l) := fun W hb => ⟨h.on hb, hv.on hb⟩
  obtain ⟨p, n, c, rfl, hn, hc1, hc2⟩ := h.form
  obtain ⟨p2, n2, c2, rfl, hn2, hd1, hd2⟩ := hv.form
  obtain ⟨k, hk⟩ : ∃ k, layN q xs l = k := ⟨_, rfl⟩
  have hkn : k ≤ n2 ∧ k ≤ q := by unfold layN at hk; omega
  have hcase0 : Hid ((k = n2 ∧ ¬ ((q : Int) - (n : Int) < (n2 : Int))) ∨ ((q : Int) - (n : Int) < (n2 : Int) ∧ (q : Int) - (n : Int) = (k : Int))) := by
    show _ ∨ _
    unfold layN at hk
    by_cases hh : (q : Int) - (n : Int) < (n2 : Int)
    · exact .inr ⟨hh, by omega⟩
    · exact .inl ⟨by omega, hh⟩
  have HK := Lib.hid hkn
  have HL := Lib.hid (And.intro hll (And.intro hq hl))
  have HS := Lib.hid hS
  have HKL := Lib.hid hk
  have kk0 : (0 : Int) ≤ (k : Int) := by omega
  have kk1 : (k : Int) ≤ (n2 : Int) := by omega
  have kk2 : (k : Int) ≤ (c2 : Int) := by omega
  unfold maxLen at hc2 hd2
  rw [hk]
  have hnq : (n : Int) ≤ (q : Int) := by omega
  have hq0 : (q : Int) ≤ 65536 := by omega
  clear h hv hkn hk hl hll hS hq hn hn2
  have hcase : (k = n2 ∧ ¬ ((q : Int) - (n : Int) < (n2 : Int))) ∨ ((q : Int) - (n : Int) < (n2 : Int) ∧ (q : Int) - (n : Int) = (k : Int)) := hcase0.out
  clear hcase0
  rcases hcase with ⟨he, hlt⟩ | ⟨hlt, he⟩
  · obtain rfl : k = n2 := he
    go_enter Try.func33, Try.ntmps33
    go_wp2_with fail
    have HH := Lib.hid (refh_new w q (.slice p n c))
    obtain ⟨W, hW⟩ : ∃ W, (w.alloc (.cells #[.int .i64 q, .slice p n c] 32)).alloc (.cells #[.int .i64 0, .slice none 0 0] 32) = W := ⟨_, rfl⟩
    obtain ⟨b, hb⟩ : ∃ b, w.heap.size = b := ⟨_, rfl⟩
    obtain ⟨r, hr⟩ : ∃ r, b + 1 = r := ⟨_, rfl⟩
    rw [hW, hb, hr] at HH
    rw [hW, hb, hr]
    have HBs := Lib.hid hb
    clear hW hb hr
    have HBd : Hid (Below W.heap.size W W.drew) := (Below.refl _ _).drew
    have HKc : Hid (∀ W', Below W.heap.size W W' → W'.cell? ⟨b, 0, none⟩ = some (.int .i64 q) ∧ W'.cell? ⟨b, 1, none⟩ = some (.slice p n c)) := fun W' hb => (HH.out.on hb).cells
    have HXd := HX.out _ (HH.out.below.trans (HBd.out.mono HH.out.below.size))
    have HXa := Lib.hid HXd.1
    have HVa := Lib.hid (HXd.2.take HK.out.1)
    clear HXd
    have HLn : Hid (xs.length + (l.take k).length ≤ 100000) := by have := HL.out; have := HK.out; show _ ≤ _; rw [List.length_take]; omega
    have HKs : Hid (∀ W' x y, Below W.heap.size W W' → ((W'.setCell ⟨r, 0, none⟩ x).setCell ⟨r, 1, none⟩ y).cell? ⟨b, 0, none⟩ = some (.int .i64 q) ∧ ((W'.setCell ⟨r, 0, none⟩ x).setCell ⟨r, 1, none⟩ y).cell? ⟨b, 1, none⟩ = some (.slice p n c)) := fun W' x y hb => HH.out.kept hb x y
    go_region_held3 (fun w' => w'.cell? ⟨b, 0, none⟩ = some (.int .i64 q) ∧ w'.cell? ⟨b, 1, none⟩ = some (.slice p n c))
      (first | (with_reducible exact HKc.out _ HBd.out) | (with_reducible exact HKc.out _ HB1.out) | (with_reducible exact HKs.out _ _ _ HB1.out))
      (first | (go_at_call 30; (with_reducible refine (join_any xs (l.take k) _ _ _ HXa.out HVa.out HLn.out).mono ?_); rintro e w1 ⟨p1, n1, c1, rfl, HN1, hn1, hb1⟩; have HB1 := Lib.hid (HBd.out.trans (hb1.mono HBd.out.size)); have HJ := Lib.hid (HH.out.join hn1 HB1.out HBd.out.size); have rc := HJ.out.head.resc; obtain ⟨rc0, rc1, rf0, rf1⟩ := rc; clear hn1 hb1))
    have HP := HJ.out.head.put (.int .i64 q) (.slice p1 n1 c1)
    have hp0 := HP.2.1.cell 0
    have hp1 := HP.2.1.cell 1
    simp only [List.getElem?_cons_zero, List.getElem?_cons_succ] at hp0 hp1
    have HR := Lib.hid (HJ.out.put (.int .i64 q) (.slice p1 n1 c1))
    have HB2 := Lib.hid HP.1
    clear HP rc0 rc1 rf0 rf1
    go_wp2
    have hlay : layL q xs l = xs ++ l.take k := by unfold layL; rw [HKL.out]
    have hrow := HR.out
    rw [← hlay] at hrow
    have hlen : (layL q xs l).length ≤ 1000000000000000 := by rw [hlay, List.length_append]; have := HLn.out; omega
    have hn1 : n1 = (layL q xs l).length := by rw [hlay]; exact HN1.out
    exact bodyPost_ret (v := .tuple #[.agg #[.int .i64 q, .slice p1 n1 c1], .int .i64 k]) (by simp [results, Try.results33, go_sem, hp0, hp1]) rfl ⟨_, _, _, rfl, Lib.hid hn1, newrow_sl hrow HS.out hlen, HB2.out⟩
  · have hq1 : ¬ ((n2 : Int) < (q : Int) - (n : Int)) := by omega
    go_enter Try.func33, Try.ntmps33
    go_wp2_with fail
    have HH := Lib.hid (refh_new w q (.slice p n c))
    obtain ⟨W, hW⟩ : ∃ W, (w.alloc (.cells #[.int .i64 q, .slice p n c] 32)).alloc (.cells #[.int .i64 0, .slice none 0 0] 32) = W := ⟨_, rfl⟩
    obtain ⟨b, hb⟩ : ∃ b, w.heap.size = b := ⟨_, rfl⟩
    obtain ⟨r, hr⟩ : ∃ r, b + 1 = r := ⟨_, rfl⟩
    rw [hW, hb, hr] at HH
    rw [hW, hb, hr]
    have HBs := Lib.hid hb
    clear hW hb hr
    have HBd : Hid (Below W.heap.size W W.drew) := (Below.refl _ _).drew
    have HKc : Hid (∀ W', Below W.heap.size W W' → W'.cell? ⟨b, 0, none⟩ = some (.int .i64 q) ∧ W'.cell? ⟨b, 1, none⟩ = some (.slice p n c)) := fun W' hb => (HH.out.on hb).cells
    have HXd := HX.out _ (HH.out.below.trans (HBd.out.mono HH.out.below.size))
    have HXa := Lib.hid HXd.1
    have HVa := Lib.hid (HXd.2.take HK.out.1)
    clear HXd
    have HLn : Hid (xs.length + (l.take k).length ≤ 100000) := by have := HL.out; have := HK.out; show _ ≤ _; rw [List.length_take]; omega
    have HKs : Hid (∀ W' x y, Below W.heap.size W W' → ((W'.setCell ⟨r, 0, none⟩ x).setCell ⟨r, 1, none⟩ y).cell? ⟨b, 0, none⟩ = some (.int .i64 q) ∧ ((W'.setCell ⟨r, 0, none⟩ x).setCell ⟨r, 1, none⟩ y).cell? ⟨b, 1, none⟩ = some (.slice p n c)) := fun W' x y hb => HH.out.kept hb x y
    go_region_held3 (fun w' => w'.cell? ⟨b, 0, none⟩ = some (.int .i64 q) ∧ w'.cell? ⟨b, 1, none⟩ = some (.slice p n c))
      (first | (with_reducible exact HKc.out _ HBd.out) | (with_reducible exact HKc.out _ HB1.out) | (with_reducible exact HKs.out _ _ _ HB1.out))
      (first | (go_at_call 30; (with_reducible refine (join_any xs (l.take k) _ _ _ HXa.out HVa.out HLn.out).mono ?_); rintro e w1 ⟨p1, n1, c1, rfl, HN1, hn1, hb1⟩; have HB1 := Lib.hid (HBd.out.trans (hb1.mono HBd.out.size)); have HJ := Lib.hid (HH.out.join hn1 HB1.out HBd.out.size); have rc := HJ.out.head.resc; obtain ⟨rc0, rc1, rf0, rf1⟩ := rc; clear hn1 hb1))
    have HP := HJ.out.head.put (.int .i64 q) (.slice p1 n1 c1)
    have hp0 := HP.2.1.cell 0
    have hp1 := HP.2.1.cell 1
    simp only [List.getElem?_cons_zero, List.getElem?_cons_succ] at hp0 hp1
    have HR := Lib.hid (HJ.out.put (.int .i64 q) (.slice p1 n1 c1))
    have HB2 := Lib.hid HP.1
    clear HP rc0 rc1 rf0 rf1
    go_wp2
    have hlay : layL q xs l = xs ++ l.take k := by unfold layL; rw [HKL.out]
    have hrow := HR.out
    rw [← hlay] at hrow
    have hlen : (layL q xs l).length ≤ 1000000000000000 := by rw [hlay, List.length_append]; have := HLn.out; omega
    have hn1 : n1 = (layL q xs l).length := by rw [hlay]; exact HN1.out
    exact bodyPost_ret (v := .tuple #[.agg #[.int .i64 q, .slice p1 n1 c1], .int .i64 k]) (by simp [results, Try.results33, go_sem, hp0, hp1]) rfl ⟨_, _, _, rfl, Lib.hid hn1, newrow_sl hrow HS.out hlen, HB2.out⟩
end Go.Proofs.Ytjdbmedealhbjaa
