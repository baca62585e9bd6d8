/- The law's works (layer 8), walked. -/
import Derived.Test.YtjdbmedealhbjaaDv
set_option linter.unusedSimpArgs false
set_option linter.unusedVariables false
namespace Go.Proofs.Ytjdbmedealhbjaa
open Go.RowKit Go.Wd Go.Dk

/-- numbers in a new block -/
theorem sl_lit {S : Nat → Prop} (xs : List Int) (w : World) (t : TypeId) (B : Nat) (hB : B = w.heap.size) (hs : ¬ S B) (hl : xs.length ≤ 1000) : SlIs S (w.alloc (.cells (xs.map (Value.int .i64)).toArray t)) (.slice (some ⟨B, 0, none⟩) xs.length xs.length) xs := by
  subst hB
  refine ⟨_, xs.length, rfl, Nat.le_refl _, by unfold maxLen; omega, (fun e => by cases e), LiesN.made (lies_new .i64 xs w t _ rfl hl) ?_⟩
  rintro b o e
  cases e
  exact hs
/-- three deques of room 4 that lie apart -/
structure W3 (D : DqApi) (w0 W : World) (a b c : Nat) (A B C : Nat → Prop) (xs ys zs : List Int) : Prop where
  ia : D.Is A W a 4 xs
  ib : D.Is B W b 4 ys
  ic : D.Is C W c 4 zs
  ab : ∀ k, A k → ¬ B k
  ac : ∀ k, A k → ¬ C k
  bc : ∀ k, B k → ¬ C k
  be : Below w0.heap.size w0 W
  ge : ∀ k, (A k ∨ B k ∨ C k) → w0.heap.size ≤ k
section
variable {D : DqApi} {w0 W W' : World} {a b c : Nat} {A B C A' B' C' O : Nat → Prop} {xs ys zs xs' ys' zs' : List Int}
theorem W3.lt (h : W3 D w0 W a b c A B C xs ys zs) : ∀ k, (A k ∨ B k ∨ C k) → k < W.heap.size := fun k e => by
  rcases e with e | e | e
  · exact D.lt h.ia k e
  · exact D.lt h.ib k e
  · exact D.lt h.ic k e
theorem W3.bel (h : W3 D w0 W a b c A B C xs ys zs) (ht : Tch O W W') (hO : ∀ k, O k → (A k ∨ B k ∨ C k) ∨ W.heap.size ≤ k) : Below w0.heap.size w0 W' := h.be.trans (ht.below h.be.size (fun k e => (hO k e).elim (h.ge k) (fun e2 => Nat.le_trans h.be.size e2)))
theorem W3.stepA (h : W3 D w0 W a b c A B C xs ys zs) (hI : D.Is A' W' a 4 xs') (hs : ∀ k, A' k → A k ∨ W.heap.size ≤ k) (ht : Tch O W W') (hO : ∀ k, O k → A k ∨ W.heap.size ≤ k) : W3 D w0 W' a b c A' B C xs' ys zs := by
  have l := h.lt
  have g := h.ge
  have z := h.be.size
  refine ⟨hI, D.tch h.ib ht (fun k e e2 => ?_), D.tch h.ic ht (fun k e e2 => ?_), fun k e e2 => ?_, fun k e e2 => ?_, h.bc, h.bel ht (fun k e => (hO k e).imp .inl id), fun k e => ?_⟩
  · rcases hO k e2 with e3 | e3
    · exact h.ab k e3 e
    · have := l k (.inr (.inl e)); omega
  · rcases hO k e2 with e3 | e3
    · exact h.ac k e3 e
    · have := l k (.inr (.inr e)); omega
  · rcases hs k e with e3 | e3
    · exact h.ab k e3 e2
    · have := l k (.inr (.inl e2)); omega
  · rcases hs k e with e3 | e3
    · exact h.ac k e3 e2
    · have := l k (.inr (.inr e2)); omega
  · rcases e with e | e
    · rcases hs k e with e3 | e3
      · exact g k (.inl e3)
      · omega
    · exact g k (.inr e)
theorem W3.far (h : W3 D w0 W a b c A B C xs ys zs) (ht : Tch O W W') (hO : ∀ k, O k → W.heap.size ≤ k) : W3 D w0 W' a b c A B C xs ys zs :=
  h.stepA (D.tch h.ia ht (fun k e e2 => by have := h.lt k (.inl e); have := hO k e2; omega)) (fun k e => .inl e) ht (fun k e => .inr (hO k e))
theorem W3.on (h : W3 D w0 W a b c A B C xs ys zs) (hb : Below W.heap.size W W') : W3 D w0 W' a b c A B C xs ys zs := h.far (.of (fun _ => False) hb) (fun _ e => e.elim)
/-- the other way round -/
theorem W3.turn (h : W3 D w0 W a b c A B C xs ys zs) : W3 D w0 W b c a B C A ys zs xs :=
  ⟨h.ib, h.ic, h.ia, h.bc, fun k e e2 => h.ab k e2 e, fun k e e2 => h.ac k e2 e, h.be, fun k e => h.ge k (by rcases e with e | e | e; exact .inr (.inl e); exact .inr (.inr e); exact .inl e)⟩
/-- a call that answers a row, which is written over -/
theorem W3.out (h : W3 D w0 W a b c A B C xs ys zs) {v : Value} {out : List Int} (hI : D.Is A' W' a 4 xs') (hrow : NewRow W.heap.size W' v out) (hv : ∀ k, v.ownBlock = some k → ¬ A' k) (hs : ∀ k, A' k → A k ∨ W.heap.size ≤ k) (ht : Tch A W W') {W3' W4' : World} (hb : Below W'.heap.size W' W3') (ht2 : Tch (fun k => v.ownBlock = some k) W3' W4') : W3 D w0 W4' a b c A' B C xs' ys zs := by
  refine h.stepA (O := fun k => A k ∨ v.ownBlock = some k) (D.tch (D.on hI hb) ht2 (fun k e e2 => hv k e2 e)) hs (((ht.wide (fun k e => .inl e)).then hb).trans (ht2.wide (fun k e => .inr e))) (fun k e => e.imp id (fun e => (hrow.lt k e).1))
theorem W3.all (h : W3 D w0 W a b c A B C xs ys zs) {v : Value} {out : List Int} (hrow : NewRow W.heap.size W' v out) (hb1 : Below W.heap.size W W') {W3' W4' : World} (hb : Below W'.heap.size W' W3') (ht2 : Tch (fun k => v.ownBlock = some k) W3' W4') : W3 D w0 W4' a b c A B C xs ys zs := by
  refine h.far (O := fun k => v.ownBlock = some k) (((Tch.of _ hb1).then hb).trans ht2) (fun k e => (hrow.lt k e).1)
end
theorem w_put : putL 4 [1, 2, 3, 4] 5 = [1, 2] ∧ putO 4 [1, 2, 3, 4] 5 = [3, 4, 5] ∧ stL [1, 2, 3, 4] = [3, 4] ∧ stO [1, 2, 3, 4] = [1, 2] ∧ aheadL [1, 2, 3, 4] 3 = 2 ∧ layN 4 [1, 2, 3, 4] [9] = 0 ∧ layL 4 [1, 2, 3, 4] [9] = [1, 2, 3, 4] ∧ aheadL [1, 2, 3, 4] 9 = -1 := by decide
set_option maxRecDepth 20000 in
set_option maxHeartbeats 4000000 in
theorem works_any (D : DqApi) (w : World) : Calls Try.prog 8 #[] w (Ans (.bool true) w) := by
  have HR4 : Hid (room ((4 : Nat) : Int) = true) := by show _ = _; decide
  have HNew : Hid (∀ (W : World) (v : Value), SlIs (fun _ => False) W v [1, 2, 3, 4] → Calls Try.prog 10 #[.int .i64 4, v] W (MadePost D.Is 4 [1, 2, 3, 4] (fun p => .tuple #[p, .int .i64 0]) W)) := fun W v h => D.new_yes 4 v [1, 2, 3, 4] W HR4.out h (by simp)
  have HLit : Hid (∀ W : World, SlIs (fun _ => False) (W.alloc (.cells #[.int .i64 1, .int .i64 2, .int .i64 3, .int .i64 4] 3)) (.slice (some ⟨W.heap.size, 0, none⟩) 4 4) [1, 2, 3, 4]) := fun W => sl_lit [1, 2, 3, 4] W _ _ rfl id (by simp)
  go_enter Try.func8, Try.ntmps8
  go_wp2_with fail
  refine (HNew.out _ _ (HLit.out _)).mono ?_
  rintro e w1 ⟨a, A, rfl, hi1, hg1, hb1⟩
  have HB1 : Hid (Below w.heap.size w w1) := ((Below.refl w.heap.size w).alloc (Nat.le_refl _) _).trans (hb1.mono (by simp))
  have HA1 : Hid (D.Is A w1 a 4 [1, 2, 3, 4] ∧ ∀ k, A k → w.heap.size ≤ k) := ⟨hi1, fun k e => by have := hg1 k e; simp at this; omega⟩
  clear hi1 hg1 hb1
  go_wp2_with fail
  refine (HNew.out _ _ (HLit.out _)).mono ?_
  rintro e w2 ⟨b, B, rfl, hi2, hg2, hb2⟩
  have HB2 : Hid (Below w1.heap.size w1 w2) := ((Below.refl w1.heap.size w1).alloc (Nat.le_refl _) _).trans (hb2.mono (by simp))
  have HA2 : Hid (D.Is B w2 b 4 [1, 2, 3, 4] ∧ ∀ k, B k → w1.heap.size ≤ k) := ⟨hi2, fun k e => by have := hg2 k e; simp at this; omega⟩
  clear hi2 hg2 hb2
  go_wp2_with fail
  refine (HNew.out _ _ (HLit.out _)).mono ?_
  rintro e w3 ⟨c, C, rfl, hi3, hg3, hb3⟩
  have HB3 : Hid (Below w2.heap.size w2 w3) := ((Below.refl w2.heap.size w2).alloc (Nat.le_refl _) _).trans (hb3.mono (by simp))
  have H3 : Hid (W3 D w w3 a b c A B C [1, 2, 3, 4] [1, 2, 3, 4] [1, 2, 3, 4]) := by
    have z1 := HB1.out.size
    have z2 := HB2.out.size
    have z3 := HB3.out.size
    have g3 : ∀ k, C k → w2.heap.size ≤ k := fun k e => by have := hg3 k e; simp at this; omega
    refine ⟨D.on (D.on HA1.out.1 HB2.out) HB3.out, D.on HA2.out.1 HB3.out, hi3, fun k e e2 => ?_, fun k e e2 => ?_, fun k e e2 => ?_, (HB1.out.trans (HB2.out.mono z1)).trans (HB3.out.mono (by omega)), fun k e => ?_⟩
    · have := D.lt HA1.out.1 k e; have := HA2.out.2 k e2; omega
    · have := D.lt HA1.out.1 k e; have := g3 k e2; omega
    · have := D.lt HA2.out.1 k e; have := g3 k e2; omega
    · rcases e with e | e | e
      · exact HA1.out.2 k e
      · have := HA2.out.2 k e; omega
      · have := g3 k e; omega
  clear hi3 hg3 hb3 HB1 HB2 HB3 HA1 HA2
  go_wp2_with fail
  have HL1 : Hid (∀ W : World, SlIs (fun _ => False) (W.alloc (.cells #[.int .i64 3, .int .i64 4, .int .i64 5] 3)) (.slice (some ⟨W.heap.size, 0, none⟩) 3 3) [3, 4, 5]) := fun W => sl_lit [3, 4, 5] W _ _ rfl id (by simp)
  have HL2 : Hid (∀ W : World, SlIs (fun _ => False) (W.alloc (.cells #[.int .i64 1, .int .i64 2] 3)) (.slice (some ⟨W.heap.size, 0, none⟩) 2 2) [1, 2]) := fun W => sl_lit [1, 2] W _ _ rfl id (by simp)
  have HL3 : Hid (∀ W : World, SlIs (fun _ => False) (W.alloc (.cells #[.int .i64 3, .int .i64 4] 3)) (.slice (some ⟨W.heap.size, 0, none⟩) 2 2) [3, 4]) := fun W => sl_lit [3, 4] W _ _ rfl id (by simp)
  have HPut := D.put_any 5 H3.out.ia
  rw [w_put.1, w_put.2.1] at HPut
  refine HPut.mono ?_
  clear HPut
  rintro e w4 ⟨p4, n4, c4, A', rfl, hn4, hI4, hrow4, hv4, hs4, ht4⟩
  have HR4r := Lib.hid hrow4
  have HO4 : Hid (∀ W5 W6, Below w4.heap.size w4 W5 → Tch (fun k => (Value.slice p4 n4 c4).ownBlock = some k) W5 W6 → W3 D w W6 a b c A' B C [1, 2] [1, 2, 3, 4] [1, 2, 3, 4]) := fun W5 W6 hb ht => H3.out.out hI4 hrow4 hv4 hs4 ht4 hb ht
  clear hn4 hI4 hrow4 hv4 hs4 ht4
  go_wp2_with fail
  refine (row_same [3, 4, 5] _ _ _ (HR4r.out.on ((Below.refl w4.heap.size w4).alloc (Nat.le_refl _) _)) (by simp) (HL1.out w4)).mono ?_
  rintro e w5 ⟨rfl, ht5⟩
  have H5 := Lib.hid (HO4.out _ _ ((Below.refl w4.heap.size w4).alloc (Nat.le_refl _) _) ht5)
  clear ht5 HR4r HO4
  go_wp2_with fail
  refine (D.all_any H5.out.ia).mono ?_
  rintro e w6 ⟨p6, n6, c6, rfl, hn6, hrow6, hb6⟩
  have HR6 := Lib.hid hrow6
  have HO6 : Hid (∀ W5 W6, Below w6.heap.size w6 W5 → Tch (fun k => (Value.slice p6 n6 c6).ownBlock = some k) W5 W6 → W3 D w W6 a b c A' B C [1, 2] [1, 2, 3, 4] [1, 2, 3, 4]) := fun W5 W6 hb ht => H5.out.all hrow6 hb6 hb ht
  clear hn6 hrow6 hb6
  go_wp2_with fail
  refine (row_same [1, 2] _ _ _ (HR6.out.on ((Below.refl w6.heap.size w6).alloc (Nat.le_refl _) _)) (by simp) (HL2.out w6)).mono ?_
  rintro e w7 ⟨rfl, ht7⟩
  have H7 := Lib.hid (HO6.out _ _ ((Below.refl w6.heap.size w6).alloc (Nat.le_refl _) _) ht7).turn
  clear ht7 HR6 HO6
  go_wp2_with fail
  have HSt := D.steal_any H7.out.ia
  rw [w_put.2.2.1, w_put.2.2.2.1] at HSt
  refine HSt.mono ?_
  clear HSt
  rintro e w8 ⟨p8, n8, c8, B', rfl, hn8, hI8, hrow8, hv8, hs8, ht8⟩
  have HR8 := Lib.hid hrow8
  have HO8 : Hid (∀ W5 W6, Below w8.heap.size w8 W5 → Tch (fun k => (Value.slice p8 n8 c8).ownBlock = some k) W5 W6 → W3 D w W6 b c a B' C A' [3, 4] [1, 2, 3, 4] [1, 2]) := fun W5 W6 hb ht => H7.out.out hI8 hrow8 hv8 hs8 ht8 hb ht
  clear hn8 hI8 hrow8 hv8 hs8 ht8
  go_wp2_with fail
  refine (row_same [1, 2] _ _ _ (HR8.out.on ((Below.refl w8.heap.size w8).alloc (Nat.le_refl _) _)) (by simp) (HL2.out w8)).mono ?_
  rintro e w9 ⟨rfl, ht9⟩
  have H9 := Lib.hid (HO8.out _ _ ((Below.refl w8.heap.size w8).alloc (Nat.le_refl _) _) ht9)
  clear ht9 HR8 HO8
  go_wp2_with fail
  refine (D.all_any H9.out.ia).mono ?_
  rintro e w10 ⟨p10, n10, c10, rfl, hn10, hrow10, hb10⟩
  have HR10 := Lib.hid hrow10
  have HO10 : Hid (∀ W5 W6, Below w10.heap.size w10 W5 → Tch (fun k => (Value.slice p10 n10 c10).ownBlock = some k) W5 W6 → W3 D w W6 b c a B' C A' [3, 4] [1, 2, 3, 4] [1, 2]) := fun W5 W6 hb ht => H9.out.all hrow10 hb10 hb ht
  clear hn10 hrow10 hb10
  go_wp2_with fail
  refine (row_same [3, 4] _ _ _ (HR10.out.on ((Below.refl w10.heap.size w10).alloc (Nat.le_refl _) _)) (by simp) (HL3.out w10)).mono ?_
  rintro e w11 ⟨rfl, ht11⟩
  have H11 := Lib.hid (HO10.out _ _ ((Below.refl w10.heap.size w10).alloc (Nat.le_refl _) _) ht11)
  clear ht11 HR10 HO10
  go_wp2_with fail
  refine (D.get_any H11.out.ia).mono ?_
  rintro e w12 ⟨B2, rfl, hI12, hs12, ht12⟩
  have H12 : Hid (W3 D w w12 b c a B2 C A' [4] [1, 2, 3, 4] [1, 2]) := H11.out.stepA hI12 hs12 ht12 (fun k e => .inl e)
  clear hI12 hs12 ht12
  go_wp2_with fail
  refine (D.get_any H12.out.ia).mono ?_
  rintro e w13 ⟨B3, rfl, hI13, hs13, ht13⟩
  have H13 : Hid (W3 D w w13 c a b C A' B3 [1, 2, 3, 4] [1, 2] []) := (H12.out.stepA hI13 hs13 ht13 (fun k e => .inl e)).turn
  clear hI13 hs13 ht13
  go_wp2_with fail
  have HAh := D.ahead_any 3 H13.out.ia
  rw [w_put.2.2.2.2.1] at HAh
  refine HAh.mono ?_
  clear HAh
  rintro e w14 ⟨rfl, hb14⟩
  have H14 := Lib.hid (H13.out.on hb14)
  clear hb14
  go_wp2_with fail
  have HLt : SlIs C (w14.alloc (.cells #[.int .i64 9] 3)) (.slice (some ⟨w14.heap.size, 0, none⟩) 1 1) [9] := sl_lit [9] w14 _ _ rfl (fun e => by have := H14.out.lt w14.heap.size (.inl e); omega) (by simp)
  have H14b := H14.out.on ((Below.refl w14.heap.size w14).alloc (Nat.le_refl _) (.cells #[.int .i64 9] 3))
  have HLay := D.lay_any _ _ H14b.ia HLt (by simp)
  rw [w_put.2.2.2.2.2.1, w_put.2.2.2.2.2.2.1] at HLay
  refine HLay.mono ?_
  clear HLay HLt
  rintro e w15 ⟨C', rfl, hI15, hs15, ht15⟩
  have H15 := Lib.hid (H14b.stepA hI15 hs15 ht15 (fun k e => .inl e))
  clear hI15 hs15 ht15 H14b
  go_wp2_with fail
  have HAh := D.ahead_any 9 H15.out.ia
  rw [w_put.2.2.2.2.2.2.2] at HAh
  refine HAh.mono ?_
  clear HAh
  rintro e w16 ⟨rfl, hb16⟩
  have H16 := Lib.hid (H15.out.on hb16).be
  clear hb16
  go_wp2
  go_ret
  exact ⟨rfl, H16.out⟩
end Go.Proofs.Ytjdbmedealhbjaa
