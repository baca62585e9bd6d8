/- The law's does: a call on a memory and on the reference's row (layer 6). -/
import Derived.Test.YtnakaifnalojeaaLa
import Derived.Test.YtnakaifnalojeaaLb
import Derived.Test.YtnakaifnalojeaaNk
import Derived.Test.YtnakaifnalojeaaMc
import Derived.Deep.Cut
namespace Go.Proofs.Ytnakaifnalojeaa
open Go.RowKit Go.Ce

/-- behind Do: the act, the new book, the access -/
structure DSt (W : World) (bA bS bE : Nat) (k a o x N : Int) (p : Option Addr) (l c : Nat) (e : Acc) : Prop where
  ra : Row bA 36 [.int .i64 k, .int .i64 a, .int .u64 o, .int .u64 x] W
  rs : Row bS 29 [.int .i64 N, .slice p l c] W
  re : Row bE 43 (accC e) W
section
variable {W : World} {bA bS bE : Nat} {k a o x N : Int} {p : Option Addr} {l c : Nat} {e : Acc}
theorem DSt.tch {S : Nat → Prop} {W' : World} (h : DSt W bA bS bE k a o x N p l c e) (ht : Tch S W W') (hA : ¬ S bA) (hS : ¬ S bS) (hE : ¬ S bE) : DSt W' bA bS bE k a o x N p l c e := ⟨h.ra.tch ht hA, h.rs.tch ht hS, h.re.tch ht hE⟩
theorem DSt.on {W' : World} (h : DSt W bA bS bE k a o x N p l c e) (hb : Below W.heap.size W W') : DSt W' bA bS bE k a o x N p l c e := ⟨h.ra.on' hb, h.rs.on' hb, h.re.on' hb⟩
theorem DSt.far {rb : Nat} (h : DSt W bA bS bE k a o x N p l c e) (hA : bA ≠ rb) (hS : bS ≠ rb) (hE : bE ≠ rb) (u v : Value) : DSt ((W.setCell ⟨rb, 0, none⟩ u).setCell ⟨rb, 1, none⟩ v) bA bS bE k a o x N p l c e :=
  ⟨(h.ra.far hA u).far hA v, (h.rs.far hS u).far hS v, (h.re.far hE u).far hE v⟩
theorem DSt.cells (h : DSt W bA bS bE k a o x N p l c e) : W.cell? ⟨bS, 0, none⟩ = some (.int .i64 N) ∧ W.cell? ⟨bS, 1, none⟩ = some (.slice p l c) ∧ W.cell? ⟨bA, 1, none⟩ = some (.int .i64 a) ∧ W.cell? ⟨bA, 2, none⟩ = some (.int .u64 o) ∧ W.cell? ⟨bA, 3, none⟩ = some (.int .u64 x) ∧
    W.cell? ⟨bE, 0, none⟩ = some (.int .i64 e.k) ∧ W.cell? ⟨bE, 1, none⟩ = some (.int .i64 e.a) ∧ W.cell? ⟨bE, 2, none⟩ = some (.int .u64 e.o) ∧ W.cell? ⟨bE, 3, none⟩ = some (.int .u64 e.n) :=
  ⟨h.rs.cell 0, h.rs.cell 1, h.ra.cell 1, h.ra.cell 2, h.ra.cell 3, h.re.cell 0, h.re.cell 1, h.re.cell 2, h.re.cell 3⟩
end
/-- what does answers -/
def DoesPost (b g : Nat) (m : PM) (N : Nat) (xs : List Acc) (w : World) (e : Ending) (w' : World) : Prop :=
  ∃ p l c, e = .returned (.tuple #[.agg #[.int .i64 N, .slice p l c], .bool true]) ∧ Pair w' b g m N p l c xs ∧ Tch (Own b g) w w'
/-- at the end: the result is stored -/
theorem does_fin {w w3 : World} {b g rb N : Nat} {m : PM} {xs : List Acc} {p : Option Addr} {l c : Nat} {u0 u1 : Value} (hm : MemIs w3 b g m) (ht : Tied m N xs) (hk : BookIs w3 p l c xs) (htc : Tch (Own b g) w w3) (hrb : w.heap.size ≤ rb) (hr : Row rb 29 [u0, u1] w3) (hb : rb ≠ b ∧ rb ≠ g) :
    DoesPost b g m N xs w (.returned (.tuple #[.agg #[.int .i64 N, .slice p l c], .bool true])) ((w3.setCell ⟨rb, 0, none⟩ (.int .i64 N)).setCell ⟨rb, 1, none⟩ (.slice p l c)) := by
  have t1 : Tch (fun j => j = rb) w3 ((w3.setCell ⟨rb, 0, none⟩ (.int .i64 N)).setCell ⟨rb, 1, none⟩ (.slice p l c)) := ((Tch.refl (fun j => j = rb) w3).setCell (p := ⟨rb, 0, none⟩) (.inl rfl) _).setCell (p := ⟨rb, 1, none⟩) (.inl rfl) _
  refine ⟨p, l, c, rfl, ⟨hm.tch t1 (fun e => hb.1 e.symm) (fun e => hb.2 e.symm), ht, ?_⟩, ?_⟩
  · exact (hk.put hr (by simp) _).put (hr.set 0 (.int .i64 N)) (by simp) _
  · exact ((htc.setCell (p := ⟨rb, 0, none⟩) (.inr hrb) _).setCell (p := ⟨rb, 1, none⟩) (.inr hrb) _)
theorem DoesPost.drew {b g N : Nat} {m : PM} {xs : List Acc} {w w' : World} {e : Ending} (h : DoesPost b g m N xs w e w') : DoesPost b g m N xs w e w'.drew := by
  obtain ⟨p, l, c, he, hp, ht⟩ := h
  exact ⟨p, l, c, he, hp.on (Below.refl _ _).drew, ht.then (Below.refl _ _).drew⟩

/-- behind the reference's Do and its variables -/
structure DW (w W : World) (b g : Nat) (m : PM) (N : Nat) (xs : List Acc) (k a o x : Int) (bS bE : Nat) (p : Option Addr) (l c : Nat) : Prop where
  dst : DSt W (w.heap.size + 1) bS bE k a o x N p l c (doE N xs k a o x)
  res : Row (w.heap.size + 1 + 1) 29 [.int .i64 0, .slice none 0 0] W
  mem : MemIs W b g m
  tie : Tied m N xs
  bk : BookIs W p l c (doL N xs k a o x)
  bel : Below w.heap.size w W
  lt : b < w.heap.size ∧ g < w.heap.size
  hS : w.heap.size + 1 + 1 < bS
  hE : w.heap.size + 1 + 1 < bE
section
variable {w W : World} {b g : Nat} {m : PM} {N : Nat} {xs : List Acc} {k a o x : Int} {bS bE : Nat} {p : Option Addr} {l c : Nat}
theorem DW.on {W' : World} (h : DW w W b g m N xs k a o x bS bE p l c) (hb : Below W.heap.size W W') : DW w W' b g m N xs k a o x bS bE p l c :=
  ⟨h.dst.on hb, h.res.on' hb, h.mem.on hb, h.tie, h.bk.on hb, h.bel.trans (hb.mono h.bel.size), h.lt, h.hS, h.hE⟩
/-- behind the call on the memory -/
theorem DW.call {W' : World} {m' : PM} (h : DW w W b g m N xs k a o x bS bE p l c) (hm : MemIs W' b g m') (ht : Tch (Own b g) W W') :
    DSt W' (w.heap.size + 1) bS bE k a o x N p l c (doE N xs k a o x) ∧ Row (w.heap.size + 1 + 1) 29 [.int .i64 0, .slice none 0 0] W' ∧ BookIs W' p l c (doL N xs k a o x) ∧ Tch (Own b g) w W' := by
  have n1 : ∀ j, w.heap.size ≤ j → ¬ Own b g j := fun j hj e => by have := h.lt; rcases e with e | e <;> omega
  have h3 := h.hS
  have h4 := h.hE
  refine ⟨h.dst.tch ht (n1 _ (by omega)) (n1 _ (by omega)) (n1 _ (by omega)), h.res.tch ht (n1 _ (by omega)), ?_, Tch.trim h.bel ht (fun _ _ h => h)⟩
  exact h.bk.tch ht (h.bk.far h.mem)
end
theorem does_boxes {w : World} (x y a b c d : Value) (W : World) (hW : ((w.alloc (.cells #[x, y] 29)).alloc (.cells #[a, b, c, d] 36)).alloc (.cells #[.int .i64 0, .slice none 0 0] 29) = W) :
    Row w.heap.size 29 [x, y] W ∧ Row (w.heap.size + 1) 36 [a, b, c, d] W ∧ Row (w.heap.size + 1 + 1) 29 [.int .i64 0, .slice none 0 0] W ∧ Below w.heap.size w W := by
  subst hW
  have b1 := (Below.refl w.heap.size w).alloc (Nat.le_refl _) (.cells #[x, y] 29)
  have b2 := (Below.refl _ (w.alloc (.cells #[x, y] 29))).alloc (Nat.le_refl _) (.cells #[a, b, c, d] 36)
  have b3 := (Below.refl _ ((w.alloc (.cells #[x, y] 29)).alloc (.cells #[a, b, c, d] 36))).alloc (Nat.le_refl _) (.cells #[.int .i64 0, .slice none 0 0] 29)
  refine ⟨((Row.new w _ [x, y]).on' b2).on' b3, (Row.new' _ _ [a, b, c, d] _ (by simp)).on' b3, Row.new' _ _ [.int .i64 0, .slice none 0 0] _ (by simp), (b1.trans (b2.mono b1.size)).trans (b3.mono (by simp; omega))⟩

set_option maxRecDepth 20000 in
set_option maxHeartbeats 2000000 in
theorem does_any {b g : Nat} {m : PM} {N : Nat} {p0 : Option Addr} {l0 c0 : Nat} {xs : List Acc} (k a o x : Int) (w : World) (h : Pair w b g m N p0 l0 c0 xs) (hx : l0 + 1 ≤ 1000000) (hops : m.k.ops + 1 ≤ 1000000000000) :
    Calls Try.prog 13 #[.pointer (some ⟨b, 0, none⟩), .agg #[.int .i64 N, .slice p0 l0 c0], .agg #[.int .i64 k, .int .i64 a, .int .u64 o, .int .u64 x]] w (DoesPost b g (m.go k a o x) N (doL N xs k a o x) w) := by
  have hlt := h.mem.lt
  obtain ⟨hr0, hr1, hr2, hb⟩ := does_boxes (w := w) (.int .i64 N) (.slice p0 l0 c0) (.int .i64 k) (.int .i64 a) (.int .u64 o) (.int .u64 x) _ rfl
  have hdo := do_any N k a o x p0 l0 c0 xs _ (h.bk.on hb) hx
  have HP := Lib.hid h
  have HB := Lib.hid hb
  have HR1 := Lib.hid hr1
  have HR2 := Lib.hid hr2
  have HOps := Lib.hid hops
  clear h hb hr0 hr1 hr2 hx hops
  go_enter Try.func13, Try.ntmps13
  go_wp2_with fail
  refine hdo.mono ?_
  rintro e w1 ⟨p, l, c, rfl, hk1, hb1⟩
  obtain ⟨E, hE⟩ : ∃ E, doE N xs k a o x = E := ⟨_, rfl⟩
  obtain ⟨bb, hbb⟩ : ∃ bb, (!decide (Bad (N : Int) k a)) = bb := ⟨_, rfl⟩
  rw [hE, hbb]
  simp only [accG]
  have HE := Lib.hid hE
  have HBB := Lib.hid hbb
  have HK1 := Lib.hid hk1
  have HB1 := Lib.hid (HB.out.trans (hb1.mono HB.out.size))
  have HR11 := Lib.hid (HR1.out.on' hb1)
  have HR21 := Lib.hid (HR2.out.on' hb1)
  have hw1 : w.heap.size + 1 + 1 < w1.heap.size := HR21.out.lt
  clear hk1 hb1 hE hbb hdo
  have HDW : Hid (DW w ((w1.alloc (.cells #[.int .i64 N, .slice p l c] 29)).alloc (.cells #[.int .i64 E.k, .int .i64 E.a, .int .u64 E.o, .int .u64 E.n] 43)) b g m N xs k a o x w1.heap.size (w1.heap.size + 1) p l c) := by
    have c1 := (Below.refl w1.heap.size w1).alloc (Nat.le_refl _) (.cells #[.int .i64 N, .slice p l c] 29)
    have c2 := (Below.refl _ (w1.alloc (.cells #[.int .i64 N, .slice p l c] 29))).alloc (Nat.le_refl _) (.cells #[.int .i64 E.k, .int .i64 E.a, .int .u64 E.o, .int .u64 E.n] 43)
    have c3 := c1.trans (c2.mono c1.size)
    refine ⟨⟨HR11.out.on' c3, (Row.new w1 _ [.int .i64 N, .slice p l c]).on' c2, ?_⟩, HR21.out.on' c3, (HP.out.mem.on HB1.out).on c3, HP.out.tie, HK1.out.on c3, HB1.out.trans (c3.mono HB1.out.size), hlt, hw1, by omega⟩
    rw [HE.out]
    exact Row.new' _ _ (accC E) _ (by simp)
  go_upto_region 2 with (fail)
  obtain ⟨W, hW⟩ : ∃ W, (w1.alloc (.cells #[.int .i64 N, .slice p l c] 29)).alloc (.cells #[.int .i64 E.k, .int .i64 E.a, .int .u64 E.o, .int .u64 E.n] 43) = W := ⟨_, rfl⟩
  rw [hW] at HDW ⊢
  clear hW HR11 HR21 HB1 HK1 HR1 HR2 HB hw1
  have a0 : W.cell? ⟨w.heap.size + 1, 0, none⟩ = some (.int .i64 k) := HDW.out.dst.ra.cell 0
  obtain ⟨sb, hsb⟩ : ∃ sb, w1.heap.size = sb := ⟨_, rfl⟩
  rw [hsb] at HDW ⊢
  have HT := Lib.hid (HP.out.tie.go k a o x)
  have HAns := Lib.hid (fun hk : 1 ≤ k ∧ k ≤ 4 => HP.out.tie.ans k a o x hk)
  rw [HE.out] at HAns
  clear hsb
  have hne : w.heap.size + 1 ≠ w.heap.size + 1 + 1 ∧ sb ≠ w.heap.size + 1 + 1 ∧ sb + 1 ≠ w.heap.size + 1 + 1 := by have := HDW.out.hS; have := HDW.out.hE; omega
  have HNe := Lib.hid hne
  have HOwn : Hid (w.heap.size + 1 + 1 ≠ b ∧ w.heap.size + 1 + 1 ≠ g) := ⟨by omega, by omega⟩
  have HD2 : Hid (DSt W.drew (w.heap.size + 1) sb (sb + 1) k a o x N p l c E) := by
    have := HDW.out.dst; rw [HE.out] at this; exact ⟨this.ra, this.rs, this.re⟩
  clear hne
  by_cases h1 : k = 1
  · subst h1
    have HCall : Hid (∀ w2, Below W.heap.size W w2 → Calls Try.prog 28 #[.pointer (some ⟨b, 0, none⟩), .int .i64 a] w2 (fun e w' => e = .returned (.int .u64 E.o) ∧ MemIs w' b g (m.go 1 a o x) ∧ DSt w' (w.heap.size + 1) sb (sb + 1) 1 a o x N p l c E ∧ Row (w.heap.size + 1 + 1) 29 [.int .i64 0, .slice none 0 0] w' ∧ BookIs w' p l c (doL N xs 1 a o x) ∧ Tch (Own b g) w w')) := fun w2 hb => by
      have hd := HDW.out.on hb
      have he : m.go 1 a o x = m.load a := by unfold PM.go; rw [if_pos rfl]
      refine (load_any a w2 hd.mem HOps.out).mono ?_
      rintro e w3 ⟨rfl, hm, ht⟩
      obtain ⟨c1, c2, c3, c4⟩ := hd.call hm ht
      rw [HE.out] at c1
      exact ⟨by rw [HAns.out ⟨by decide, by decide⟩], by rw [he]; exact hm, c1, c2, c3, c4⟩
    go_wp2_with fail
    go_region_held3 (fun w' => w'.cell? ⟨sb, 0, none⟩ = some (.int .i64 N) ∧ w'.cell? ⟨sb, 1, none⟩ = some (.slice p l c) ∧ w'.cell? ⟨w.heap.size + 1, 1, none⟩ = some (.int .i64 a) ∧ w'.cell? ⟨w.heap.size + 1, 2, none⟩ = some (.int .u64 o) ∧ w'.cell? ⟨w.heap.size + 1, 3, none⟩ = some (.int .u64 x) ∧ w'.cell? ⟨sb + 1, 0, none⟩ = some (.int .i64 E.k) ∧ w'.cell? ⟨sb + 1, 1, none⟩ = some (.int .i64 E.a) ∧ w'.cell? ⟨sb + 1, 2, none⟩ = some (.int .u64 E.o) ∧ w'.cell? ⟨sb + 1, 3, none⟩ = some (.int .u64 E.n))
      (first | exact HD2.out.cells | exact HDa.out.cells | exact (HDa.out.far HNe.out.1 HNe.out.2.1 HNe.out.2.2 _ _).cells)
      (first
      | (go_at_call 28; refine (HCall.out _ (Below.refl _ _).drew).mono ?_; rintro e w3 ⟨rfl, hm3, hs3, hr3, hk3, ht3⟩; have HDa := Lib.hid hs3; have HFin := Lib.hid (does_fin (rb := w.heap.size + 1 + 1) hm3 HT.out hk3 ht3 (by omega) hr3 HOwn.out); have d0 := hr3.cell 0; have d1 := hr3.cell 1; have f0 := hr3.frozen 0; have f1 := hr3.frozen 1; simp only [List.getElem?_cons_zero, List.getElem?_cons_succ] at d0 d1; clear hm3 hs3 hr3 hk3 ht3))
    go_wp2
    exact bodyPost_ret (v := .tuple #[.agg #[.int .i64 N, .slice p l c], .bool true]) (by simp [results, Try.results13, go_sem, *]) rfl HFin.out
  by_cases h4 : k = 4
  · subst h4
    have HCall : Hid (∀ w2, Below W.heap.size W w2 → Calls Try.prog 25 #[.pointer (some ⟨b, 0, none⟩), .int .i64 a, .int .u64 x] w2 (fun e w' => e = .returned (.int .u64 E.o) ∧ MemIs w' b g (m.go 4 a o x) ∧ DSt w' (w.heap.size + 1) sb (sb + 1) 4 a o x N p l c E ∧ Row (w.heap.size + 1 + 1) 29 [.int .i64 0, .slice none 0 0] w' ∧ BookIs w' p l c (doL N xs 4 a o x) ∧ Tch (Own b g) w w')) := fun w2 hb => by
      have hd := HDW.out.on hb
      have he : m.go 4 a o x = m.add a x := by unfold PM.go; rw [if_neg (by decide), if_neg (by decide), if_neg (by decide), if_pos rfl]
      refine (add_any a x w2 hd.mem HOps.out).mono ?_
      rintro e w3 ⟨rfl, hm, ht⟩
      obtain ⟨c1, c2, c3, c4⟩ := hd.call hm ht
      rw [HE.out] at c1
      exact ⟨by rw [HAns.out ⟨by decide, by decide⟩], by rw [he]; exact hm, c1, c2, c3, c4⟩
    go_wp2_with fail
    go_region_held3 (fun w' => w'.cell? ⟨sb, 0, none⟩ = some (.int .i64 N) ∧ w'.cell? ⟨sb, 1, none⟩ = some (.slice p l c) ∧ w'.cell? ⟨w.heap.size + 1, 1, none⟩ = some (.int .i64 a) ∧ w'.cell? ⟨w.heap.size + 1, 2, none⟩ = some (.int .u64 o) ∧ w'.cell? ⟨w.heap.size + 1, 3, none⟩ = some (.int .u64 x) ∧ w'.cell? ⟨sb + 1, 0, none⟩ = some (.int .i64 E.k) ∧ w'.cell? ⟨sb + 1, 1, none⟩ = some (.int .i64 E.a) ∧ w'.cell? ⟨sb + 1, 2, none⟩ = some (.int .u64 E.o) ∧ w'.cell? ⟨sb + 1, 3, none⟩ = some (.int .u64 E.n))
      (first | exact HD2.out.cells | exact HDa.out.cells | exact (HDa.out.far HNe.out.1 HNe.out.2.1 HNe.out.2.2 _ _).cells)
      (first
      | (go_at_call 25; refine (HCall.out _ (Below.refl _ _).drew).mono ?_; rintro e w3 ⟨rfl, hm3, hs3, hr3, hk3, ht3⟩; have HDa := Lib.hid hs3; have HFin := Lib.hid (does_fin (rb := w.heap.size + 1 + 1) hm3 HT.out hk3 ht3 (by omega) hr3 HOwn.out); have d0 := hr3.cell 0; have d1 := hr3.cell 1; have f0 := hr3.frozen 0; have f1 := hr3.frozen 1; simp only [List.getElem?_cons_zero, List.getElem?_cons_succ] at d0 d1; clear hm3 hs3 hr3 hk3 ht3))
    go_wp2
    exact bodyPost_ret (v := .tuple #[.agg #[.int .i64 N, .slice p l c], .bool true]) (by simp [results, Try.results13, go_sem, *]) rfl HFin.out
  by_cases h2 : k = 2
  · subst h2
    have HCall : Hid (∀ w2, Below W.heap.size W w2 → Calls Try.prog 26 #[.pointer (some ⟨b, 0, none⟩), .int .i64 a, .int .u64 x] w2 (fun e w' => e = .returned (.tuple #[]) ∧ MemIs w' b g (m.go 2 a o x) ∧ DSt w' (w.heap.size + 1) sb (sb + 1) 2 a o x N p l c E ∧ Row (w.heap.size + 1 + 1) 29 [.int .i64 0, .slice none 0 0] w' ∧ BookIs w' p l c (doL N xs 2 a o x) ∧ Tch (Own b g) w w')) := fun w2 hb => by
      have hd := HDW.out.on hb
      have he : m.go 2 a o x = m.store a x := by unfold PM.go; rw [if_neg (by decide), if_pos rfl]
      refine (store_any a x w2 hd.mem HOps.out).mono ?_
      rintro e w3 ⟨rfl, hm, ht⟩
      obtain ⟨c1, c2, c3, c4⟩ := hd.call hm ht
      rw [HE.out] at c1
      exact ⟨rfl, by rw [he]; exact hm, c1, c2, c3, c4⟩
    have a1 : W.cell? ⟨w.heap.size + 1, 1, none⟩ = some (.int .i64 a) := HDW.out.dst.ra.cell 1
    have a3 : W.cell? ⟨w.heap.size + 1, 3, none⟩ = some (.int .u64 x) := HDW.out.dst.ra.cell 3
    go_wp2_with fail
    refine (HCall.out W (.refl _ _)).mono ?_
    rintro e w3 ⟨rfl, hm3, hs3, hr3, hk3, ht3⟩
    obtain ⟨q0, q1, -⟩ := hs3.cells
    have HFin := Lib.hid (does_fin (rb := w.heap.size + 1 + 1) hm3 HT.out hk3 ht3 (by omega) hr3 HOwn.out)
    have d0 := hr3.cell 0
    have d1 := hr3.cell 1
    have f0 := hr3.frozen 0
    have f1 := hr3.frozen 1
    simp only [List.getElem?_cons_zero, List.getElem?_cons_succ] at d0 d1
    clear hm3 hs3 hr3 hk3 ht3
    have hsb2 : sb ≠ w.heap.size + 1 + 1 := HNe.out.2.1
    go_wp2
    exact bodyPost_ret (v := .tuple #[.agg #[.int .i64 N, .slice p l c], .bool true]) (by simp [results, Try.results13, go_sem, *]) rfl HFin.out
  by_cases h3 : k = 3
  · subst h3
    have hhit := HP.out.tie.hit a o x
    rw [HE.out] at hhit
    have hca : m.go 3 a o x = m.cas a o x := by unfold PM.go; rw [if_neg (by decide), if_neg (by decide), if_pos rfl]
    have hcall0 : ∀ t, decide (m.hit a o) = t → ∀ w2, Below W.heap.size W w2 → Calls Try.prog 27 #[.pointer (some ⟨b, 0, none⟩), .int .i64 a, .int .u64 o, .int .u64 x] w2 (fun e w' => e = .returned (.bool t) ∧ MemIs w' b g (m.go 3 a o x) ∧ DSt w' (w.heap.size + 1) sb (sb + 1) 3 a o x N p l c E ∧ Row (w.heap.size + 1 + 1) 29 [.int .i64 0, .slice none 0 0] w' ∧ BookIs w' p l c (doL N xs 3 a o x) ∧ Tch (Own b g) w w') := fun t hht w2 hb => by
      have hd := HDW.out.on hb
      refine (cas_any a o x w2 hd.mem HOps.out).mono ?_
      rintro e w3 ⟨rfl, hm, ht⟩
      obtain ⟨c1, c2, c3, c4⟩ := hd.call hm ht
      rw [HE.out] at c1
      exact ⟨by rw [hht], by rw [hca]; exact hm, c1, c2, c3, c4⟩
    by_cases hbad : Bad (N : Int) 3 a
    · have hb0 : bb = false := by rw [← HBB.out, decide_eq_true hbad]; rfl
      subst hb0
      have HCall := Lib.hid (hcall0 false (decide_eq_false (fun hh => (hhit.1 hh).1 hbad)))
      clear hcall0 hhit hca hbad
      go_wp2_with fail
      refine wp_region_held_drew (S := (fun w' => w'.cell? ⟨sb, 0, none⟩ = some (.int .i64 N) ∧ w'.cell? ⟨sb, 1, none⟩ = some (.slice p l c) ∧ w'.cell? ⟨w.heap.size + 1, 1, none⟩ = some (.int .i64 a) ∧ w'.cell? ⟨w.heap.size + 1, 2, none⟩ = some (.int .u64 o) ∧ w'.cell? ⟨w.heap.size + 1, 3, none⟩ = some (.int .u64 x) ∧ w'.cell? ⟨sb + 1, 0, none⟩ = some (.int .i64 E.k) ∧ w'.cell? ⟨sb + 1, 1, none⟩ = some (.int .i64 E.a) ∧ w'.cell? ⟨sb + 1, 2, none⟩ = some (.int .u64 E.o) ∧ w'.cell? ⟨sb + 1, 3, none⟩ = some (.int .u64 E.n))) (by kernel_rfl) HD2.out.cells (fun hHeld => ?_)
      refine wpAnyH_take (i := 0) (v := .agg #[.int .i64 N, .slice p l c]) rfl (by kernel_rfl) (by kernel_rfl) (by kernel_rfl) (fun _ _ _ h => h) (Or.inl ⟨by rfl, fun w hSw => by obtain ⟨y1, y2, y3, y4, y5, y6, y7, y8, y9⟩ := hSw; go_simp⟩) hHeld ?_
      (try simp only [Act.put, List.setIfInBounds_toArray, List.set_cons_zero, List.set_cons_succ])
      refine wpAnyH_take (i := 1) (v := .pointer (some ⟨b, 0, none⟩)) rfl (by kernel_rfl) (by kernel_rfl) (by kernel_rfl) (fun _ _ _ h => h) (Or.inl ⟨by rfl, fun w hSw => by obtain ⟨y1, y2, y3, y4, y5, y6, y7, y8, y9⟩ := hSw; go_simp⟩) hHeld ?_
      (try simp only [Act.put, List.setIfInBounds_toArray, List.set_cons_zero, List.set_cons_succ])
      refine wpAnyH_take (i := 2) (v := .pointer (some ⟨w.heap.size + 1, 1, none⟩)) rfl (by kernel_rfl) (by kernel_rfl) (by kernel_rfl) (fun _ _ _ h => h) (Or.inl ⟨by rfl, fun w hSw => by obtain ⟨y1, y2, y3, y4, y5, y6, y7, y8, y9⟩ := hSw; go_simp⟩) hHeld ?_
      (try simp only [Act.put, List.setIfInBounds_toArray, List.set_cons_zero, List.set_cons_succ])
      refine wpAnyH_take (i := 3) (v := .int .i64 a) rfl (by kernel_rfl) (by kernel_rfl) (by kernel_rfl) (fun _ _ _ h => h) (Or.inl ⟨by rfl, fun w hSw => by obtain ⟨y1, y2, y3, y4, y5, y6, y7, y8, y9⟩ := hSw; go_simp⟩) hHeld ?_
      (try simp only [Act.put, List.setIfInBounds_toArray, List.set_cons_zero, List.set_cons_succ])
      refine wpAnyH_take (i := 4) (v := .pointer (some ⟨w.heap.size + 1, 2, none⟩)) rfl (by kernel_rfl) (by kernel_rfl) (by kernel_rfl) (fun _ _ _ h => h) (Or.inl ⟨by rfl, fun w hSw => by obtain ⟨y1, y2, y3, y4, y5, y6, y7, y8, y9⟩ := hSw; go_simp⟩) hHeld ?_
      (try simp only [Act.put, List.setIfInBounds_toArray, List.set_cons_zero, List.set_cons_succ])
      refine wpAnyH_take (i := 5) (v := .int .u64 o) rfl (by kernel_rfl) (by kernel_rfl) (by kernel_rfl) (fun _ _ _ h => h) (Or.inl ⟨by rfl, fun w hSw => by obtain ⟨y1, y2, y3, y4, y5, y6, y7, y8, y9⟩ := hSw; go_simp⟩) hHeld ?_
      (try simp only [Act.put, List.setIfInBounds_toArray, List.set_cons_zero, List.set_cons_succ])
      refine wpAnyH_take (i := 6) (v := .pointer (some ⟨w.heap.size + 1, 3, none⟩)) rfl (by kernel_rfl) (by kernel_rfl) (by kernel_rfl) (fun _ _ _ h => h) (Or.inl ⟨by rfl, fun w hSw => by obtain ⟨y1, y2, y3, y4, y5, y6, y7, y8, y9⟩ := hSw; go_simp⟩) hHeld ?_
      (try simp only [Act.put, List.setIfInBounds_toArray, List.set_cons_zero, List.set_cons_succ])
      refine wpAnyH_take (i := 7) (v := .int .u64 x) rfl (by kernel_rfl) (by kernel_rfl) (by kernel_rfl) (fun _ _ _ h => h) (Or.inl ⟨by rfl, fun w hSw => by obtain ⟨y1, y2, y3, y4, y5, y6, y7, y8, y9⟩ := hSw; go_simp⟩) hHeld ?_
      (try simp only [Act.put, List.setIfInBounds_toArray, List.set_cons_zero, List.set_cons_succ])
      refine wpAnyH_take (i := 9) (v := .bool false) rfl (by kernel_rfl) (by kernel_rfl) (by kernel_rfl) (fun _ _ _ h => h) (Or.inl ⟨by rfl, fun w hSw => by obtain ⟨y1, y2, y3, y4, y5, y6, y7, y8, y9⟩ := hSw; go_simp⟩) hHeld ?_
      (try simp only [Act.put, List.setIfInBounds_toArray, List.set_cons_zero, List.set_cons_succ])
      refine wpAnyH_ready (rs := [8]) (by kernel_rfl) (by simp) ?_
      refine AllReadyH.cons rfl (fun K hK => ?_) AllReadyH.nil
      go_simp
      refine (HCall.out _ (Below.refl _ _).drew).mono ?_
      rintro e w3 ⟨rfl, hm3, hs3, hr3, hk3, ht3⟩
      have HDa := Lib.hid hs3
      have HFin := Lib.hid (does_fin (rb := w.heap.size + 1 + 1) hm3 HT.out hk3 ht3 (by omega) hr3 HOwn.out)
      have d0 := hr3.cell 0
      have d1 := hr3.cell 1
      have f0 := hr3.frozen 0
      have f1 := hr3.frozen 1
      simp only [List.getElem?_cons_zero, List.getElem?_cons_succ] at d0 d1
      clear hm3 hs3 hr3 hk3 ht3 hHeld
      go_simp
      refine hK.out _ _ HDa.out.cells (fun hHeld => ?_)
      clear hK K
      (try simp only [Act.put, List.setIfInBounds_toArray, List.set_cons_zero, List.set_cons_succ])
      refine wpAnyH_take (i := 10) (v := .bool false) rfl (by kernel_rfl) (by kernel_rfl) (by kernel_rfl) (fun _ _ _ h => h) (Or.inl ⟨by rfl, fun w hSw => by obtain ⟨y1, y2, y3, y4, y5, y6, y7, y8, y9⟩ := hSw; go_simp⟩) hHeld ?_
      (try simp only [Act.put, List.setIfInBounds_toArray, List.set_cons_zero, List.set_cons_succ])
      refine wpAnyH_take (i := 11) (v := undef) rfl (by kernel_rfl) (by kernel_rfl) (by kernel_rfl) (fun _ _ _ h => h) (Or.inr ⟨by rfl, rfl⟩) hHeld ?_
      (try simp only [Act.put, List.setIfInBounds_toArray, List.set_cons_zero, List.set_cons_succ])
      refine wpAnyH_take (i := 12) (v := undef) rfl (by kernel_rfl) (by kernel_rfl) (by kernel_rfl) (fun _ _ _ h => h) (Or.inr ⟨by rfl, rfl⟩) hHeld ?_
      (try simp only [Act.put, List.setIfInBounds_toArray, List.set_cons_zero, List.set_cons_succ])
      refine wpAnyH_take (i := 13) (v := undef) rfl (by kernel_rfl) (by kernel_rfl) (by kernel_rfl) (fun _ _ _ h => h) (Or.inr ⟨by rfl, rfl⟩) hHeld ?_
      (try simp only [Act.put, List.setIfInBounds_toArray, List.set_cons_zero, List.set_cons_succ])
      refine wpAnyH_take (i := 14) (v := undef) rfl (by kernel_rfl) (by kernel_rfl) (by kernel_rfl) (fun _ _ _ h => h) (Or.inr ⟨by rfl, rfl⟩) hHeld ?_
      (try simp only [Act.put, List.setIfInBounds_toArray, List.set_cons_zero, List.set_cons_succ])
      refine wpAnyH_take (i := 15) (v := .bool false) rfl (by kernel_rfl) (by kernel_rfl) (by kernel_rfl) (fun _ _ _ h => h) (Or.inl ⟨by rfl, fun w hSw => by obtain ⟨y1, y2, y3, y4, y5, y6, y7, y8, y9⟩ := hSw; go_simp⟩) hHeld ?_
      (try simp only [Act.put, List.setIfInBounds_toArray, List.set_cons_zero, List.set_cons_succ])
      refine wpAnyH_take (i := 16) (v := .bool true) rfl (by kernel_rfl) (by kernel_rfl) (by kernel_rfl) (fun _ _ _ h => h) (Or.inl ⟨by rfl, fun w hSw => by obtain ⟨y1, y2, y3, y4, y5, y6, y7, y8, y9⟩ := hSw; go_simp⟩) hHeld ?_
      (try simp only [Act.put, List.setIfInBounds_toArray, List.set_cons_zero, List.set_cons_succ])
      refine wpAnyH_ready (rs := [17]) (by kernel_rfl) (by simp) ?_
      refine AllReadyH.cons rfl (fun K hK => ?_) AllReadyH.nil
      go_simp
      refine hK.out _ _ (HDa.out.far HNe.out.1 HNe.out.2.1 HNe.out.2.2 _ _).cells (fun hHeld2 => ?_)
      clear hK K hHeld
      (try simp only [Act.put, List.setIfInBounds_toArray, List.set_cons_zero, List.set_cons_succ])
      refine wpAnyH_ready (rs := [18]) (by kernel_rfl) (by simp) ?_
      refine AllReadyH.cons rfl (fun K hK => ?_) AllReadyH.nil
      go_simp
      refine hK.out _ _ hHeld2 (fun hHeld3 => ?_)
      clear hK K hHeld2
      refine wpAnyH_done (by kernel_rfl) ?_ _
      go_wp2
      exact bodyPost_ret (v := .tuple #[.agg #[.int .i64 N, .slice p l c], .bool true]) (by simp [results, Try.results13, go_sem, *]) rfl HFin.out
    · have hb0 : bb = true := by rw [← HBB.out, decide_eq_false hbad]; rfl
      subst hb0
      obtain ⟨t, ht0⟩ : ∃ t, decide (E.k = 3 ∧ E.o = o) = t := ⟨_, rfl⟩
      have hht : decide (m.hit a o) = t := by
        rw [← ht0]; exact decide_eq_decide.2 ⟨fun hh => (hhit.1 hh).2, fun hh => hhit.2 ⟨hbad, hh⟩⟩
      have HCall := Lib.hid (hcall0 t hht)
      have HSw : Hid (∀ w2, Calls Try.prog 33 #[.agg #[.int .i64 E.k, .int .i64 E.a, .int .u64 E.o, .int .u64 E.n], .int .u64 o] w2 (Ans (.bool t) w2)) := fun w2 => by
        have := swapped_any E o w2; rw [ht0] at this; exact this
      clear hcall0 hhit hca hbad ht0 hht
      cases t
      all_goals
        go_wp2_with fail
        go_region_held3 (fun w' => w'.cell? ⟨sb, 0, none⟩ = some (.int .i64 N) ∧ w'.cell? ⟨sb, 1, none⟩ = some (.slice p l c) ∧ w'.cell? ⟨w.heap.size + 1, 1, none⟩ = some (.int .i64 a) ∧ w'.cell? ⟨w.heap.size + 1, 2, none⟩ = some (.int .u64 o) ∧ w'.cell? ⟨w.heap.size + 1, 3, none⟩ = some (.int .u64 x) ∧ w'.cell? ⟨sb + 1, 0, none⟩ = some (.int .i64 E.k) ∧ w'.cell? ⟨sb + 1, 1, none⟩ = some (.int .i64 E.a) ∧ w'.cell? ⟨sb + 1, 2, none⟩ = some (.int .u64 E.o) ∧ w'.cell? ⟨sb + 1, 3, none⟩ = some (.int .u64 E.n))
          (first | exact HD2.out.cells | exact HDa.out.cells | exact HDb.out.cells | exact (HDb.out.far HNe.out.1 HNe.out.2.1 HNe.out.2.2 _ _).cells | exact (HDa.out.far HNe.out.1 HNe.out.2.1 HNe.out.2.2 _ _).cells)
          (first
          | (go_at_call 27; (first | refine (HCall.out _ (Below.refl _ _).drew).mono ?_ | refine (HCall.out _ HbS.out).mono ?_); rintro e w3 ⟨rfl, hm3, hs3, hr3, hk3, ht3⟩; have HDa := Lib.hid hs3; have HFin := Lib.hid (does_fin (rb := w.heap.size + 1 + 1) hm3 HT.out hk3 ht3 (by omega) hr3 HOwn.out); have HM3 := Lib.hid hm3; have HR3 := Lib.hid hr3; have HK3 := Lib.hid hk3; have HT3 := Lib.hid ht3; have d0 := hr3.cell 0; have d1 := hr3.cell 1; have f0 := hr3.frozen 0; have f1 := hr3.frozen 1; simp only [List.getElem?_cons_zero, List.getElem?_cons_succ] at d0 d1; clear hm3 hs3 hr3 hk3 ht3)
          | (go_at_call 33; refine (HSw.out _).mono ?_; rintro e w4 ⟨rfl, hb4⟩; (first | (have HDb := Lib.hid (HDa.out.on hb4); have hr3 := HR3.out.on' hb4; have HFin2 := Lib.hid (does_fin (rb := w.heap.size + 1 + 1) (HM3.out.on hb4) HT.out (HK3.out.on hb4) (HT3.out.then hb4) (by omega) hr3 HOwn.out); have d0 := hr3.cell 0; have d1 := hr3.cell 1; have f0 := hr3.frozen 0; have f1 := hr3.frozen 1; simp only [List.getElem?_cons_zero, List.getElem?_cons_succ] at d0 d1) | (have HbS := Lib.hid (show Below W.heap.size W w4 from ((Below.refl W.heap.size W).drew).trans hb4); have HDb := Lib.hid (HD2.out.on hb4)))))
        all_goals
          go_wp2
          first
            | exact bodyPost_ret (v := .tuple #[.agg #[.int .i64 N, .slice p l c], .bool true]) (by simp [results, Try.results13, go_sem, *]) rfl HFin2.out
            | exact bodyPost_ret (v := .tuple #[.agg #[.int .i64 N, .slice p l c], .bool true]) (by simp [results, Try.results13, go_sem, *]) rfl HFin.out
  have hbad : Bad (N : Int) k a := by unfold Bad; omega
  have hgo : m.go k a o x = m := by unfold PM.go; rw [if_neg h1, if_neg h2, if_neg h3, if_neg h4]
  have q0 : W.cell? ⟨sb, 0, none⟩ = some (.int .i64 N) := HDW.out.dst.rs.cell 0
  have q1 : W.cell? ⟨sb, 1, none⟩ = some (.slice p l c) := HDW.out.dst.rs.cell 1
  have d0 := HDW.out.res.cell 0
  have d1 := HDW.out.res.cell 1
  have f0 := HDW.out.res.frozen 0
  have f1 := HDW.out.res.frozen 1
  simp only [List.getElem?_cons_zero, List.getElem?_cons_succ] at d0 d1
  have HFin : Hid (DoesPost b g (m.go k a o x) N (doL N xs k a o x) w (.returned (.tuple #[.agg #[.int .i64 N, .slice p l c], .bool true])) ((W.setCell ⟨w.heap.size + 1 + 1, 0, none⟩ (.int .i64 N)).setCell ⟨w.heap.size + 1 + 1, 1, none⟩ (.slice p l c))) :=
    does_fin (rb := w.heap.size + 1 + 1) (by rw [hgo]; exact HDW.out.mem) HT.out HDW.out.bk (.of _ HDW.out.bel) (by omega) HDW.out.res HOwn.out
  have z1 : (k == 1) = false := by simpa using h1
  have z2 : (k == 2) = false := by simpa using h2
  have z3 : (k == 3) = false := by simpa using h3
  have z4 : (k == 4) = false := by simpa using h4
  have hsb2 : sb ≠ w.heap.size + 1 + 1 := HNe.out.2.1
  clear hbad hgo
  go_wp2
  exact bodyPost_ret (v := .tuple #[.agg #[.int .i64 N, .slice p l c], .bool true]) (by simp [results, Try.results13, go_sem, *]) rfl HFin.out
end Go.Proofs.Ytnakaifnalojeaa
