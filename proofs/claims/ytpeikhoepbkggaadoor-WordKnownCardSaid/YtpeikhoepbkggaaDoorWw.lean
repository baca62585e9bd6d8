/- The walk of the law's own 'works'. -/
import Derived.Test.YtpeikhoepbkggaaDoorWs
import Derived.Test.YtpeikhoepbkggaaDoorWt
import Derived.Test.YtpeikhoepbkggaaDoorWpb
namespace Go.Proofs.YtpeikhoepbkggaaDoor
open Go.RowKit Go.Wd Go.Tx

/-- the numbers of the chapter's examples -/
structure Ex (x v y1 y2 y3 y4 : Nat) : Prop where
  bx : x < 18446744073709551616
  bv : v < 18446744073709551616
  b1 : y1 < 18446744073709551616
  b2 : y2 < 18446744073709551616
  b3 : y3 < 18446744073709551616
  b4 : y4 < 18446744073709551616
  px : pk 4294967295 2 = x
  pv : pk 0 4 = v
  tx : wtx x = [52, 50, 57, 52, 57, 54, 55, 50, 57, 53, 46, 46, 50]
  lx : ln x = 3
  qx : pls x 1 9 = [0, 1]
  d1 : doW v 4 [3] = y1
  d2 : doW v 4 [4] = y2
  d3 : doW v 4 [2] = y3
  d4 : doW v 4 [1, 1] = y4
  t1 : wtx y1 = [48, 46, 46, 52]
  t2 : wtx y2 = [48, 46, 46, 50]
  t3 : wtx y3 = [50, 46, 46, 52]
  t4 : wtx y4 = [50, 46, 46, 52]
  o5 : older 5 = 3
  o4 : older 4 = 2
  s1 : slot 9 8 = 1
  s2 : slot 9 6 = 0
theorem ex_all : ∃ x v y1 y2 y3 y4, Ex x v y1 y2 y3 y4 :=
  ⟨_, _, _, _, _, _, {
    bx := by decide +kernel, bv := by decide +kernel, b1 := by decide +kernel, b2 := by decide +kernel, b3 := by decide +kernel, b4 := by decide +kernel
    px := rfl, pv := rfl
    tx := by decide +kernel, lx := by decide +kernel, qx := by decide +kernel
    d1 := rfl, d2 := rfl, d3 := rfl, d4 := rfl
    t1 := by decide +kernel, t2 := by decide +kernel, t3 := by decide +kernel, t4 := by decide +kernel
    o5 := by decide +kernel, o4 := by decide +kernel, s1 := by decide +kernel, s2 := by decide +kernel }⟩

theorem text_is {B : Nat} {x : Nat} {l : List UInt8} (hl : wtx x = l) (hx : x < 18446744073709551616) (w : World) (h : Env B w) :
    Calls Tryd.prog 14 #[.int .u64 x] w (Ans (.string ⟨l.toArray⟩) w) := by
  subst hl
  exact (text_any x hx w h).mono fun e w' ⟨l, h1, h2, h3⟩ => ⟨by rw [h2, h1], h3⟩
theorem do_is {x y n : Nat} {q : Int} {zs : List Int} (hy : doW x q zs = y) (hx : x < 18446744073709551616) (hn : n = zs.length) (p : Option Addr) (cap : Nat) (w : World) (hl : Lies .i64 w p zs) :
    Calls Tryd.prog 31 #[.int .u64 x, .int .i64 q, .slice p n cap] w (Ans (.int .u64 y) w) := by
  subst hy; subst hn; exact do_any x hx q p cap zs w hl
theorem lies_one (a : Int) (w : World) (t : TypeId) : Lies .i64 (w.alloc (.cells #[.int .i64 a] t)) (some ⟨w.heap.size, 0, none⟩) [a] := by
  refine ⟨by simp, fun j hj => ⟨_, _, rfl, ?_⟩⟩
  rw [World.cell?_alloc_new]
  have : j = 0 := by simp at hj; omega
  subst this; rfl
theorem lies_two (a b : Int) (w : World) (t : TypeId) : Lies .i64 (w.alloc (.cells #[.int .i64 a, .int .i64 b] t)) (some ⟨w.heap.size, 0, none⟩) [a, b] := by
  refine ⟨by simp, fun j hj => ⟨_, _, rfl, ?_⟩⟩
  rw [World.cell?_alloc_new]
  have : j = 0 ∨ j = 1 := by simp at hj; omega
  rcases this with rfl | rfl <;> rfl
theorem pack_is {h t x : Nat} (hx : pk h t = x) (hh : h < 4294967296) (ht : t < 4294967296) (w : World) :
    Calls Tryd.prog 8 #[.int .u32 h, .int .u32 t] w fun e w' => e = .returned (.int .u64 (x : Nat)) ∧ w = w' := by
  subst hx; exact pack_any h t hh ht w
theorem len_is {x n : Nat} (hn : ln x = n) (hx : x < 18446744073709551616) (w : World) :
    Calls Tryd.prog 13 #[.int .u64 x] w fun e w' => e = .returned (.int .u32 (n : Nat)) ∧ w = w' := by
  subst hn; exact len_any x hx w
theorem older_is {n m : Nat} (hm : older n = m) (hn : n < 4294967296) (w : World) :
    Calls Tryd.prog 16 #[.int .u32 n] w fun e w' => e = .returned (.int .u32 (m : Nat)) ∧ w = w' := by
  subst hm; exact older_any n hn w
theorem slot_is {p : Nat} {q m : Int} (hm : slot p q = m) (hp : p < 4294967296) (w : World) :
    Calls Tryd.prog 19 #[.int .u32 p, .int .i64 q] w fun e w' => e = .returned (.int .i64 m) ∧ w = w' := by
  subst hm; exact slot_any p q hp w
theorem places_is {x fr n : Nat} {l : List Int} (hl : pls x fr n = l) (hx : x < 18446744073709551616) (w : World) :
    Calls Tryd.prog 28 #[.int .u64 x, .int .u32 fr, .int .u32 n] w (RowPost l w) := by
  subst hl; exact places_any x fr n hx w

set_option maxRecDepth 100000 in
set_option maxHeartbeats 1000000 in
theorem works_any {B : Nat} (w : World) (h : Env B w) :
    Calls Tryd.prog 26 #[] w (Ans (.bool true) w) := by
  obtain ⟨x, v, y1, y2, y3, y4, E⟩ := ex_all
  have HE := Lib.hid E
  clear E
  go_enter Tryd.func26, Tryd.ntmps26
  go_wp2_with fail
  refine (pack_is HE.out.px (by decide) (by decide) _).mono ?_
  rintro e w' ⟨rfl, rfl⟩
  go_wp2_with fail
  refine (pack_is HE.out.pv (by decide) (by decide) _).mono ?_
  rintro e w' ⟨rfl, rfl⟩
  go_wp2_with fail
  refine (text_is HE.out.tx HE.out.bx _ h).mono ?_
  rintro e w1 ⟨rfl, hb1⟩
  have h1 := h.on' hb1
  go_wp2_with (first | (go_at_call 13; refine (len_is HE.out.lx HE.out.bx _).mono ?_; rintro e w' ⟨rfl, rfl⟩))
  refine (places_is HE.out.qx HE.out.bx _).mono ?_
  rintro e w2 ⟨r, rfl, hr, hb2⟩
  have h2 := h1.on' hb2
  go_wp2_with fail
  refine (same_any [0, 1] r _ w1.heap.size w2.heap.size (by decide) _ (hr.alloc _) (World.ownsRow_lit w2 #[.int .u32 0, .int .u32 1] 2 (Nat.le_refl _) (by decide) rfl) (fun g hg => (hr.lt g hg).2)).mono ?_
  rintro e w3 ⟨rfl, hb3⟩
  have hb123 := hb1.trans (((hb2.alloc (hb2.size) _).trans hb3).mono hb1.size)
  have h3 := h.on' hb123
  clear hb1 hb2 hb3 hr h1 h2
  go_wp2_with fail
  refine (do_is HE.out.d1 HE.out.bv rfl _ _ _ (lies_one 3 _ _)).mono ?_
  rintro e w4a ⟨rfl, hb4a⟩
  have hb4b := (((Below.refl _ _).alloc (Nat.le_refl _) _).trans (hb4a.mono (by simp)) : Below w3.heap.size w3 w4a)
  have h4a := h3.on' hb4b
  clear hb4a
  go_wp2_with fail
  refine (text_is HE.out.t1 HE.out.b1 _ h4a).mono ?_
  rintro e w4 ⟨rfl, hb4c⟩
  have hb4 := Bel.trans hb4b hb4c
  have h4 := h4a.on' hb4c
  clear hb4b hb4c h4a
  go_wp2_with fail
  refine (do_is HE.out.d2 HE.out.bv rfl _ _ _ (lies_one 4 _ _)).mono ?_
  rintro e w5a ⟨rfl, hb5a⟩
  have hb5b := (((Below.refl _ _).alloc (Nat.le_refl _) _).trans (hb5a.mono (by simp)) : Below w4.heap.size w4 w5a)
  have h5a := h4.on' hb5b
  clear hb5a
  go_wp2_with fail
  refine (text_is HE.out.t2 HE.out.b2 _ h5a).mono ?_
  rintro e w5 ⟨rfl, hb5c⟩
  have hb5 := Bel.trans hb5b hb5c
  have h5 := h5a.on' hb5c
  clear hb5b hb5c h5a
  go_wp2_with fail
  refine (do_is HE.out.d3 HE.out.bv rfl _ _ _ (lies_one 2 _ _)).mono ?_
  rintro e w6a ⟨rfl, hb6a⟩
  have hb6b := (((Below.refl _ _).alloc (Nat.le_refl _) _).trans (hb6a.mono (by simp)) : Below w5.heap.size w5 w6a)
  have h6a := h5.on' hb6b
  clear hb6a
  go_wp2_with fail
  refine (text_is HE.out.t3 HE.out.b3 _ h6a).mono ?_
  rintro e w6 ⟨rfl, hb6c⟩
  have hb6 := Bel.trans hb6b hb6c
  have h6 := h6a.on' hb6c
  clear hb6b hb6c h6a
  go_wp2_with fail
  refine (do_is HE.out.d4 HE.out.bv rfl _ _ _ (lies_two 1 1 _ _)).mono ?_
  rintro e w7a ⟨rfl, hb7a⟩
  have hb7b := (((Below.refl _ _).alloc (Nat.le_refl _) _).trans (hb7a.mono (by simp)) : Below w6.heap.size w6 w7a)
  have h7a := h6.on' hb7b
  clear hb7a
  go_wp2_with fail
  refine (text_is HE.out.t4 HE.out.b4 _ h7a).mono ?_
  rintro e w7 ⟨rfl, hb7c⟩
  have hb7 := Bel.trans hb7b hb7c
  have h7 := h7a.on' hb7c
  clear hb7b hb7c h7a
  go_wp2_with fail
  refine (older_is HE.out.o5 (by decide) _).mono ?_
  rintro e w' ⟨rfl, rfl⟩
  go_wp2_with fail
  refine (older_is HE.out.o4 (by decide) _).mono ?_
  rintro e w' ⟨rfl, rfl⟩
  go_wp2_with fail
  refine (slot_is HE.out.s1 (by decide) _).mono ?_
  rintro e w' ⟨rfl, rfl⟩
  go_wp2_with fail
  refine (slot_is HE.out.s2 (by decide) _).mono ?_
  rintro e w' ⟨rfl, rfl⟩
  go_wp2
  go_ret
  exact ⟨rfl, Bel.trans (Bel.trans (Bel.trans (Bel.trans hb123 hb4) hb5) hb6) hb7⟩
end Go.Proofs.YtpeikhoepbkggaaDoor
