/- The walks of the laws' own 'works', and of the law StrideGcd. -/
import Derived.Test.YteijfgckeipkhaaSb
import Derived.Test.YteijfgckeipkhaaSg
import Derived.Test.YteijfgckeipkhaaSh
namespace Go.Proofs.Yteijfgckeipkhaa
open Go.RowKit Go.Sd

theorem lies_lit (zs : List Int) (w : World) (t : TypeId) (hl : zs.length ≤ 1000) : Lies .i64 (w.alloc (.cells (zs.map (Value.int .i64)).toArray t)) (some ⟨w.heap.size, 0, none⟩) zs := by
  refine ⟨by omega, fun j hj => ⟨_, _, rfl, ?_⟩⟩
  rw [World.cell?_alloc_new]
  simp [List.getD, hj]
theorem sameints_at (zs : List Int) (n1 n2 : Nat) (p1 p2 : Option Addr) (c1 c2 : Nat) (w : World) (e1 : n1 = zs.length) (e2 : n2 = zs.length) (h1 : Lies .i64 w p1 zs) (h2 : Lies .i64 w p2 zs) :
    Calls Try.prog 16 #[.slice p1 n1 c1, .slice p2 n2 c2] w (Ans (.bool true) w) := by
  subst e1; subst e2; exact sameints_any zs p1 p2 c1 c2 w h1 h2
theorem gcd_at (zs : List Int) (g n : Nat) (p : Option Addr) (c : Nat) (w : World) (hg : gcdL zs = g) (e : n = zs.length) (hz : ∀ z ∈ zs, z.natAbs ≤ 1000000) (h : Lies .i64 w p zs) :
    Calls Try.prog 8 #[.slice p n c] w (Ans (.int .i64 (g : Nat)) w) := by
  subst hg; subst e; exact gcd_any zs p c w hz h
/-- what it returned is a slice that reads so -/
def ReadPost (zs : List Int) (n : Nat) (w : World) (e : Ending) (w' : World) : Prop := ∃ p c, e = .returned (.slice p n c) ∧ Lies .i64 w' p zs ∧ Below w.heap.size w w'
theorem RowPost.read {zs ys : List Int} {n : Nat} {w : World} {e : Ending} {w' : World} (h : RowPost zs w e w') (hz : zs = ys) (hn : ys.length = n) (hm : n ≤ 1000000) : ReadPost ys n w e w' := by
  subst hz
  obtain ⟨v, rfl, hO, hb⟩ := h
  obtain ⟨p, cap, rfl, hL⟩ := own_lies hO (by omega)
  exact ⟨p, cap, by rw [hn], hL, hb⟩
theorem strides_at (n : Int) (ys : List Int) (l : Nat) (hz : strides n = ys) (hl : ys.length = l) (hm : l ≤ 1000000) (w : World) :
    Calls Try.prog 13 #[.int .i64 n] w (ReadPost ys l w) := (strides_any n w).mono fun _ _ h => h.read hz hl hm
theorem order_at (n d : Int) (ys : List Int) (l : Nat) (hz : order n d = ys) (hl : ys.length = l) (hm : l ≤ 1000000) (w : World) :
    Calls Try.prog 14 #[.int .i64 n, .int .i64 d] w (ReadPost ys l w) := (order_any n d w).mono fun _ _ h => h.read hz hl hm
theorem others_at (n d : Int) (wo ys : List Int) (m l : Nat) (p : Option Addr) (c : Nat) (hz : others n d wo = ys) (hl : ys.length = l) (hm : l ≤ 1000000) (hw : m = wo.length) (w : World) (hL : Lies .i64 w p wo) :
    Calls Try.prog 15 #[.int .i64 n, .int .i64 d, .slice p m c] w (ReadPost ys l w) := by
  subst hw; exact (others_any n d wo p c w hL).mono fun _ _ h => h.read hz hl hm
theorem orders_at (n o : Int) (h : orders n = o) (w : World) : Calls Try.prog 17 #[.int .i64 n] w (Ans (.int .i64 o) w) := by
  subst h; exact orders_any n w
theorem draw_at (n st by' r : Int) (ok : Bool) (h1 : drawN n st by' = r) (h2 : drawOk n st by' = ok) (w : World) :
    Calls Try.prog 19 #[.int .i64 n, .int .i64 st, .int .i64 by'] w (Ans (.tuple #[.int .i64 r, .bool ok]) w) := by
  subst h1; subst h2; exact draw_any n st by' w

/-- the examples -/
structure Ex : Prop where
  g : gcdL [12, -18] = 6
  s : strides 6 = [1, 5]
  o : orders 6 = 12
  r : order 6 8 = [2, 1, 0, 5, 4, 3]
  t : others 6 (-1) [0, 9] = [5, 4, 3, 2, 1]
  d : drawN 6 2 5 = 8
  k : drawOk 6 2 5 = true
theorem ex_all : Ex := ⟨by decide +kernel, by decide +kernel, by decide +kernel, by decide +kernel, by decide +kernel, by decide +kernel, by decide +kernel⟩

theorem ab {C : Nat} {w w1 w2 : World} {o : Obj} (h : Below C w w1) (hc : C ≤ w1.heap.size) (hb : Below (w1.alloc o).heap.size (w1.alloc o) w2) : Below C w w2 := (h.alloc hc o).trans (hb.mono (by simp; omega))
theorem bt {C : Nat} {w w1 w2 : World} (h : Below C w w1) (hc : C ≤ w1.heap.size) (hb : Below w1.heap.size w1 w2) : Below C w w2 := h.trans (hb.mono hc)

set_option maxRecDepth 100000 in
set_option maxHeartbeats 1000000 in
theorem works_any (w : World) : Calls Try.prog 7 #[] w (Ans (.bool true) w) := by
  have HE := Lib.hid ex_all
  go_enter Try.func7, Try.ntmps7
  go_wp2_with fail
  refine (draw_at 6 2 5 8 true HE.out.d HE.out.k _).mono ?_
  rintro e w1 ⟨rfl, hb1⟩
  have s1 := hb1.size
  have HB1 := Lib.hid hb1
  clear hb1
  go_wp2_with fail
  refine (gcd_at [12, -18] 6 2 _ _ _ HE.out.g rfl (by decide) (lies_lit [12, -18] _ _ (by decide))).mono ?_
  rintro e w2 ⟨rfl, hb2⟩
  have HB2 := Lib.hid (ab HB1.out s1 hb2)
  have s2 := HB2.out.size
  clear hb2
  go_wp2_with fail
  refine (strides_at 6 [1, 5] 2 HE.out.s rfl (by decide) _).mono ?_
  rintro e w3 ⟨p3, c3, rfl, hL3, hb3⟩
  have HB3 := Lib.hid (bt HB2.out s2 hb3)
  have s3 := HB3.out.size
  have HL3 := Lib.hid hL3
  clear hb3 hL3
  go_wp2_with fail
  refine (sameints_at [1, 5] 2 2 _ _ _ _ _ rfl rfl (HL3.out.on ((Below.refl _ _).alloc (Nat.le_refl _) _)) (lies_lit [1, 5] _ _ (by decide))).mono ?_
  rintro e w4 ⟨rfl, hb4⟩
  have HB4 := Lib.hid (ab HB3.out s3 hb4)
  have s4 := HB4.out.size
  clear hb4
  go_wp2_with fail
  refine (orders_at 6 12 HE.out.o _).mono ?_
  rintro e w5 ⟨rfl, hb5⟩
  have HB5 := Lib.hid (bt HB4.out s4 hb5)
  have s5 := HB5.out.size
  clear hb5
  go_wp2_with fail
  refine (order_at 6 8 [2, 1, 0, 5, 4, 3] 6 HE.out.r rfl (by decide) _).mono ?_
  rintro e w6 ⟨p6, c6, rfl, hL6, hb6⟩
  have HB6 := Lib.hid (bt HB5.out s5 hb6)
  have s6 := HB6.out.size
  have HL6 := Lib.hid hL6
  clear hb6 hL6
  go_wp2_with fail
  refine (sameints_at [2, 1, 0, 5, 4, 3] 6 6 _ _ _ _ _ rfl rfl (HL6.out.on ((Below.refl _ _).alloc (Nat.le_refl _) _)) (lies_lit [2, 1, 0, 5, 4, 3] _ _ (by decide))).mono ?_
  rintro e w7 ⟨rfl, hb7⟩
  have HB7 := Lib.hid (ab HB6.out s6 hb7)
  have s7 := HB7.out.size
  clear hb7
  go_wp2_with fail
  refine (others_at 6 (-1) [0, 9] [5, 4, 3, 2, 1] 2 5 _ _ HE.out.t rfl (by decide) rfl _ (lies_lit [0, 9] _ _ (by decide))).mono ?_
  rintro e w8 ⟨p8, c8, rfl, hL8, hb8⟩
  have HB8 := Lib.hid (ab HB7.out s7 hb8)
  have s8 := HB8.out.size
  have HL8 := Lib.hid hL8
  clear hb8 hL8
  go_wp2_with fail
  refine (sameints_at [5, 4, 3, 2, 1] 5 5 _ _ _ _ _ rfl rfl (HL8.out.on ((Below.refl _ _).alloc (Nat.le_refl _) _)) (lies_lit [5, 4, 3, 2, 1] _ _ (by decide))).mono ?_
  rintro e w9 ⟨rfl, hb9⟩
  have HB9 := Lib.hid (ab HB8.out s8 hb9)
  clear hb9
  go_wp2
  go_ret
  exact ⟨rfl, HB9.out⟩
end Go.Proofs.Yteijfgckeipkhaa
