/- The laws' works; CellTwice. -/
import Derived.Test.YtnakaifnalojeaaNc
import Derived.Test.YtnakaifnalojeaaNd
namespace Go.Proofs.Ytnakaifnalojeaa
open Go.RowKit Go.Ce

/-- a memory made since the world w0, so far -/
structure Sofar (w0 w : World) (b g : Nat) (m : PM) : Prop where
  mem : MemIs w b g m
  bel : Below w0.heap.size w0 w
  b : w0.heap.size ≤ b
  g : w0.heap.size ≤ g
theorem Sofar.step {w0 w w' : World} {b g : Nat} {m m' : PM} (h : Sofar w0 w b g m) (hm : MemIs w' b g m') (ht : Tch (Own b g) w w') : Sofar w0 w' b g m' :=
  ⟨hm, h.bel.trans (ht.below h.bel.size (fun k hk => by rcases hk with hk | hk <;> (have := h.b; have := h.g; omega))), h.b, h.g⟩
theorem Sofar.ans {w0 w w' : World} {b g : Nat} {m : PM} (h : Sofar w0 w b g m) (hb : Below w.heap.size w w') : Sofar w0 w' b g m := ⟨h.mem.on hb, h.bel.trans (hb.mono h.bel.size), h.b, h.g⟩
theorem nN_of (n : Int) (h : 0 ≤ n) (h2 : n ≤ 65536) : nN n = (n.toNat : Int) := by unfold nN; omega

def M0 : PM := PM.new 3
def M1 : PM := M0.store 1 7
def M2 : PM := M1.cas 1 7 9
def M3 : PM := M2.cas 1 7 8
def M4 : PM := M3.add 1 2
def M5 : PM := M4.load 1
set_option maxHeartbeats 1000000 in
theorem works_any (w : World) : Calls Try.prog 8 #[] w (Ans (.bool true) w) := by
  go_enter Try.func8, Try.ntmps8
  go_wp2_with fail
  refine (new_any 3 3 rfl _).mono ?_
  rintro e w1 ⟨b, g, rfl, hm1, hb1, hg1, hbe1⟩
  have HS1 := Lib.hid (show Sofar w w1 b g M0 from ⟨hm1, hbe1, hb1, hg1⟩)
  clear hm1 hb1 hg1 hbe1
  go_wp2_with fail
  refine (store_any 1 7 w1 HS1.out.mem (by decide)).mono ?_
  rintro e w2 ⟨rfl, hm2, ht2⟩
  have HS2 := Lib.hid (show Sofar w w2 b g M1 from HS1.out.step hm2 ht2)
  clear hm2 ht2
  go_wp2_with fail
  refine (cas_any 1 7 9 w2 HS2.out.mem (by decide)).mono ?_
  rintro e w3 ⟨rfl, hm3, ht3⟩
  have HS3 := Lib.hid (show Sofar w w3 b g M2 from HS2.out.step hm3 ht3)
  clear hm3 ht3
  rw [show decide (M1.hit 1 7) = true by decide]
  go_wp2_with fail
  refine (cas_any 1 7 8 w3 HS3.out.mem (by decide)).mono ?_
  rintro e w4 ⟨rfl, hm4, ht4⟩
  have HS4 := Lib.hid (show Sofar w w4 b g M3 from HS3.out.step hm4 ht4)
  clear hm4 ht4
  rw [show decide (M2.hit 1 7) = false by decide]
  go_wp2_with fail
  refine (add_any 1 2 w4 HS4.out.mem (by decide)).mono ?_
  rintro e w5 ⟨rfl, hm5, ht5⟩
  have HS5 := Lib.hid (show Sofar w w5 b g M4 from HS4.out.step hm5 ht5)
  clear hm5 ht5
  rw [show M3.ans 1 = 9 by decide]
  go_wp2_with fail
  refine (load_any 1 w5 HS5.out.mem (by decide)).mono ?_
  rintro e w6 ⟨rfl, hm6, ht6⟩
  have HS6 := Lib.hid (show Sofar w w6 b g M5 from HS5.out.step hm6 ht6)
  clear hm6 ht6
  rw [show M4.ans 1 = 11 by decide]
  go_wp2_with fail
  refine (ops_any HS6.out.mem).mono ?_
  rintro e w7 ⟨rfl, hb7⟩
  have HB7 := Lib.hid (HS6.out.ans hb7).bel
  clear hb7
  rw [show ((M5.k.ops : Nat) : Int) = 5 by decide]
  go_wp2_with fail
  refine (new_any 3 3 rfl _).mono ?_
  rintro e w8 ⟨b2, g2, rfl, hm8, hb8, hg8, hbe8⟩
  have HS8 := Lib.hid (show Sofar w7 w8 b2 g2 M0 from ⟨hm8, hbe8, hb8, hg8⟩)
  clear hm8 hb8 hg8 hbe8
  go_wp2_with fail
  refine (store_any (-1) 5 w8 HS8.out.mem (by decide)).mono ?_
  rintro e w9 ⟨rfl, hm9, ht9⟩
  have HS9 := Lib.hid (show Sofar w7 w9 b2 g2 M0 from HS8.out.step hm9 ht9)
  clear hm9 ht9
  go_wp2_with fail
  refine (load_any 3 w9 HS9.out.mem (by decide)).mono ?_
  rintro e wa ⟨rfl, hma, hta⟩
  have HSa := Lib.hid (show Sofar w7 wa b2 g2 M0 from HS9.out.step hma hta)
  clear hma hta
  rw [show M0.ans 3 = 0 by decide]
  go_wp2_with fail
  refine (ops_any HSa.out.mem).mono ?_
  rintro e wb ⟨rfl, hbb⟩
  have HSb := Lib.hid (HSa.out.ans hbb)
  clear hbb
  rw [show ((M0.k.ops : Nat) : Int) = 0 by decide]
  go_wp2_with fail
  refine (len_any HSb.out.mem).mono ?_
  rintro e wc ⟨rfl, hbc⟩
  have HB := Lib.hid (HB7.out.trans ((HSb.out.ans hbc).bel.mono HB7.out.size))
  clear hbc
  rw [show ((M0.cs.length : Nat) : Int) = 3 by decide]
  go_wp2
  go_ret
  exact ⟨rfl, HB.out⟩
end Go.Proofs.Ytnakaifnalojeaa
