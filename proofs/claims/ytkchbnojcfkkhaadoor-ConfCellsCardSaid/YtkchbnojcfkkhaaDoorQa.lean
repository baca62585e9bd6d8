/- The code's Right and Cells (layer 5), walked. -/
import Derived.Test.YtkchbnojcfkkhaaDoorVa
import Derived.Deep.RegionHeld3
namespace Go.Proofs.YtkchbnojcfkkhaaDoor
open Go.RowKit Go.Tx Go.Cg

theorem within_any (n a b : Int) (w : World) : Calls Tryd.prog 31 #[.int .i64 n, .int .i64 a, .int .i64 b] w fun e w' => e = .returned (.bool (decide (a ≤ n ∧ n ≤ b))) ∧ w' = w := by
  obtain ⟨r, hr⟩ : ∃ r, decide (a ≤ n ∧ n ≤ b) = r := ⟨_, rfl⟩
  rw [hr]
  have HR := Lib.hid hr
  clear hr
  go_enter Tryd.func31, Tryd.ntmps31
  by_cases h1 : a ≤ n
  · by_cases h2 : n ≤ b
    · obtain rfl : r = true := by rw [← HR.out]; exact decide_eq_true ⟨h1, h2⟩
      go_wp2
      go_ret
      exact ⟨rfl, rfl⟩
    · obtain rfl : r = false := by rw [← HR.out]; exact decide_eq_false fun h => h2 h.2
      go_wp2
      go_ret
      exact ⟨rfl, rfl⟩
  · obtain rfl : r = false := by rw [← HR.out]; exact decide_eq_false fun h => h1 h.1
    go_wp2
    go_ret
    exact ⟨rfl, rfl⟩
theorem within_yes {n a b : Int} (h : a ≤ n ∧ n ≤ b) (w : World) : Calls Tryd.prog 31 #[.int .i64 n, .int .i64 a, .int .i64 b] w fun e w' => e = .returned (.bool true) ∧ w' = w := by
  have := within_any n a b w; rw [decide_eq_true h] at this; exact this
theorem within_no {n a b : Int} (h : ¬ (a ≤ n ∧ n ≤ b)) (w : World) : Calls Tryd.prog 31 #[.int .i64 n, .int .i64 a, .int .i64 b] w fun e w' => e = .returned (.bool false) ∧ w' = w := by
  have := within_any n a b w; rw [decide_eq_false h] at this; exact this

/-- is it a ring's room? -/
def isRoom (q : Int) : Bool := decide (q = 2 ∨ q = 4 ∨ q = 8 ∨ q = 16 ∨ q = 32 ∨ q = 64)
theorem room_bits : ∀ n < 65, 2 ≤ n → (bits BinOp.and IntKind.i64 ((n : Nat) : Int) ((n : Int) - 1) == 0) = isRoom n := by unfold isRoom; decide +kernel
theorem room_any (q : Int) (w : World) : Calls Tryd.prog 32 #[.int .i64 q] w fun e w' => e = .returned (.bool (isRoom q)) ∧ w' = w := by
  obtain ⟨r, hr⟩ : ∃ r, isRoom q = r := ⟨_, rfl⟩
  rw [hr]
  have HR := Lib.hid hr
  clear hr
  go_enter Tryd.func32, Tryd.ntmps32
  by_cases h : 2 ≤ q ∧ q ≤ 64
  · obtain ⟨n, rfl⟩ : ∃ n : Nat, q = n := ⟨q.toNat, by omega⟩
    go_wp2_with fail
    refine (within_yes h _).mono ?_
    rintro e w1 ⟨rfl, rfl⟩
    go_wp2_with fail
    go_ret
    refine ⟨?_, rfl⟩
    show Ending.returned (.bool (bits BinOp.and IntKind.i64 ((n : Nat) : Int) ((n : Int) - 1) == 0)) = _
    rw [room_bits n (by omega) (by omega), HR.out]
  · obtain rfl : r = false := by rw [← HR.out]; exact decide_eq_false (by omega)
    go_wp2_with fail
    refine (within_no h _).mono ?_
    rintro e w1 ⟨rfl, rfl⟩
    go_wp2
    go_ret
    exact ⟨rfl, rfl⟩

/-- a config's value, boxed -/
theorem six_box (c : Cfg) (t : TypeId) (w : World) : (∀ i, (w.alloc (.cells #[.int .i64 c.n, .int .i64 c.q, .int .i64 c.g, .int .i64 c.m, .int .i64 c.t, .int .i64 c.s] t)).cell? ⟨w.heap.size, i, none⟩ = (cCells c)[i]?) ∧ Below w.heap.size w (w.alloc (.cells #[.int .i64 c.n, .int .i64 c.q, .int .i64 c.g, .int .i64 c.m, .int .i64 c.t, .int .i64 c.s] t)) :=
  ⟨fun i => (Row.new w t (cCells c)).cell i, (Below.refl w.heap.size w).alloc (Nat.le_refl _) _⟩
theorem isRoom_iff (q : Int) : isRoom q = true ↔ (q = 2 ∨ q = 4 ∨ q = 8 ∨ q = 16 ∨ q = 32 ∨ q = 64) := by unfold isRoom; exact decide_eq_true_iff
theorem right_of {c : Cfg} (h1 : 1 ≤ c.n ∧ c.n ≤ 8) (h2 : isRoom c.q = true) (h3 : 1 ≤ c.g ∧ c.g ≤ 256) (h4 : c.n + 1 ≤ c.m ∧ c.m ≤ 16) (h5 : 2 ≤ c.t ∧ c.t ≤ 200) (h6 : 0 ≤ c.s ∧ c.s ≤ 1000) : Right c :=
  ⟨(isRoom_iff _).1 h2, h1, h3, ⟨by omega, h4.2⟩, h5, h6⟩

set_option maxHeartbeats 400000 in
theorem cright_any (c : Cfg) (w : World) : Calls Tryd.prog 9 #[cVal c] w (Ans (.bool (rt c)) w) := by
  obtain ⟨res, hres⟩ : ∃ b, rt c = b := ⟨_, rfl⟩
  rw [hres]
  have HR := Lib.hid hres
  have no (h : ¬ Right c) : res = false := by rw [← HR.out]; exact rt_no h
  have hnw (h : c.n ≤ 8) : c.n + 1 ≤ 9223372036854775807 := by omega
  clear hres
  obtain ⟨n, q, g, m, t, s⟩ := c
  show Calls _ _ #[.agg #[.int .i64 n, .int .i64 q, .int .i64 g, .int .i64 m, .int .i64 t, .int .i64 s]] _ _
  go_enter Tryd.func9, Tryd.ntmps9
  go_wp2_with fail
  have hbox := six_box ⟨n, q, g, m, t, s⟩ 23 w
  obtain ⟨W, hW⟩ : ∃ W, w.alloc (.cells #[.int .i64 n, .int .i64 q, .int .i64 g, .int .i64 m, .int .i64 t, .int .i64 s] 23) = W := ⟨_, rfl⟩
  simp only [] at hbox
  rw [hW] at hbox ⊢
  have c0 := hbox.1 0
  have c1 := hbox.1 1
  have c2 := hbox.1 2
  have c3 := hbox.1 3
  have c4 := hbox.1 4
  have c5 := hbox.1 5
  simp only [cCells, List.getElem?_cons_zero, List.getElem?_cons_succ] at c0 c1 c2 c3 c4 c5
  have HB := Lib.hid hbox.2
  clear hbox hW
  go_wp2_with fail
  by_cases h1 : 1 ≤ n ∧ n ≤ 8
  rotate_left
  · obtain rfl := no fun h => h1 h.n
    refine (within_no h1 _).mono ?_
    rintro e w1 ⟨rfl, rfl⟩
    go_wp2
    go_ret
    exact ⟨rfl, HB.out⟩
  refine (within_yes h1 _).mono ?_
  rintro e w1 ⟨rfl, rfl⟩
  go_wp2_with fail
  refine (room_any q _).mono ?_
  rintro e w1 ⟨rfl, rfl⟩
  cases h2 : isRoom q
  · obtain rfl := no fun h => by have := (isRoom_iff q).2 h.q; rw [h2] at this; cases this
    go_wp2
    go_ret
    exact ⟨rfl, HB.out⟩
  go_wp2_with fail
  by_cases h3 : 1 ≤ g ∧ g ≤ 256
  rotate_left
  · obtain rfl := no fun h => h3 h.g
    refine (within_no h3 _).mono ?_
    rintro e w1 ⟨rfl, rfl⟩
    go_wp2
    go_ret
    exact ⟨rfl, HB.out⟩
  refine (within_yes h3 _).mono ?_
  rintro e w1 ⟨rfl, rfl⟩
  have hn9 : n + 1 ≤ 9 := by omega
  have hn0 : 0 ≤ n + 1 := by omega
  go_wp2_with fail
  by_cases h4 : n + 1 ≤ m ∧ m ≤ 16
  rotate_left
  · obtain rfl := no fun h => h4 ⟨by have := h.m.1; simp only at this; omega, h.m.2⟩
    refine (within_no h4 _).mono ?_
    rintro e w1 ⟨rfl, rfl⟩
    go_wp2
    go_ret
    exact ⟨rfl, HB.out⟩
  refine (within_yes h4 _).mono ?_
  rintro e w1 ⟨rfl, rfl⟩
  go_wp2_with fail
  by_cases h5 : 2 ≤ t ∧ t ≤ 200
  rotate_left
  · obtain rfl := no fun h => h5 h.t
    refine (within_no h5 _).mono ?_
    rintro e w1 ⟨rfl, rfl⟩
    go_wp2
    go_ret
    exact ⟨rfl, HB.out⟩
  refine (within_yes h5 _).mono ?_
  rintro e w1 ⟨rfl, rfl⟩
  go_wp2_with fail
  by_cases h6 : 0 ≤ s ∧ s ≤ 1000
  rotate_left
  · obtain rfl := no fun h => h6 h.s
    refine (within_no h6 _).mono ?_
    rintro e w1 ⟨rfl, rfl⟩
    go_wp2
    go_ret
    exact ⟨rfl, HB.out⟩
  refine (within_yes h6 _).mono ?_
  rintro e w1 ⟨rfl, rfl⟩
  obtain rfl : res = true := by rw [← HR.out]; exact rt_yes (right_of h1 h2 h3 h4 h5 h6)
  go_wp2
  go_ret
  exact ⟨rfl, HB.out⟩

theorem each_any (c : Cfg) (hq : 0 ≤ c.q ∧ c.q ≤ 64) (w : World) : Calls Tryd.prog 33 #[cVal c] w (Ans (.int .i64 (6 + c.q)) w) := by
  obtain ⟨n, q, g, m, t, s⟩ := c
  obtain ⟨h0, h1⟩ : 0 ≤ q ∧ q ≤ 64 := hq
  show Calls _ _ #[.agg #[.int .i64 n, .int .i64 q, .int .i64 g, .int .i64 m, .int .i64 t, .int .i64 s]] _ _
  go_enter Tryd.func33, Tryd.ntmps33
  go_wp2_with fail
  have c1 := (six_box ⟨n, q, g, m, t, s⟩ 23 w).1 1
  simp only [cCells, List.getElem?_cons_zero, List.getElem?_cons_succ] at c1
  have HB := Lib.hid (six_box ⟨n, q, g, m, t, s⟩ 23 w).2
  go_wp2
  go_ret
  exact ⟨rfl, HB.out⟩
end Go.Proofs.YtkchbnojcfkkhaaDoor
