/- The code's config; bytes. -/
import Derived.Test.YtkhfanhboooilaaBb
import Derived.Test.YtkhfanhboooilaaBa
import Derived.BigQuiet
import Derived.LoopTactic
import Derived.Deep.RegionHeld3
import Derived.WalkSpells
import Derived.WalkLawsBesides
import Derived.Deep.QuietTactic
import Derived.Deep.Cut
import Derived.Deep.DeepCutAuto
import Derived.Laws.Bits64b
import Derived.Laws.BitsLemmas
set_option linter.unusedSimpArgs false
set_option linter.unusedVariables false
/- The reference's Right, the code's within, room, Right and each (layer 5), walked; without names. -/
namespace Go.Proofs.Ytkhfanhboooilaa
open Go.RowKit Go.Cg
/-- a config as a value, and its cells -/
def cCells (c : Cfg) : List Value := [.int .i64 c.n, .int .i64 c.q, .int .i64 c.g, .int .i64 c.m, .int .i64 c.t, .int .i64 c.s]
def cVal (c : Cfg) : Value := .agg #[.int .i64 c.n, .int .i64 c.q, .int .i64 c.g, .int .i64 c.m, .int .i64 c.t, .int .i64 c.s]
/-- is it one of the rooms, as far as the loop has come? -/
def rm (q : Int) : Nat → Bool
  | 0 => false
  | k + 1 => rm q k || decide (q = 2 ^ (k + 1))
theorem rm_six (q : Int) : rm q 6 = true ↔ (q = 2 ∨ q = 4 ∨ q = 8 ∨ q = 16 ∨ q = 32 ∨ q = 64) := by
  simp [rm]; omega
open Classical in
noncomputable def rt (c : Cfg) : Bool := decide (Right c)
open Classical in
theorem rt_yes {c : Cfg} (h : Right c) : rt c = true := by unfold rt; exact decide_eq_true h
open Classical in
theorem rt_no {c : Cfg} (h : ¬ Right c) : rt c = false := by unfold rt; exact decide_eq_false h

set_option maxRecDepth 10000 in
set_option maxHeartbeats 400000 in
theorem right_any (c : Cfg) (w : World) : Calls Try.prog 106 #[cVal c] w (Ans (.bool (rt c)) w) := by
  obtain ⟨n, q, g, m, t, s⟩ := c
  show Calls _ _ #[.agg #[.int .i64 n, .int .i64 q, .int .i64 g, .int .i64 m, .int .i64 t, .int .i64 s]] _ _
  obtain ⟨res, hres⟩ : ∃ b, rt ⟨n, q, g, m, t, s⟩ = b := ⟨_, rfl⟩
  rw [hres]
  have HR := Lib.hid hres
  clear hres
  go_enter Try.func106, Try.ntmps106
  go_wp2_with fail
  have hrow := Row.new w 37 (cCells ⟨n, q, g, m, t, s⟩)
  have hbel := (Below.refl w.heap.size w).alloc (Nat.le_refl _) (.cells #[.int .i64 n, .int .i64 q, .int .i64 g, .int .i64 m, .int .i64 t, .int .i64 s] 37)
  have hcell (i : Nat) := hrow.cell i
  obtain ⟨W, hW⟩ : ∃ W, w.alloc (.cells #[.int .i64 n, .int .i64 q, .int .i64 g, .int .i64 m, .int .i64 t, .int .i64 s] 37) = W := ⟨_, rfl⟩
  change ∀ i, (w.alloc (.cells #[.int .i64 n, .int .i64 q, .int .i64 g, .int .i64 m, .int .i64 t, .int .i64 s] 37)).cell? ⟨w.heap.size, i, none⟩ = _ at hcell
  rw [hW] at hcell hbel ⊢
  have c0 := hcell 0
  have c1 := hcell 1
  have c2 := hcell 2
  have c3 := hcell 3
  have c4 := hcell 4
  have c5 := hcell 5
  simp only [cCells, List.getElem?_cons_zero, List.getElem?_cons_succ] at c0 c1 c2 c3 c4 c5
  have HB := Lib.hid hbel
  clear hrow hbel hcell hW
  go_loopw [3, 4] (fun vr vq wr => ∃ k p : Nat, k ≤ 6 ∧ Hid (p = 2 ^ (k + 1)) ∧ p ≤ 128 ∧ (p ≤ 64 ↔ k < 6) ∧ vq = .int .i64 p ∧ vr = .bool (rm q k) ∧ wr = W) (fun _ vq _ => 128 - (intOf vq).toNat)
  case atStart => exact ⟨0, 2, by omega, rfl, by omega, by omega, rfl, rfl, rfl⟩
  case round =>
    obtain ⟨k, p, hk, HP, hp, hpk, rfl, rfl, rfl⟩ := hrel
    obtain ⟨r, hr⟩ : ∃ r, rm q k = r := ⟨_, rfl⟩
    rw [hr]
    by_cases hp64 : p ≤ 64
    · have hp1 : 2 ≤ p := by have := HP.out; have h2 := Nat.one_le_two_pow (n := k); rw [Nat.pow_succ] at this; omega
      have hP2 : Hid (p * 2 = 2 ^ (k + 1 + 1)) := by have := HP.out; show _ = _; rw [Nat.pow_succ, ← this]
      have hqp : decide (q = ((2 ^ (k + 1) : Nat) : Int)) = decide (q = (p : Int)) := by rw [HP.out]
      have hk6 : k + 1 ≤ 6 := by omega
      have hpp : p * 2 ≤ 64 ↔ k + 1 < 6 := by
        have hk' : k = 0 ∨ k = 1 ∨ k = 2 ∨ k = 3 ∨ k = 4 ∨ k = 5 := by omega
        have := HP.out
        rcases hk' with rfl | rfl | rfl | rfl | rfl | rfl <;> omega
      have HN : Hid (rm q (k + 1) = (r || decide (q = (p : Int)))) := by show (rm q k || decide (q = 2 ^ (k + 1))) = _; rw [hr, ← hqp]; norm_cast
      cases r
      · go_wp2_with fail
        go_roundw
        case rel => exact ⟨k + 1, p * 2, hk6, hP2, by omega, hpp, by go_num, by rw [HN.out]; rfl, trivial⟩
        case measure =>
          show _ < _
          simp only [intOf]; omega
      · go_wp2_with fail
        go_roundw
        case rel => exact ⟨k + 1, p * 2, hk6, hP2, by omega, hpp, by go_num, by rw [HN.out]; rfl, trivial⟩
        case measure =>
          show _ < _
          simp only [intOf]; omega
    · obtain rfl : k = 6 := by omega
      have hsix := rm_six q
      rw [hr] at hsix
      have HS := Lib.hid hsix
      clear hr hsix
      have no (h : ¬ Right ⟨n, q, g, m, t, s⟩) : res = false := by rw [← HR.out]; exact rt_no h
      cases r
      · obtain rfl := no (fun h => by have := HS.out.2 h.q; cases this)
        go_wp2
        go_ret
        exact ⟨rfl, HB.out⟩
      · by_cases h : 1 ≤ n
        rotate_left
        · obtain rfl := no (fun h' => h (by have := h'.n.1; simpa using this))
          go_wp2
          go_ret
          exact ⟨rfl, HB.out⟩
        · by_cases h : n ≤ 8
          rotate_left
          · obtain rfl := no (fun h' => h (by have := h'.n.2; simpa using this))
            go_wp2
            go_ret
            exact ⟨rfl, HB.out⟩
          · by_cases h : 1 ≤ g
            rotate_left
            · obtain rfl := no (fun h' => h (by have := h'.g.1; simpa using this))
              go_wp2
              go_ret
              exact ⟨rfl, HB.out⟩
            · by_cases h : g ≤ 256
              rotate_left
              · obtain rfl := no (fun h' => h (by have := h'.g.2; simpa using this))
                go_wp2
                go_ret
                exact ⟨rfl, HB.out⟩
              · by_cases h : n < m
                rotate_left
                · obtain rfl := no (fun h' => h (by have := h'.m.1; simpa using this))
                  go_wp2
                  go_ret
                  exact ⟨rfl, HB.out⟩
                · by_cases h : m ≤ 16
                  rotate_left
                  · obtain rfl := no (fun h' => h (by have := h'.m.2; simpa using this))
                    go_wp2
                    go_ret
                    exact ⟨rfl, HB.out⟩
                  · by_cases h : 2 ≤ t
                    rotate_left
                    · obtain rfl := no (fun h' => h (by have := h'.t.1; simpa using this))
                      go_wp2
                      go_ret
                      exact ⟨rfl, HB.out⟩
                    · by_cases h : t ≤ 200
                      rotate_left
                      · obtain rfl := no (fun h' => h (by have := h'.t.2; simpa using this))
                        go_wp2
                        go_ret
                        exact ⟨rfl, HB.out⟩
                      · by_cases h : 0 ≤ s
                        rotate_left
                        · obtain rfl := no (fun h' => h (by have := h'.s.1; simpa using this))
                          go_wp2
                          go_ret
                          exact ⟨rfl, HB.out⟩
                        · by_cases h : s ≤ 1000
                          rotate_left
                          · obtain rfl := no (fun h' => h (by have := h'.s.2; simpa using this))
                            go_wp2
                            go_ret
                            exact ⟨rfl, HB.out⟩
                          · obtain rfl : res = true := by rw [← HR.out]; exact rt_yes ⟨HS.out.1 rfl, ⟨by assumption, by assumption⟩, ⟨by assumption, by assumption⟩, ⟨by assumption, by assumption⟩, ⟨by assumption, by assumption⟩, ⟨by assumption, by assumption⟩⟩
                            go_wp2
                            go_ret
                            exact ⟨rfl, HB.out⟩

theorem within_any (n a b : Int) (w : World) : Calls Try.prog 103 #[.int .i64 n, .int .i64 a, .int .i64 b] w fun e w' => e = .returned (.bool (decide (a ≤ n ∧ n ≤ b))) ∧ w' = w := by
  obtain ⟨r, hr⟩ : ∃ r, decide (a ≤ n ∧ n ≤ b) = r := ⟨_, rfl⟩
  rw [hr]
  have HR := Lib.hid hr
  clear hr
  go_enter Try.func103, Try.ntmps103
  by_cases h1 : a ≤ n
  · by_cases h2 : n ≤ b
    · obtain rfl : r = true := by rw [← HR.out]; exact decide_eq_true ⟨h1, h2⟩
      go_wp2
      go_ret
      exact ⟨rfl, rfl⟩
    · obtain rfl : r = false := by rw [← HR.out]; exact decide_eq_false fun h => h2 h.2
      go_wp2
      go_ret
      exact ⟨rfl, rfl⟩
  · obtain rfl : r = false := by rw [← HR.out]; exact decide_eq_false fun h => h1 h.1
    go_wp2
    go_ret
    exact ⟨rfl, rfl⟩
theorem within_yes {n a b : Int} (h : a ≤ n ∧ n ≤ b) (w : World) : Calls Try.prog 103 #[.int .i64 n, .int .i64 a, .int .i64 b] w fun e w' => e = .returned (.bool true) ∧ w' = w := by
  have := within_any n a b w; rw [decide_eq_true h] at this; exact this
theorem within_no {n a b : Int} (h : ¬ (a ≤ n ∧ n ≤ b)) (w : World) : Calls Try.prog 103 #[.int .i64 n, .int .i64 a, .int .i64 b] w fun e w' => e = .returned (.bool false) ∧ w' = w := by
  have := within_any n a b w; rw [decide_eq_false h] at this; exact this

/-- is it a ring's room? -/
def isRoom (q : Int) : Bool := decide (q = 2 ∨ q = 4 ∨ q = 8 ∨ q = 16 ∨ q = 32 ∨ q = 64)
theorem room_bits : ∀ n < 65, 2 ≤ n → (bits BinOp.and IntKind.i64 ((n : Nat) : Int) ((n : Int) - 1) == 0) = isRoom n := by unfold isRoom; decide +kernel
theorem croom_any (q : Int) (w : World) : Calls Try.prog 104 #[.int .i64 q] w fun e w' => e = .returned (.bool (isRoom q)) ∧ w' = w := by
  obtain ⟨r, hr⟩ : ∃ r, isRoom q = r := ⟨_, rfl⟩
  rw [hr]
  have HR := Lib.hid hr
  clear hr
  go_enter Try.func104, Try.ntmps104
  by_cases h : 2 ≤ q ∧ q ≤ 64
  · obtain ⟨n, rfl⟩ : ∃ n : Nat, q = n := ⟨q.toNat, by omega⟩
    go_wp2_with fail
    refine (within_yes h _).mono ?_
    rintro e w1 ⟨rfl, rfl⟩
    go_wp2_with fail
    go_ret
    refine ⟨?_, rfl⟩
    show Ending.returned (.bool (bits BinOp.and IntKind.i64 ((n : Nat) : Int) ((n : Int) - 1) == 0)) = _
    rw [room_bits n (by omega) (by omega), HR.out]
  · obtain rfl : r = false := by rw [← HR.out]; exact decide_eq_false (by omega)
    go_wp2_with fail
    refine (within_no h _).mono ?_
    rintro e w1 ⟨rfl, rfl⟩
    go_wp2
    go_ret
    exact ⟨rfl, rfl⟩

/-- a config's value, boxed -/
theorem six_box (c : Cfg) (t : TypeId) (w : World) : (∀ i, (w.alloc (.cells #[.int .i64 c.n, .int .i64 c.q, .int .i64 c.g, .int .i64 c.m, .int .i64 c.t, .int .i64 c.s] t)).cell? ⟨w.heap.size, i, none⟩ = (cCells c)[i]?) ∧ Below w.heap.size w (w.alloc (.cells #[.int .i64 c.n, .int .i64 c.q, .int .i64 c.g, .int .i64 c.m, .int .i64 c.t, .int .i64 c.s] t)) :=
  ⟨fun i => (Row.new w t (cCells c)).cell i, (Below.refl w.heap.size w).alloc (Nat.le_refl _) _⟩
theorem isRoom_iff (q : Int) : isRoom q = true ↔ (q = 2 ∨ q = 4 ∨ q = 8 ∨ q = 16 ∨ q = 32 ∨ q = 64) := by unfold isRoom; exact decide_eq_true_iff
theorem right_of {c : Cfg} (h1 : 1 ≤ c.n ∧ c.n ≤ 8) (h2 : isRoom c.q = true) (h3 : 1 ≤ c.g ∧ c.g ≤ 256) (h4 : c.n + 1 ≤ c.m ∧ c.m ≤ 16) (h5 : 2 ≤ c.t ∧ c.t ≤ 200) (h6 : 0 ≤ c.s ∧ c.s ≤ 1000) : Right c :=
  ⟨(isRoom_iff _).1 h2, h1, h3, ⟨by omega, h4.2⟩, h5, h6⟩

set_option maxHeartbeats 400000 in
theorem cright_any (c : Cfg) (w : World) : Calls Try.prog 58 #[cVal c] w (Ans (.bool (rt c)) w) := by
  obtain ⟨res, hres⟩ : ∃ b, rt c = b := ⟨_, rfl⟩
  rw [hres]
  have HR := Lib.hid hres
  have no (h : ¬ Right c) : res = false := by rw [← HR.out]; exact rt_no h
  have hnw (h : c.n ≤ 8) : c.n + 1 ≤ 9223372036854775807 := by omega
  clear hres
  obtain ⟨n, q, g, m, t, s⟩ := c
  show Calls _ _ #[.agg #[.int .i64 n, .int .i64 q, .int .i64 g, .int .i64 m, .int .i64 t, .int .i64 s]] _ _
  go_enter Try.func58, Try.ntmps58
  go_wp2_with fail
  have hbox := six_box ⟨n, q, g, m, t, s⟩ 23 w
  obtain ⟨W, hW⟩ : ∃ W, w.alloc (.cells #[.int .i64 n, .int .i64 q, .int .i64 g, .int .i64 m, .int .i64 t, .int .i64 s] 23) = W := ⟨_, rfl⟩
  simp only [] at hbox
  rw [hW] at hbox ⊢
  have c0 := hbox.1 0
  have c1 := hbox.1 1
  have c2 := hbox.1 2
  have c3 := hbox.1 3
  have c4 := hbox.1 4
  have c5 := hbox.1 5
  simp only [cCells, List.getElem?_cons_zero, List.getElem?_cons_succ] at c0 c1 c2 c3 c4 c5
  have HB := Lib.hid hbox.2
  clear hbox hW
  go_wp2_with fail
  by_cases h1 : 1 ≤ n ∧ n ≤ 8
  rotate_left
  · obtain rfl := no fun h => h1 h.n
    refine (within_no h1 _).mono ?_
    rintro e w1 ⟨rfl, rfl⟩
    go_wp2
    go_ret
    exact ⟨rfl, HB.out⟩
  refine (within_yes h1 _).mono ?_
  rintro e w1 ⟨rfl, rfl⟩
  go_wp2_with fail
  refine (croom_any q _).mono ?_
  rintro e w1 ⟨rfl, rfl⟩
  cases h2 : isRoom q
  · obtain rfl := no fun h => by have := (isRoom_iff q).2 h.q; rw [h2] at this; cases this
    go_wp2
    go_ret
    exact ⟨rfl, HB.out⟩
  go_wp2_with fail
  by_cases h3 : 1 ≤ g ∧ g ≤ 256
  rotate_left
  · obtain rfl := no fun h => h3 h.g
    refine (within_no h3 _).mono ?_
    rintro e w1 ⟨rfl, rfl⟩
    go_wp2
    go_ret
    exact ⟨rfl, HB.out⟩
  refine (within_yes h3 _).mono ?_
  rintro e w1 ⟨rfl, rfl⟩
  have hn9 : n + 1 ≤ 9 := by omega
  have hn0 : 0 ≤ n + 1 := by omega
  go_wp2_with fail
  by_cases h4 : n + 1 ≤ m ∧ m ≤ 16
  rotate_left
  · obtain rfl := no fun h => h4 ⟨by have := h.m.1; simp only at this; omega, h.m.2⟩
    refine (within_no h4 _).mono ?_
    rintro e w1 ⟨rfl, rfl⟩
    go_wp2
    go_ret
    exact ⟨rfl, HB.out⟩
  refine (within_yes h4 _).mono ?_
  rintro e w1 ⟨rfl, rfl⟩
  go_wp2_with fail
  by_cases h5 : 2 ≤ t ∧ t ≤ 200
  rotate_left
  · obtain rfl := no fun h => h5 h.t
    refine (within_no h5 _).mono ?_
    rintro e w1 ⟨rfl, rfl⟩
    go_wp2
    go_ret
    exact ⟨rfl, HB.out⟩
  refine (within_yes h5 _).mono ?_
  rintro e w1 ⟨rfl, rfl⟩
  go_wp2_with fail
  by_cases h6 : 0 ≤ s ∧ s ≤ 1000
  rotate_left
  · obtain rfl := no fun h => h6 h.s
    refine (within_no h6 _).mono ?_
    rintro e w1 ⟨rfl, rfl⟩
    go_wp2
    go_ret
    exact ⟨rfl, HB.out⟩
  refine (within_yes h6 _).mono ?_
  rintro e w1 ⟨rfl, rfl⟩
  obtain rfl : res = true := by rw [← HR.out]; exact rt_yes (right_of h1 h2 h3 h4 h5 h6)
  go_wp2
  go_ret
  exact ⟨rfl, HB.out⟩

theorem each_any (c : Cfg) (hq : 0 ≤ c.q ∧ c.q ≤ 64) (w : World) : Calls Try.prog 102 #[cVal c] w (Ans (.int .i64 (6 + c.q)) w) := by
  obtain ⟨n, q, g, m, t, s⟩ := c
  obtain ⟨h0, h1⟩ : 0 ≤ q ∧ q ≤ 64 := hq
  show Calls _ _ #[.agg #[.int .i64 n, .int .i64 q, .int .i64 g, .int .i64 m, .int .i64 t, .int .i64 s]] _ _
  go_enter Try.func102, Try.ntmps102
  go_wp2_with fail
  have c1 := (six_box ⟨n, q, g, m, t, s⟩ 23 w).1 1
  simp only [cCells, List.getElem?_cons_zero, List.getElem?_cons_succ] at c1
  have HB := Lib.hid (six_box ⟨n, q, g, m, t, s⟩ 23 w).2
  go_wp2
  go_ret
  exact ⟨rfl, HB.out⟩
end Go.Proofs.Ytkhfanhboooilaa

/- The code's Cells and addresses (layer 5), walked; without names. -/
namespace Go.Proofs.Ytkhfanhboooilaa
open Go.RowKit Go.Cg
theorem k_al {g j : Nat} {wr w1 : World} {x : Value} (h : wr.cell? ⟨g, j, none⟩ = some x) (hb : Below wr.heap.size wr w1) : w1.cell? ⟨g, j, none⟩ = some x := by rw [hb.cell (block_lt_of_cell h)]; exact h
theorem six_keep {g : Nat} {a0 a1 a2 a3 a4 a5 : Value} {w wr w1 : World} (h : (wr.cell? ⟨g, 0, none⟩ = some a0 ∧ wr.cell? ⟨g, 1, none⟩ = some a1 ∧ wr.cell? ⟨g, 2, none⟩ = some a2 ∧ wr.cell? ⟨g, 3, none⟩ = some a3 ∧ wr.cell? ⟨g, 4, none⟩ = some a4 ∧ wr.cell? ⟨g, 5, none⟩ = some a5) ∧ Below w.heap.size w wr) (hb : Below wr.heap.size wr w1) : (w1.cell? ⟨g, 0, none⟩ = some a0 ∧ w1.cell? ⟨g, 1, none⟩ = some a1 ∧ w1.cell? ⟨g, 2, none⟩ = some a2 ∧ w1.cell? ⟨g, 3, none⟩ = some a3 ∧ w1.cell? ⟨g, 4, none⟩ = some a4 ∧ w1.cell? ⟨g, 5, none⟩ = some a5) ∧ Below w.heap.size w w1 :=
  ⟨⟨k_al h.1.1 hb, k_al h.1.2.1 hb, k_al h.1.2.2.1 hb, k_al h.1.2.2.2.1 hb, k_al h.1.2.2.2.2.1 hb, k_al h.1.2.2.2.2.2 hb⟩, h.2.trans (hb.mono h.2.size)⟩
/-- a config's cells, where it was boxed -/
theorem six_at (n q g m t s : Int) (T : TypeId) (w : World) : ((w.alloc (.cells #[.int .i64 n, .int .i64 q, .int .i64 g, .int .i64 m, .int .i64 t, .int .i64 s] T)).cell? ⟨w.heap.size, 0, none⟩ = some (.int .i64 n) ∧ (w.alloc (.cells #[.int .i64 n, .int .i64 q, .int .i64 g, .int .i64 m, .int .i64 t, .int .i64 s] T)).cell? ⟨w.heap.size, 1, none⟩ = some (.int .i64 q) ∧ (w.alloc (.cells #[.int .i64 n, .int .i64 q, .int .i64 g, .int .i64 m, .int .i64 t, .int .i64 s] T)).cell? ⟨w.heap.size, 2, none⟩ = some (.int .i64 g) ∧ (w.alloc (.cells #[.int .i64 n, .int .i64 q, .int .i64 g, .int .i64 m, .int .i64 t, .int .i64 s] T)).cell? ⟨w.heap.size, 3, none⟩ = some (.int .i64 m) ∧ (w.alloc (.cells #[.int .i64 n, .int .i64 q, .int .i64 g, .int .i64 m, .int .i64 t, .int .i64 s] T)).cell? ⟨w.heap.size, 4, none⟩ = some (.int .i64 t) ∧ (w.alloc (.cells #[.int .i64 n, .int .i64 q, .int .i64 g, .int .i64 m, .int .i64 t, .int .i64 s] T)).cell? ⟨w.heap.size, 5, none⟩ = some (.int .i64 s)) ∧ Below w.heap.size w (w.alloc (.cells #[.int .i64 n, .int .i64 q, .int .i64 g, .int .i64 m, .int .i64 t, .int .i64 s] T)) := by
  obtain ⟨h, hb⟩ := six_box ⟨n, q, g, m, t, s⟩ T w
  exact ⟨⟨h 0, h 1, h 2, h 3, h 4, h 5⟩, hb⟩

set_option maxRecDepth 10000 in
set_option maxHeartbeats 1000000 in
theorem ccells_some (N Q G M T S : Nat) (hN : N ≤ 8) (hQ : Q ≤ 64) (hR : Right ⟨N, Q, G, M, T, S⟩) (w : World) : Calls Try.prog 57 #[cVal ⟨N, Q, G, M, T, S⟩] w (Ans (.int .i64 (4 + (N : Int) * (6 + (Q : Int)))) w) := by
  have HRt := Lib.hid (rt_yes hR)
  clear hR
  have hm := Nat.mul_le_mul hN (show 6 + Q ≤ 70 by omega)
  have hlo : 0 ≤ (N : Int) * (6 + (Q : Int)) := by have : (((N * (6 + Q) : Nat)) : Int) = (N : Int) * (6 + (Q : Int)) := by push_cast; rfl
                                                   omega
  have hhi : (N : Int) * (6 + (Q : Int)) ≤ 560 := by have : (((N * (6 + Q) : Nat)) : Int) = (N : Int) * (6 + (Q : Int)) := by push_cast; rfl
                                                     omega
  clear hm
  have HS := Lib.hid (six_at N Q G M T S 23 w)
  show Calls _ _ #[.agg #[.int .i64 N, .int .i64 Q, .int .i64 G, .int .i64 M, .int .i64 T, .int .i64 S]] _ _
  go_enter Try.func57, Try.ntmps57
  go_wp2_with (go_at_call 58; refine (cright_any ⟨N, Q, G, M, T, S⟩ _).mono ?_; rintro e w3 ⟨rfl, hb3⟩; rw [HRt.out])
  have HS3 := Lib.hid (six_keep HS.out hb3)
  clear hb3 HS
  go_region_held3 (fun w' => (w'.cell? ⟨w.heap.size, 0, none⟩ = some (.int .i64 N) ∧ w'.cell? ⟨w.heap.size, 1, none⟩ = some (.int .i64 Q) ∧ w'.cell? ⟨w.heap.size, 2, none⟩ = some (.int .i64 G) ∧ w'.cell? ⟨w.heap.size, 3, none⟩ = some (.int .i64 M) ∧ w'.cell? ⟨w.heap.size, 4, none⟩ = some (.int .i64 T) ∧ w'.cell? ⟨w.heap.size, 5, none⟩ = some (.int .i64 S)) ∧ Below w.heap.size w w') (first | exact six_keep HS3.out (Below.refl _ _).drew | exact six_keep (by assumption) (by assumption))
    (first | (go_at_call 102; refine (each_any ⟨N, Q, G, M, T, S⟩ ⟨by show (0 : Int) ≤ (Q : Int); omega, by show (Q : Int) ≤ 64; omega⟩ _).mono ?_; rintro e w4 ⟨rfl, hb4⟩))
  rename_i hh
  have HB := Lib.hid hh.2
  clear hh
  go_wp2
  go_ret
  refine ⟨?_, HB.out⟩
  show Ending.returned (.int .i64 (IntKind.i64.wrap (4 + IntKind.i64.wrap ((N : Int) * (6 + (Q : Int)))))) = _
  rw [IntWalk.i64_in ((N : Int) * (6 + (Q : Int))) (by omega), IntWalk.i64_in _ (by omega)]
theorem ccells_none (c : Cfg) (hR : ¬ Right c) (w : World) : Calls Try.prog 57 #[cVal c] w (Ans (.int .i64 0) w) := by
  have HRt := Lib.hid (rt_no hR)
  clear hR
  obtain ⟨n, q, g, m, t, s⟩ := c
  have HS := Lib.hid (six_at n q g m t s 23 w)
  show Calls _ _ #[.agg #[.int .i64 n, .int .i64 q, .int .i64 g, .int .i64 m, .int .i64 t, .int .i64 s]] _ _
  go_enter Try.func57, Try.ntmps57
  go_wp2_with (go_at_call 58; refine (cright_any ⟨n, q, g, m, t, s⟩ _).mono ?_; rintro e w3 ⟨rfl, hb3⟩; rw [HRt.out])
  have HB := Lib.hid (HS.out.2.trans (hb3.mono HS.out.2.size))
  clear hb3
  go_ret
  exact ⟨rfl, HB.out⟩
/-- Cells: as many as there are names -/
theorem ccells_any (c : Cfg) (w : World) : Calls Try.prog 57 #[cVal c] w (Ans (.int .i64 (ccN c)) w) := by
  by_cases hR : Right c
  · rw [ccN_yes hR]
    obtain ⟨a, b, g, m, t, s, rfl, h1, h2, h3, h4, h5, h6⟩ := hR.small
    have := ccells_some a b g m t s h1 h2 hR w
    rw [show 4 + (a : Int) * (6 + (b : Int)) = ((4 + a * (6 + b) : Nat) : Int) by push_cast; rfl] at this
    exact this
  · rw [ccN_no hR]; exact ccells_none c hR w

/-- a processor's value -/
def pVal (c : Cfg) (p : Int) : Value := .agg #[.int .i64 c.n, .int .i64 c.q, .int .i64 c.g, .int .i64 c.m, .int .i64 c.t, .int .i64 c.s, .int .i64 p]
theorem sev_at (n q g m t s p : Int) (T : TypeId) (w : World) : ((w.alloc (.cells #[.int .i64 n, .int .i64 q, .int .i64 g, .int .i64 m, .int .i64 t, .int .i64 s, .int .i64 p] T)).cell? ⟨w.heap.size, 0, none⟩ = some (.int .i64 n) ∧ (w.alloc (.cells #[.int .i64 n, .int .i64 q, .int .i64 g, .int .i64 m, .int .i64 t, .int .i64 s, .int .i64 p] T)).cell? ⟨w.heap.size, 1, none⟩ = some (.int .i64 q) ∧ (w.alloc (.cells #[.int .i64 n, .int .i64 q, .int .i64 g, .int .i64 m, .int .i64 t, .int .i64 s, .int .i64 p] T)).cell? ⟨w.heap.size, 2, none⟩ = some (.int .i64 g) ∧ (w.alloc (.cells #[.int .i64 n, .int .i64 q, .int .i64 g, .int .i64 m, .int .i64 t, .int .i64 s, .int .i64 p] T)).cell? ⟨w.heap.size, 3, none⟩ = some (.int .i64 m) ∧ (w.alloc (.cells #[.int .i64 n, .int .i64 q, .int .i64 g, .int .i64 m, .int .i64 t, .int .i64 s, .int .i64 p] T)).cell? ⟨w.heap.size, 4, none⟩ = some (.int .i64 t) ∧ (w.alloc (.cells #[.int .i64 n, .int .i64 q, .int .i64 g, .int .i64 m, .int .i64 t, .int .i64 s, .int .i64 p] T)).cell? ⟨w.heap.size, 5, none⟩ = some (.int .i64 s) ∧ (w.alloc (.cells #[.int .i64 n, .int .i64 q, .int .i64 g, .int .i64 m, .int .i64 t, .int .i64 s, .int .i64 p] T)).cell? ⟨w.heap.size, 6, none⟩ = some (.int .i64 p)) ∧ Below w.heap.size w (w.alloc (.cells #[.int .i64 n, .int .i64 q, .int .i64 g, .int .i64 m, .int .i64 t, .int .i64 s, .int .i64 p] T)) := by
  have h (i : Nat) := (Row.new w T [.int .i64 n, .int .i64 q, .int .i64 g, .int .i64 m, .int .i64 t, .int .i64 s, .int .i64 p]).cell i
  exact ⟨⟨h 0, h 1, h 2, h 3, h 4, h 5, h 6⟩, (Below.refl w.heap.size w).alloc (Nat.le_refl _) _⟩
theorem sev_keep {g : Nat} {a0 a1 a2 a3 a4 a5 a6 : Value} {w wr w1 : World} (h : (wr.cell? ⟨g, 0, none⟩ = some a0 ∧ wr.cell? ⟨g, 1, none⟩ = some a1 ∧ wr.cell? ⟨g, 2, none⟩ = some a2 ∧ wr.cell? ⟨g, 3, none⟩ = some a3 ∧ wr.cell? ⟨g, 4, none⟩ = some a4 ∧ wr.cell? ⟨g, 5, none⟩ = some a5 ∧ wr.cell? ⟨g, 6, none⟩ = some a6) ∧ Below w.heap.size w wr) (hb : Below wr.heap.size wr w1) : (w1.cell? ⟨g, 0, none⟩ = some a0 ∧ w1.cell? ⟨g, 1, none⟩ = some a1 ∧ w1.cell? ⟨g, 2, none⟩ = some a2 ∧ w1.cell? ⟨g, 3, none⟩ = some a3 ∧ w1.cell? ⟨g, 4, none⟩ = some a4 ∧ w1.cell? ⟨g, 5, none⟩ = some a5 ∧ w1.cell? ⟨g, 6, none⟩ = some a6) ∧ Below w.heap.size w w1 :=
  ⟨⟨k_al h.1.1 hb, k_al h.1.2.1 hb, k_al h.1.2.2.1 hb, k_al h.1.2.2.2.1 hb, k_al h.1.2.2.2.2.1 hb, k_al h.1.2.2.2.2.2.1 hb, k_al h.1.2.2.2.2.2.2 hb⟩, h.2.trans (hb.mono h.2.size)⟩
theorem pcell_wrong (c : Cfg) (hR : ¬ Right c) (p : Int) (k : Int) (w : World) : Calls Try.prog 92 #[pVal c p, .int .i64 k] w (Ans (.int .i64 (-1)) w) := by
  have HRt := Lib.hid (rt_no hR)
  clear hR
  obtain ⟨n, q, g, m, t, s⟩ := c
  have HS := Lib.hid (sev_at n q g m t s p 137 w)
  have H0 := HS.out.1
  obtain ⟨c0, c1, c2, c3, c4, c5, c6⟩ := H0
  show Calls _ _ #[.agg #[.int .i64 n, .int .i64 q, .int .i64 g, .int .i64 m, .int .i64 t, .int .i64 s, .int .i64 p], _] _ _
  go_enter Try.func92, Try.ntmps92
  go_wp2_with (go_at_call 58; refine (cright_any ⟨n, q, g, m, t, s⟩ _).mono ?_; rintro e w3 ⟨rfl, hb3⟩; rw [HRt.out])
  have HB := Lib.hid (HS.out.2.trans (hb3.mono HS.out.2.size))
  clear hb3
  go_ret
  exact ⟨rfl, HB.out⟩
theorem pcell_out (c : Cfg) (hR : Right c) (p : Int) (hp : ¬ (0 ≤ p ∧ p < c.n)) (k : Int) (w : World) : Calls Try.prog 92 #[pVal c p, .int .i64 k] w (Ans (.int .i64 (-1)) w) := by
  have HRt := Lib.hid (rt_yes hR)
  obtain ⟨n, q, g, m, t, s, rfl, h1, h2, -⟩ := hR.small
  clear hR
  have HS := Lib.hid (sev_at n q g m t s p 137 w)
  have H0 := HS.out.1
  obtain ⟨c0, c1, c2, c3, c4, c5, c6⟩ := H0
  have hp2 : ¬ (0 ≤ p ∧ p ≤ (n : Int) - 1) := fun h => hp ⟨h.1, by show p < (n : Int); omega⟩
  show Calls _ _ #[.agg #[.int .i64 n, .int .i64 q, .int .i64 g, .int .i64 m, .int .i64 t, .int .i64 s, .int .i64 p], _] _ _
  go_enter Try.func92, Try.ntmps92
  go_wp2_with (go_at_call 58; refine (cright_any ⟨n, q, g, m, t, s⟩ _).mono ?_; rintro e w3 ⟨rfl, hb3⟩; rw [HRt.out]; have HS3 := Lib.hid (sev_keep HS.out hb3); have H3 := HS3.out.1; obtain ⟨d0, d1, d2, d3, d4, d5, d6⟩ := H3; clear hb3)
  go_wp2_with (go_at_call 103; refine (within_no hp2 _).mono ?_; rintro e w4 ⟨rfl, rfl⟩)
  have HB := Lib.hid HS3.out.2
  go_ret
  exact ⟨rfl, HB.out⟩
set_option maxRecDepth 10000 in
set_option maxHeartbeats 1000000 in
theorem pcell_in (N Q G M T S p k : Nat) (hN : N ≤ 8) (hQ : Q ≤ 64) (hR : Right ⟨N, Q, G, M, T, S⟩) (hp : p < N) (hk : k ≤ 100) (w : World) : Calls Try.prog 92 #[pVal ⟨N, Q, G, M, T, S⟩ p, .int .i64 k] w (Ans (.int .i64 (4 + (p : Int) * (6 + (Q : Int)) + k)) w) := by
  have HRt := Lib.hid (rt_yes hR)
  clear hR
  have hm := Nat.mul_le_mul (show p ≤ 8 by omega) (show 6 + Q ≤ 70 by omega)
  have hlo : 0 ≤ (p : Int) * (6 + (Q : Int)) := by have : (((p * (6 + Q) : Nat)) : Int) = (p : Int) * (6 + (Q : Int)) := by push_cast; rfl
                                                   omega
  have hhi : (p : Int) * (6 + (Q : Int)) ≤ 560 := by have : (((p * (6 + Q) : Nat)) : Int) = (p : Int) * (6 + (Q : Int)) := by push_cast; rfl
                                                     omega
  clear hm
  have HS := Lib.hid (sev_at N Q G M T S p 137 w)
  have H0 := HS.out.1
  obtain ⟨c0, c1, c2, c3, c4, c5, c6⟩ := H0
  have hp2 : 0 ≤ (p : Int) ∧ (p : Int) ≤ (N : Int) - 1 := ⟨by omega, by omega⟩
  show Calls _ _ #[.agg #[.int .i64 N, .int .i64 Q, .int .i64 G, .int .i64 M, .int .i64 T, .int .i64 S, .int .i64 p], _] _ _
  go_enter Try.func92, Try.ntmps92
  go_wp2_with (go_at_call 58; refine (cright_any ⟨N, Q, G, M, T, S⟩ _).mono ?_; rintro e w3 ⟨rfl, hb3⟩; rw [HRt.out]; have HS3 := Lib.hid (sev_keep HS.out hb3); have H3 := HS3.out.1; obtain ⟨d0, d1, d2, d3, d4, d5, d6⟩ := H3; clear hb3)
  go_wp2_with (go_at_call 103; refine (within_yes hp2 _).mono ?_; rintro e w4 ⟨rfl, rfl⟩)
  clear c0 c1 c2 c3 c4 c5 c6 d0 d1 d2 d3 d4 d5 d6 HS
  go_region_held3 (fun w' => (w'.cell? ⟨w.heap.size, 0, none⟩ = some (.int .i64 N) ∧ w'.cell? ⟨w.heap.size, 1, none⟩ = some (.int .i64 Q) ∧ w'.cell? ⟨w.heap.size, 2, none⟩ = some (.int .i64 G) ∧ w'.cell? ⟨w.heap.size, 3, none⟩ = some (.int .i64 M) ∧ w'.cell? ⟨w.heap.size, 4, none⟩ = some (.int .i64 T) ∧ w'.cell? ⟨w.heap.size, 5, none⟩ = some (.int .i64 S) ∧ w'.cell? ⟨w.heap.size, 6, none⟩ = some (.int .i64 p)) ∧ Below w.heap.size w w') (first | exact sev_keep HS3.out (Below.refl _ _).drew | exact sev_keep (by assumption) (by assumption))
    (first | (go_at_call 102; refine (each_any ⟨N, Q, G, M, T, S⟩ ⟨by show (0 : Int) ≤ (Q : Int); omega, by show (Q : Int) ≤ 64; omega⟩ _).mono ?_; rintro e w4 ⟨rfl, hb4⟩))
  rename_i hh
  have HB := Lib.hid hh.2
  clear hh
  go_wp2
  go_ret
  refine ⟨?_, HB.out⟩
  show Ending.returned (.int .i64 (IntKind.i64.wrap (IntKind.i64.wrap (4 + IntKind.i64.wrap ((p : Int) * (6 + (Q : Int)))) + (k : Int)))) = _
  rw [IntWalk.i64_in ((p : Int) * (6 + (Q : Int))) (by omega), IntWalk.i64_in (4 + (p : Int) * (6 + (Q : Int))) (by omega), IntWalk.i64_in _ (by omega)]
theorem pcell_any (c : Cfg) (p : Int) (k : Nat) (hk : k ≤ 100) (w : World) : Calls Try.prog 92 #[pVal c p, .int .i64 k] w (Ans (.int .i64 (plV c p k)) w) := by
  by_cases hR : Right c
  · by_cases hp : 0 ≤ p ∧ p < c.n
    · rw [plV_yes ⟨hR, hp⟩]
      obtain ⟨a, b, g, m, t, s, rfl, h1, h2, h3, h4, h5, h6⟩ := hR.small
      obtain ⟨p, rfl⟩ : ∃ i : Nat, p = i := ⟨p.toNat, by omega⟩
      exact pcell_in a b g m t s p k h1 h2 hR (by have := hp.2; simp only at this; omega) hk w
    · rw [plV_no fun h => hp h.2]; exact pcell_out c hR p hp k w
  · rw [plV_no fun h => hR h.1]; exact pcell_wrong c hR p k w

/-- one P's address: Word, Next, Stat, Tick, Sys, Flag -/
theorem word_any (c : Cfg) (p : Int) (w : World) : Calls Try.prog 33 #[cVal c, .int .i64 p] w (Ans (.int .i64 (plV c p 0)) w) := by
  obtain ⟨r, hr⟩ : ∃ r, plV c p 0 = r := ⟨_, rfl⟩
  have hc := pcell_any c p 0 (by omega)
  rw [hr] at hc ⊢
  clear hr
  obtain ⟨n, q, g, m, t, s⟩ := c
  have HS := Lib.hid (six_at n q g m t s 23 w)
  have H0 := HS.out.1
  obtain ⟨c0, c1, c2, c3, c4, c5⟩ := H0
  show Calls _ _ #[.agg #[.int .i64 n, .int .i64 q, .int .i64 g, .int .i64 m, .int .i64 t, .int .i64 s], _] _ _
  go_enter Try.func33, Try.ntmps33
  go_wp2_with fail
  refine (hc _).mono ?_
  rintro e w1 ⟨rfl, hb1⟩
  have HB := Lib.hid (HS.out.2.trans (hb1.mono HS.out.2.size))
  clear hb1 c0 c1 c2 c3 c4 c5
  go_wp2
  go_ret
  exact ⟨rfl, HB.out⟩
theorem next_any (c : Cfg) (p : Int) (w : World) : Calls Try.prog 61 #[cVal c, .int .i64 p] w (Ans (.int .i64 (plV c p 1)) w) := by
  obtain ⟨r, hr⟩ : ∃ r, plV c p 1 = r := ⟨_, rfl⟩
  have hc := pcell_any c p 1 (by omega)
  rw [hr] at hc ⊢
  clear hr
  obtain ⟨n, q, g, m, t, s⟩ := c
  have HS := Lib.hid (six_at n q g m t s 23 w)
  have H0 := HS.out.1
  obtain ⟨c0, c1, c2, c3, c4, c5⟩ := H0
  show Calls _ _ #[.agg #[.int .i64 n, .int .i64 q, .int .i64 g, .int .i64 m, .int .i64 t, .int .i64 s], _] _ _
  go_enter Try.func61, Try.ntmps61
  go_wp2_with fail
  refine (hc _).mono ?_
  rintro e w1 ⟨rfl, hb1⟩
  have HB := Lib.hid (HS.out.2.trans (hb1.mono HS.out.2.size))
  clear hb1 c0 c1 c2 c3 c4 c5
  go_wp2
  go_ret
  exact ⟨rfl, HB.out⟩
theorem stat_any (c : Cfg) (p : Int) (w : World) : Calls Try.prog 62 #[cVal c, .int .i64 p] w (Ans (.int .i64 (plV c p 2)) w) := by
  obtain ⟨r, hr⟩ : ∃ r, plV c p 2 = r := ⟨_, rfl⟩
  have hc := pcell_any c p 2 (by omega)
  rw [hr] at hc ⊢
  clear hr
  obtain ⟨n, q, g, m, t, s⟩ := c
  have HS := Lib.hid (six_at n q g m t s 23 w)
  have H0 := HS.out.1
  obtain ⟨c0, c1, c2, c3, c4, c5⟩ := H0
  show Calls _ _ #[.agg #[.int .i64 n, .int .i64 q, .int .i64 g, .int .i64 m, .int .i64 t, .int .i64 s], _] _ _
  go_enter Try.func62, Try.ntmps62
  go_wp2_with fail
  refine (hc _).mono ?_
  rintro e w1 ⟨rfl, hb1⟩
  have HB := Lib.hid (HS.out.2.trans (hb1.mono HS.out.2.size))
  clear hb1 c0 c1 c2 c3 c4 c5
  go_wp2
  go_ret
  exact ⟨rfl, HB.out⟩
theorem tick_any (c : Cfg) (p : Int) (w : World) : Calls Try.prog 63 #[cVal c, .int .i64 p] w (Ans (.int .i64 (plV c p 3)) w) := by
  obtain ⟨r, hr⟩ : ∃ r, plV c p 3 = r := ⟨_, rfl⟩
  have hc := pcell_any c p 3 (by omega)
  rw [hr] at hc ⊢
  clear hr
  obtain ⟨n, q, g, m, t, s⟩ := c
  have HS := Lib.hid (six_at n q g m t s 23 w)
  have H0 := HS.out.1
  obtain ⟨c0, c1, c2, c3, c4, c5⟩ := H0
  show Calls _ _ #[.agg #[.int .i64 n, .int .i64 q, .int .i64 g, .int .i64 m, .int .i64 t, .int .i64 s], _] _ _
  go_enter Try.func63, Try.ntmps63
  go_wp2_with fail
  refine (hc _).mono ?_
  rintro e w1 ⟨rfl, hb1⟩
  have HB := Lib.hid (HS.out.2.trans (hb1.mono HS.out.2.size))
  clear hb1 c0 c1 c2 c3 c4 c5
  go_wp2
  go_ret
  exact ⟨rfl, HB.out⟩
theorem sys_any (c : Cfg) (p : Int) (w : World) : Calls Try.prog 64 #[cVal c, .int .i64 p] w (Ans (.int .i64 (plV c p 4)) w) := by
  obtain ⟨r, hr⟩ : ∃ r, plV c p 4 = r := ⟨_, rfl⟩
  have hc := pcell_any c p 4 (by omega)
  rw [hr] at hc ⊢
  clear hr
  obtain ⟨n, q, g, m, t, s⟩ := c
  have HS := Lib.hid (six_at n q g m t s 23 w)
  have H0 := HS.out.1
  obtain ⟨c0, c1, c2, c3, c4, c5⟩ := H0
  show Calls _ _ #[.agg #[.int .i64 n, .int .i64 q, .int .i64 g, .int .i64 m, .int .i64 t, .int .i64 s], _] _ _
  go_enter Try.func64, Try.ntmps64
  go_wp2_with fail
  refine (hc _).mono ?_
  rintro e w1 ⟨rfl, hb1⟩
  have HB := Lib.hid (HS.out.2.trans (hb1.mono HS.out.2.size))
  clear hb1 c0 c1 c2 c3 c4 c5
  go_wp2
  go_ret
  exact ⟨rfl, HB.out⟩
theorem flag_any (c : Cfg) (p : Int) (w : World) : Calls Try.prog 65 #[cVal c, .int .i64 p] w (Ans (.int .i64 (plV c p 5)) w) := by
  obtain ⟨r, hr⟩ : ∃ r, plV c p 5 = r := ⟨_, rfl⟩
  have hc := pcell_any c p 5 (by omega)
  rw [hr] at hc ⊢
  clear hr
  obtain ⟨n, q, g, m, t, s⟩ := c
  have HS := Lib.hid (six_at n q g m t s 23 w)
  have H0 := HS.out.1
  obtain ⟨c0, c1, c2, c3, c4, c5⟩ := H0
  show Calls _ _ #[.agg #[.int .i64 n, .int .i64 q, .int .i64 g, .int .i64 m, .int .i64 t, .int .i64 s], _] _ _
  go_enter Try.func65, Try.ntmps65
  go_wp2_with fail
  refine (hc _).mono ?_
  rintro e w1 ⟨rfl, hb1⟩
  have HB := Lib.hid (HS.out.2.trans (hb1.mono HS.out.2.size))
  clear hb1 c0 c1 c2 c3 c4 c5
  go_wp2
  go_ret
  exact ⟨rfl, HB.out⟩

set_option maxHeartbeats 400000 in
theorem pslot_any (c : Cfg) (p : Int) (i : Nat) (hi : i < 4294967296) (w : World) : Calls Try.prog 105 #[pVal c p, .int .u32 i] w (Ans (.int .i64 (slP c p i)) w) := by
  unfold slP
  by_cases h : Right c ∧ 0 ≤ p ∧ p < c.n
  · rw [if_pos h]
    have hc := pcell_any c p 6 (by omega)
    rw [plV_yes h] at hc
    obtain ⟨hR, h0, hpn⟩ := h
    have hq := hR.q
    obtain ⟨N, Q, G, M, T, S, rfl, h1, h2, -⟩ := hR.small
    obtain ⟨p, rfl⟩ : ∃ i : Nat, p = i := ⟨p.toNat, by omega⟩
    clear hR
    simp only at hq hpn hc ⊢
    have hQ1 : 2 ≤ Q := by omega
    have hm := Nat.mul_le_mul (show p ≤ 8 by omega) (show 6 + Q ≤ 70 by omega)
    obtain ⟨P, hP⟩ : ∃ P : Nat, (p : Int) * (6 + (Q : Int)) = P := ⟨p * (6 + Q), by push_cast; rfl⟩
    have hP2 : P ≤ 560 := by have : (((p * (6 + Q) : Nat)) : Int) = (p : Int) * (6 + (Q : Int)) := by push_cast; rfl
                             omega
    rw [hP] at hc ⊢
    clear hP hm hpn hq
    obtain ⟨r, hr⟩ : ∃ r : Nat, i % Q = r := ⟨_, rfl⟩
    have hre : (i : Int) % (Q : Int) = (r : Int) := by rw [← hr]; rfl
    have hrt : (i : Int).tmod (Q : Int) = (r : Int) := by rw [← hr]; rfl
    have hrl : r < 64 := by rw [← hr]; exact Nat.lt_of_lt_of_le (Nat.mod_lt _ (by omega)) h2
    rw [hre]
    have hqw : IntKind.u32.wrap (Q : Int) = Q := IntWalk.u32_in _ (by omega)
    have q1 : ¬ ((Q : Int) = 0) := by omega
    have q2 : ¬ (Q = 0) := by omega
    have p1 : ¬ (4 + (P : Int) + ((6 : Nat) : Int) < 0) := by omega
    have HS := Lib.hid (sev_at N Q G M T S p 137 w)
    have H0 := HS.out.1
    obtain ⟨c0, c1, c2, c3, c4, c5, c6⟩ := H0
    show Calls _ _ #[.agg #[.int .i64 N, .int .i64 Q, .int .i64 G, .int .i64 M, .int .i64 T, .int .i64 S, .int .i64 p], _] _ _
    go_enter Try.func105, Try.ntmps105
    go_wp2_with fail
    refine (hc _).mono ?_
    rintro e w1 ⟨rfl, hb1⟩
    have HS3 := Lib.hid (sev_keep HS.out hb1)
    have H3 := HS3.out.1
    obtain ⟨d0, d1, d2, d3, d4, d5, d6⟩ := H3
    clear c0 c1 c2 c3 c4 c5 c6 hb1
    go_wp2
    go_ret
    refine ⟨?_, HS3.out.2⟩
    rfl
  · rw [if_neg h]
    have hc := pcell_any c p 6 (by omega)
    rw [plV_no h] at hc
    obtain ⟨n, q, g, m, t, s⟩ := c
    have HS := Lib.hid (sev_at n q g m t s p 137 w)
    have H0 := HS.out.1
    obtain ⟨c0, c1, c2, c3, c4, c5, c6⟩ := H0
    show Calls _ _ #[.agg #[.int .i64 n, .int .i64 q, .int .i64 g, .int .i64 m, .int .i64 t, .int .i64 s, .int .i64 p], _] _ _
    go_enter Try.func105, Try.ntmps105
    go_wp2_with fail
    refine (hc _).mono ?_
    rintro e w1 ⟨rfl, hb1⟩
    have HB := Lib.hid (HS.out.2.trans (hb1.mono HS.out.2.size))
    clear hb1 c0 c1 c2 c3 c4 c5 c6
    go_wp2
    go_ret
    exact ⟨rfl, HB.out⟩
theorem cslot_any (c : Cfg) (p : Int) (i : Nat) (hi : i < 4294967296) (w : World) : Calls Try.prog 60 #[cVal c, .int .i64 p, .int .u32 i] w (Ans (.int .i64 (slP c p i)) w) := by
  obtain ⟨r, hr⟩ : ∃ r, slP c p i = r := ⟨_, rfl⟩
  have hc := pslot_any c p i hi
  rw [hr] at hc ⊢
  clear hr
  obtain ⟨n, q, g, m, t, s⟩ := c
  have HS := Lib.hid (six_at n q g m t s 23 w)
  have H0 := HS.out.1
  obtain ⟨c0, c1, c2, c3, c4, c5⟩ := H0
  show Calls _ _ #[.agg #[.int .i64 n, .int .i64 q, .int .i64 g, .int .i64 m, .int .i64 t, .int .i64 s], _, _] _ _
  go_enter Try.func60, Try.ntmps60
  go_wp2_with fail
  refine (hc _).mono ?_
  rintro e w1 ⟨rfl, hb1⟩
  have HB := Lib.hid (HS.out.2.trans (hb1.mono HS.out.2.size))
  clear hb1 c0 c1 c2 c3 c4 c5
  go_wp2
  go_ret
  exact ⟨rfl, HB.out⟩
end Go.Proofs.Ytkhfanhboooilaa

/- The documents' byteAt and Filled (from layer 9 on), walked. -/
namespace Go.Proofs.Ytkhfanhboooilaa
open Go.RowKit Go.Cg Go.Pu Go.Wd

theorem w32y (n : Int) : IntKind.u32.wrap n = n % 4294967296 := by simp [IntKind.wrap, IntKind.bits, IntKind.signed]
theorem or64y (h t : Nat) (hh : h < 4294967296) (ht : t < 4294967296) : bits BinOp.or IntKind.u64 ((h : Int) * 4294967296) (t : Int) = ((pk h t : Nat) : Int) := by
  have e : (h : Int) * 4294967296 = ((h * 4294967296 : Nat) : Int) := by omega
  rw [e, bits_or_u64_nat _ _ (by omega) (by omega), or_pack h t ht]
/-- bytes that came in -/
structure Byts (w : World) (p : Option Addr) (bs : List Int) : Prop where
  lies : Lies .u8 w p bs
  rng : ∀ z ∈ bs, 0 ≤ z ∧ z ≤ 255
theorem Byts.on {w w' : World} {p : Option Addr} {bs : List Int} (h : Byts w p bs) (hb : Below w.heap.size w w') : Byts w' p bs := ⟨h.lies.on hb, h.rng⟩
/-- the i-th byte, or 0 -/
def bV (bs : List Int) (i : Nat) : Nat := if i < bs.length then (bs.getD i 0).toNat else 0
theorem Byts.le {w : World} {p : Option Addr} {bs : List Int} (h : Byts w p bs) (i : Nat) : bV bs i ≤ 255 := by
  unfold bV; split
  · rename_i hl
    have hz := h.rng (bs.getD i 0) (by rw [List.getD, List.getElem?_eq_getElem (by omega)]; exact List.getElem_mem _)
    omega
  · omega
theorem byteat_any (p : Option Addr) (c : Nat) (bs : List Int) (i : Nat) (w : World) (h : Byts w p bs) : Calls Try.prog 59 #[.slice p bs.length c, .int .i64 i] w (fun e w' => e = .returned (.int .i64 (bV bs i)) ∧ w = w') := by
  obtain ⟨n, hn⟩ : ∃ n, bs.length = n := ⟨_, rfl⟩
  have hle := h.le i
  by_cases hlt : i < n
  · obtain ⟨b, o, rfl, hc⟩ := h.lies.cells i (by omega)
    have hz := h.rng (bs.getD i 0) (by rw [List.getD, List.getElem?_eq_getElem (by omega)]; exact List.getElem_mem _)
    have hv : (bV bs i : Int) = bs.getD i 0 := by unfold bV; rw [if_pos (by omega)]; omega
    obtain ⟨z, hz2⟩ : ∃ z : Nat, bV bs i = z := ⟨_, rfl⟩
    rw [← hv, hz2] at hc
    rw [hz2] at hle ⊢
    rw [hn]
    have hw : IntKind.i64.wrap (z : Int) = (z : Int) := IntWalk.i64_in _ (by omega)
    have hi : ¬ ((n : Int) ≤ (i : Int)) := by omega
    clear h hn hz hz2 hv
    go_enter Try.func59, Try.ntmps59
    go_wp2_with fail
    go_ret
    exact ⟨rfl, rfl⟩
  · have hi : (n : Int) ≤ (i : Int) := by omega
    have hv : bV bs i = 0 := by unfold bV; rw [if_neg (by omega)]
    rw [hv, hn]
    clear h hn hle hv
    go_enter Try.func59, Try.ntmps59
    go_wp2_with fail
    go_ret
    exact ⟨rfl, rfl⟩
end Go.Proofs.Ytkhfanhboooilaa
