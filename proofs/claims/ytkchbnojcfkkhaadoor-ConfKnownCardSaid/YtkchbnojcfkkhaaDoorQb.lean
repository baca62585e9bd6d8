/- The code's Cells and addresses (layer 5), walked. -/
import Derived.Test.YtkchbnojcfkkhaaDoorQa
import Derived.Test.YtkchbnojcfkkhaaDoorVd
namespace Go.Proofs.YtkchbnojcfkkhaaDoor
open Go.RowKit Go.Tx Go.Cg

/-- a config's cells, where it was boxed -/
theorem six_at (n q g m t s : Int) (T : TypeId) (w : World) : ((w.alloc (.cells #[.int .i64 n, .int .i64 q, .int .i64 g, .int .i64 m, .int .i64 t, .int .i64 s] T)).cell? ⟨w.heap.size, 0, none⟩ = some (.int .i64 n) ∧ (w.alloc (.cells #[.int .i64 n, .int .i64 q, .int .i64 g, .int .i64 m, .int .i64 t, .int .i64 s] T)).cell? ⟨w.heap.size, 1, none⟩ = some (.int .i64 q) ∧ (w.alloc (.cells #[.int .i64 n, .int .i64 q, .int .i64 g, .int .i64 m, .int .i64 t, .int .i64 s] T)).cell? ⟨w.heap.size, 2, none⟩ = some (.int .i64 g) ∧ (w.alloc (.cells #[.int .i64 n, .int .i64 q, .int .i64 g, .int .i64 m, .int .i64 t, .int .i64 s] T)).cell? ⟨w.heap.size, 3, none⟩ = some (.int .i64 m) ∧ (w.alloc (.cells #[.int .i64 n, .int .i64 q, .int .i64 g, .int .i64 m, .int .i64 t, .int .i64 s] T)).cell? ⟨w.heap.size, 4, none⟩ = some (.int .i64 t) ∧ (w.alloc (.cells #[.int .i64 n, .int .i64 q, .int .i64 g, .int .i64 m, .int .i64 t, .int .i64 s] T)).cell? ⟨w.heap.size, 5, none⟩ = some (.int .i64 s)) ∧ Below w.heap.size w (w.alloc (.cells #[.int .i64 n, .int .i64 q, .int .i64 g, .int .i64 m, .int .i64 t, .int .i64 s] T)) := by
  obtain ⟨h, hb⟩ := six_box ⟨n, q, g, m, t, s⟩ T w
  exact ⟨⟨h 0, h 1, h 2, h 3, h 4, h 5⟩, hb⟩

set_option maxRecDepth 10000 in
set_option maxHeartbeats 1000000 in
theorem ccells_some (N Q G M T S : Nat) (hN : N ≤ 8) (hQ : Q ≤ 64) (hR : Right ⟨N, Q, G, M, T, S⟩) (w : World) : Calls Tryd.prog 11 #[cVal ⟨N, Q, G, M, T, S⟩] w (Ans (.int .i64 (4 + (N : Int) * (6 + (Q : Int)))) w) := by
  have HRt := Lib.hid (rt_yes hR)
  clear hR
  have hm := Nat.mul_le_mul hN (show 6 + Q ≤ 70 by omega)
  have hlo : 0 ≤ (N : Int) * (6 + (Q : Int)) := by have : (((N * (6 + Q) : Nat)) : Int) = (N : Int) * (6 + (Q : Int)) := by push_cast; rfl
                                                   omega
  have hhi : (N : Int) * (6 + (Q : Int)) ≤ 560 := by have : (((N * (6 + Q) : Nat)) : Int) = (N : Int) * (6 + (Q : Int)) := by push_cast; rfl
                                                     omega
  clear hm
  have HS := Lib.hid (six_at N Q G M T S 23 w)
  show Calls _ _ #[.agg #[.int .i64 N, .int .i64 Q, .int .i64 G, .int .i64 M, .int .i64 T, .int .i64 S]] _ _
  go_enter Tryd.func11, Tryd.ntmps11
  go_wp2_with (go_at_call 9; refine (cright_any ⟨N, Q, G, M, T, S⟩ _).mono ?_; rintro e w3 ⟨rfl, hb3⟩; rw [HRt.out])
  have HS3 := Lib.hid (six_keep HS.out hb3)
  clear hb3 HS
  go_region_held3 (fun w' => (w'.cell? ⟨w.heap.size, 0, none⟩ = some (.int .i64 N) ∧ w'.cell? ⟨w.heap.size, 1, none⟩ = some (.int .i64 Q) ∧ w'.cell? ⟨w.heap.size, 2, none⟩ = some (.int .i64 G) ∧ w'.cell? ⟨w.heap.size, 3, none⟩ = some (.int .i64 M) ∧ w'.cell? ⟨w.heap.size, 4, none⟩ = some (.int .i64 T) ∧ w'.cell? ⟨w.heap.size, 5, none⟩ = some (.int .i64 S)) ∧ Below w.heap.size w w') (first | exact six_keep HS3.out (Below.refl _ _).drew | exact six_keep (by assumption) (by assumption))
    (first | (go_at_call 33; refine (each_any ⟨N, Q, G, M, T, S⟩ ⟨by show (0 : Int) ≤ (Q : Int); omega, by show (Q : Int) ≤ 64; omega⟩ _).mono ?_; rintro e w4 ⟨rfl, hb4⟩))
  rename_i hh
  have HB := Lib.hid hh.2
  clear hh
  go_wp2
  go_ret
  refine ⟨?_, HB.out⟩
  show Ending.returned (.int .i64 (IntKind.i64.wrap (4 + IntKind.i64.wrap ((N : Int) * (6 + (Q : Int)))))) = _
  rw [IntWalk.i64_in ((N : Int) * (6 + (Q : Int))) (by omega), IntWalk.i64_in _ (by omega)]
theorem ccells_none (c : Cfg) (hR : ¬ Right c) (w : World) : Calls Tryd.prog 11 #[cVal c] w (Ans (.int .i64 0) w) := by
  have HRt := Lib.hid (rt_no hR)
  clear hR
  obtain ⟨n, q, g, m, t, s⟩ := c
  have HS := Lib.hid (six_at n q g m t s 23 w)
  show Calls _ _ #[.agg #[.int .i64 n, .int .i64 q, .int .i64 g, .int .i64 m, .int .i64 t, .int .i64 s]] _ _
  go_enter Tryd.func11, Tryd.ntmps11
  go_wp2_with (go_at_call 9; refine (cright_any ⟨n, q, g, m, t, s⟩ _).mono ?_; rintro e w3 ⟨rfl, hb3⟩; rw [HRt.out])
  have HB := Lib.hid (HS.out.2.trans (hb3.mono HS.out.2.size))
  clear hb3
  go_ret
  exact ⟨rfl, HB.out⟩
theorem nmsC_cells {c : Cfg} (hR : Right c) : ((nmsC c).length : Int) = 4 + c.n * (6 + c.q) := by
  rw [nmsC_len hR]
  obtain ⟨a, b, g, m, t, s, rfl, -⟩ := hR.small
  show ((4 + a * (6 + b) : Nat) : Int) = 4 + (a : Int) * (6 + (b : Int))
  push_cast; rfl
/-- Cells: as many as there are names -/
theorem ccells_any (c : Cfg) (w : World) : Calls Tryd.prog 11 #[cVal c] w (Ans (.int .i64 (nmsC c).length) w) := by
  by_cases hR : Right c
  · rw [nmsC_cells hR]
    obtain ⟨a, b, g, m, t, s, rfl, h1, h2, h3, h4, h5, h6⟩ := hR.small
    exact ccells_some a b g m t s h1 h2 hR w
  · rw [nmsC_none hR]; exact ccells_none c hR w

/-- a processor's value -/
def pVal (c : Cfg) (p : Int) : Value := .agg #[.int .i64 c.n, .int .i64 c.q, .int .i64 c.g, .int .i64 c.m, .int .i64 c.t, .int .i64 c.s, .int .i64 p]
theorem sev_at (n q g m t s p : Int) (T : TypeId) (w : World) : ((w.alloc (.cells #[.int .i64 n, .int .i64 q, .int .i64 g, .int .i64 m, .int .i64 t, .int .i64 s, .int .i64 p] T)).cell? ⟨w.heap.size, 0, none⟩ = some (.int .i64 n) ∧ (w.alloc (.cells #[.int .i64 n, .int .i64 q, .int .i64 g, .int .i64 m, .int .i64 t, .int .i64 s, .int .i64 p] T)).cell? ⟨w.heap.size, 1, none⟩ = some (.int .i64 q) ∧ (w.alloc (.cells #[.int .i64 n, .int .i64 q, .int .i64 g, .int .i64 m, .int .i64 t, .int .i64 s, .int .i64 p] T)).cell? ⟨w.heap.size, 2, none⟩ = some (.int .i64 g) ∧ (w.alloc (.cells #[.int .i64 n, .int .i64 q, .int .i64 g, .int .i64 m, .int .i64 t, .int .i64 s, .int .i64 p] T)).cell? ⟨w.heap.size, 3, none⟩ = some (.int .i64 m) ∧ (w.alloc (.cells #[.int .i64 n, .int .i64 q, .int .i64 g, .int .i64 m, .int .i64 t, .int .i64 s, .int .i64 p] T)).cell? ⟨w.heap.size, 4, none⟩ = some (.int .i64 t) ∧ (w.alloc (.cells #[.int .i64 n, .int .i64 q, .int .i64 g, .int .i64 m, .int .i64 t, .int .i64 s, .int .i64 p] T)).cell? ⟨w.heap.size, 5, none⟩ = some (.int .i64 s) ∧ (w.alloc (.cells #[.int .i64 n, .int .i64 q, .int .i64 g, .int .i64 m, .int .i64 t, .int .i64 s, .int .i64 p] T)).cell? ⟨w.heap.size, 6, none⟩ = some (.int .i64 p)) ∧ Below w.heap.size w (w.alloc (.cells #[.int .i64 n, .int .i64 q, .int .i64 g, .int .i64 m, .int .i64 t, .int .i64 s, .int .i64 p] T)) := by
  have h (i : Nat) := (Row.new w T [.int .i64 n, .int .i64 q, .int .i64 g, .int .i64 m, .int .i64 t, .int .i64 s, .int .i64 p]).cell i
  exact ⟨⟨h 0, h 1, h 2, h 3, h 4, h 5, h 6⟩, (Below.refl w.heap.size w).alloc (Nat.le_refl _) _⟩
theorem sev_keep {g : Nat} {a0 a1 a2 a3 a4 a5 a6 : Value} {w wr w1 : World} (h : (wr.cell? ⟨g, 0, none⟩ = some a0 ∧ wr.cell? ⟨g, 1, none⟩ = some a1 ∧ wr.cell? ⟨g, 2, none⟩ = some a2 ∧ wr.cell? ⟨g, 3, none⟩ = some a3 ∧ wr.cell? ⟨g, 4, none⟩ = some a4 ∧ wr.cell? ⟨g, 5, none⟩ = some a5 ∧ wr.cell? ⟨g, 6, none⟩ = some a6) ∧ Below w.heap.size w wr) (hb : Below wr.heap.size wr w1) : (w1.cell? ⟨g, 0, none⟩ = some a0 ∧ w1.cell? ⟨g, 1, none⟩ = some a1 ∧ w1.cell? ⟨g, 2, none⟩ = some a2 ∧ w1.cell? ⟨g, 3, none⟩ = some a3 ∧ w1.cell? ⟨g, 4, none⟩ = some a4 ∧ w1.cell? ⟨g, 5, none⟩ = some a5 ∧ w1.cell? ⟨g, 6, none⟩ = some a6) ∧ Below w.heap.size w w1 :=
  ⟨⟨k_al h.1.1 hb, k_al h.1.2.1 hb, k_al h.1.2.2.1 hb, k_al h.1.2.2.2.1 hb, k_al h.1.2.2.2.2.1 hb, k_al h.1.2.2.2.2.2.1 hb, k_al h.1.2.2.2.2.2.2 hb⟩, h.2.trans (hb.mono h.2.size)⟩
open Classical in
/-- the address of what a P has at a place -/
noncomputable def plV (c : Cfg) (p : Int) (k : Nat) : Int := if Right c ∧ 0 ≤ p ∧ p < c.n then 4 + p * (6 + c.q) + k else -1
theorem plV_no {c : Cfg} {p : Int} {k : Nat} (h : ¬ (Right c ∧ 0 ≤ p ∧ p < c.n)) : plV c p k = -1 := by unfold plV; rw [if_neg h]
theorem plV_yes {c : Cfg} {p : Int} {k : Nat} (h : Right c ∧ 0 ≤ p ∧ p < c.n) : plV c p k = 4 + p * (6 + c.q) + k := by unfold plV; rw [if_pos h]

theorem pcell_wrong (c : Cfg) (hR : ¬ Right c) (p : Int) (k : Int) (w : World) : Calls Tryd.prog 35 #[pVal c p, .int .i64 k] w (Ans (.int .i64 (-1)) w) := by
  have HRt := Lib.hid (rt_no hR)
  clear hR
  obtain ⟨n, q, g, m, t, s⟩ := c
  have HS := Lib.hid (sev_at n q g m t s p 57 w)
  have H0 := HS.out.1
  obtain ⟨c0, c1, c2, c3, c4, c5, c6⟩ := H0
  show Calls _ _ #[.agg #[.int .i64 n, .int .i64 q, .int .i64 g, .int .i64 m, .int .i64 t, .int .i64 s, .int .i64 p], _] _ _
  go_enter Tryd.func35, Tryd.ntmps35
  go_wp2_with (go_at_call 9; refine (cright_any ⟨n, q, g, m, t, s⟩ _).mono ?_; rintro e w3 ⟨rfl, hb3⟩; rw [HRt.out])
  have HB := Lib.hid (HS.out.2.trans (hb3.mono HS.out.2.size))
  clear hb3
  go_ret
  exact ⟨rfl, HB.out⟩
theorem pcell_out (c : Cfg) (hR : Right c) (p : Int) (hp : ¬ (0 ≤ p ∧ p < c.n)) (k : Int) (w : World) : Calls Tryd.prog 35 #[pVal c p, .int .i64 k] w (Ans (.int .i64 (-1)) w) := by
  have HRt := Lib.hid (rt_yes hR)
  obtain ⟨n, q, g, m, t, s, rfl, h1, h2, -⟩ := hR.small
  clear hR
  have HS := Lib.hid (sev_at n q g m t s p 57 w)
  have H0 := HS.out.1
  obtain ⟨c0, c1, c2, c3, c4, c5, c6⟩ := H0
  have hp2 : ¬ (0 ≤ p ∧ p ≤ (n : Int) - 1) := fun h => hp ⟨h.1, by show p < (n : Int); omega⟩
  show Calls _ _ #[.agg #[.int .i64 n, .int .i64 q, .int .i64 g, .int .i64 m, .int .i64 t, .int .i64 s, .int .i64 p], _] _ _
  go_enter Tryd.func35, Tryd.ntmps35
  go_wp2_with (go_at_call 9; refine (cright_any ⟨n, q, g, m, t, s⟩ _).mono ?_; rintro e w3 ⟨rfl, hb3⟩; rw [HRt.out]; have HS3 := Lib.hid (sev_keep HS.out hb3); have H3 := HS3.out.1; obtain ⟨d0, d1, d2, d3, d4, d5, d6⟩ := H3; clear hb3)
  go_wp2_with (go_at_call 31; refine (within_no hp2 _).mono ?_; rintro e w4 ⟨rfl, rfl⟩)
  have HB := Lib.hid HS3.out.2
  go_ret
  exact ⟨rfl, HB.out⟩
set_option maxRecDepth 10000 in
set_option maxHeartbeats 1000000 in
theorem pcell_in (N Q G M T S p k : Nat) (hN : N ≤ 8) (hQ : Q ≤ 64) (hR : Right ⟨N, Q, G, M, T, S⟩) (hp : p < N) (hk : k ≤ 100) (w : World) : Calls Tryd.prog 35 #[pVal ⟨N, Q, G, M, T, S⟩ p, .int .i64 k] w (Ans (.int .i64 (4 + (p : Int) * (6 + (Q : Int)) + k)) w) := by
  have HRt := Lib.hid (rt_yes hR)
  clear hR
  have hm := Nat.mul_le_mul (show p ≤ 8 by omega) (show 6 + Q ≤ 70 by omega)
  have hlo : 0 ≤ (p : Int) * (6 + (Q : Int)) := by have : (((p * (6 + Q) : Nat)) : Int) = (p : Int) * (6 + (Q : Int)) := by push_cast; rfl
                                                   omega
  have hhi : (p : Int) * (6 + (Q : Int)) ≤ 560 := by have : (((p * (6 + Q) : Nat)) : Int) = (p : Int) * (6 + (Q : Int)) := by push_cast; rfl
                                                     omega
  clear hm
  have HS := Lib.hid (sev_at N Q G M T S p 57 w)
  have H0 := HS.out.1
  obtain ⟨c0, c1, c2, c3, c4, c5, c6⟩ := H0
  have hp2 : 0 ≤ (p : Int) ∧ (p : Int) ≤ (N : Int) - 1 := ⟨by omega, by omega⟩
  show Calls _ _ #[.agg #[.int .i64 N, .int .i64 Q, .int .i64 G, .int .i64 M, .int .i64 T, .int .i64 S, .int .i64 p], _] _ _
  go_enter Tryd.func35, Tryd.ntmps35
  go_wp2_with (go_at_call 9; refine (cright_any ⟨N, Q, G, M, T, S⟩ _).mono ?_; rintro e w3 ⟨rfl, hb3⟩; rw [HRt.out]; have HS3 := Lib.hid (sev_keep HS.out hb3); have H3 := HS3.out.1; obtain ⟨d0, d1, d2, d3, d4, d5, d6⟩ := H3; clear hb3)
  go_wp2_with (go_at_call 31; refine (within_yes hp2 _).mono ?_; rintro e w4 ⟨rfl, rfl⟩)
  clear c0 c1 c2 c3 c4 c5 c6 d0 d1 d2 d3 d4 d5 d6 HS
  go_region_held3 (fun w' => (w'.cell? ⟨w.heap.size, 0, none⟩ = some (.int .i64 N) ∧ w'.cell? ⟨w.heap.size, 1, none⟩ = some (.int .i64 Q) ∧ w'.cell? ⟨w.heap.size, 2, none⟩ = some (.int .i64 G) ∧ w'.cell? ⟨w.heap.size, 3, none⟩ = some (.int .i64 M) ∧ w'.cell? ⟨w.heap.size, 4, none⟩ = some (.int .i64 T) ∧ w'.cell? ⟨w.heap.size, 5, none⟩ = some (.int .i64 S) ∧ w'.cell? ⟨w.heap.size, 6, none⟩ = some (.int .i64 p)) ∧ Below w.heap.size w w') (first | exact sev_keep HS3.out (Below.refl _ _).drew | exact sev_keep (by assumption) (by assumption))
    (first | (go_at_call 33; refine (each_any ⟨N, Q, G, M, T, S⟩ ⟨by show (0 : Int) ≤ (Q : Int); omega, by show (Q : Int) ≤ 64; omega⟩ _).mono ?_; rintro e w4 ⟨rfl, hb4⟩))
  rename_i hh
  have HB := Lib.hid hh.2
  clear hh
  go_wp2
  go_ret
  refine ⟨?_, HB.out⟩
  show Ending.returned (.int .i64 (IntKind.i64.wrap (IntKind.i64.wrap (4 + IntKind.i64.wrap ((p : Int) * (6 + (Q : Int)))) + (k : Int)))) = _
  rw [IntWalk.i64_in ((p : Int) * (6 + (Q : Int))) (by omega), IntWalk.i64_in (4 + (p : Int) * (6 + (Q : Int))) (by omega), IntWalk.i64_in _ (by omega)]
theorem pcell_any (c : Cfg) (p : Int) (k : Nat) (hk : k ≤ 100) (w : World) : Calls Tryd.prog 35 #[pVal c p, .int .i64 k] w (Ans (.int .i64 (plV c p k)) w) := by
  by_cases hR : Right c
  · by_cases hp : 0 ≤ p ∧ p < c.n
    · rw [plV_yes ⟨hR, hp⟩]
      obtain ⟨a, b, g, m, t, s, rfl, h1, h2, h3, h4, h5, h6⟩ := hR.small
      obtain ⟨p, rfl⟩ : ∃ i : Nat, p = i := ⟨p.toNat, by omega⟩
      exact pcell_in a b g m t s p k h1 h2 hR (by have := hp.2; simp only at this; omega) hk w
    · rw [plV_no fun h => hp h.2]; exact pcell_out c hR p hp k w
  · rw [plV_no fun h => hR h.1]; exact pcell_wrong c hR p k w

/-- one P's address: Word, Next, Stat, Tick, Sys, Flag -/
theorem word_any (c : Cfg) (p : Int) (w : World) : Calls Tryd.prog 13 #[cVal c, .int .i64 p] w (Ans (.int .i64 (plV c p 0)) w) := by
  obtain ⟨r, hr⟩ : ∃ r, plV c p 0 = r := ⟨_, rfl⟩
  have hc := pcell_any c p 0 (by omega)
  rw [hr] at hc ⊢
  clear hr
  obtain ⟨n, q, g, m, t, s⟩ := c
  have HS := Lib.hid (six_at n q g m t s 23 w)
  have H0 := HS.out.1
  obtain ⟨c0, c1, c2, c3, c4, c5⟩ := H0
  show Calls _ _ #[.agg #[.int .i64 n, .int .i64 q, .int .i64 g, .int .i64 m, .int .i64 t, .int .i64 s], _] _ _
  go_enter Tryd.func13, Tryd.ntmps13
  go_wp2_with fail
  refine (hc _).mono ?_
  rintro e w1 ⟨rfl, hb1⟩
  have HB := Lib.hid (HS.out.2.trans (hb1.mono HS.out.2.size))
  clear hb1 c0 c1 c2 c3 c4 c5
  go_wp2
  go_ret
  exact ⟨rfl, HB.out⟩
theorem next_any (c : Cfg) (p : Int) (w : World) : Calls Tryd.prog 14 #[cVal c, .int .i64 p] w (Ans (.int .i64 (plV c p 1)) w) := by
  obtain ⟨r, hr⟩ : ∃ r, plV c p 1 = r := ⟨_, rfl⟩
  have hc := pcell_any c p 1 (by omega)
  rw [hr] at hc ⊢
  clear hr
  obtain ⟨n, q, g, m, t, s⟩ := c
  have HS := Lib.hid (six_at n q g m t s 23 w)
  have H0 := HS.out.1
  obtain ⟨c0, c1, c2, c3, c4, c5⟩ := H0
  show Calls _ _ #[.agg #[.int .i64 n, .int .i64 q, .int .i64 g, .int .i64 m, .int .i64 t, .int .i64 s], _] _ _
  go_enter Tryd.func14, Tryd.ntmps14
  go_wp2_with fail
  refine (hc _).mono ?_
  rintro e w1 ⟨rfl, hb1⟩
  have HB := Lib.hid (HS.out.2.trans (hb1.mono HS.out.2.size))
  clear hb1 c0 c1 c2 c3 c4 c5
  go_wp2
  go_ret
  exact ⟨rfl, HB.out⟩
theorem stat_any (c : Cfg) (p : Int) (w : World) : Calls Tryd.prog 15 #[cVal c, .int .i64 p] w (Ans (.int .i64 (plV c p 2)) w) := by
  obtain ⟨r, hr⟩ : ∃ r, plV c p 2 = r := ⟨_, rfl⟩
  have hc := pcell_any c p 2 (by omega)
  rw [hr] at hc ⊢
  clear hr
  obtain ⟨n, q, g, m, t, s⟩ := c
  have HS := Lib.hid (six_at n q g m t s 23 w)
  have H0 := HS.out.1
  obtain ⟨c0, c1, c2, c3, c4, c5⟩ := H0
  show Calls _ _ #[.agg #[.int .i64 n, .int .i64 q, .int .i64 g, .int .i64 m, .int .i64 t, .int .i64 s], _] _ _
  go_enter Tryd.func15, Tryd.ntmps15
  go_wp2_with fail
  refine (hc _).mono ?_
  rintro e w1 ⟨rfl, hb1⟩
  have HB := Lib.hid (HS.out.2.trans (hb1.mono HS.out.2.size))
  clear hb1 c0 c1 c2 c3 c4 c5
  go_wp2
  go_ret
  exact ⟨rfl, HB.out⟩
theorem tick_any (c : Cfg) (p : Int) (w : World) : Calls Tryd.prog 16 #[cVal c, .int .i64 p] w (Ans (.int .i64 (plV c p 3)) w) := by
  obtain ⟨r, hr⟩ : ∃ r, plV c p 3 = r := ⟨_, rfl⟩
  have hc := pcell_any c p 3 (by omega)
  rw [hr] at hc ⊢
  clear hr
  obtain ⟨n, q, g, m, t, s⟩ := c
  have HS := Lib.hid (six_at n q g m t s 23 w)
  have H0 := HS.out.1
  obtain ⟨c0, c1, c2, c3, c4, c5⟩ := H0
  show Calls _ _ #[.agg #[.int .i64 n, .int .i64 q, .int .i64 g, .int .i64 m, .int .i64 t, .int .i64 s], _] _ _
  go_enter Tryd.func16, Tryd.ntmps16
  go_wp2_with fail
  refine (hc _).mono ?_
  rintro e w1 ⟨rfl, hb1⟩
  have HB := Lib.hid (HS.out.2.trans (hb1.mono HS.out.2.size))
  clear hb1 c0 c1 c2 c3 c4 c5
  go_wp2
  go_ret
  exact ⟨rfl, HB.out⟩
theorem sys_any (c : Cfg) (p : Int) (w : World) : Calls Tryd.prog 17 #[cVal c, .int .i64 p] w (Ans (.int .i64 (plV c p 4)) w) := by
  obtain ⟨r, hr⟩ : ∃ r, plV c p 4 = r := ⟨_, rfl⟩
  have hc := pcell_any c p 4 (by omega)
  rw [hr] at hc ⊢
  clear hr
  obtain ⟨n, q, g, m, t, s⟩ := c
  have HS := Lib.hid (six_at n q g m t s 23 w)
  have H0 := HS.out.1
  obtain ⟨c0, c1, c2, c3, c4, c5⟩ := H0
  show Calls _ _ #[.agg #[.int .i64 n, .int .i64 q, .int .i64 g, .int .i64 m, .int .i64 t, .int .i64 s], _] _ _
  go_enter Tryd.func17, Tryd.ntmps17
  go_wp2_with fail
  refine (hc _).mono ?_
  rintro e w1 ⟨rfl, hb1⟩
  have HB := Lib.hid (HS.out.2.trans (hb1.mono HS.out.2.size))
  clear hb1 c0 c1 c2 c3 c4 c5
  go_wp2
  go_ret
  exact ⟨rfl, HB.out⟩
theorem flag_any (c : Cfg) (p : Int) (w : World) : Calls Tryd.prog 18 #[cVal c, .int .i64 p] w (Ans (.int .i64 (plV c p 5)) w) := by
  obtain ⟨r, hr⟩ : ∃ r, plV c p 5 = r := ⟨_, rfl⟩
  have hc := pcell_any c p 5 (by omega)
  rw [hr] at hc ⊢
  clear hr
  obtain ⟨n, q, g, m, t, s⟩ := c
  have HS := Lib.hid (six_at n q g m t s 23 w)
  have H0 := HS.out.1
  obtain ⟨c0, c1, c2, c3, c4, c5⟩ := H0
  show Calls _ _ #[.agg #[.int .i64 n, .int .i64 q, .int .i64 g, .int .i64 m, .int .i64 t, .int .i64 s], _] _ _
  go_enter Tryd.func18, Tryd.ntmps18
  go_wp2_with fail
  refine (hc _).mono ?_
  rintro e w1 ⟨rfl, hb1⟩
  have HB := Lib.hid (HS.out.2.trans (hb1.mono HS.out.2.size))
  clear hb1 c0 c1 c2 c3 c4 c5
  go_wp2
  go_ret
  exact ⟨rfl, HB.out⟩

set_option maxHeartbeats 400000 in
theorem pslot_any (c : Cfg) (p : Int) (i : Nat) (hi : i < 4294967296) (w : World) : Calls Tryd.prog 36 #[pVal c p, .int .u32 i] w (Ans (.int .i64 (slV c p i)) w) := by
  rw [slV_slot]
  by_cases h : Right c ∧ 0 ≤ p ∧ p < c.n
  · rw [if_pos h]
    have hc := pcell_any c p 6 (by omega)
    rw [plV_yes h] at hc
    obtain ⟨hR, h0, hpn⟩ := h
    have hq := hR.q
    obtain ⟨N, Q, G, M, T, S, rfl, h1, h2, -⟩ := hR.small
    obtain ⟨p, rfl⟩ : ∃ i : Nat, p = i := ⟨p.toNat, by omega⟩
    clear hR
    simp only at hq hpn hc ⊢
    have hQ1 : 2 ≤ Q := by omega
    have hm := Nat.mul_le_mul (show p ≤ 8 by omega) (show 6 + Q ≤ 70 by omega)
    obtain ⟨P, hP⟩ : ∃ P : Nat, (p : Int) * (6 + (Q : Int)) = P := ⟨p * (6 + Q), by push_cast; rfl⟩
    have hP2 : P ≤ 560 := by have : (((p * (6 + Q) : Nat)) : Int) = (p : Int) * (6 + (Q : Int)) := by push_cast; rfl
                             omega
    rw [hP] at hc ⊢
    clear hP hm hpn hq
    obtain ⟨r, hr⟩ : ∃ r : Nat, i % Q = r := ⟨_, rfl⟩
    have hre : (i : Int) % (Q : Int) = (r : Int) := by rw [← hr]; rfl
    have hrt : (i : Int).tmod (Q : Int) = (r : Int) := by rw [← hr]; rfl
    have hrl : r < 64 := by rw [← hr]; exact Nat.lt_of_lt_of_le (Nat.mod_lt _ (by omega)) h2
    rw [hre]
    have hqw : IntKind.u32.wrap (Q : Int) = Q := IntWalk.u32_in _ (by omega)
    have q1 : ¬ ((Q : Int) = 0) := by omega
    have q2 : ¬ (Q = 0) := by omega
    have p1 : ¬ (4 + (P : Int) + ((6 : Nat) : Int) < 0) := by omega
    have HS := Lib.hid (sev_at N Q G M T S p 57 w)
    have H0 := HS.out.1
    obtain ⟨c0, c1, c2, c3, c4, c5, c6⟩ := H0
    show Calls _ _ #[.agg #[.int .i64 N, .int .i64 Q, .int .i64 G, .int .i64 M, .int .i64 T, .int .i64 S, .int .i64 p], _] _ _
    go_enter Tryd.func36, Tryd.ntmps36
    go_wp2_with fail
    refine (hc _).mono ?_
    rintro e w1 ⟨rfl, hb1⟩
    have HS3 := Lib.hid (sev_keep HS.out hb1)
    have H3 := HS3.out.1
    obtain ⟨d0, d1, d2, d3, d4, d5, d6⟩ := H3
    clear c0 c1 c2 c3 c4 c5 c6 hb1
    go_wp2
    go_ret
    refine ⟨?_, HS3.out.2⟩
    rfl
  · rw [if_neg h]
    have hc := pcell_any c p 6 (by omega)
    rw [plV_no h] at hc
    obtain ⟨n, q, g, m, t, s⟩ := c
    have HS := Lib.hid (sev_at n q g m t s p 57 w)
    have H0 := HS.out.1
    obtain ⟨c0, c1, c2, c3, c4, c5, c6⟩ := H0
    show Calls _ _ #[.agg #[.int .i64 n, .int .i64 q, .int .i64 g, .int .i64 m, .int .i64 t, .int .i64 s, .int .i64 p], _] _ _
    go_enter Tryd.func36, Tryd.ntmps36
    go_wp2_with fail
    refine (hc _).mono ?_
    rintro e w1 ⟨rfl, hb1⟩
    have HB := Lib.hid (HS.out.2.trans (hb1.mono HS.out.2.size))
    clear hb1 c0 c1 c2 c3 c4 c5 c6
    go_wp2
    go_ret
    exact ⟨rfl, HB.out⟩
theorem cslot_any (c : Cfg) (p : Int) (i : Nat) (hi : i < 4294967296) (w : World) : Calls Tryd.prog 20 #[cVal c, .int .i64 p, .int .u32 i] w (Ans (.int .i64 (slV c p i)) w) := by
  obtain ⟨r, hr⟩ : ∃ r, slV c p i = r := ⟨_, rfl⟩
  have hc := pslot_any c p i hi
  rw [hr] at hc ⊢
  clear hr
  obtain ⟨n, q, g, m, t, s⟩ := c
  have HS := Lib.hid (six_at n q g m t s 23 w)
  have H0 := HS.out.1
  obtain ⟨c0, c1, c2, c3, c4, c5⟩ := H0
  show Calls _ _ #[.agg #[.int .i64 n, .int .i64 q, .int .i64 g, .int .i64 m, .int .i64 t, .int .i64 s], _, _] _ _
  go_enter Tryd.func20, Tryd.ntmps20
  go_wp2_with fail
  refine (hc _).mono ?_
  rintro e w1 ⟨rfl, hb1⟩
  have HB := Lib.hid (HS.out.2.trans (hb1.mono HS.out.2.size))
  clear hb1 c0 c1 c2 c3 c4 c5
  go_wp2
  go_ret
  exact ⟨rfl, HB.out⟩
end Go.Proofs.YtkchbnojcfkkhaaDoor
