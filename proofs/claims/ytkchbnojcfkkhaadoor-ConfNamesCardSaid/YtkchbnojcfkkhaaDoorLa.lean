/- The law ConfCells (layer 5), walked. -/
import Derived.Test.YtkchbnojcfkkhaaDoorQw
import Derived.Test.YtkchbnojcfkkhaaDoorVg
namespace Go.Proofs.YtkchbnojcfkkhaaDoor
open Go.RowKit Go.Tx Go.Cg

theorem t12_keep {g h : Nat} {a0 a1 a2 a3 a4 a5 b0 b1 b2 b3 b4 b5 : Value} {w wr w1 : World} (hS : ((wr.cell? ⟨g, 0, none⟩ = some a0 ∧ wr.cell? ⟨g, 1, none⟩ = some a1 ∧ wr.cell? ⟨g, 2, none⟩ = some a2 ∧ wr.cell? ⟨g, 3, none⟩ = some a3 ∧ wr.cell? ⟨g, 4, none⟩ = some a4 ∧ wr.cell? ⟨g, 5, none⟩ = some a5) ∧ wr.cell? ⟨h, 0, none⟩ = some b0 ∧ wr.cell? ⟨h, 1, none⟩ = some b1 ∧ wr.cell? ⟨h, 2, none⟩ = some b2 ∧ wr.cell? ⟨h, 3, none⟩ = some b3 ∧ wr.cell? ⟨h, 4, none⟩ = some b4 ∧ wr.cell? ⟨h, 5, none⟩ = some b5) ∧ Below w.heap.size w wr) (hb : Below wr.heap.size wr w1) : ((w1.cell? ⟨g, 0, none⟩ = some a0 ∧ w1.cell? ⟨g, 1, none⟩ = some a1 ∧ w1.cell? ⟨g, 2, none⟩ = some a2 ∧ w1.cell? ⟨g, 3, none⟩ = some a3 ∧ w1.cell? ⟨g, 4, none⟩ = some a4 ∧ w1.cell? ⟨g, 5, none⟩ = some a5) ∧ w1.cell? ⟨h, 0, none⟩ = some b0 ∧ w1.cell? ⟨h, 1, none⟩ = some b1 ∧ w1.cell? ⟨h, 2, none⟩ = some b2 ∧ w1.cell? ⟨h, 3, none⟩ = some b3 ∧ w1.cell? ⟨h, 4, none⟩ = some b4 ∧ w1.cell? ⟨h, 5, none⟩ = some b5) ∧ Below w.heap.size w w1 :=
  ⟨⟨(six_keep ⟨hS.1.1, hS.2⟩ hb).1, (six_keep ⟨hS.1.2, hS.2⟩ hb).1⟩, hS.2.trans (hb.mono hS.2.size)⟩
theorem t8_keep {g8 g9 i h : Nat} {x y b0 b1 b2 b3 b4 b5 : Value} {w wr w1 : World} (hS : ((wr.cell? ⟨g8, i, none⟩ = some x ∧ wr.cell? ⟨g9, i, none⟩ = some y) ∧ wr.cell? ⟨h, 0, none⟩ = some b0 ∧ wr.cell? ⟨h, 1, none⟩ = some b1 ∧ wr.cell? ⟨h, 2, none⟩ = some b2 ∧ wr.cell? ⟨h, 3, none⟩ = some b3 ∧ wr.cell? ⟨h, 4, none⟩ = some b4 ∧ wr.cell? ⟨h, 5, none⟩ = some b5) ∧ Below w.heap.size w wr) (hb : Below wr.heap.size wr w1) : ((w1.cell? ⟨g8, i, none⟩ = some x ∧ w1.cell? ⟨g9, i, none⟩ = some y) ∧ w1.cell? ⟨h, 0, none⟩ = some b0 ∧ w1.cell? ⟨h, 1, none⟩ = some b1 ∧ w1.cell? ⟨h, 2, none⟩ = some b2 ∧ w1.cell? ⟨h, 3, none⟩ = some b3 ∧ w1.cell? ⟨h, 4, none⟩ = some b4 ∧ w1.cell? ⟨h, 5, none⟩ = some b5) ∧ Below w.heap.size w w1 :=
  ⟨⟨⟨k_al hS.1.1.1 hb, k_al hS.1.1.2 hb⟩, (six_keep ⟨hS.1.2, hS.2⟩ hb).1⟩, hS.2.trans (hb.mono hS.2.size)⟩
theorem names_len (c : Cfg) (w : World) : Calls Tryd.prog 12 #[cVal c] w (fun e w' => ∃ p cap, e = .returned (.slice p (nmsC c).length cap) ∧ Below w.heap.size w w') := by
  refine (names_any c w).mono ?_
  rintro e w1 ⟨v, rfl, hown, hb⟩
  obtain ⟨p, cap, rfl, -⟩ := strs_lies hown
  exact ⟨p, cap, rfl, hb⟩
theorem ofV_plV {c : Cfg} {r : Nat} (hr : r < 6) (p : Int) : ofV c (W6.getD r []) p = plV c p r := by rw [ofV_cell hr]; rfl
theorem ints_new (x : World) (l : List Int) (t : TypeId) : ∀ j v, l[j]? = some v → (x.alloc (.cells (l.map (Value.int .i64)).toArray t)).cell? ⟨x.heap.size, j, none⟩ = some (.int .i64 v) := by
  intro j v hv
  rw [World.cell?_alloc_new, List.getElem?_toArray, List.getElem?_map, hv]; rfl
/-- both configs, where they lie -/
theorem two_boxes (n q g m t s : Int) (w w1 w2 : World) (h1 : w1 = w.alloc (.cells #[.int .i64 n, .int .i64 q, .int .i64 g, .int .i64 m, .int .i64 t, .int .i64 s] 23)) (hb : Below w1.heap.size w1 w2) : (((w2.alloc (.cells #[.int .i64 n, .int .i64 q, .int .i64 g, .int .i64 m, .int .i64 t, .int .i64 s] 25)).cell? ⟨w.heap.size, 0, none⟩ = some (.int .i64 n) ∧ (w2.alloc (.cells #[.int .i64 n, .int .i64 q, .int .i64 g, .int .i64 m, .int .i64 t, .int .i64 s] 25)).cell? ⟨w.heap.size, 1, none⟩ = some (.int .i64 q) ∧ (w2.alloc (.cells #[.int .i64 n, .int .i64 q, .int .i64 g, .int .i64 m, .int .i64 t, .int .i64 s] 25)).cell? ⟨w.heap.size, 2, none⟩ = some (.int .i64 g) ∧ (w2.alloc (.cells #[.int .i64 n, .int .i64 q, .int .i64 g, .int .i64 m, .int .i64 t, .int .i64 s] 25)).cell? ⟨w.heap.size, 3, none⟩ = some (.int .i64 m) ∧ (w2.alloc (.cells #[.int .i64 n, .int .i64 q, .int .i64 g, .int .i64 m, .int .i64 t, .int .i64 s] 25)).cell? ⟨w.heap.size, 4, none⟩ = some (.int .i64 t) ∧ (w2.alloc (.cells #[.int .i64 n, .int .i64 q, .int .i64 g, .int .i64 m, .int .i64 t, .int .i64 s] 25)).cell? ⟨w.heap.size, 5, none⟩ = some (.int .i64 s)) ∧ (w2.alloc (.cells #[.int .i64 n, .int .i64 q, .int .i64 g, .int .i64 m, .int .i64 t, .int .i64 s] 25)).cell? ⟨w2.heap.size, 0, none⟩ = some (.int .i64 n) ∧ (w2.alloc (.cells #[.int .i64 n, .int .i64 q, .int .i64 g, .int .i64 m, .int .i64 t, .int .i64 s] 25)).cell? ⟨w2.heap.size, 1, none⟩ = some (.int .i64 q) ∧ (w2.alloc (.cells #[.int .i64 n, .int .i64 q, .int .i64 g, .int .i64 m, .int .i64 t, .int .i64 s] 25)).cell? ⟨w2.heap.size, 2, none⟩ = some (.int .i64 g) ∧ (w2.alloc (.cells #[.int .i64 n, .int .i64 q, .int .i64 g, .int .i64 m, .int .i64 t, .int .i64 s] 25)).cell? ⟨w2.heap.size, 3, none⟩ = some (.int .i64 m) ∧ (w2.alloc (.cells #[.int .i64 n, .int .i64 q, .int .i64 g, .int .i64 m, .int .i64 t, .int .i64 s] 25)).cell? ⟨w2.heap.size, 4, none⟩ = some (.int .i64 t) ∧ (w2.alloc (.cells #[.int .i64 n, .int .i64 q, .int .i64 g, .int .i64 m, .int .i64 t, .int .i64 s] 25)).cell? ⟨w2.heap.size, 5, none⟩ = some (.int .i64 s)) ∧ Below w.heap.size w (w2.alloc (.cells #[.int .i64 n, .int .i64 q, .int .i64 g, .int .i64 m, .int .i64 t, .int .i64 s] 25)) := by
  subst h1
  have h1 := six_at n q g m t s 23 w
  have h2 := six_keep h1 hb
  have h3 := six_at n q g m t s 25 w2
  exact ⟨⟨(six_keep h2 h3.2).1, h3.1⟩, h2.2.trans (h3.2.mono h2.2.size)⟩

set_option maxRecDepth 10000 in
set_option maxHeartbeats 4000000 in
theorem law_cells (c : Cfg) (p : Int) (i : Nat) (hi : i < 4294967296) (w : World) (hE : EnvC w.heap.size w) : Calls Tryd.prog 3 #[cVal c, .int .i64 p, .int .u32 i] w (Ans (.bool true) w) := by
  have HE := Lib.hid hE
  clear hE
  have k1 := cright_any c
  have k2 := right_any c
  obtain ⟨r, hr⟩ : ∃ r, rt c = r := ⟨_, rfl⟩
  rw [hr] at k1 k2
  clear hr
  have k3 := ccells_any c
  have k4 := names_len c
  obtain ⟨L, hL⟩ : ∃ L, (nmsC c).length = L := ⟨_, rfl⟩
  rw [hL] at k3 k4
  clear hL
  have a0 := word_any c p
  obtain ⟨y0, hy0⟩ : ∃ y, plV c p 0 = y := ⟨_, rfl⟩
  rw [hy0] at a0
  have a1 := next_any c p
  obtain ⟨y1, hy1⟩ : ∃ y, plV c p 1 = y := ⟨_, rfl⟩
  rw [hy1] at a1
  have a2 := stat_any c p
  obtain ⟨y2, hy2⟩ : ∃ y, plV c p 2 = y := ⟨_, rfl⟩
  rw [hy2] at a2
  have a3 := tick_any c p
  obtain ⟨y3, hy3⟩ : ∃ y, plV c p 3 = y := ⟨_, rfl⟩
  rw [hy3] at a3
  have a4 := sys_any c p
  obtain ⟨y4, hy4⟩ : ∃ y, plV c p 4 = y := ⟨_, rfl⟩
  rw [hy4] at a4
  have a5 := flag_any c p
  obtain ⟨y5, hy5⟩ : ∃ y, plV c p 5 = y := ⟨_, rfl⟩
  rw [hy5] at a5
  have HY : Hid (∀ j, j < 6 → [y0, y1, y2, y3, y4, y5][j]? = some (plV c p j)) := by
    intro j hj
    rcases j with _ | _ | _ | _ | _ | _ | j
    · exact congrArg some hy0.symm
    · exact congrArg some hy1.symm
    · exact congrArg some hy2.symm
    · exact congrArg some hy3.symm
    · exact congrArg some hy4.symm
    · exact congrArg some hy5.symm
    · omega
  clear hy0 hy1 hy2 hy3 hy4 hy5
  have kof (j : Nat) (hj : j < 6) (w : World) : Calls Tryd.prog 19 #[cVal c, .string ⟨(W6.getD j []).toArray⟩, .int .i64 p] w (Ans (.int .i64 (plV c p j)) w) := by
    have h := rof_any c (W6.getD j []) p w (by have := w6_len j; omega)
    rw [ofV_plV hj] at h; exact h
  have s1 := cslot_any c p i hi
  have s2 (w : World) := rslot_any c p i w hi
  obtain ⟨z, hz⟩ : ∃ z, slV c p i = z := ⟨_, rfl⟩
  rw [hz] at s1
  simp only [hz] at s2
  clear hz
  have kw {S : Prop} (w' : World) (h : S ∧ Below w.heap.size w w') := works_any w' (HE.out.at h)
  obtain ⟨n, q, g, m, t, s⟩ := c
  have kd (w : World) : Calls Tryd.prog 8 #[.agg #[.int .i64 n, .int .i64 q, .int .i64 g, .int .i64 m, .int .i64 t, .int .i64 s]] w (Ans (.agg #[.int .i64 n, .int .i64 q, .int .i64 g, .int .i64 m, .int .i64 t, .int .i64 s]) w) := docs_any ⟨n, q, g, m, t, s⟩ w
  show Calls _ _ #[.agg #[.int .i64 n, .int .i64 q, .int .i64 g, .int .i64 m, .int .i64 t, .int .i64 s], _, _] _ _
  have HS0 := Lib.hid (six_at n q g m t s 23 w)
  have H0 := HS0.out.1
  obtain ⟨c0, c1, c2, c3, c4, c5⟩ := H0
  go_enter Tryd.func3, Tryd.ntmps3
  go_wp2_with fail
  refine (kd _).mono ?_
  rintro e w2 ⟨rfl, hb2⟩
  have HS := Lib.hid (two_boxes n q g m t s w _ w2 rfl hb2)
  clear c0 c1 c2 c3 c4 c5 hb2 HS0
  go_wp2_with fail
  generalize w2.alloc (.cells #[.int .i64 n, .int .i64 q, .int .i64 g, .int .i64 m, .int .i64 t, .int .i64 s] 25) = W at HS ⊢
  generalize w2.heap.size = g7 at HS ⊢
  have hne : (r != r) = false := by simp
  have hne2 : decide ((L : Int) ≠ L) = false := by simp
  go_region_held3 (fun w' => ((w'.cell? ⟨w.heap.size, 0, none⟩ = some (.int .i64 n) ∧ w'.cell? ⟨w.heap.size, 1, none⟩ = some (.int .i64 q) ∧ w'.cell? ⟨w.heap.size, 2, none⟩ = some (.int .i64 g) ∧ w'.cell? ⟨w.heap.size, 3, none⟩ = some (.int .i64 m) ∧ w'.cell? ⟨w.heap.size, 4, none⟩ = some (.int .i64 t) ∧ w'.cell? ⟨w.heap.size, 5, none⟩ = some (.int .i64 s)) ∧ w'.cell? ⟨g7, 0, none⟩ = some (.int .i64 n) ∧ w'.cell? ⟨g7, 1, none⟩ = some (.int .i64 q) ∧ w'.cell? ⟨g7, 2, none⟩ = some (.int .i64 g) ∧ w'.cell? ⟨g7, 3, none⟩ = some (.int .i64 m) ∧ w'.cell? ⟨g7, 4, none⟩ = some (.int .i64 t) ∧ w'.cell? ⟨g7, 5, none⟩ = some (.int .i64 s)) ∧ Below w.heap.size w w') (first | with_reducible exact t12_keep HS.out (Below.refl _ _).drew | with_reducible exact t12_keep (by assumption) (by assumption))
    (first
      | (go_at_call 9; refine (k1 _).mono ?_; rintro e x1 ⟨rfl, hx1⟩)
      | (go_at_call 10; refine (k2 _).mono ?_; rintro e x2 ⟨rfl, hx2⟩)
      | (go_at_call 11; refine (k3 _).mono ?_; rintro e x3 ⟨rfl, hx3⟩)
      | (go_at_call 12; refine (k4 _).mono ?_; rintro e x4 ⟨pn, capn, rfl, hx4⟩))
  rename_i hh
  have HS2 := Lib.hid hh
  clear hh
  go_wp2_with fail
  go_region_held3 (fun w' => ((w'.cell? ⟨w.heap.size, 0, none⟩ = some (.int .i64 n) ∧ w'.cell? ⟨w.heap.size, 1, none⟩ = some (.int .i64 q) ∧ w'.cell? ⟨w.heap.size, 2, none⟩ = some (.int .i64 g) ∧ w'.cell? ⟨w.heap.size, 3, none⟩ = some (.int .i64 m) ∧ w'.cell? ⟨w.heap.size, 4, none⟩ = some (.int .i64 t) ∧ w'.cell? ⟨w.heap.size, 5, none⟩ = some (.int .i64 s)) ∧ w'.cell? ⟨g7, 0, none⟩ = some (.int .i64 n) ∧ w'.cell? ⟨g7, 1, none⟩ = some (.int .i64 q) ∧ w'.cell? ⟨g7, 2, none⟩ = some (.int .i64 g) ∧ w'.cell? ⟨g7, 3, none⟩ = some (.int .i64 m) ∧ w'.cell? ⟨g7, 4, none⟩ = some (.int .i64 t) ∧ w'.cell? ⟨g7, 5, none⟩ = some (.int .i64 s)) ∧ Below w.heap.size w w') (first | with_reducible exact t12_keep HS2.out (Below.refl _ _).drew | with_reducible exact t12_keep (by assumption) (by assumption) | with_reducible exact t12_keep (by assumption) ((Below.refl _ _).alloc (Nat.le_refl _) _))
    (first
      | (go_at_call 13; refine (a0 _).mono ?_; rintro e x1 ⟨rfl, hx1⟩)
      | (go_at_call 14; refine (a1 _).mono ?_; rintro e x2 ⟨rfl, hx2⟩)
      | (go_at_call 15; refine (a2 _).mono ?_; rintro e x3 ⟨rfl, hx3⟩)
      | (go_at_call 16; refine (a3 _).mono ?_; rintro e x4 ⟨rfl, hx4⟩)
      | (go_at_call 17; refine (a4 _).mono ?_; rintro e x5 ⟨rfl, hx5⟩)
      | (go_at_call 18; refine (a5 _).mono ?_; rintro e x6 ⟨rfl, hx6⟩))
  rename_i hh
  have HS3 := Lib.hid hh
  clear hh a0 a1 a2 a3 a4 a5 k1 k2 k3 k4 HS HS2
  go_wp2_with fail
  have HQ : Hid ((∀ j, j < 6 → ((x6.alloc (.cells #[.int .i64 y0, .int .i64 y1, .int .i64 y2, .int .i64 y3, .int .i64 y4, .int .i64 y5] 3)).alloc (.cells #[.string ⟨#[119, 111, 114, 100]⟩, .string ⟨#[110, 101, 120, 116]⟩, .string ⟨#[115, 116, 97, 116]⟩, .string ⟨#[116, 105, 99, 107]⟩, .string ⟨#[115, 121, 115]⟩, .string ⟨#[102, 108, 97, 103]⟩] 9)).cell? ⟨x6.heap.size, j, none⟩ = some (.int .i64 (plV ⟨n, q, g, m, t, s⟩ p j))) ∧ SixW (x6.heap.size + 1) ((x6.alloc (.cells #[.int .i64 y0, .int .i64 y1, .int .i64 y2, .int .i64 y3, .int .i64 y4, .int .i64 y5] 3)).alloc (.cells #[.string ⟨#[119, 111, 114, 100]⟩, .string ⟨#[110, 101, 120, 116]⟩, .string ⟨#[115, 116, 97, 116]⟩, .string ⟨#[116, 105, 99, 107]⟩, .string ⟨#[115, 121, 115]⟩, .string ⟨#[102, 108, 97, 103]⟩] 9))) := by
    have e : (x6.alloc (.cells #[.int .i64 y0, .int .i64 y1, .int .i64 y2, .int .i64 y3, .int .i64 y4, .int .i64 y5] 3)).heap.size = x6.heap.size + 1 := by simp
    refine ⟨fun j hj => ?_, ?_⟩
    · exact k_al (ints_new x6 [y0, y1, y2, y3, y4, y5] 3 j _ (HY.out j hj)) ((Below.refl _ _).alloc (Nat.le_refl _) _)
    · have := SixW.new (x6.alloc (.cells #[.int .i64 y0, .int .i64 y1, .int .i64 y2, .int .i64 y3, .int .i64 y4, .int .i64 y5] 3))
      rw [e] at this; exact this
  have HS4 := Lib.hid (t12_keep HS3.out ((Below.refl _ _).alloc (Nat.le_refl _) (.cells #[.string ⟨#[119, 111, 114, 100]⟩, .string ⟨#[110, 101, 120, 116]⟩, .string ⟨#[115, 116, 97, 116]⟩, .string ⟨#[116, 105, 99, 107]⟩, .string ⟨#[115, 121, 115]⟩, .string ⟨#[102, 108, 97, 103]⟩] 9)))
  generalize (x6.alloc (.cells #[.int .i64 y0, .int .i64 y1, .int .i64 y2, .int .i64 y3, .int .i64 y4, .int .i64 y5] 3)).alloc (.cells #[.string ⟨#[119, 111, 114, 100]⟩, .string ⟨#[110, 101, 120, 116]⟩, .string ⟨#[115, 116, 97, 116]⟩, .string ⟨#[116, 105, 99, 107]⟩, .string ⟨#[115, 121, 115]⟩, .string ⟨#[102, 108, 97, 103]⟩] 9) = W5 at HQ HS4 ⊢
  clear HS3 HY
  generalize x6.heap.size + 1 = g9 at HQ ⊢
  generalize x6.heap.size = g8 at HQ ⊢
  go_loopw [10] (fun vj wr => ∃ j : Nat, j ≤ 6 ∧ vj = .int .i64 j ∧ Hid ((∀ j, j < 6 → wr.cell? ⟨g8, j, none⟩ = some (.int .i64 (plV ⟨n, q, g, m, t, s⟩ p j))) ∧ SixW g9 wr) ∧ Hid (((wr.cell? ⟨w.heap.size, 0, none⟩ = some (.int .i64 n) ∧ wr.cell? ⟨w.heap.size, 1, none⟩ = some (.int .i64 q) ∧ wr.cell? ⟨w.heap.size, 2, none⟩ = some (.int .i64 g) ∧ wr.cell? ⟨w.heap.size, 3, none⟩ = some (.int .i64 m) ∧ wr.cell? ⟨w.heap.size, 4, none⟩ = some (.int .i64 t) ∧ wr.cell? ⟨w.heap.size, 5, none⟩ = some (.int .i64 s)) ∧ wr.cell? ⟨g7, 0, none⟩ = some (.int .i64 n) ∧ wr.cell? ⟨g7, 1, none⟩ = some (.int .i64 q) ∧ wr.cell? ⟨g7, 2, none⟩ = some (.int .i64 g) ∧ wr.cell? ⟨g7, 3, none⟩ = some (.int .i64 m) ∧ wr.cell? ⟨g7, 4, none⟩ = some (.int .i64 t) ∧ wr.cell? ⟨g7, 5, none⟩ = some (.int .i64 s)) ∧ Below w.heap.size w wr)) (fun vj _ => 6 - (intOf vj).toNat)
  case atStart => exact ⟨0, by omega, rfl, HQ, HS4⟩
  case round =>
    obtain ⟨j, hj, rfl, HQr, HSr⟩ := hrel
    clear HQ HS4
    by_cases hj6 : j < 6
    · have j0 : (0 : Int) ≤ j := by omega
      have j6 : (j : Int) < 6 := by omega
      have hy := HQr.out.1 j hj6
      have hx := HQr.out.2 j hj6
      have ko := kof j hj6
      obtain ⟨y, ey⟩ : ∃ y, plV ⟨n, q, g, m, t, s⟩ p j = y := ⟨_, rfl⟩
      rw [ey] at hy ko
      obtain ⟨x, ex⟩ : ∃ x, W6.getD j [] = x := ⟨_, rfl⟩
      rw [ex] at hx ko
      have HC : Hid (((wr.cell? ⟨g8, j, none⟩ = some (.int .i64 y) ∧ wr.cell? ⟨g9, j, none⟩ = some (.string ⟨x.toArray⟩)) ∧ wr.cell? ⟨g7, 0, none⟩ = some (.int .i64 n) ∧ wr.cell? ⟨g7, 1, none⟩ = some (.int .i64 q) ∧ wr.cell? ⟨g7, 2, none⟩ = some (.int .i64 g) ∧ wr.cell? ⟨g7, 3, none⟩ = some (.int .i64 m) ∧ wr.cell? ⟨g7, 4, none⟩ = some (.int .i64 t) ∧ wr.cell? ⟨g7, 5, none⟩ = some (.int .i64 s)) ∧ Below wr.heap.size wr wr) := ⟨⟨⟨hy, hx⟩, HSr.out.1.2⟩, .refl _ _⟩
      clear hy hx ey ex
      go_wp2_with fail
      go_region_held3 (fun w' => ((w'.cell? ⟨g8, j, none⟩ = some (.int .i64 y) ∧ w'.cell? ⟨g9, j, none⟩ = some (.string ⟨x.toArray⟩)) ∧ w'.cell? ⟨g7, 0, none⟩ = some (.int .i64 n) ∧ w'.cell? ⟨g7, 1, none⟩ = some (.int .i64 q) ∧ w'.cell? ⟨g7, 2, none⟩ = some (.int .i64 g) ∧ w'.cell? ⟨g7, 3, none⟩ = some (.int .i64 m) ∧ w'.cell? ⟨g7, 4, none⟩ = some (.int .i64 t) ∧ w'.cell? ⟨g7, 5, none⟩ = some (.int .i64 s)) ∧ Below wr.heap.size wr w') (first | with_reducible exact t8_keep HC.out (Below.refl _ _).drew | with_reducible exact t8_keep (by assumption) (by assumption))
        (first | (go_at_call 19; refine (ko _).mono ?_; rintro e x1 ⟨rfl, hx1⟩))
      rename_i hh
      have HQ2 : Hid ((∀ j, j < 6 → x1.cell? ⟨g8, j, none⟩ = some (.int .i64 (plV ⟨n, q, g, m, t, s⟩ p j))) ∧ SixW g9 x1) := ⟨fun k hk => k_al (HQr.out.1 k hk) hh.2, HQr.out.2.on hh.2⟩
      have HS6 := Lib.hid (t12_keep HSr.out hh.2)
      clear hh HC ko HQr HSr
      go_wp2_with fail
      go_roundw
      case rel => exact ⟨j + 1, hj6, by go_num, HQ2, HS6⟩
      case measure =>
        show _ < _
        simp only [intOf]; omega
    · have hj6i : ¬ ((j : Int) < 6) := by omega
      clear HQr kof
      go_wp2_with fail
      go_region_held3 (fun w' => ((w'.cell? ⟨w.heap.size, 0, none⟩ = some (.int .i64 n) ∧ w'.cell? ⟨w.heap.size, 1, none⟩ = some (.int .i64 q) ∧ w'.cell? ⟨w.heap.size, 2, none⟩ = some (.int .i64 g) ∧ w'.cell? ⟨w.heap.size, 3, none⟩ = some (.int .i64 m) ∧ w'.cell? ⟨w.heap.size, 4, none⟩ = some (.int .i64 t) ∧ w'.cell? ⟨w.heap.size, 5, none⟩ = some (.int .i64 s)) ∧ w'.cell? ⟨g7, 0, none⟩ = some (.int .i64 n) ∧ w'.cell? ⟨g7, 1, none⟩ = some (.int .i64 q) ∧ w'.cell? ⟨g7, 2, none⟩ = some (.int .i64 g) ∧ w'.cell? ⟨g7, 3, none⟩ = some (.int .i64 m) ∧ w'.cell? ⟨g7, 4, none⟩ = some (.int .i64 t) ∧ w'.cell? ⟨g7, 5, none⟩ = some (.int .i64 s)) ∧ Below w.heap.size w w') (first | with_reducible exact t12_keep HSr.out (Below.refl _ _).drew | with_reducible exact t12_keep (by assumption) (by assumption))
        (first
          | (go_at_call 20; refine (s1 _).mono ?_; rintro e x1 ⟨rfl, hx1⟩)
          | (go_at_call 21; refine (s2 _).mono ?_; rintro e x2 ⟨rfl, hx2⟩)
          | (go_at_call 22; refine (kw _ (by assumption)).mono ?_; rintro e x3 ⟨rfl, hx3⟩))
      rename_i hh
      have HB := Lib.hid hh.2
      clear hh
      go_wp2
      go_ret
      exact ⟨rfl, HB.out⟩
end Go.Proofs.YtkchbnojcfkkhaaDoor
