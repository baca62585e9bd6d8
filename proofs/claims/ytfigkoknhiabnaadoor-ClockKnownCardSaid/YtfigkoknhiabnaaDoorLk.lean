/- The closed law ClockKnown. -/
import Derived.Test.YtfigkoknhiabnaaDoorKh
import Derived.Test.YtfigkoknhiabnaaDoorCb
import Derived.Test.YtfigkoknhiabnaaDoorLj
import Derived.Test.YtfigkoknhiabnaaDoorLp
import Derived.Test.YtfigkoknhiabnaaDoorLn
import Derived.Test.YtfigkoknhiabnaaDoorLq
import Derived.Test.YtfigkoknhiabnaaDoorLy
import Derived.Deep.RegionHeld3
import Derived.Deep.AppendLies
import Derived.Deep.DeepCutAuto
import Derived.Deep.Cut
import Derived.BigQuiet
import Derived.Deep.QuietTactic
namespace Go.Proofs.YtfigkoknhiabnaaDoor
open Go.RowKit Go.Fm Go.Sm Go.Tx

/-- the table of floats -/
def FT (g : Nat) (fl : List Nat) (w : World) : Prop := fl.length = 12 ∧ ∀ j, j < 12 → w.cell? ⟨g, j, none⟩ = some (.float .f64 (fl.getD j 0))

theorem Env.up {B : Nat} {w : World} (h : Env B w) : Env w.heap.size w := ⟨Nat.le_refl _, fun w' hb => h.tab w' (hb.mono h.size)⟩
theorem infoAct : (Tryd.prog.info? 39).map (fun i => (i.zero, i.size, i.bytes)) = some (some (.agg #[.int .i64 0, .int .i64 0, .slice none 0 0]), 3, 40) := by kernel_rfl
theorem infoInt : (Tryd.prog.info? 3).map (fun i => (i.zero, i.size, i.bytes)) = some (some (.int .i64 0), 1, 8) := by kernel_rfl
theorem actC_one (x : ActV) : ∀ u ∈ actC x, u.oneCell' = true := by
  intro u hu
  simp [actC] at hu
  rcases hu with rfl | rfl | rfl <;> rfl
/-- the act that is made, its floats, and its own cells: where they lie -/
theorem act_new {W wr : World} {xs : List ActV} {ss os : List Int} {vl vs vo : Value} (h : KSt W xs ss os vl vs vo wr) (d m x1 x2 x3 : Nat) (v : Int) (hm : m ≤ 3) (hd : d < 5) (hv : (Lit.int .i64 v).wf = true) (T1 T2 : TypeId) :
    KSt W xs ss os vl vs vo ((wr.alloc (.cells #[.float .f64 x1, .float .f64 x2, .float .f64 x3] T1)).alloc (.cells #[.int .i64 d, .int .i64 v, .slice (some ⟨wr.heap.size, 0, none⟩) m 3] T2)).drew ∧
    FOK ⟨d, v, some ⟨wr.heap.size, 0, none⟩, m, 3, [x1, x2, x3].take m⟩ wr.heap.size ((wr.alloc (.cells #[.float .f64 x1, .float .f64 x2, .float .f64 x3] T1)).alloc (.cells #[.int .i64 d, .int .i64 v, .slice (some ⟨wr.heap.size, 0, none⟩) m 3] T2)).drew ∧
    vl.ownBlock ≠ some wr.heap.size ∧ vs.ownBlock ≠ some wr.heap.size ∧ vo.ownBlock ≠ some wr.heap.size ∧
    (∀ j u, (actC ⟨d, v, some ⟨wr.heap.size, 0, none⟩, m, 3, [x1, x2, x3].take m⟩)[j]? = some u → ((wr.alloc (.cells #[.float .f64 x1, .float .f64 x2, .float .f64 x3] T1)).alloc (.cells #[.int .i64 d, .int .i64 v, .slice (some ⟨wr.heap.size, 0, none⟩) m 3] T2)).drew.cell? ((⟨wr.heap.size + 1, 0, none⟩ : Addr).add j) = some u) := by
  refine ⟨h.on (grow2 _ _ (Below.refl _ _)).drew, ⟨rfl, by simp; omega, hm, show (Lit.int .i64 (d : Int)).wf = true from WalkArith.wf_i64 (by omega), hv, fun j hj => ?_, by show _ < ((wr.alloc _).alloc _).heap.size; simp; omega⟩, ?_, ?_, ?_, ?_⟩
  · have hj3 : j < 3 := by simp at hj; omega
    show ((wr.alloc _).alloc _).cell? _ = _
    rw [World.cell?_alloc_lt _ _ _ (by simp), World.cell?_alloc_new]
    have hjm : j < m := by simp at hj; omega
    rcases j with _ | _ | _ | j
    · simp [List.getD, List.getElem?_take, hjm]
    · simp [List.getD, List.getElem?_take, hjm]
    · simp [List.getD, List.getElem?_take, hjm]
    · omega
  · intro e; have := (h.l.lt _ e).2; omega
  · intro e; have := (h.s.lt _ e).2; omega
  · intro e; have := (h.o.lt _ e).2; omega
  · intro j u hu
    rw [Addr.add_mid]
    show ((wr.alloc _).alloc _).cell? _ = _
    have e : wr.heap.size + 1 = (wr.alloc (.cells #[.float .f64 x1, .float .f64 x2, .float .f64 x3] T1)).heap.size := by simp
    rw [e, World.cell?_alloc_new, Nat.zero_add]
    rcases j with _ | _ | _ | j
    · simpa [actC] using hu
    · simpa [actC] using hu
    · simpa [actC] using hu
    · simp [actC] at hu
theorem FT.on {g : Nat} {fl : List Nat} {w w' : World} (h : FT g fl w) (hb : Below w.heap.size w w') : FT g fl w' :=
  ⟨h.1, fun j hj => by have := h.2 j hj; rw [hb.cell (block_lt_of_cell this)]; exact this⟩
theorem ft_new (fl : List Nat) (h : fl.length = 12) (w : World) (T : TypeId) : FT w.heap.size fl (w.alloc (.cells (fl.map (Value.float .f64)).toArray T)) := by
  refine ⟨h, fun j hj => ?_⟩
  rw [World.cell?_alloc_new]
  simp [List.getD, show j < fl.length by omega]
def flL (q1 q2 q3 : Nat) : List Nat := [0, 9223372036854775808, 4609434218613702656, 4502148214488346440, 4796552370005077389, 9094988921128908188, q1, q2, q3, 13830554455654793216, 4621819117026021567, 4712889646492470477]
theorem ft_at (q1 q2 q3 : Nat) (w : World) (T : TypeId) : FT w.heap.size (flL q1 q2 q3) (w.alloc (.cells #[.float .f64 0, .float .f64 9223372036854775808, .float .f64 4609434218613702656, .float .f64 4502148214488346440, .float .f64 4796552370005077389, .float .f64 9094988921128908188, .float .f64 q1, .float .f64 q2, .float .f64 q3, .float .f64 13830554455654793216, .float .f64 4621819117026021567, .float .f64 4712889646492470477] T)) := ft_new (flL q1 q2 q3) rfl w T
theorem k_alloc {g j1 j2 j3 : Nat} {wr : World} {x1 x2 x3 : Value} (h : wr.cell? ⟨g, j1, none⟩ = some x1 ∧ wr.cell? ⟨g, j2, none⟩ = some x2 ∧ wr.cell? ⟨g, j3, none⟩ = some x3) (hg : g < wr.heap.size) (o : Obj) : (wr.alloc o).drew.cell? ⟨g, j1, none⟩ = some x1 ∧ (wr.alloc o).drew.cell? ⟨g, j2, none⟩ = some x2 ∧ (wr.alloc o).drew.cell? ⟨g, j3, none⟩ = some x3 := by
  have k (j : Nat) : (wr.alloc o).cell? ⟨g, j, none⟩ = wr.cell? ⟨g, j, none⟩ := World.cell?_alloc_lt _ _ _ hg
  exact ⟨(k j1).trans h.1, (k j2).trans h.2.1, (k j3).trans h.2.2⟩
theorem k_alloc2 {g j1 j2 j3 : Nat} {wr : World} {x1 x2 x3 : Value} (h : wr.cell? ⟨g, j1, none⟩ = some x1 ∧ wr.cell? ⟨g, j2, none⟩ = some x2 ∧ wr.cell? ⟨g, j3, none⟩ = some x3) (hg : g < wr.heap.size) (o o2 : Obj) : ((wr.alloc o).alloc o2).drew.cell? ⟨g, j1, none⟩ = some x1 ∧ ((wr.alloc o).alloc o2).drew.cell? ⟨g, j2, none⟩ = some x2 ∧ ((wr.alloc o).alloc o2).drew.cell? ⟨g, j3, none⟩ = some x3 :=
  k_alloc (k_alloc h hg o) (by simp; omega) o2
theorem k_grown {g j1 j2 j3 : Nat} {wr w4 : World} {x1 x2 x3 : Value} {o o2 : Obj} {row : Option Nat} (h : wr.cell? ⟨g, j1, none⟩ = some x1 ∧ wr.cell? ⟨g, j2, none⟩ = some x2 ∧ wr.cell? ⟨g, j3, none⟩ = some x3) (hg : g < wr.heap.size) (hgr : ((wr.alloc o).alloc o2).drew.grownBy w4 row) (hv : ∀ b, row = some b → g < b) : w4.cell? ⟨g, j1, none⟩ = some x1 ∧ w4.cell? ⟨g, j2, none⟩ = some x2 ∧ w4.cell? ⟨g, j3, none⟩ = some x3 := by
  have h2 := k_alloc2 h hg o o2
  have k {j : Nat} {x : Value} (hc : ((wr.alloc o).alloc o2).drew.cell? ⟨g, j, none⟩ = some x) : w4.cell? ⟨g, j, none⟩ = some x := hgr.cell hc (fun e => by have := hv g e.symm; omega)
  exact ⟨k h2.1, k h2.2.1, k h2.2.2⟩
/-- a row of its own, read as a slice -/
theorem own_lies {w : World} {B : Nat} {E : TypeId} {v : Value} {zs : List Int} (h : w.ownsRow B E 1 v zs.length (zs.map (Value.int .i64))) (hl : zs.length ≤ 1000000000000000) : ∃ p cap, v = .slice p zs.length cap ∧ Lies .i64 w p zs := by
  rcases h.2 with ⟨hv, hz⟩ | ⟨g, cap, cur, hv, hB, hg, hc, hc2, r⟩
  · refine ⟨none, 0, by rw [hv, hz], by omega, fun j hj => by omega⟩
  · subst hv
    refine ⟨_, cap, rfl, hl, fun j hj => ⟨g, 0, rfl, ?_⟩⟩
    have := h.cellAt j (by omega)
    rw [Nat.zero_add, this, List.getElem?_map]
    simp [List.getD, hj]
/-- four acts by a literal -/
theorem lit_act {w : World} {b o : Nat} (d n : Int) (hd : (Lit.int .i64 d).wf = true) (hn : (Lit.int .i64 n).wf = true) (h0 : w.cell? ⟨b, o, none⟩ = some (.int .i64 d)) (h1 : w.cell? ⟨b, o + 1, none⟩ = some (.int .i64 n)) (h2 : w.cell? ⟨b, o + 2, none⟩ = some (.slice none 0 0)) : IsAct w b o ⟨d, n, none, 0, 0, []⟩ :=
  ⟨h0, h1, h2, hd, hn, rfl, Nat.zero_le _, fun _ => rfl, fun j hj => by cases hj⟩
theorem lit_acts (w : World) (T : TypeId) : IsActs (w.alloc (.cells #[.int .i64 0, .int .i64 9223372036854775807, .slice none 0 0, .int .i64 0, .int .i64 1, .slice none 0 0, .int .i64 3, .int .i64 0, .slice none 0 0, .int .i64 0, .int .i64 (-9223372036854775808), .slice none 0 0] T)) (some ⟨w.heap.size, 0, none⟩) 4 4 [⟨0, 9223372036854775807, none, 0, 0, []⟩, ⟨0, 1, none, 0, 0, []⟩, ⟨3, 0, none, 0, 0, []⟩, ⟨0, -9223372036854775808, none, 0, 0, []⟩] := by
  refine ⟨rfl, by unfold maxLen; omega, (fun e => by cases e), fun i hi => ⟨_, _, rfl, ?_⟩⟩
  have h4 : i < 4 := hi
  have h : i = 0 ∨ i = 1 ∨ i = 2 ∨ i = 3 := by omega
  rcases h with rfl | rfl | rfl | rfl
  · exact lit_act 0 9223372036854775807 rfl rfl (by rw [World.cell?_alloc_new]; rfl) (by rw [World.cell?_alloc_new]; rfl) (by rw [World.cell?_alloc_new]; rfl)
  · exact lit_act 0 1 rfl rfl (by rw [World.cell?_alloc_new]; rfl) (by rw [World.cell?_alloc_new]; rfl) (by rw [World.cell?_alloc_new]; rfl)
  · exact lit_act 3 0 rfl rfl (by rw [World.cell?_alloc_new]; rfl) (by rw [World.cell?_alloc_new]; rfl) (by rw [World.cell?_alloc_new]; rfl)
  · exact lit_act 0 (-9223372036854775808) rfl rfl (by rw [World.cell?_alloc_new]; rfl) (by rw [World.cell?_alloc_new]; rfl) (by rw [World.cell?_alloc_new]; rfl)
theorem cell_keep {g j : Nat} {W w1 w2 : World} {x : Value} (hg : g < W.heap.size) (h : w1.cell? ⟨g, j, none⟩ = some x ∧ Below W.heap.size W w1) (hb : Below w1.heap.size w1 w2) : w2.cell? ⟨g, j, none⟩ = some x ∧ Below W.heap.size W w2 :=
  ⟨by rw [hb.cell (Nat.lt_of_lt_of_le hg h.2.size)]; exact h.1, h.2.trans (hb.mono h.2.size)⟩
theorem cell_bel {g j : Nat} {W w1 : World} {x : Value} (h : w1.cell? ⟨g, j, none⟩ = some x ∧ Below W.heap.size W w1) : Below W.heap.size W w1 := h.2
theorem env_now {w wr w1 : World} (he : Env w.heap.size w) (h : Below w.heap.size w wr) (hb : Below wr.heap.size wr w1) : Env w1.heap.size w1 := Env.up (he.on' (h.trans (hb.mono h.size)))
set_option maxRecDepth 100000 in
set_option maxHeartbeats 8000000 in
theorem law_known (w : World) (henv : Env w.heap.size w) : Calls Tryd.prog 6 #[] w (Ans (.bool true) w) := by
  have hneg : ∀ w, (Op.unary .neg (.float .f64 0)).run Tryd.prog w = .ok (.float .f64 9223372036854775808) w := fun _ => by kernel_rfl
  have HE := Lib.hid henv
  clear henv
  go_enter Tryd.func6, Tryd.ntmps6
  go_wp2_with fail
  refine (zero2_any _).mono ?_
  rintro e w' ⟨rfl, rfl⟩
  go_wp2_with fail
  refine (zero2_any _).mono ?_
  rintro e w' ⟨rfl, rfl⟩
  obtain ⟨q1, n1, hop1, -, -⟩ := arith_any .quo (.inr rfl) 52 4607182418800017408 0 w
  go_wp2_with (simp only [hop1])
  clear hop1
  have hb1 : Below w.heap.size w (w.drewN n1) := ⟨rfl, rfl, rfl, Nat.le_refl _, fun _ _ => rfl⟩
  obtain ⟨w1, hw1⟩ : ∃ w1, w.drewN n1 = w1 := ⟨_, rfl⟩
  rw [hw1] at hb1 ⊢
  have HB1 := Lib.hid hb1
  clear hw1 hb1
  refine (zero2_any _).mono ?_
  rintro e w' ⟨rfl, rfl⟩
  obtain ⟨q2, n2, hop2, -, -⟩ := arith_any .quo (.inr rfl) 52 13830554455654793216 0 w1
  go_wp2_with (simp only [hop2])
  clear hop2
  have hb2 : Below w.heap.size w (w1.drewN n2) := HB1.out.trans ⟨rfl, rfl, rfl, Nat.le_refl _, fun _ _ => rfl⟩
  obtain ⟨w2, hw2⟩ : ∃ w2, w1.drewN n2 = w2 := ⟨_, rfl⟩
  rw [hw2] at hb2 ⊢
  have HB2 := Lib.hid hb2
  clear hw2 hb2 HB1
  refine (zero2_any _).mono ?_
  rintro e w' ⟨rfl, rfl⟩
  go_wp2_with fail
  refine (zero2_any _).mono ?_
  rintro e w' ⟨rfl, rfl⟩
  obtain ⟨q3, n3, hop3, -, -⟩ := arith_any .quo (.inr rfl) 52 0 0 w2
  go_wp2_with (simp only [hop3])
  clear hop3
  have hft := ft_at q1 q2 q3 (w2.drewN n3) 52
  have hb3 := (HB2.out.trans (⟨rfl, rfl, rfl, Nat.le_refl _, fun _ _ => rfl⟩ : Below w.heap.size w2 (w2.drewN n3))).alloc HB2.out.size (.cells #[.float .f64 0, .float .f64 9223372036854775808, .float .f64 4609434218613702656, .float .f64 4502148214488346440, .float .f64 4796552370005077389, .float .f64 9094988921128908188, .float .f64 q1, .float .f64 q2, .float .f64 q3, .float .f64 13830554455654793216, .float .f64 4621819117026021567, .float .f64 4712889646492470477] 52)
  obtain ⟨W, hW⟩ : ∃ W, (w2.drewN n3).alloc (.cells #[.float .f64 0, .float .f64 9223372036854775808, .float .f64 4609434218613702656, .float .f64 4502148214488346440, .float .f64 4796552370005077389, .float .f64 9094988921128908188, .float .f64 q1, .float .f64 q2, .float .f64 q3, .float .f64 13830554455654793216, .float .f64 4621819117026021567, .float .f64 4712889646492470477] 52) = W := ⟨_, rfl⟩
  have hsz : W.heap.size = w2.heap.size + 1 := by rw [← hW]; simp
  rw [hW] at hb3 hft ⊢
  generalize flL q1 q2 q3 = fl at hft
  have hft : FT w2.heap.size fl W := hft
  clear hW
  generalize w2.heap.size = gF at hsz hft ⊢
  have HF := Lib.hid hft
  have HB := Lib.hid hb3
  have HSZ := Lib.hid hsz
  clear hb3 hft hsz HB2
  go_loopw [2, 3] (fun vk vn wr => ∃ k n : Nat, k < 100003 ∧ n ≤ 60 ∧ vk = .int .i64 k ∧ vn = .int .i64 n ∧ Hid (Below W.heap.size W wr)) (fun _ vn _ => 60 - (intOf vn).toNat)
  case atStart => exact ⟨1, 0, by omega, by omega, rfl, rfl, Lib.hid (.refl _ _)⟩
  case round =>
    obtain ⟨k0, n, hk0, hn, rfl, rfl, HD⟩ := hrel
    obtain ⟨wo, rfl⟩ : ∃ wo : World, wo = wr := ⟨_, rfl⟩
    by_cases hn60 : n < 60
    · have hn60i : (n : Int) < 60 := by omega
      go_wp2_with fail
      go_loopw [2, 4, 5, 6, 7] (fun vk vl vs vo vi wr => ∃ k i : Nat, k < 100003 ∧ i ≤ 70 ∧ vk = .int .i64 k ∧ vi = .int .i64 i ∧ ∃ xs ss os, xs.length = i ∧ ss.length ≤ i ∧ ss.length ≤ 50 ∧ os.length = ss.length ∧ Hid (KSt wo xs ss os vl vs vo wr)) (fun _ _ _ _ vi _ => 70 - (intOf vi).toNat)
      case atStart => exact ⟨k0, 0, hk0, by omega, rfl, rfl, [], [], [], rfl, by simp, by simp, rfl, KSt.nil wo wo (.refl _ _)⟩
      case round =>
        obtain ⟨k, i, hk, hi, rfl, rfl, xs, ss, os, hxl, hsl, hs50, hol, HK⟩ := hrel
        have HXL := Lib.hid hxl
        have HOL := Lib.hid hol
        have hxl70 : xs.length ≤ 70 := by omega
        clear hxl hol
        obtain ⟨vl, rfl⟩ : ∃ v, v = u4 := ⟨_, rfl⟩
        obtain ⟨vs, rfl⟩ : ∃ v, v = u5 := ⟨_, rfl⟩
        obtain ⟨vo, rfl⟩ : ∃ v, v = u6 := ⟨_, rfl⟩
        by_cases hi70 : i < 70
        · obtain ⟨d, hd⟩ : ∃ d : Nat, (k : Int).tmod 5 = (d : Int) := ⟨k % 5, by rw [Int.tmod_eq_emod_of_nonneg (by omega)]; omega⟩
          obtain ⟨j1, hj1⟩ : ∃ j : Nat, (k : Int).tmod 12 = (j : Int) := ⟨k % 12, by rw [Int.tmod_eq_emod_of_nonneg (by omega)]; omega⟩
          obtain ⟨kd, hkd⟩ : ∃ j : Nat, IntKind.i64.wrap ((k : Int) / 12) = (j : Int) := ⟨k / 12, by rw [IntWalk.i64_in _ (by omega)]; omega⟩
          obtain ⟨j2, hj2⟩ : ∃ j : Nat, (kd : Int).tmod 12 = (j : Int) := ⟨kd % 12, by rw [Int.tmod_eq_emod_of_nonneg (by omega)]; omega⟩
          obtain ⟨j3, hj3⟩ : ∃ j : Nat, (i : Int).tmod 12 = (j : Int) := ⟨i % 12, by rw [Int.tmod_eq_emod_of_nonneg (by omega)]; omega⟩
          obtain ⟨m, hm⟩ : ∃ j : Nat, (k : Int).tmod 4 = (j : Int) := ⟨k % 4, by rw [Int.tmod_eq_emod_of_nonneg (by omega)]; omega⟩
          obtain ⟨sh, hsh⟩ : ∃ j : Nat, (k : Int).tmod 60 = (j : Int) := ⟨k % 60, by rw [Int.tmod_eq_emod_of_nonneg (by omega)]; omega⟩
          obtain ⟨r9, hr9⟩ : ∃ j : Nat, (k : Int).tmod 9 = (j : Int) := ⟨k % 9, by rw [Int.tmod_eq_emod_of_nonneg (by omega)]; omega⟩
          obtain ⟨z9, hz9⟩ : ∃ z : Int, IntKind.i64.wrap ((r9 : Int) - 1) = z := ⟨_, rfl⟩
          have t1 := Int.tmod_lt_of_pos (k : Int) (show (0 : Int) < 12 by omega)
          have t2 := Int.tmod_lt_of_pos (kd : Int) (show (0 : Int) < 12 by omega)
          have t3 := Int.tmod_lt_of_pos (i : Int) (show (0 : Int) < 12 by omega)
          have t4 := Int.tmod_lt_of_pos (k : Int) (show (0 : Int) < 4 by omega)
          have t5 := Int.tmod_lt_of_pos (k : Int) (show (0 : Int) < 5 by omega)
          rw [hj1] at t1
          rw [hj2] at t2
          rw [hj3] at t3
          rw [hm] at t4
          rw [hd] at t5
          have bd : d < 5 := by omega
          have b1 : j1 < 12 := by omega
          have b2 : j2 < 12 := by omega
          have b3 : j3 < 12 := by omega
          have bm : m < 4 := by omega
          clear t1 t2 t3 t4 t5
          have f1 : (0 : Int) ≤ (j1 : Int) := by omega
          have f1' : (j1 : Int) < 12 := by omega
          have f2 : (0 : Int) ≤ (j2 : Int) := by omega
          have f2' : (j2 : Int) < 12 := by omega
          have f3 : (0 : Int) ≤ (j3 : Int) := by omega
          have f3' : (j3 : Int) < 12 := by omega
          have f4 : (0 : Int) ≤ (m : Int) := by omega
          have f4' : (m : Int) ≤ 3 := by omega
          obtain ⟨x1, hx1⟩ : ∃ x, fl.getD j1 0 = x := ⟨_, rfl⟩
          obtain ⟨x2, hx2⟩ : ∃ x, fl.getD j2 0 = x := ⟨_, rfl⟩
          obtain ⟨x3, hx3⟩ : ∃ x, fl.getD j3 0 = x := ⟨_, rfl⟩
          have hft := HF.out.on (HD.out.trans (HK.out.bel.mono HD.out.size))
          have HC : Hid (wr.cell? ⟨gF, j1, none⟩ = some (.float .f64 x1) ∧ wr.cell? ⟨gF, j2, none⟩ = some (.float .f64 x2) ∧ wr.cell? ⟨gF, j3, none⟩ = some (.float .f64 x3)) := ⟨by rw [← hx1]; exact hft.2 j1 b1, by rw [← hx2]; exact hft.2 j2 b2, by rw [← hx3]; exact hft.2 j3 b3⟩
          obtain ⟨v, hv0⟩ : ∃ v, IntKind.i64.wrap (z9 * 2 ^ min sh 64) = v := ⟨_, rfl⟩
          have hv : (Lit.int .i64 v).wf = true := by rw [← hv0]; exact wf_wrap _ _
          have hmm : m ≤ 3 := by omega
          have HA := Lib.hid (act_new HK.out d m x1 x2 x3 v hmm bd hv 52 39)
          have HX := Lib.hid (And.intro (show xs.length + 1 ≤ maxLen by unfold maxLen; omega) (And.intro (show (xs.length + 1) * 40 ≤ 140737488355328 by omega) (And.intro (show W.heap.size ≤ wr.heap.size from Nat.le_trans HD.out.size HK.out.bel.size) (show wo.heap.size ≤ ((wr.alloc (.cells #[.float .f64 x1, .float .f64 x2, .float .f64 x3] 52)).alloc (.cells #[.int .i64 d, .int .i64 v, .slice (some ⟨wr.heap.size, 0, none⟩) m 3] 39)).drew.heap.size by have := HK.out.bel.size; show _ ≤ ((wr.alloc _).alloc _).heap.size; simp; omega))))
          have gl : gF < wr.heap.size := by have h1 := HSZ.out; have h2 := HX.out.2.2.1; omega
          have HV : Hid (∀ b, vl.ownBlock = some b → gF < b) := fun b e => by have h0 := (HK.out.l.lt b e).1; have h1 := HSZ.out; have h2 := HD.out.size; omega
          clear hx1 hx2 hx3 hft hv
          obtain ⟨iA, hA, hA0, hA1, hA2⟩ := info_parts infoAct
          go_wp2_with fail
          go_region_held3 (fun w' => w'.cell? ⟨gF, j1, none⟩ = some (.float .f64 x1) ∧ w'.cell? ⟨gF, j2, none⟩ = some (.float .f64 x2) ∧ w'.cell? ⟨gF, j3, none⟩ = some (.float .f64 x3)) (first | exact HC.out | exact k_alloc HC.out gl _ | exact k_alloc2 HC.out gl _ _ | exact k_grown HC.out gl (by assumption) HV.out)
            ((refine step_append_lies _ rfl (.tmp 26) (.tmp 56) 22 (by rfl) wo.heap.size 39 iA (.agg #[.int .i64 0, .int .i64 0, .slice none 0 0]) 3 40 Tryd.underlying22 hA hA0 hA1 hA2 rfl (by decide) vl xs.length (xs.flatMap actC) (by kernel_rfl) HA.out.1.l ⟨wr.heap.size + 1, 0, none⟩ 1 1 (actC ⟨d, v, some ⟨wr.heap.size, 0, none⟩, m, 3, [x1, x2, x3].take m⟩) (by kernel_rfl) rfl HA.out.2.2.2.2.2 (actC_one _) (by decide) HX.out.1 HX.out.2.1 HX.out.2.2.2 (wr.heap.size + 1 + 1) (by show ((wr.alloc _).alloc _).heap.size = _; simp) ?_; intro g4 cap4 w4 hown4 hgrow4 hat4 hlt4))
          have HN := Lib.hid (HA.out.1.pushL _ wr.heap.size HA.out.2.1 HA.out.2.2.1 HA.out.2.2.2.1 HA.out.2.2.2.2.1 g4 cap4 hown4 hgrow4 (hat4.imp id fun e => by rw [e]; show _ = ((wr.alloc _).alloc _).heap.size; simp))
          clear hown4 hgrow4 hat4 hlt4 hd hj1 hkd hj2 hj3 hm hsh hr9 hz9 hv0 HA HX HC HV HK
          obtain ⟨k2, hk2⟩ : ∃ k2 : Nat, ((k : Int) * 31 + 7 * (i : Int) + 11) % 100003 = (k2 : Int) := ⟨(k * 31 + 7 * i + 11) % 100003, by omega⟩
          have hk2' : k2 < 100003 := by omega
          generalize (⟨(d : Int), v, some ⟨wr.heap.size, 0, none⟩, m, 3, [x1, x2, x3].take m⟩ : ActV) = x at HN
          have HL1 : Hid ((xs ++ [x]).length = i + 1) := by show _ = _; rw [List.length_append, HXL.out]; rfl
          obtain ⟨i0, hi0, hz0, hz1, hz2⟩ := info_parts infoI64
          obtain ⟨iI, hI, hI0, hI1, hI2⟩ := info_parts infoInt
          by_cases h50 : i < 50
          · have HX2 := Lib.hid (And.intro (show ss.length + 1 ≤ maxLen by unfold maxLen; omega) (And.intro (show (ss.length + 1) * 8 ≤ 140737488355328 by omega) (HN.out.bel.size)))
            have HX3 := Lib.hid (And.intro (show os.length + 1 ≤ maxLen by have := HOL.out; unfold maxLen; omega) (show (os.length + 1) * 8 ≤ 140737488355328 by have := HOL.out; omega))
            have hsl2 : ss.length + 1 ≤ i + 1 := by omega
            have hsl3 : ss.length + 1 ≤ 50 := by omega
            go_wp2_with (at_builtin; first
              | (refine wpList_append_lies _ rfl (.tmp 60) (.tmp 68) 30 rfl wo.heap.size 2 i0 (.int .i64 0) 1 8 Tryd.underlying30 hi0 hz0 hz1 hz2 rfl (by decide) vs ss.length (ss.map (Value.int .i64)) rfl (HN.out.s.alloc _) ⟨w4.heap.size, 0, none⟩ 1 1 [.int .i64 _] rfl rfl (one_new _ w4 _) (one_one _) (by decide) HX2.out.1 HX2.out.2.1 (Nat.le_trans HX2.out.2.2 (by simp)) (w4.heap.size + 1) (by simp) ?_; intro g5 cap5 w5 hown5 hgrow5 hat5 hlt5; have HN5 := Lib.hid ((HN.out.on ((Below.refl _ _).alloc (Nat.le_refl _) _)).pushS _ g5 cap5 hown5 hgrow5 (hat5.imp id fun e => by rw [e]; simp)); clear hown5 hgrow5 hat5 hlt5 HN; have hb5 := HN5.out.bel.size)
              | (refine wpList_append_lies _ rfl (.tmp 70) (.tmp 73) 42 rfl wo.heap.size 3 iI (.int .i64 0) 1 8 Tryd.underlying42 hI hI0 hI1 hI2 rfl (by decide) vo os.length (os.map (Value.int .i64)) rfl (HN5.out.o.alloc _) ⟨w5.heap.size, 0, none⟩ 1 1 [.int .i64 _] rfl rfl (one_new _ w5 _) (one_one _) (by decide) HX3.out.1 HX3.out.2 (Nat.le_trans hb5 (by simp)) (w5.heap.size + 1) (by simp) ?_; intro g6 cap6 w6 hown6 hgrow6 hat6 hlt6))
            have HN6 := Lib.hid ((HN5.out.on ((Below.refl _ _).alloc (Nat.le_refl _) _)).pushO _ g6 cap6 hown6 hgrow6 (hat6.imp id fun e => by rw [e]; simp))
            clear hown6 hgrow6 hat6 hlt6 HN5 hb5
            go_wp2_with fail
            go_roundw
            case rel => exact ⟨k2, i + 1, hk2', by omega, congrArg (Value.int .i64) hk2, by go_num, _, _, _, HL1.out, by rw [List.length_append]; exact hsl2, by rw [List.length_append]; exact hsl3, by rw [List.length_append, List.length_append, HOL.out]; rfl, HN6⟩
            case measure =>
              show _ < _
              simp only [intOf]; omega
          · go_wp2_with fail
            go_roundw
            case rel => exact ⟨k2, i + 1, hk2', by omega, congrArg (Value.int .i64) hk2, by go_num, _, _, _, HL1.out, by omega, hs50, HOL.out, HN⟩
            case measure =>
              show _ < _
              simp only [intOf]; omega
        · obtain rfl : i = 70 := by omega
          obtain ⟨pL, cL, hvl, hActs⟩ := HK.out.acts (by omega)
          obtain ⟨pS, cS, hvs, hSp⟩ := own_lies HK.out.s (by omega)
          obtain ⟨pO, cO, hvo, hOr⟩ := own_lies HK.out.o (by have := HOL.out; omega)
          have HWr := Lib.hid (HD.out.trans (HK.out.bel.mono HD.out.size))
          have HWw := Lib.hid (HB.out.trans (HWr.out.mono HB.out.size))
          have hft := HF.out.on HWr.out
          subst hvl hvs hvo
          obtain ⟨jn, hjn⟩ : ∃ j : Nat, (n : Int).tmod 12 = (j : Int) := ⟨n % 12, by rw [Int.tmod_eq_emod_of_nonneg (by omega)]; omega⟩
          have bjn' := Int.tmod_lt_of_pos (n : Int) (show (0 : Int) < 12 by omega)
          rw [hjn] at bjn'
          have bjn : jn < 12 := by omega
          have f1 : (0 : Int) ≤ (jn : Int) := by omega
          have f1' : (jn : Int) < 12 := by omega
          obtain ⟨xn, hxn⟩ : ∃ x, fl.getD jn 0 = x := ⟨_, rfl⟩
          have hcn := hft.2 jn bjn
          rw [hxn] at hcn
          have HC := Lib.hid hcn
          have gl : gF < wr.heap.size := by have h1 := HSZ.out; have h2 := HWr.out.size; omega
          obtain ⟨s50, hs5⟩ : ∃ j : Nat, (n : Int).tmod 50 = (j : Int) := ⟨n % 50, by rw [Int.tmod_eq_emod_of_nonneg (by omega)]; omega⟩
          obtain ⟨s55, hs55⟩ : ∃ j : Nat, (n : Int).tmod 55 = (j : Int) := ⟨n % 55, by rw [Int.tmod_eq_emod_of_nonneg (by omega)]; omega⟩
          obtain ⟨s40, hs40⟩ : ∃ j : Nat, (n : Int).tmod 40 = (j : Int) := ⟨n % 40, by rw [Int.tmod_eq_emod_of_nonneg (by omega)]; omega⟩
          obtain ⟨z1, hz1⟩ : ∃ v, IntKind.i64.wrap ((k : Int) * 2 ^ min s50 64) = v := ⟨_, rfl⟩
          obtain ⟨z2, hz2⟩ : ∃ v, IntKind.i64.wrap ((n : Int) * 2 ^ min s55 64) = v := ⟨_, rfl⟩
          obtain ⟨z3, hz3⟩ : ∃ v, IntKind.i64.wrap ((n : Int) * 2 ^ min s40 64) = v := ⟨_, rfl⟩
          have wz1 : z1 ≤ 9223372036854775807 := by rw [← hz1]; exact (wf_i64 (wf_wrap _ _)).2
          have wz3 : z3 ≤ 9223372036854775807 := by rw [← hz3]; exact (wf_i64 (wf_wrap _ _)).2
          have bs1 : ss.length ≤ 9223372036854775807 := by omega
          have bs2 : os.length ≤ 9223372036854775807 := by have := HOL.out; omega
          have bn9 : (n : Int) ≤ 9223372036854775807 := by omega
          have HA := Lib.hid hActs
          have HS := Lib.hid hSp
          have HO := Lib.hid hOr
          clear hActs hSp hOr hxn hcn hft bjn'
          go_wp2_with fail
          go_region_held3 (fun w' => w'.cell? ⟨gF, jn, none⟩ = some (.float .f64 xn) ∧ Below wr.heap.size wr w') (first | exact ⟨HC.out, (Below.refl _ _).drew⟩ | assumption | exact cell_keep gl (by assumption) (by assumption))
            (first
              | (go_at_call 3; refine (law_plays _ _ _ _ _ _ wz1 _ (HA.out.on (by first | exact (Below.refl _ _).drew | exact cell_bel (by assumption))) (env_now HE.out HWw.out (by first | exact (Below.refl _ _).drew | exact cell_bel (by assumption)))).mono ?_; rintro e w3 ⟨rfl, hb3⟩)
              | (go_at_call 4; refine (law_orders _ _ _ _ _ _ _ _ _ _ wz3 _ rfl rfl bs1 bs2 (fun _ => HS.out.on (by first | exact (Below.refl _ _).drew | exact cell_bel (by assumption))) (fun _ => HO.out.on (by first | exact (Below.refl _ _).drew | exact cell_bel (by assumption))) (env_now HE.out HWw.out (by first | exact (Below.refl _ _).drew | exact cell_bel (by assumption)))).mono ?_; rintro e w3 ⟨rfl, hb3⟩)
              | (go_at_call 5; refine (law_none _ _ _ _ bn9 _ (env_now HE.out HWw.out (by first | exact (Below.refl _ _).drew | exact cell_bel (by assumption)))).mono ?_; rintro e w3 ⟨rfl, hb3⟩))
          rename_i hh
          have HDN := Lib.hid (HWr.out.trans (hh.2.mono HWr.out.size))
          clear hh HA HS HO HC HK HWw HWr
          go_wp2_with fail
          go_roundw
          case rel => exact ⟨k, n + 1, hk, by omega, rfl, by go_num, HDN⟩
          case measure =>
            show _ < _
            simp only [intOf]; omega
    · go_wp2_with fail
      have HWo := Lib.hid (HB.out.trans (HD.out.mono HB.out.size))
      have HW4 := Lib.hid (HWo.out.alloc HWo.out.size (.cells #[.int .i64 0, .int .i64 9223372036854775807, .slice none 0 0, .int .i64 0, .int .i64 1, .slice none 0 0, .int .i64 3, .int .i64 0, .slice none 0 0, .int .i64 0, .int .i64 (-9223372036854775808), .slice none 0 0] 39))
      refine (law_plays _ _ _ _ _ _ (by omega) _ (lit_acts wo 39) (Env.up (HE.out.on' HW4.out))).mono ?_
      rintro e w5 ⟨rfl, hb5⟩
      have HW5 := Lib.hid (HW4.out.trans (hb5.mono HW4.out.size))
      clear hb5 HW4
      go_wp2_with fail
      refine (works_any _ (HE.out.on' HW5.out)).mono ?_
      rintro e w6 ⟨rfl, hb6⟩
      go_wp2
      go_ret
      exact ⟨rfl, HW5.out.trans (hb6.mono HW5.out.size)⟩
end Go.Proofs.YtfigkoknhiabnaaDoor
