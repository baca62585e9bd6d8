/- The reference's memory of cells (layer 6): New, there, with, Load, Store, CAS, Add. -/
import Derived.Test.YtnakaifnalojeaaNk
namespace Go.Proofs.Ytnakaifnalojeaa
open Go.RowKit Go.Ce

/-- the reference's cells, as they lie -/
structure RM (w : World) (p : Option Addr) (l c : Nat) (cs : List Int) : Prop where
  len : l = cs.length
  few : l ≤ 1000
  nl : p = none → c = 0
  off : ∀ x o, p = some ⟨x, o, none⟩ → o = 0
  lies : Lies .u64 w p cs
theorem RM.on {w w' : World} {p : Option Addr} {l c : Nat} {cs : List Int} (h : RM w p l c cs) (hb : Below w.heap.size w w') : RM w' p l c cs := ⟨h.len, h.few, h.nl, h.off, h.lies.on hb⟩
/-- a variable of the call's own is written: its first cell was no number -/
theorem RM.put {w : World} {G i lq cq : Nat} {t : TypeId} {q p : Option Addr} {l c : Nat} {cs : List Int} {rest : List Value} (h : RM w p l c cs) (hr : Row G t (.slice q lq cq :: rest) w) (v : Value) : RM (w.setCell ⟨G, i, none⟩ v) p l c cs := by
  refine ⟨h.len, h.few, h.nl, h.off, ⟨h.lies.len, fun j hj => ?_⟩⟩
  obtain ⟨b, o, hp, hc⟩ := h.lies.cells j hj
  refine ⟨b, o, hp, ?_⟩
  have hne : G ≠ b := by
    rintro rfl
    obtain ⟨b', o', hp', hc'⟩ := h.lies.cells 0 (by omega)
    rw [hp] at hp'
    cases hp'
    have h0 := h.off _ _ hp
    subst h0
    have h1 : w.cell? ⟨G, 0, none⟩ = some (.slice q lq cq) := hr.cell 0
    rw [show (0 : Nat) + 0 = 0 from rfl, h1] at hc'
    cases hc'
  rw [World.cell?_setCell_far _ _ _ _ hne]; exact hc
/-- is there such an address? -/
def There (cs : List Int) (a : Int) : Prop := 0 ≤ a ∧ a < cs.length
instance (cs : List Int) (a : Int) : Decidable (There cs a) := by unfold There; infer_instance
theorem there_any {p : Option Addr} {l c : Nat} {cs : List Int} (n a : Int) (w : World) (hl : l = cs.length) : Calls Try.prog 55 #[.agg #[.slice p l c, .int .u64 n], .int .i64 a] w (Ans (.bool (decide (There cs a))) w) := by
  by_cases h0 : 0 ≤ a
  · have e : decide (There cs a) = decide (a < (l : Int)) := by unfold There; rw [hl]; simp [h0]
    rw [e]
    clear e hl
    go_enter Try.func55, Try.ntmps55
    go_wp2
    go_ret
    exact ⟨rfl, (Below.refl _ _).alloc (Nat.le_refl _) _⟩
  · have e : decide (There cs a) = false := by unfold There; simp [h0]
    rw [e]
    have h1 : a < 0 := by omega
    have h2 : decide (0 ≤ a) = false := decide_eq_false h0
    clear e hl h0
    go_enter Try.func55, Try.ntmps55
    go_wp2
    go_ret
    exact ⟨rfl, (Below.refl _ _).alloc (Nat.le_refl _) _⟩
theorem own_pos {w : World} {B n : Nat} {E : TypeId} {v : Value} {xs : List Value} (h : w.ownsRow B E 1 v n xs) (hn : 0 < n) : ∃ g c, v = .slice (some ⟨g, 0, none⟩) n c := by
  rcases h.2 with ⟨_, h2⟩ | ⟨g, cap, cur, h2, _⟩
  · omega
  · exact ⟨g, cap, h2⟩
/-- cells behind an access -/
def RPost (cs : List Int) (n : Int) (w : World) (e : Ending) (w' : World) : Prop := ∃ p l c, e = .returned (.agg #[.slice p l c, .int .u64 n]) ∧ RM w' p l c cs ∧ Below w.heap.size w w'
def RPost2 (cs : List Int) (n : Int) (v : Value) (w : World) (e : Ending) (w' : World) : Prop := ∃ p l c, e = .returned (.tuple #[.agg #[.slice p l c, .int .u64 n], v]) ∧ RM w' p l c cs ∧ Below w.heap.size w w'
set_option maxHeartbeats 1000000 in
theorem with_any {p : Option Addr} {l c : Nat} {cs : List Int} (n : Int) (j : Nat) (v : Int) (w : World) (h : RM w p l c cs) (hj : j < cs.length) (hn : 0 ≤ n ∧ n ≤ 1000000) :
    Calls Try.prog 56 #[.agg #[.slice p l c, .int .u64 n], .int .i64 j, .int .u64 v] w (RPost (cs.set j v) (n + 1) w) := by
  obtain ⟨i0, hi, hz0, hz1, hz2⟩ := info_parts infoU
  have hb1 := (Below.refl w.heap.size w).alloc (Nat.le_refl _) (.cells #[.slice p l c, .int .u64 n] 76)
  have hb2 := hb1.alloc (by simp) (.cells #[.slice none 0 0, .int .u64 0] 76)
  have hm := h.on hb2
  have hr0 := (Row.new w 76 [.slice p l c, .int .u64 n]).on' ((Below.refl _ _).alloc (Nat.le_refl _) (.cells #[.slice none 0 0, .int .u64 0] 76))
  have hr1 := Row.new' (w.alloc (.cells #[.slice p l c, .int .u64 n] 76)) 76 [.slice none 0 0, .int .u64 0] (w.heap.size + 1) (by simp)
  have hw : IntKind.u64.wrap (n + 1) = n + 1 := IntWalk.u64_in _ (by omega)
  have HM := Lib.hid hm
  have HB := Lib.hid hb2
  have HR0 := Lib.hid hr0
  have HR1 := Lib.hid hr1
  have hl := h.len
  have hfew := h.few
  have HL := Lib.hid (And.intro hl hfew)
  have HJ := Lib.hid hj
  have hj2 : (j : Int) < (l : Int) := by omega
  clear h hb1 hb2 hm hr0 hr1 hl hfew hj hn
  go_enter Try.func56, Try.ntmps56
  go_wp2_with (at_builtin; refine append_row i0 8 under_row hi hz0 hz1 hz2 (by decide) _ rfl _ _ rfl rfl cs p l c rfl HL.out.1 HL.out.2 HM.out.lies HM.out.nl ?_)
  intro v' w' ho hb
  obtain ⟨g2, c2, rfl⟩ := own_pos ho (by have := HL.out.1; have := HJ.out; omega)
  obtain ⟨rest, hrow, hc1, hc2, hg⟩ := own_row ho
  have hr0 := HR0.out.on hb (by omega)
  have hr1 := HR1.out.on hb (by omega)
  have k0 : w'.cell? ⟨w.heap.size, 0, none⟩ = some (.slice p l c) := hr0.cell 0
  have k1 : w'.cell? ⟨w.heap.size, 1, none⟩ = some (.int .u64 n) := hr0.cell 1
  have d0 : w'.cell? ⟨w.heap.size + 1, 0, none⟩ = some (.slice none 0 0) := hr1.cell 0
  have d1 : w'.cell? ⟨w.heap.size + 1, 1, none⟩ = some (.int .u64 0) := hr1.cell 1
  have f0 := hr1.frozen 0
  have f1 := hr1.frozen 1
  have hjl : j < (cs.map (Value.int .u64) ++ rest).length := by rw [List.length_append, List.length_map]; have := HJ.out; omega
  have g0 : w'.cell? ⟨g2, j, none⟩ = some (cs.map (Value.int .u64) ++ rest)[j] := by rw [hrow.cell, List.getElem?_eq_getElem hjl]
  generalize (cs.map (Value.int .u64) ++ rest)[j] = old at g0
  have fg := hrow.frozen j
  have hlt := hrow.lt
  have hne1 : g2 ≠ w.heap.size + 1 := by omega
  have hne0 : g2 ≠ w.heap.size := by omega
  -- behind the store of the cell
  have hrow2 : Row g2 34 ((cs.set j v).map (Value.int .u64) ++ rest) (w'.setCell ⟨g2, j, none⟩ (.int .u64 v)) := by
    rw [← map_set _ _ _ _ HJ.out]; exact hrow.set j _
  have s0 := hr0.far (p := ⟨g2, j, none⟩) hne0.symm (.int .u64 v)
  have s1 := hr1.far (p := ⟨g2, j, none⟩) hne1.symm (.int .u64 v)
  have hB : Below w.heap.size w (w'.setCell ⟨g2, j, none⟩ (.int .u64 v)) := (HB.out.trans (hb.mono (by omega))).setCell (p := ⟨g2, j, none⟩) (by show _ ≤ g2; omega) _
  have k0' := s0.cell 0
  have k1' := s0.cell 1
  have d0' := s1.cell 0
  have d1' := s1.cell 1
  have f0' := s1.frozen 0
  have f1' := s1.frozen 1
  simp only [List.getElem?_cons_zero, List.getElem?_cons_succ] at k0' k1' d0' d1'
  have HF : Hid (RPost (cs.set j v) (n + 1) w (.returned (.agg #[.slice (some ⟨g2, 0, none⟩) l c2, .int .u64 (n + 1)])) (((w'.setCell ⟨g2, j, none⟩ (.int .u64 v)).setCell ⟨w.heap.size + 1, 0, none⟩ (.slice (some ⟨g2, 0, none⟩) l c2)).setCell ⟨w.heap.size + 1, 1, none⟩ (.int .u64 (n + 1)))) := by
    have hrow3 := (hrow2.far (p := ⟨w.heap.size + 1, 0, none⟩) hne1 (.slice (some ⟨g2, 0, none⟩) l c2)).far (p := ⟨w.heap.size + 1, 1, none⟩) hne1 (.int .u64 (n + 1))
    refine ⟨_, _, _, rfl, ⟨by rw [List.length_set]; exact HL.out.1, HL.out.2, (fun e => by cases e), (fun x o e => by cases e; rfl), ⟨by rw [List.length_set]; have := HL.out; omega, fun q hq => ⟨g2, 0, rfl, ?_⟩⟩⟩, (hB.setCell (p := ⟨w.heap.size + 1, 0, none⟩) (by show _ ≤ w.heap.size + 1; omega) _).setCell (p := ⟨w.heap.size + 1, 1, none⟩) (by show _ ≤ w.heap.size + 1; omega) _⟩
    rw [Nat.zero_add, hrow3.cell, List.getElem?_append_left (by simpa using hq), List.getElem?_map, List.getD_eq_getElem?_getD, List.getElem?_eq_getElem hq]
    rfl
  generalize hW5 : w'.setCell ⟨g2, j, none⟩ (.int .u64 v) = W5 at k0' k1' d0' d1' f0' f1' HF
  clear hr0 hr1 k0 k1 d0 d1 f0 f1 hrow hrow2 s0 s1 hB ho hb hjl HM HR0 HR1 HB
  go_wp2
  exact bodyPost_ret (v := .agg #[.slice (some ⟨g2, 0, none⟩) l c2, .int .u64 (n + 1)]) (by simp [results, Try.results56, go_sem, *]) rfl HF.out

theorem rnew_any (n : Int) (N : Nat) (hN : nN n = N) (h40 : N ≤ 1000) (w : World) : Calls Try.prog 34 #[.int .i64 n] w (RPost (List.replicate N 0) 0 w) := by
  obtain ⟨i0, hi, hz0, hz1, hz2⟩ := info_parts infoU
  have hc : (n ≤ 0 ∧ (N : Int) = 0) ∨ (0 < n ∧ n ≤ 65536 ∧ (N : Int) = n) := by unfold nN at hN; omega
  have hm0 : (Instr.makeSlice 65 (.int .i64 N) (.int .i64 N)).run Try.prog (w.alloc (.cells #[.slice none 0 0, .int .u64 0] 76)) = .ok (.slice (some ⟨w.heap.size + 1, 0, none⟩) N N) ((w.alloc (.cells #[.slice none 0 0, .int .u64 0] 76)).alloc (.cells ((List.replicate N (0 : Int)).map (Value.int .u64) ++ []).toArray 34)) := by
    have := run_make (P := Try.prog) (w.alloc (.cells #[.slice none 0 0, .int .u64 0] 76)) 65 34 i0 _ under_row hi hz0 .i64 .i64 N N (by omega) (Int.le_refl _) (by rw [hz2]; omega) (by omega)
    rw [hz1] at this
    rw [this]
    simp only [Int.toNat_natCast, World.size_alloc]
    rw [show (Value.int IntKind.u64 0).cells = #[.int .u64 0] from rfl, make_cells]
  have hb0 := (Below.refl w.heap.size w).alloc (Nat.le_refl _) (.cells #[.slice none 0 0, .int .u64 0] 76)
  have hb1 := hb0.alloc (by simp) (.cells ((List.replicate N (0 : Int)).map (Value.int .u64) ++ []).toArray 34)
  have hrow : Row (w.heap.size + 1) 34 ((List.replicate N (0 : Int)).map (Value.int .u64) ++ []) ((w.alloc (.cells #[.slice none 0 0, .int .u64 0] 76)).alloc (.cells ((List.replicate N (0 : Int)).map (Value.int .u64) ++ []).toArray 34)) := Row.new' _ _ _ _ (by simp)
  have hbox := (Row.new w 76 [.slice none 0 0, .int .u64 0]).on' ((Below.refl _ _).alloc (Nat.le_refl _) (.cells ((List.replicate N (0 : Int)).map (Value.int .u64) ++ []).toArray 34))
  generalize (w.alloc (.cells #[.slice none 0 0, .int .u64 0] 76)).alloc (.cells ((List.replicate N (0 : Int)).map (Value.int .u64) ++ []).toArray 34) = W at hm0 hb1 hrow hbox
  have d0 : W.cell? ⟨w.heap.size, 0, none⟩ = some (.slice none 0 0) := hbox.cell 0
  have d1 : W.cell? ⟨w.heap.size, 1, none⟩ = some (.int .u64 0) := hbox.cell 1
  have f0 := hbox.frozen 0
  have f1 := hbox.frozen 1
  have HF : Hid (RPost (List.replicate N 0) 0 w (.returned (.agg #[.slice (some ⟨w.heap.size + 1, 0, none⟩) N N, .int .u64 0])) ((W.setCell ⟨w.heap.size, 0, none⟩ (.slice (some ⟨w.heap.size + 1, 0, none⟩) N N)).setCell ⟨w.heap.size, 1, none⟩ (.int .u64 0))) := by
    have hrow3 := (hrow.far (p := ⟨w.heap.size, 0, none⟩) (by show w.heap.size + 1 ≠ w.heap.size; omega) (.slice (some ⟨w.heap.size + 1, 0, none⟩) N N)).far (p := ⟨w.heap.size, 1, none⟩) (by show w.heap.size + 1 ≠ w.heap.size; omega) (.int .u64 0)
    refine ⟨_, _, _, rfl, ⟨by rw [List.length_replicate], h40, (fun e => by cases e), (fun x o e => by cases e; rfl), ⟨by rw [List.length_replicate]; omega, fun q hq => ⟨w.heap.size + 1, 0, rfl, ?_⟩⟩⟩, (hb1.setCell (p := ⟨w.heap.size, 0, none⟩) (Nat.le_refl _) _).setCell (p := ⟨w.heap.size, 1, none⟩) (Nat.le_refl _) _⟩
    rw [Nat.zero_add, hrow3.cell, List.getElem?_append_left (by simpa using hq), List.getElem?_map, List.getD_eq_getElem?_getD, List.getElem?_eq_getElem hq]
    rfl
  obtain ⟨z, hz⟩ : ∃ z : Int, (N : Int) = z := ⟨_, rfl⟩
  rw [hz] at hm0 hc
  clear hb0 hb1 hrow hbox hi hz0 hz1 hz2 hN h40 hz
  rcases hc with ⟨h1, rfl⟩ | ⟨h1, h2, rfl⟩
  · have q1 : ¬ (0 < n) := by omega
    have q2 : ¬ (65536 < n) := by omega
    have q4 : n ≤ 65536 := by omega
    go_enter Try.func34, Try.ntmps34
    go_wp2
    exact bodyPost_ret (v := .agg #[.slice (some ⟨w.heap.size + 1, 0, none⟩) N N, .int .u64 0]) (by simp [results, Try.results34, go_sem, *]) rfl HF.out
  · have q2 : ¬ (65536 < z) := by omega
    have q3 : ¬ (z ≤ 0) := by omega
    go_enter Try.func34, Try.ntmps34
    go_wp2
    exact bodyPost_ret (v := .agg #[.slice (some ⟨w.heap.size + 1, 0, none⟩) N N, .int .u64 0]) (by simp [results, Try.results34, go_sem, *]) rfl HF.out

theorem rboxes {w : World} (x y : Value) (W : World) (hW : (w.alloc (.cells #[x, y] 76)).alloc (.cells #[.slice none 0 0, .int .u64 0] 76) = W) : Row w.heap.size 76 [x, y] W ∧ Row (w.heap.size + 1) 76 [.slice none 0 0, .int .u64 0] W ∧ Below w.heap.size w W := by
  subst hW
  exact ⟨(Row.new w _ [x, y]).on' ((Below.refl _ _).alloc (Nat.le_refl _) _), Row.new' _ _ [.slice none 0 0, .int .u64 0] _ (by simp), ((Below.refl _ _).alloc (Nat.le_refl _) _).alloc (by simp) _⟩
/-- behind the store of a result -/
theorem res_put {w w2 : World} {p : Option Addr} {l c : Nat} {cs : List Int} {n : Int} {y : Value} {q : Option Addr} {lq cq : Nat} {t : TypeId} (hm : RM w2 p l c cs) (hr : Row (w.heap.size + 1) t [.slice q lq cq, y] w2) (hb : Below w.heap.size w w2) :
    RPost cs n w (.returned (.agg #[.slice p l c, .int .u64 n])) ((w2.setCell ⟨w.heap.size + 1, 0, none⟩ (.slice p l c)).setCell ⟨w.heap.size + 1, 1, none⟩ (.int .u64 n)) :=
  ⟨p, l, c, rfl, (hm.put hr _).put (hr.set 0 (.slice p l c)) _, (hb.setCell (p := ⟨w.heap.size + 1, 0, none⟩) (by show _ ≤ w.heap.size + 1; omega) _).setCell (p := ⟨w.heap.size + 1, 1, none⟩) (by show _ ≤ w.heap.size + 1; omega) _⟩
theorem rstore_any {p : Option Addr} {l c : Nat} {cs : List Int} (n a v : Int) (w : World) (h : RM w p l c cs) (hn : 0 ≤ n ∧ n ≤ 1000000) :
    Calls Try.prog 36 #[.agg #[.slice p l c, .int .u64 n], .int .i64 a, .int .u64 v] w (RPost (if There cs a then cs.set a.toNat v else cs) (if There cs a then n + 1 else n) w) := by
  obtain ⟨hr0, hr1, hb⟩ := rboxes (w := w) (.slice p l c) (.int .u64 n) _ rfl
  have hth := there_any (p := p) (c := c) n a ((w.alloc (.cells #[.slice p l c, .int .u64 n] 76)).alloc (.cells #[.slice none 0 0, .int .u64 0] 76)) h.len
  have HM := Lib.hid h
  have HB := Lib.hid hb
  have HR0 := Lib.hid hr0
  have HR1 := Lib.hid hr1
  have HN := Lib.hid hn
  clear h hb hr0 hr1 hn
  by_cases ht : There cs a
  · rw [decide_eq_true ht] at hth
    obtain ⟨j, rfl⟩ : ∃ j : Nat, a = j := ⟨a.toNat, by have := ht.1; omega⟩
    have HJ : Hid (j < cs.length) := by have := ht.2; show _ < _; omega
    rw [if_pos ht, if_pos ht, Int.toNat_natCast]
    clear ht
    go_enter Try.func36, Try.ntmps36
    go_wp2_with fail
    refine hth.mono ?_
    rintro e w1 ⟨rfl, hb1⟩
    have HB1 := Lib.hid (HB.out.trans (hb1.mono HB.out.size))
    have hr0 := HR0.out.on' hb1
    have HR11 := Lib.hid (HR1.out.on' hb1)
    have k0 := hr0.cell 0
    have k1 := hr0.cell 1
    simp only [List.getElem?_cons_zero, List.getElem?_cons_succ] at k0 k1
    clear hb1 hr0 hth
    go_wp2_with fail
    refine (with_any n j v w1 (HM.out.on HB1.out) HJ.out HN.out).mono ?_
    rintro e w2 ⟨p2, l2, c2, rfl, hm2, hb2⟩
    have hr1 := HR11.out.on' hb2
    have d0 := hr1.cell 0
    have d1 := hr1.cell 1
    have f0 := hr1.frozen 0
    have f1 := hr1.frozen 1
    simp only [List.getElem?_cons_zero, List.getElem?_cons_succ] at d0 d1
    have HF : Hid (RPost (cs.set j v) (n + 1) w (.returned (.agg #[.slice p2 l2 c2, .int .u64 (n + 1)])) ((w2.setCell ⟨w.heap.size + 1, 0, none⟩ (.slice p2 l2 c2)).setCell ⟨w.heap.size + 1, 1, none⟩ (.int .u64 (n + 1)))) := res_put hm2 hr1 (HB1.out.trans (hb2.mono HB1.out.size))
    clear hm2 hb2 hr1
    go_wp2
    exact bodyPost_ret (v := .agg #[.slice p2 l2 c2, .int .u64 (n + 1)]) (by simp [results, Try.results36, go_sem, *]) rfl HF.out
  · rw [decide_eq_false ht] at hth
    rw [if_neg ht, if_neg ht]
    clear ht
    go_enter Try.func36, Try.ntmps36
    go_wp2_with fail
    refine hth.mono ?_
    rintro e w2 ⟨rfl, hb1⟩
    have HB1 := Lib.hid (HB.out.trans (hb1.mono HB.out.size))
    have hr0 := HR0.out.on' hb1
    have hr1 := HR1.out.on' hb1
    have k0 := hr0.cell 0
    have k1 := hr0.cell 1
    have d0 := hr1.cell 0
    have d1 := hr1.cell 1
    have f0 := hr1.frozen 0
    have f1 := hr1.frozen 1
    simp only [List.getElem?_cons_zero, List.getElem?_cons_succ] at k0 k1 d0 d1
    have hlt : w.heap.size + 1 < w2.heap.size := hr1.lt
    have HF := Lib.hid (res_put (n := n) (HM.out.on HB1.out) hr1 HB1.out)
    clear hb1 hr0 hr1 hth
    go_wp2
    exact bodyPost_ret (v := .agg #[.slice p l c, .int .u64 n]) (by simp [results, Try.results36, go_sem, *]) rfl HF.out
end Go.Proofs.Ytnakaifnalojeaa
