/- The reference's memory beside the code's. -/
import Derived.Test.YtkhfanhboooilaaBe
import Derived.Test.YtkhfanhboooilaaBa
import Derived.Test.YtkhfanhboooilaaBd
set_option linter.unusedSimpArgs false
set_option linter.unusedVariables false
/- The reference's memory of cells (layer 6): New, there, with, Load, Store, CAS, Add. -/
namespace Go.Proofs.Ytkhfanhboooilaa
open Go.RowKit Go.Ce

/-- the reference's cells, as they lie -/
structure RM (w : World) (p : Option Addr) (l c : Nat) (cs : List Int) : Prop where
  len : l = cs.length
  few : l ≤ 1000
  nl : p = none → c = 0
  off : ∀ x o, p = some ⟨x, o, none⟩ → o = 0
  lies : Lies .u64 w p cs
theorem RM.on {w w' : World} {p : Option Addr} {l c : Nat} {cs : List Int} (h : RM w p l c cs) (hb : Below w.heap.size w w') : RM w' p l c cs := ⟨h.len, h.few, h.nl, h.off, h.lies.on hb⟩
/-- a variable of the call's own is written: its first cell was no number -/
theorem RM.put {w : World} {G i lq cq : Nat} {t : TypeId} {q p : Option Addr} {l c : Nat} {cs : List Int} {rest : List Value} (h : RM w p l c cs) (hr : Row G t (.slice q lq cq :: rest) w) (v : Value) : RM (w.setCell ⟨G, i, none⟩ v) p l c cs := by
  refine ⟨h.len, h.few, h.nl, h.off, ⟨h.lies.len, fun j hj => ?_⟩⟩
  obtain ⟨b, o, hp, hc⟩ := h.lies.cells j hj
  refine ⟨b, o, hp, ?_⟩
  have hne : G ≠ b := by
    rintro rfl
    obtain ⟨b', o', hp', hc'⟩ := h.lies.cells 0 (by omega)
    rw [hp] at hp'
    cases hp'
    have h0 := h.off _ _ hp
    subst h0
    have h1 : w.cell? ⟨G, 0, none⟩ = some (.slice q lq cq) := hr.cell 0
    rw [show (0 : Nat) + 0 = 0 from rfl, h1] at hc'
    cases hc'
  rw [World.cell?_setCell_far _ _ _ _ hne]; exact hc
/-- is there such an address? -/
def There (cs : List Int) (a : Int) : Prop := 0 ≤ a ∧ a < cs.length
instance (cs : List Int) (a : Int) : Decidable (There cs a) := by unfold There; infer_instance
theorem there_any {p : Option Addr} {l c : Nat} {cs : List Int} (n a : Int) (w : World) (hl : l = cs.length) : Calls Try.prog 99 #[.agg #[.slice p l c, .int .u64 n], .int .i64 a] w (Ans (.bool (decide (There cs a))) w) := by
  by_cases h0 : 0 ≤ a
  · have e : decide (There cs a) = decide (a < (l : Int)) := by unfold There; rw [hl]; simp [h0]
    rw [e]
    clear e hl
    go_enter Try.func99, Try.ntmps99
    go_wp2
    go_ret
    exact ⟨rfl, (Below.refl _ _).alloc (Nat.le_refl _) _⟩
  · have e : decide (There cs a) = false := by unfold There; simp [h0]
    rw [e]
    have h1 : a < 0 := by omega
    have h2 : decide (0 ≤ a) = false := decide_eq_false h0
    clear e hl h0
    go_enter Try.func99, Try.ntmps99
    go_wp2
    go_ret
    exact ⟨rfl, (Below.refl _ _).alloc (Nat.le_refl _) _⟩
theorem own_pos {w : World} {B n : Nat} {E : TypeId} {v : Value} {xs : List Value} (h : w.ownsRow B E 1 v n xs) (hn : 0 < n) : ∃ g c, v = .slice (some ⟨g, 0, none⟩) n c := by
  rcases h.2 with ⟨_, h2⟩ | ⟨g, cap, cur, h2, _⟩
  · omega
  · exact ⟨g, cap, h2⟩
/-- cells behind an access -/

def Fr (p0 p : Option Addr) (w : World) : Prop := ∀ x o, p = some ⟨x, o, none⟩ → (∃ o', p0 = some ⟨x, o', none⟩) ∨ w.heap.size ≤ x
theorem Fr.same (p : Option Addr) (w : World) : Fr p p w := fun _ o e => .inl ⟨o, e⟩
theorem Fr.old {p0 p : Option Addr} {w w' : World} (h : Fr p0 p w') (hs : w.heap.size ≤ w'.heap.size) : Fr p0 p w := fun x o e => (h x o e).imp id (Nat.le_trans hs)
def RPost (p0 : Option Addr) (cs : List Int) (n : Int) (w : World) (e : Ending) (w' : World) : Prop := ∃ p l c, e = .returned (.agg #[.slice p l c, .int .u64 n]) ∧ RM w' p l c cs ∧ Below w.heap.size w w' ∧ Fr p0 p w
def RPost2 (p0 : Option Addr) (cs : List Int) (n : Int) (v : Value) (w : World) (e : Ending) (w' : World) : Prop := ∃ p l c, e = .returned (.tuple #[.agg #[.slice p l c, .int .u64 n], v]) ∧ RM w' p l c cs ∧ Below w.heap.size w w' ∧ Fr p0 p w
set_option maxHeartbeats 1000000 in
theorem with_any {p : Option Addr} {l c : Nat} {cs : List Int} (n : Int) (j : Nat) (v : Int) (w : World) (h : RM w p l c cs) (hj : j < cs.length) (hn : 0 ≤ n ∧ n ≤ 1000000) :
    Calls Try.prog 100 #[.agg #[.slice p l c, .int .u64 n], .int .i64 j, .int .u64 v] w (RPost p (cs.set j v) (n + 1) w) := by
  obtain ⟨i0, hi, hz0, hz1, hz2⟩ := info_parts infoU
  have hb1 := (Below.refl w.heap.size w).alloc (Nat.le_refl _) (.cells #[.slice p l c, .int .u64 n] 31)
  have hb2 := hb1.alloc (by simp) (.cells #[.slice none 0 0, .int .u64 0] 31)
  have hm := h.on hb2
  have hr0 := (Row.new w 31 [.slice p l c, .int .u64 n]).on' ((Below.refl _ _).alloc (Nat.le_refl _) (.cells #[.slice none 0 0, .int .u64 0] 31))
  have hr1 := Row.new' (w.alloc (.cells #[.slice p l c, .int .u64 n] 31)) 31 [.slice none 0 0, .int .u64 0] (w.heap.size + 1) (by simp)
  have hw : IntKind.u64.wrap (n + 1) = n + 1 := IntWalk.u64_in _ (by omega)
  have HM := Lib.hid hm
  have HB := Lib.hid hb2
  have HR0 := Lib.hid hr0
  have HR1 := Lib.hid hr1
  have hl := h.len
  have hfew := h.few
  have HL := Lib.hid (And.intro hl hfew)
  have HJ := Lib.hid hj
  have hj2 : (j : Int) < (l : Int) := by omega
  clear h hb1 hb2 hm hr0 hr1 hl hfew hj hn
  go_enter Try.func100, Try.ntmps100
  go_wp2_with (at_builtin; refine append_row i0 8 under_row hi hz0 hz1 hz2 (by decide) _ rfl _ _ rfl rfl cs p l c rfl HL.out.1 HL.out.2 HM.out.lies HM.out.nl ?_)
  intro v' w' ho hb
  obtain ⟨g2, c2, rfl⟩ := own_pos ho (by have := HL.out.1; have := HJ.out; omega)
  obtain ⟨rest, hrow, hc1, hc2, hg⟩ := own_row ho
  have hr0 := HR0.out.on hb (by omega)
  have hr1 := HR1.out.on hb (by omega)
  have k0 : w'.cell? ⟨w.heap.size, 0, none⟩ = some (.slice p l c) := hr0.cell 0
  have k1 : w'.cell? ⟨w.heap.size, 1, none⟩ = some (.int .u64 n) := hr0.cell 1
  have d0 : w'.cell? ⟨w.heap.size + 1, 0, none⟩ = some (.slice none 0 0) := hr1.cell 0
  have d1 : w'.cell? ⟨w.heap.size + 1, 1, none⟩ = some (.int .u64 0) := hr1.cell 1
  have f0 := hr1.frozen 0
  have f1 := hr1.frozen 1
  have hjl : j < (cs.map (Value.int .u64) ++ rest).length := by rw [List.length_append, List.length_map]; have := HJ.out; omega
  have g0 : w'.cell? ⟨g2, j, none⟩ = some (cs.map (Value.int .u64) ++ rest)[j] := by rw [hrow.cell, List.getElem?_eq_getElem hjl]
  generalize (cs.map (Value.int .u64) ++ rest)[j] = old at g0
  have fg := hrow.frozen j
  have hlt := hrow.lt
  have hne1 : g2 ≠ w.heap.size + 1 := by omega
  have hne0 : g2 ≠ w.heap.size := by omega
  -- behind the store of the cell
  have hrow2 : Row g2 29 ((cs.set j v).map (Value.int .u64) ++ rest) (w'.setCell ⟨g2, j, none⟩ (.int .u64 v)) := by
    rw [← map_set _ _ _ _ HJ.out]; exact hrow.set j _
  have s0 := hr0.far (p := ⟨g2, j, none⟩) hne0.symm (.int .u64 v)
  have s1 := hr1.far (p := ⟨g2, j, none⟩) hne1.symm (.int .u64 v)
  have hB : Below w.heap.size w (w'.setCell ⟨g2, j, none⟩ (.int .u64 v)) := (HB.out.trans (hb.mono (by omega))).setCell (p := ⟨g2, j, none⟩) (by show _ ≤ g2; omega) _
  have k0' := s0.cell 0
  have k1' := s0.cell 1
  have d0' := s1.cell 0
  have d1' := s1.cell 1
  have f0' := s1.frozen 0
  have f1' := s1.frozen 1
  simp only [List.getElem?_cons_zero, List.getElem?_cons_succ] at k0' k1' d0' d1'
  have HF : Hid (RPost p (cs.set j v) (n + 1) w (.returned (.agg #[.slice (some ⟨g2, 0, none⟩) l c2, .int .u64 (n + 1)])) (((w'.setCell ⟨g2, j, none⟩ (.int .u64 v)).setCell ⟨w.heap.size + 1, 0, none⟩ (.slice (some ⟨g2, 0, none⟩) l c2)).setCell ⟨w.heap.size + 1, 1, none⟩ (.int .u64 (n + 1)))) := by
    have hrow3 := (hrow2.far (p := ⟨w.heap.size + 1, 0, none⟩) hne1 (.slice (some ⟨g2, 0, none⟩) l c2)).far (p := ⟨w.heap.size + 1, 1, none⟩) hne1 (.int .u64 (n + 1))
    refine ⟨_, _, _, rfl, ⟨by rw [List.length_set]; exact HL.out.1, HL.out.2, (fun e => by cases e), (fun x o e => by cases e; rfl), ⟨by rw [List.length_set]; have := HL.out; omega, fun q hq => ⟨g2, 0, rfl, ?_⟩⟩⟩, (hB.setCell (p := ⟨w.heap.size + 1, 0, none⟩) (by show _ ≤ w.heap.size + 1; omega) _).setCell (p := ⟨w.heap.size + 1, 1, none⟩) (by show _ ≤ w.heap.size + 1; omega) _, fun x o e => .inr (by cases e; omega)⟩
    rw [Nat.zero_add, hrow3.cell, List.getElem?_append_left (by simpa using hq), List.getElem?_map, List.getD_eq_getElem?_getD, List.getElem?_eq_getElem hq]
    rfl
  generalize hW5 : w'.setCell ⟨g2, j, none⟩ (.int .u64 v) = W5 at k0' k1' d0' d1' f0' f1' HF
  clear hr0 hr1 k0 k1 d0 d1 f0 f1 hrow hrow2 s0 s1 hB ho hb hjl HM HR0 HR1 HB
  go_wp2
  exact bodyPost_ret (v := .agg #[.slice (some ⟨g2, 0, none⟩) l c2, .int .u64 (n + 1)]) (by simp [results, Try.results100, go_sem, *]) rfl HF.out

theorem rnew_any (n : Int) (N : Nat) (hN : nN n = N) (h40 : N ≤ 1000) (w : World) : Calls Try.prog 56 #[.int .i64 n] w (RPost none (List.replicate N 0) 0 w) := by
  obtain ⟨i0, hi, hz0, hz1, hz2⟩ := info_parts infoU
  have hc : (n ≤ 0 ∧ (N : Int) = 0) ∨ (0 < n ∧ n ≤ 65536 ∧ (N : Int) = n) := by unfold nN at hN; omega
  have hm0 : (Instr.makeSlice 28 (.int .i64 N) (.int .i64 N)).run Try.prog (w.alloc (.cells #[.slice none 0 0, .int .u64 0] 31)) = .ok (.slice (some ⟨w.heap.size + 1, 0, none⟩) N N) ((w.alloc (.cells #[.slice none 0 0, .int .u64 0] 31)).alloc (.cells ((List.replicate N (0 : Int)).map (Value.int .u64) ++ []).toArray 29)) := by
    have := run_make (P := Try.prog) (w.alloc (.cells #[.slice none 0 0, .int .u64 0] 31)) 28 29 i0 _ under_row hi hz0 .i64 .i64 N N (by omega) (Int.le_refl _) (by rw [hz2]; omega) (by omega)
    rw [hz1] at this
    rw [this]
    simp only [Int.toNat_natCast, World.size_alloc]
    rw [show (Value.int IntKind.u64 0).cells = #[.int .u64 0] from rfl, make_cells]
  have hb0 := (Below.refl w.heap.size w).alloc (Nat.le_refl _) (.cells #[.slice none 0 0, .int .u64 0] 31)
  have hb1 := hb0.alloc (by simp) (.cells ((List.replicate N (0 : Int)).map (Value.int .u64) ++ []).toArray 29)
  have hrow : Row (w.heap.size + 1) 29 ((List.replicate N (0 : Int)).map (Value.int .u64) ++ []) ((w.alloc (.cells #[.slice none 0 0, .int .u64 0] 31)).alloc (.cells ((List.replicate N (0 : Int)).map (Value.int .u64) ++ []).toArray 29)) := Row.new' _ _ _ _ (by simp)
  have hbox := (Row.new w 31 [.slice none 0 0, .int .u64 0]).on' ((Below.refl _ _).alloc (Nat.le_refl _) (.cells ((List.replicate N (0 : Int)).map (Value.int .u64) ++ []).toArray 29))
  generalize (w.alloc (.cells #[.slice none 0 0, .int .u64 0] 31)).alloc (.cells ((List.replicate N (0 : Int)).map (Value.int .u64) ++ []).toArray 29) = W at hm0 hb1 hrow hbox
  have d0 : W.cell? ⟨w.heap.size, 0, none⟩ = some (.slice none 0 0) := hbox.cell 0
  have d1 : W.cell? ⟨w.heap.size, 1, none⟩ = some (.int .u64 0) := hbox.cell 1
  have f0 := hbox.frozen 0
  have f1 := hbox.frozen 1
  have HF : Hid (RPost none (List.replicate N 0) 0 w (.returned (.agg #[.slice (some ⟨w.heap.size + 1, 0, none⟩) N N, .int .u64 0])) ((W.setCell ⟨w.heap.size, 0, none⟩ (.slice (some ⟨w.heap.size + 1, 0, none⟩) N N)).setCell ⟨w.heap.size, 1, none⟩ (.int .u64 0))) := by
    have hrow3 := (hrow.far (p := ⟨w.heap.size, 0, none⟩) (by show w.heap.size + 1 ≠ w.heap.size; omega) (.slice (some ⟨w.heap.size + 1, 0, none⟩) N N)).far (p := ⟨w.heap.size, 1, none⟩) (by show w.heap.size + 1 ≠ w.heap.size; omega) (.int .u64 0)
    refine ⟨_, _, _, rfl, ⟨by rw [List.length_replicate], h40, (fun e => by cases e), (fun x o e => by cases e; rfl), ⟨by rw [List.length_replicate]; omega, fun q hq => ⟨w.heap.size + 1, 0, rfl, ?_⟩⟩⟩, (hb1.setCell (p := ⟨w.heap.size, 0, none⟩) (Nat.le_refl _) _).setCell (p := ⟨w.heap.size, 1, none⟩) (Nat.le_refl _) _, fun x o e => .inr (by cases e; exact Nat.le_succ _)⟩
    rw [Nat.zero_add, hrow3.cell, List.getElem?_append_left (by simpa using hq), List.getElem?_map, List.getD_eq_getElem?_getD, List.getElem?_eq_getElem hq]
    rfl
  obtain ⟨z, hz⟩ : ∃ z : Int, (N : Int) = z := ⟨_, rfl⟩
  rw [hz] at hm0 hc
  clear hb0 hb1 hrow hbox hi hz0 hz1 hz2 hN h40 hz
  rcases hc with ⟨h1, rfl⟩ | ⟨h1, h2, rfl⟩
  · have q1 : ¬ (0 < n) := by omega
    have q2 : ¬ (65536 < n) := by omega
    have q4 : n ≤ 65536 := by omega
    go_enter Try.func56, Try.ntmps56
    go_wp2
    exact bodyPost_ret (v := .agg #[.slice (some ⟨w.heap.size + 1, 0, none⟩) N N, .int .u64 0]) (by simp [results, Try.results56, go_sem, *]) rfl HF.out
  · have q2 : ¬ (65536 < z) := by omega
    have q3 : ¬ (z ≤ 0) := by omega
    go_enter Try.func56, Try.ntmps56
    go_wp2
    exact bodyPost_ret (v := .agg #[.slice (some ⟨w.heap.size + 1, 0, none⟩) N N, .int .u64 0]) (by simp [results, Try.results56, go_sem, *]) rfl HF.out

theorem rboxes {w : World} (x y : Value) (W : World) (hW : (w.alloc (.cells #[x, y] 31)).alloc (.cells #[.slice none 0 0, .int .u64 0] 31) = W) : Row w.heap.size 31 [x, y] W ∧ Row (w.heap.size + 1) 31 [.slice none 0 0, .int .u64 0] W ∧ Below w.heap.size w W := by
  subst hW
  exact ⟨(Row.new w _ [x, y]).on' ((Below.refl _ _).alloc (Nat.le_refl _) _), Row.new' _ _ [.slice none 0 0, .int .u64 0] _ (by simp), ((Below.refl _ _).alloc (Nat.le_refl _) _).alloc (by simp) _⟩
/-- behind the store of a result -/
theorem res_put {w w2 : World} {p0 p : Option Addr} {l c : Nat} {cs : List Int} {n : Int} {y : Value} {q : Option Addr} {lq cq : Nat} {t : TypeId} (hm : RM w2 p l c cs) (hr : Row (w.heap.size + 1) t [.slice q lq cq, y] w2) (hb : Below w.heap.size w w2) (hf : Fr p0 p w) :
    RPost p0 cs n w (.returned (.agg #[.slice p l c, .int .u64 n])) ((w2.setCell ⟨w.heap.size + 1, 0, none⟩ (.slice p l c)).setCell ⟨w.heap.size + 1, 1, none⟩ (.int .u64 n)) :=
  ⟨p, l, c, rfl, (hm.put hr _).put (hr.set 0 (.slice p l c)) _, (hb.setCell (p := ⟨w.heap.size + 1, 0, none⟩) (by show _ ≤ w.heap.size + 1; omega) _).setCell (p := ⟨w.heap.size + 1, 1, none⟩) (by show _ ≤ w.heap.size + 1; omega) _, hf⟩
theorem rstore_any {p : Option Addr} {l c : Nat} {cs : List Int} (n a v : Int) (w : World) (h : RM w p l c cs) (hn : 0 ≤ n ∧ n ≤ 1000000) :
    Calls Try.prog 45 #[.agg #[.slice p l c, .int .u64 n], .int .i64 a, .int .u64 v] w (RPost p (if There cs a then cs.set a.toNat v else cs) (if There cs a then n + 1 else n) w) := by
  obtain ⟨hr0, hr1, hb⟩ := rboxes (w := w) (.slice p l c) (.int .u64 n) _ rfl
  have hth := there_any (p := p) (c := c) n a ((w.alloc (.cells #[.slice p l c, .int .u64 n] 31)).alloc (.cells #[.slice none 0 0, .int .u64 0] 31)) h.len
  have HM := Lib.hid h
  have HB := Lib.hid hb
  have HR0 := Lib.hid hr0
  have HR1 := Lib.hid hr1
  have HN := Lib.hid hn
  clear h hb hr0 hr1 hn
  by_cases ht : There cs a
  · rw [decide_eq_true ht] at hth
    obtain ⟨j, rfl⟩ : ∃ j : Nat, a = j := ⟨a.toNat, by have := ht.1; omega⟩
    have HJ : Hid (j < cs.length) := by have := ht.2; show _ < _; omega
    rw [if_pos ht, if_pos ht, Int.toNat_natCast]
    clear ht
    go_enter Try.func45, Try.ntmps45
    go_wp2_with fail
    refine hth.mono ?_
    rintro e w1 ⟨rfl, hb1⟩
    have HB1 := Lib.hid (HB.out.trans (hb1.mono HB.out.size))
    have hr0 := HR0.out.on' hb1
    have HR11 := Lib.hid (HR1.out.on' hb1)
    have k0 := hr0.cell 0
    have k1 := hr0.cell 1
    simp only [List.getElem?_cons_zero, List.getElem?_cons_succ] at k0 k1
    clear hb1 hr0 hth
    go_wp2_with fail
    refine (with_any n j v w1 (HM.out.on HB1.out) HJ.out HN.out).mono ?_
    rintro e w2 ⟨p2, l2, c2, rfl, hm2, hb2, hf2⟩
    have hr1 := HR11.out.on' hb2
    have d0 := hr1.cell 0
    have d1 := hr1.cell 1
    have f0 := hr1.frozen 0
    have f1 := hr1.frozen 1
    simp only [List.getElem?_cons_zero, List.getElem?_cons_succ] at d0 d1
    have HF : Hid (RPost p (cs.set j v) (n + 1) w (.returned (.agg #[.slice p2 l2 c2, .int .u64 (n + 1)])) ((w2.setCell ⟨w.heap.size + 1, 0, none⟩ (.slice p2 l2 c2)).setCell ⟨w.heap.size + 1, 1, none⟩ (.int .u64 (n + 1)))) := res_put hm2 hr1 (HB1.out.trans (hb2.mono HB1.out.size)) (hf2.old HB1.out.size)
    clear hm2 hb2 hr1 hf2
    go_wp2
    exact bodyPost_ret (v := .agg #[.slice p2 l2 c2, .int .u64 (n + 1)]) (by simp [results, Try.results45, go_sem, *]) rfl HF.out
  · rw [decide_eq_false ht] at hth
    rw [if_neg ht, if_neg ht]
    clear ht
    go_enter Try.func45, Try.ntmps45
    go_wp2_with fail
    refine hth.mono ?_
    rintro e w2 ⟨rfl, hb1⟩
    have HB1 := Lib.hid (HB.out.trans (hb1.mono HB.out.size))
    have hr0 := HR0.out.on' hb1
    have hr1 := HR1.out.on' hb1
    have k0 := hr0.cell 0
    have k1 := hr0.cell 1
    have d0 := hr1.cell 0
    have d1 := hr1.cell 1
    have f0 := hr1.frozen 0
    have f1 := hr1.frozen 1
    simp only [List.getElem?_cons_zero, List.getElem?_cons_succ] at k0 k1 d0 d1
    have hlt : w.heap.size + 1 < w2.heap.size := hr1.lt
    have HF := Lib.hid (res_put (n := n) (HM.out.on HB1.out) hr1 HB1.out (Fr.same p w))
    clear hb1 hr0 hr1 hth
    go_wp2
    exact bodyPost_ret (v := .agg #[.slice p l c, .int .u64 n]) (by simp [results, Try.results45, go_sem, *]) rfl HF.out
end Go.Proofs.Ytkhfanhboooilaa

/- The reference's memory of cells (layer 6): Load, CAS, Add. -/
namespace Go.Proofs.Ytkhfanhboooilaa
open Go.RowKit Go.Ce

theorem res_put2 {w w2 : World} {p0 p : Option Addr} {l c : Nat} {cs : List Int} {n : Int} {v y : Value} {q : Option Addr} {lq cq : Nat} {t : TypeId} (hm : RM w2 p l c cs) (hr : Row (w.heap.size + 1) t [.slice q lq cq, y] w2) (hb : Below w.heap.size w w2) (hf : Fr p0 p w) :
    RPost2 p0 cs n v w (.returned (.tuple #[.agg #[.slice p l c, .int .u64 n], v])) ((w2.setCell ⟨w.heap.size + 1, 0, none⟩ (.slice p l c)).setCell ⟨w.heap.size + 1, 1, none⟩ (.int .u64 n)) := by
  obtain ⟨p', l', c', he, hm', hb', -⟩ := res_put (n := n) hm hr hb hf
  cases he
  exact ⟨p, l, c, rfl, hm', hb', hf⟩
theorem RPost2.drew {p0 : Option Addr} {cs : List Int} {n : Int} {v : Value} {w w' : World} {e : Ending} (h : RPost2 p0 cs n v w e w') : RPost2 p0 cs n v w e w'.drew := by
  obtain ⟨p, l, c, he, hm, hb, hf⟩ := h
  exact ⟨p, l, c, he, hm.on ((Below.refl _ _).drew), hb.drew, hf⟩
/-- nothing there -/
theorem rload_no {p : Option Addr} {l c : Nat} {cs : List Int} (n a : Int) (w : World) (h : RM w p l c cs) (ht : ¬ There cs a) :
    Calls Try.prog 75 #[.agg #[.slice p l c, .int .u64 n], .int .i64 a] w (RPost2 p cs n (.int .u64 0) w) := by
  obtain ⟨hr0, hr1, hb⟩ := rboxes (w := w) (.slice p l c) (.int .u64 n) _ rfl
  have hth := there_any (p := p) (c := c) n a ((w.alloc (.cells #[.slice p l c, .int .u64 n] 31)).alloc (.cells #[.slice none 0 0, .int .u64 0] 31)) h.len
  have HM := Lib.hid h
  have HB := Lib.hid hb
  have HR0 := Lib.hid hr0
  have HR1 := Lib.hid hr1
  rw [decide_eq_false ht] at hth
  clear h hb hr0 hr1 ht
  go_enter Try.func75, Try.ntmps75
  go_wp2_with fail
  refine hth.mono ?_
  rintro e w2 ⟨rfl, hb1⟩
  have HB1 := Lib.hid (HB.out.trans (hb1.mono HB.out.size))
  have hr0 := HR0.out.on' hb1
  have hr1 := HR1.out.on' hb1
  have k0 := hr0.cell 0
  have k1 := hr0.cell 1
  have d0 := hr1.cell 0
  have d1 := hr1.cell 1
  have f0 := hr1.frozen 0
  have f1 := hr1.frozen 1
  simp only [List.getElem?_cons_zero, List.getElem?_cons_succ] at k0 k1 d0 d1
  have HF := Lib.hid (res_put2 (n := n) (v := (.int .u64 0)) (HM.out.on HB1.out) hr1 HB1.out (Fr.same _ w))
  clear hb1 hr0 hr1 hth
  go_wp2
  exact bodyPost_ret (v := .tuple #[.agg #[.slice p l c, .int .u64 n], (.int .u64 0)]) (by simp [results, Try.results75, go_sem, *]) rfl HF.out
theorem three_far {w w2 : World} {pb q : Nat} {x y z : Value} (hpb : pb < w.heap.size) (k0 : w2.cell? ⟨w.heap.size, 0, none⟩ = some x) (k1 : w2.cell? ⟨w.heap.size, 1, none⟩ = some y) (hc : w2.cell? ⟨pb, q, none⟩ = some z) (u v : Value) :
    ((w2.setCell ⟨w.heap.size + 1, 0, none⟩ u).setCell ⟨w.heap.size + 1, 1, none⟩ v).drew.cell? ⟨w.heap.size, 0, none⟩ = some x ∧ ((w2.setCell ⟨w.heap.size + 1, 0, none⟩ u).setCell ⟨w.heap.size + 1, 1, none⟩ v).drew.cell? ⟨w.heap.size, 1, none⟩ = some y ∧ ((w2.setCell ⟨w.heap.size + 1, 0, none⟩ u).setCell ⟨w.heap.size + 1, 1, none⟩ v).drew.cell? ⟨pb, q, none⟩ = some z := by
  simp only [World.cell?_drew]
  refine ⟨?_, ?_, ?_⟩
  · rw [World.cell?_setCell_far _ _ _ _ (by simp), World.cell?_setCell_far _ _ _ _ (by simp)]; exact k0
  · rw [World.cell?_setCell_far _ _ _ _ (by simp), World.cell?_setCell_far _ _ _ _ (by simp)]; exact k1
  · rw [World.cell?_setCell_far _ _ _ _ (by simp; omega), World.cell?_setCell_far _ _ _ _ (by simp; omega)]; exact hc
theorem rload_yes {p : Option Addr} {l c : Nat} {cs : List Int} (n : Int) (j : Nat) (w : World) (h : RM w p l c cs) (hj : j < cs.length) (hn : 0 ≤ n ∧ n ≤ 1000000) :
    Calls Try.prog 75 #[.agg #[.slice p l c, .int .u64 n], .int .i64 j] w (RPost2 p cs (n + 1) (.int .u64 (cs.getD j 0)) w) := by
  obtain ⟨hr0, hr1, hb⟩ := rboxes (w := w) (.slice p l c) (.int .u64 n) _ rfl
  have hth := there_any (p := p) (c := c) n j ((w.alloc (.cells #[.slice p l c, .int .u64 n] 31)).alloc (.cells #[.slice none 0 0, .int .u64 0] 31)) h.len
  have HM := Lib.hid h
  have HB := Lib.hid hb
  have HR0 := Lib.hid hr0
  have HR1 := Lib.hid hr1
  have hw : IntKind.u64.wrap (n + 1) = n + 1 := IntWalk.u64_in _ (by omega)
  rw [decide_eq_true (show There cs (j : Int) from ⟨by omega, by omega⟩)] at hth
  have hl := h.len
  have hj2 : (j : Int) < (l : Int) := by omega
  obtain ⟨pb, po, rfl, hc⟩ := h.lies.cells j hj
  obtain ⟨x, hx⟩ : ∃ x, cs.getD j 0 = x := ⟨_, rfl⟩
  rw [hx] at hc ⊢
  have HC := Lib.hid hc
  clear h hb hr0 hr1 hn hx hc hl hj
  go_enter Try.func75, Try.ntmps75
  go_wp2_with fail
  refine hth.mono ?_
  rintro e w2 ⟨rfl, hb1⟩
  have HB1 := Lib.hid (HB.out.trans (hb1.mono HB.out.size))
  have hr0 := HR0.out.on' hb1
  have hr1 := HR1.out.on' hb1
  have k0 := hr0.cell 0
  have k1 := hr0.cell 1
  have d0 := hr1.cell 0
  have d1 := hr1.cell 1
  have f0 := hr1.frozen 0
  have f1 := hr1.frozen 1
  simp only [List.getElem?_cons_zero, List.getElem?_cons_succ] at k0 k1 d0 d1
  have hc : w2.cell? ⟨pb, po + j, none⟩ = some (.int .u64 x) := by rw [HB1.out.cell (block_lt_of_cell HC.out)]; exact HC.out
  have HF := Lib.hid (res_put2 (n := n + 1) (v := .int .u64 x) (HM.out.on HB1.out) hr1 HB1.out (Fr.same _ w))
  clear hb1 hr0 hr1 hth
  have hpb : pb < w.heap.size := block_lt_of_cell HC.out
  go_wp2_with fail
  go_region_held3 (fun w' => w'.cell? ⟨w.heap.size, 0, none⟩ = some (.slice (some ⟨pb, po, none⟩) l c) ∧ w'.cell? ⟨w.heap.size, 1, none⟩ = some (.int .u64 n) ∧ w'.cell? ⟨pb, po + j, none⟩ = some (.int .u64 x)) (first | exact ⟨k0, k1, hc⟩ | exact three_far hpb k0 k1 hc _ _) (fail)
  go_wp2
  exact bodyPost_ret (v := .tuple #[.agg #[.slice (some ⟨pb, po, none⟩) l c, .int .u64 (n + 1)], .int .u64 x]) (by simp [results, Try.results75, go_sem, *]) rfl HF.out.drew
/-- nothing there -/
theorem rcas_no {p : Option Addr} {l c : Nat} {cs : List Int} (n a old v : Int) (w : World) (h : RM w p l c cs) (ht : ¬ There cs a) :
    Calls Try.prog 79 #[.agg #[.slice p l c, .int .u64 n], .int .i64 a, .int .u64 old, .int .u64 v] w (RPost2 p cs n (.bool false) w) := by
  obtain ⟨hr0, hr1, hb⟩ := rboxes (w := w) (.slice p l c) (.int .u64 n) _ rfl
  have hth := there_any (p := p) (c := c) n a ((w.alloc (.cells #[.slice p l c, .int .u64 n] 31)).alloc (.cells #[.slice none 0 0, .int .u64 0] 31)) h.len
  have HM := Lib.hid h
  have HB := Lib.hid hb
  have HR0 := Lib.hid hr0
  have HR1 := Lib.hid hr1
  rw [decide_eq_false ht] at hth
  clear h hb hr0 hr1 ht
  go_enter Try.func79, Try.ntmps79
  go_wp2_with fail
  refine hth.mono ?_
  rintro e w2 ⟨rfl, hb1⟩
  have HB1 := Lib.hid (HB.out.trans (hb1.mono HB.out.size))
  have hr0 := HR0.out.on' hb1
  have hr1 := HR1.out.on' hb1
  have k0 := hr0.cell 0
  have k1 := hr0.cell 1
  have d0 := hr1.cell 0
  have d1 := hr1.cell 1
  have f0 := hr1.frozen 0
  have f1 := hr1.frozen 1
  simp only [List.getElem?_cons_zero, List.getElem?_cons_succ] at k0 k1 d0 d1
  have HF := Lib.hid (res_put2 (n := n) (v := (.bool false)) (HM.out.on HB1.out) hr1 HB1.out (Fr.same _ w))
  clear hb1 hr0 hr1 hth
  go_wp2
  exact bodyPost_ret (v := .tuple #[.agg #[.slice p l c, .int .u64 n], (.bool false)]) (by simp [results, Try.results79, go_sem, *]) rfl HF.out
theorem rcas_miss {p : Option Addr} {l c : Nat} {cs : List Int} (n : Int) (j : Nat) (old v : Int) (w : World) (h : RM w p l c cs) (hj : j < cs.length) (hn : 0 ≤ n ∧ n ≤ 1000000) (hno : cs.getD j 0 ≠ old) :
    Calls Try.prog 79 #[.agg #[.slice p l c, .int .u64 n], .int .i64 j, .int .u64 old, .int .u64 v] w (RPost2 p cs (n + 1) (.bool false) w) := by
  obtain ⟨hr0, hr1, hb⟩ := rboxes (w := w) (.slice p l c) (.int .u64 n) _ rfl
  have hth := there_any (p := p) (c := c) n j ((w.alloc (.cells #[.slice p l c, .int .u64 n] 31)).alloc (.cells #[.slice none 0 0, .int .u64 0] 31)) h.len
  have HM := Lib.hid h
  have HB := Lib.hid hb
  have HR0 := Lib.hid hr0
  have HR1 := Lib.hid hr1
  have hw : IntKind.u64.wrap (n + 1) = n + 1 := IntWalk.u64_in _ (by omega)
  rw [decide_eq_true (show There cs (j : Int) from ⟨by omega, by omega⟩)] at hth
  have hl := h.len
  have hj2 : (j : Int) < (l : Int) := by omega
  obtain ⟨pb, po, rfl, hc⟩ := h.lies.cells j hj
  obtain ⟨x, hx⟩ : ∃ x, cs.getD j 0 = x := ⟨_, rfl⟩
  rw [hx] at hc hno
  have z1 : (x == old) = false := by simpa using hno
  have z2 : (x != old) = true := by simpa using hno
  have HC := Lib.hid hc
  clear h hb hr0 hr1 hn hx hc hl hj hno
  go_enter Try.func79, Try.ntmps79
  go_wp2_with fail
  refine hth.mono ?_
  rintro e w2 ⟨rfl, hb1⟩
  have HB1 := Lib.hid (HB.out.trans (hb1.mono HB.out.size))
  have hr0 := HR0.out.on' hb1
  have hr1 := HR1.out.on' hb1
  have k0 := hr0.cell 0
  have k1 := hr0.cell 1
  have d0 := hr1.cell 0
  have d1 := hr1.cell 1
  have f0 := hr1.frozen 0
  have f1 := hr1.frozen 1
  simp only [List.getElem?_cons_zero, List.getElem?_cons_succ] at k0 k1 d0 d1
  have hc : w2.cell? ⟨pb, po + j, none⟩ = some (.int .u64 x) := by rw [HB1.out.cell (block_lt_of_cell HC.out)]; exact HC.out
  have HF := Lib.hid (res_put2 (n := n + 1) (v := .bool false) (HM.out.on HB1.out) hr1 HB1.out (Fr.same _ w))
  clear hb1 hr0 hr1 hth
  go_wp2
  exact bodyPost_ret (v := .tuple #[.agg #[.slice (some ⟨pb, po, none⟩) l c, .int .u64 (n + 1)], .bool false]) (by simp [results, Try.results79, go_sem, *]) rfl HF.out
theorem rcas_hit {p : Option Addr} {l c : Nat} {cs : List Int} (n : Int) (j : Nat) (old v : Int) (w : World) (h : RM w p l c cs) (hj : j < cs.length) (hn : 0 ≤ n ∧ n ≤ 1000000) (hno : cs.getD j 0 = old) :
    Calls Try.prog 79 #[.agg #[.slice p l c, .int .u64 n], .int .i64 j, .int .u64 old, .int .u64 v] w (RPost2 p (cs.set j v) (n + 1) (.bool true) w) := by
  obtain ⟨hr0, hr1, hb⟩ := rboxes (w := w) (.slice p l c) (.int .u64 n) _ rfl
  have hth := there_any (p := p) (c := c) n j ((w.alloc (.cells #[.slice p l c, .int .u64 n] 31)).alloc (.cells #[.slice none 0 0, .int .u64 0] 31)) h.len
  have HM := Lib.hid h
  have HB := Lib.hid hb
  have HR0 := Lib.hid hr0
  have HR1 := Lib.hid hr1
  have HN := Lib.hid hn
  have HJ := Lib.hid hj
  rw [decide_eq_true (show There cs (j : Int) from ⟨by omega, by omega⟩)] at hth
  have hl := h.len
  have hj2 : (j : Int) < (l : Int) := by omega
  obtain ⟨pb, po, rfl, hc⟩ := h.lies.cells j hj
  rw [hno] at hc
  have HC := Lib.hid hc
  clear h hb hr0 hr1 hn hc hl hj hno
  go_enter Try.func79, Try.ntmps79
  go_wp2_with fail
  refine hth.mono ?_
  rintro e w1 ⟨rfl, hb1⟩
  have HB1 := Lib.hid (HB.out.trans (hb1.mono HB.out.size))
  have hr0 := HR0.out.on' hb1
  have HR11 := Lib.hid (HR1.out.on' hb1)
  have k0 := hr0.cell 0
  have k1 := hr0.cell 1
  simp only [List.getElem?_cons_zero, List.getElem?_cons_succ] at k0 k1
  have hc : w1.cell? ⟨pb, po + j, none⟩ = some (.int .u64 old) := by rw [HB1.out.cell (block_lt_of_cell HC.out)]; exact HC.out
  clear hb1 hr0 hth
  go_wp2_with fail
  refine (with_any n j v w1 (HM.out.on HB1.out) HJ.out HN.out).mono ?_
  rintro e w2 ⟨p2, l2, c2, rfl, hm2, hb2, hf2⟩
  have HF2 := Lib.hid (hf2.old (w := w) (Nat.le_trans HB1.out.size (Nat.le_refl _)))
  have hr1 := HR11.out.on' hb2
  have d0 := hr1.cell 0
  have d1 := hr1.cell 1
  have f0 := hr1.frozen 0
  have f1 := hr1.frozen 1
  simp only [List.getElem?_cons_zero, List.getElem?_cons_succ] at d0 d1
  have HF := Lib.hid (res_put2 (n := n + 1) (v := .bool true) hm2 hr1 (HB1.out.trans (hb2.mono HB1.out.size)) HF2.out)
  clear hm2 hb2 hr1
  go_wp2
  exact bodyPost_ret (v := .tuple #[.agg #[.slice p2 l2 c2, .int .u64 (n + 1)], .bool true]) (by simp [results, Try.results79, go_sem, *]) rfl HF.out

end Go.Proofs.Ytkhfanhboooilaa

/- The documents' SameMem (layer 6); the law's mems. -/
namespace Go.Proofs.Ytkhfanhboooilaa
open Go.RowKit Go.Ce

theorem sc_one {W w : World} {P : Prop} {B c2 : Nat} {v : Value} {p : Option Addr} {zs : List Int} (h1 : w.ownsRow B 29 1 v zs.length (zs.map (Value.int .u64))) (f1 : ∃ g c, v = .slice (some ⟨g, 0, none⟩) zs.length c) (hl : Lies .u64 W p zs) (hn : zs.length ≤ 65536) (hs : P ∧ Below W.heap.size W w) (hB : W.heap.size ≤ B) :
    Calls Try.prog 71 #[v, .slice p zs.length c2] w (fun e w' => e = .returned (.bool true) ∧ Below W.heap.size W w') := by
  obtain ⟨g1, c1, rfl⟩ := f1
  obtain ⟨r1, hr1, _, _, hB1⟩ := own_row h1
  have l2 : LiesN (· = g1) .u64 w p zs := by
    refine ⟨hl.len, fun j hj => ?_⟩
    obtain ⟨b, o, hp, hc⟩ := hl.cells j hj
    have hlt : b < W.heap.size := block_lt_of_cell hc
    exact ⟨b, o, hp, by omega, by rw [hs.2.cell hlt]; exact hc⟩
  exact (samecells_any w hr1 l2 hn).mono fun e w' ⟨he, ht⟩ => ⟨he, hs.2.trans (ht.below hs.2.size (fun k hk => by omega))⟩
set_option maxRecDepth 20000 in
set_option maxHeartbeats 4000000 in
theorem samemem_any {b g : Nat} {m : PM} {p : Option Addr} {l c n : Nat} (w : World) (h : MemIs w b g m) (hr : RM w p l c m.cs) (hn : m.k.ops = n) : Calls Try.prog 21 #[.pointer (some ⟨b, 0, none⟩), .agg #[.slice p l c, .int .u64 n]] w (Ans (.bool true) w) := by
  have hb0 := (Below.refl w.heap.size w).alloc (Nat.le_refl _) (.cells #[.slice p l c, .int .u64 n] 31)
  have hr0 := Row.new w 31 [.slice p l c, .int .u64 n]
  have hP := h.on hb0
  have hR := hr.on hb0
  obtain ⟨W, hW⟩ : ∃ W, w.alloc (.cells #[.slice p l c, .int .u64 n] 31) = W := ⟨_, rfl⟩
  have hr0' : Row w.heap.size 31 [.slice p l c, .int .u64 n] W := by rw [← hW]; exact hr0
  rw [hW] at hP hb0 hR
  have hlen : m.cs.length = l := hr.len.symm
  have HP := Lib.hid hP
  have HM := Lib.hid hR
  have HR := Lib.hid hr0'
  have HB := Lib.hid hb0
  have HW := Lib.hid hW
  have HL := Lib.hid hlen
  have HO := Lib.hid hn
  clear h hb0 hr0 hP hr0' hW hr hR hlen hn
  have cLen : ∀ (P : Prop) (w1 : World), P ∧ Below W.heap.size W w1 → Calls Try.prog 70 #[.pointer (some ⟨b, 0, none⟩)] w1 (Ans (.int .i64 l) w1) := fun _ _ hs => by have := len_any (HP.out.on hs.2); rw [HL.out] at this; exact this
  have cOps : ∀ (P : Prop) (w1 : World), P ∧ Below W.heap.size W w1 → Calls Try.prog 22 #[.pointer (some ⟨b, 0, none⟩)] w1 (Ans (.int .u64 n) w1) := fun _ _ hs => by have := ops_any (HP.out.on hs.2); rw [HO.out] at this; exact this
  have cAll : ∀ (P : Prop) (w1 : World), P ∧ Below W.heap.size W w1 → Calls Try.prog 72 #[.pointer (some ⟨b, 0, none⟩)] w1 (OwnNums m.cs w1) := fun _ _ hs => all_any (HP.out.on hs.2)
  have cSame : ∀ (P : Prop) (w1 : World) (B : Nat) (v : Value), w1.ownsRow B 29 1 v m.cs.length (m.cs.map (Value.int .u64)) → (∃ g c, v = .slice (some ⟨g, 0, none⟩) m.cs.length c) → P ∧ Below W.heap.size W w1 → W.heap.size ≤ B → Calls Try.prog 71 #[v, .slice p l c] w1 (fun e w' => e = .returned (.bool true) ∧ Below W.heap.size W w') := fun _ _ _ _ h1 f1 hs hB => by
    have := sc_one (c2 := c) h1 f1 HM.out.lies HP.out.short hs hB
    rw [HL.out] at this; exact this
  have HC1 := Lib.hid cLen
  have HC2 := Lib.hid cOps
  have HC3 := Lib.hid cAll
  have HC4 := Lib.hid cSame
  clear cLen cOps cAll cSame
  go_enter Try.func21, Try.ntmps21
  go_wp2_with fail
  rw [HW.out]
  clear HW
  have hBs : Below W.heap.size W W.drew := (Below.refl _ _).drew
  go_region_held3 (fun w' => (w'.cell? ⟨w.heap.size, 0, none⟩ = some (.slice p l c) ∧ w'.cell? ⟨w.heap.size, 1, none⟩ = some (.int .u64 n)) ∧ Below W.heap.size W w')
    (exact b_cells (w' := W) HR.out (by assumption))
    (first
      | (go_at_call 70; refine (HC1.out _ _ (by assumption)).mono ?_; rintro e w3 ⟨rfl, hb3⟩; have hB3 : Below W.heap.size W w3 := b_trans (by assumption) hb3)
      | (go_at_call 22; refine (HC2.out _ _ (by assumption)).mono ?_; rintro e w3 ⟨rfl, hb3⟩; have hB3 : Below W.heap.size W w3 := b_trans (by assumption) hb3)
      | (go_at_call 72; refine (HC3.out _ _ (by assumption)).mono ?_; rintro e w3 ⟨v1, rfl, ho1, hf1, hb5⟩; have hB3 : Below W.heap.size W w3 := b_trans (by assumption) hb5; have hz1 := b_size (W := W) (by assumption) hb5)
      | (go_at_call 71; refine (HC4.out _ _ _ _ ho1 hf1 (by assumption) hz1).mono ?_; rintro e w3 ⟨rfl, hB3⟩))
  all_goals
    rename_i hh
    have HH := Lib.hid (HB.out.trans (hh.2.mono HB.out.size))
    clear hh
    go_wp2
    go_ret
    exact ⟨rfl, HH.out⟩
end Go.Proofs.Ytkhfanhboooilaa

/- The reference's memory by the plain one (layer 6). -/
namespace Go.Proofs.Ytkhfanhboooilaa
open Go.RowKit Go.Ce

/-- what a call of the reference's memory answers: the memory m, a number -/
def RQ (p0 : Option Addr) (m : PM) (x : Int) (w : World) (e : Ending) (w' : World) : Prop := ∃ p l c, e = .returned (.tuple #[.agg #[.slice p l c, .int .u64 m.k.ops], .int .u64 x]) ∧ RM w' p l c m.cs ∧ Below w.heap.size w w' ∧ Fr p0 p w
def RQ1 (p0 : Option Addr) (m : PM) (w : World) (e : Ending) (w' : World) : Prop := ∃ p l c, e = .returned (.agg #[.slice p l c, .int .u64 m.k.ops]) ∧ RM w' p l c m.cs ∧ Below w.heap.size w w' ∧ Fr p0 p w
section
variable {m : PM} {p : Option Addr} {l c : Nat} {w : World}
theorem rq_of {p0 : Option Addr} {m' : PM} {cs : List Int} {n x y : Int} {e : Ending} {w' : World} (h : RPost2 p0 cs n (.int .u64 x) w e w') (h1 : m'.cs = cs) (h2 : ((m'.k.ops : Nat) : Int) = n) (h3 : x = y) : RQ p0 m' y w e w' := by
  subst h1 h2 h3
  obtain ⟨p, l, c, he, hm, hb, hf⟩ := h
  exact ⟨p, l, c, he, hm, hb, hf⟩
theorem at_nat (m : PM) (j : Nat) : m.at (j : Int) = m.cs.getD j 0 := by unfold PM.at; rw [Int.toNat_natCast]
def RQB (p0 : Option Addr) (m : PM) (ok : Bool) (w : World) (e : Ending) (w' : World) : Prop := ∃ p l c, e = .returned (.tuple #[.agg #[.slice p l c, .int .u64 m.k.ops], .bool ok]) ∧ RM w' p l c m.cs ∧ Below w.heap.size w w' ∧ Fr p0 p w
theorem acc_ops3 (m : PM) (kind a v : Int) : (((m.acc kind a v { m.k with w := m.k.w + 1 }).k.ops : Nat) : Int) = m.k.ops + 1 ∧ (((m.acc kind a v { m.k with f := m.k.f + 1 }).k.ops : Nat) : Int) = m.k.ops + 1 := by
  constructor <;> (show ((Cnt.ops _ : Nat) : Int) = _; simp only [Cnt.ops, PM.acc]; push_cast; omega)
theorem acc_same {m : PM} {j : Nat} (hj : j < m.cs.length) {kind : Int} {k : Cnt} : (m.acc kind (j : Int) (m.at (j : Int)) k).cs = m.cs := by
  show m.cs.set ((j : Int)).toNat _ = _
  rw [at_nat, Int.toNat_natCast]
  apply List.ext_getElem
  · simp
  · intro i h1 h2
    rw [List.getElem_set]
    by_cases e : j = i
    · subst e; simp [List.getD, hj]
    · simp [e]
theorem m_load (a : Int) (h : RM w p l c m.cs) (hn : m.k.ops ≤ 1000000) : Calls Try.prog 75 #[.agg #[.slice p l c, .int .u64 m.k.ops], .int .i64 a] w (RQ p (m.load a) (m.ans a) w) := by
  by_cases ha : m.Has a
  · obtain ⟨j, rfl⟩ : ∃ j : Nat, a = j := ⟨a.toNat, by have := ha.1; omega⟩
    have hg := go_load (o := 0) (x := 0) ha
    have e : m.go 1 (j : Int) 0 0 = m.load j := by unfold PM.go; rw [if_pos rfl]
    rw [e] at hg
    refine (rload_yes m.k.ops j w h (by have := ha.2; omega) (by omega)).mono fun e w' hp => rq_of hp hg.1 (by rw [hg.2]; simp) ?_
    unfold PM.ans; rw [if_pos ha, at_nat]
  · refine (rload_no m.k.ops a w h ha).mono fun e w' hp => rq_of hp (by rw [load_no ha]) (by rw [load_no ha]) ?_
    unfold PM.ans; rw [if_neg ha]
theorem m_store (a x : Int) (h : RM w p l c m.cs) (hn : m.k.ops ≤ 1000000) : Calls Try.prog 45 #[.agg #[.slice p l c, .int .u64 m.k.ops], .int .i64 a, .int .u64 x] w (RQ1 p (m.store a x) w) := by
  refine (rstore_any m.k.ops a x w h (by omega)).mono ?_
  rintro e w' ⟨q, l2, c2, rfl, hm, hb, hf⟩
  by_cases ha : m.Has a
  · have hg := go_store (o := 0) (x := x) ha
    have e : m.go 2 a 0 x = m.store a x := by unfold PM.go; rw [if_neg (by decide), if_pos rfl]
    rw [e] at hg
    have ht : There m.cs a := ha
    rw [if_pos ht] at hm
    exact ⟨q, l2, c2, by rw [if_pos ht, hg.2]; simp, by rw [hg.1]; exact hm, hb, hf⟩
  · have ht : ¬ There m.cs a := ha
    rw [if_neg ht] at hm
    exact ⟨q, l2, c2, by rw [if_neg ht, store_no ha], by rw [store_no ha]; exact hm, hb, hf⟩
theorem m_cas (a o x : Int) (h : RM w p l c m.cs) (hn : m.k.ops ≤ 1000000) : Calls Try.prog 79 #[.agg #[.slice p l c, .int .u64 m.k.ops], .int .i64 a, .int .u64 o, .int .u64 x] w (RQB p (m.cas a o x) (decide (m.hit a o)) w) := by
  by_cases ha : m.Has a
  · obtain ⟨j, rfl⟩ : ∃ j : Nat, a = j := ⟨a.toNat, by have := ha.1; omega⟩
    have hj : j < m.cs.length := by have := ha.2; omega
    by_cases he : m.at (j : Int) = o
    · rw [decide_eq_true (show m.hit (j : Int) o from ⟨ha, he⟩), cas_hit ha he]
      refine (rcas_hit m.k.ops j o x w h hj (by omega) (by rw [← at_nat]; exact he)).mono ?_
      rintro e w' ⟨q, l2, c2, rfl, hm, hb, hf⟩
      exact ⟨q, l2, c2, by rw [(acc_ops3 m 3 (j : Int) x).1], hm, hb, hf⟩
    · rw [decide_eq_false (show ¬ m.hit (j : Int) o from fun h => he h.2), cas_miss ha he]
      refine (rcas_miss m.k.ops j o x w h hj (by omega) (by rw [← at_nat]; exact he)).mono ?_
      rintro e w' ⟨q, l2, c2, rfl, hm, hb, hf⟩
      exact ⟨q, l2, c2, by rw [(acc_ops3 m 3 (j : Int) (m.at j)).2], by rw [acc_same hj]; exact hm, hb, hf⟩
  · rw [decide_eq_false (show ¬ m.hit a o from fun h => ha h.1), cas_no ha]
    exact rcas_no m.k.ops a o x w h ha
end
end Go.Proofs.Ytkhfanhboooilaa

/- The laws' works; CellTwice. -/
namespace Go.Proofs.Ytkhfanhboooilaa
open Go.RowKit Go.Ce

/-- a memory made since the world w0, so far -/
structure Sofar (w0 w : World) (b g : Nat) (m : PM) : Prop where
  mem : MemIs w b g m
  bel : Below w0.heap.size w0 w
  b : w0.heap.size ≤ b
  g : w0.heap.size ≤ g
theorem Sofar.step {w0 w w' : World} {b g : Nat} {m m' : PM} (h : Sofar w0 w b g m) (hm : MemIs w' b g m') (ht : Tch (Own b g) w w') : Sofar w0 w' b g m' :=
  ⟨hm, h.bel.trans (ht.below h.bel.size (fun k hk => by rcases hk with hk | hk <;> (have := h.b; have := h.g; omega))), h.b, h.g⟩
theorem Sofar.ans {w0 w w' : World} {b g : Nat} {m : PM} (h : Sofar w0 w b g m) (hb : Below w.heap.size w w') : Sofar w0 w' b g m := ⟨h.mem.on hb, h.bel.trans (hb.mono h.bel.size), h.b, h.g⟩
theorem nN_of (n : Int) (h : 0 ≤ n) (h2 : n ≤ 65536) : nN n = (n.toNat : Int) := by unfold nN; omega

def M0 : PM := PM.new 3
def M1 : PM := M0.store 1 7
def M2 : PM := M1.cas 1 7 9
def M3 : PM := M2.cas 1 7 8
def M4 : PM := M3.add 1 2
def M5 : PM := M4.load 1
end Go.Proofs.Ytkhfanhboooilaa
