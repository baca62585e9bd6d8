/- NewLay; all that is asked of the code's lay (layer 9). -/
import Derived.Test.YtgfddkddacigfaaZm
import Derived.Test.YtgfddkddacigfaaShelf
import Derived.Lib.OwnBridge
import Derived.Shelf.SlicesE.DeleteFunc
set_option linter.unusedSimpArgs false
set_option linter.unusedVariables false
namespace Go.Proofs.Ytgfddkddacigfaa
open Go.RowKit Go.Cg Go.Pu Go.Wd Go.Ce Go.Shelf Go.Lib Go.Sort

theorem nclo_any (x : Int) (W : World) : FnGives Try.prog 71 #[] #[.int .i64 x] (.bool (decide (x < 0))) W := by
  show Calls Try.prog 71 #[.int .i64 x] W _
  obtain ⟨r, hr⟩ : ∃ r, decide (x < 0) = r := ⟨_, rfl⟩
  rw [hr]
  have HR := Lib.hid hr
  clear hr
  go_enter Try.func71, Try.ntmps71
  go_wp2
  go_ret
  exact ⟨by rw [← HR.out]; rfl, 0, rfl⟩
theorem ldelete_nil (fv : Value) (w : World) : Calls Try.prog 70 #[.slice none 0 0, fv] w fun e w' => e = .returned (.slice none 0 0) ∧ w = w' := by
  have HC := Lib.hid (Try.slices_IndexFunc_empty (α := Int) none 0 fv)
  go_enter Try.func70, Try.ntmps70
  go_wp2_with fail
  refine (HC.out _).mono ?_
  rintro e w' ⟨rfl, hw⟩
  obtain rfl := hw.symm
  go_wp2
  go_ret
  exact ⟨rfl, rfl⟩
theorem zeroI9 : ∀ w, (zeroValue 3).run Try.prog w = .ok (.int .i64 0) w := fun _ => by kernel_rfl
abbrev negF : Value := .func (.func 71) #[] #[]
theorem ldelete_any {B : Nat} {zs : List Int} {v : Value} {w : World} (hO : NewRow B w v zs) (hl : zs.length ≤ 65536) :
    Calls Try.prog 70 #[v, negF] w (fun e w' => ∃ p n c, e = .returned (.slice p n c) ∧ NewRow B w' (.slice p n c) (zs.filter fun z => decide (0 ≤ z)) ∧ Below B w w') := by
  by_cases hv : v = .slice none 0 0
  · subst hv
    have hz : zs = [] := by
      rcases hO.2 with ⟨_, h⟩ | ⟨_, _, _, h, _⟩
      · exact List.length_eq_zero_iff.1 h
      · cases h
    subst hz
    exact (ldelete_nil _ w).mono fun e w' ⟨he, hw⟩ => ⟨none, 0, 0, he, by rw [← hw]; exact hO, by rw [← hw]; exact Below.refl _ _⟩
  · unfold NewRow at hO
    obtain ⟨g, cap, rfl, hbg, hgl, hncap, hcm, hlen, hH⟩ := Lib.holds_of_ownsRow hO hv
    have eg : ∀ args w, (callFunc 71 args).run Try.prog w = .ok (.enter 71 args) w := enters_of Try.func71 (by kernel_rfl) rfl
    have hcon := Try.slices_DeleteFunc (Value.int .i64) (fun _ => rfl) (fun x => decide (x < 0)) 71 #[] eg 0 zeroI9 g 0 cap zs.toArray w
      (fun W x _ => nclo_any x W) (fun n os dk x _ => nclo_any x _) hH (by simp; omega) (by simp; omega)
    rw [List.size_toArray] at hcon
    refine hcon.mono fun e w' ⟨he, q, hw⟩ => ?_
    have hfl : (zs.filter fun x => !decide (x < 0)).length ≤ zs.length := List.length_filter_le _ _
    have hfe : (zs.filter fun x => !decide (x < 0)) = zs.filter fun z => decide (0 ≤ z) := List.filter_congr (fun x _ => by
      by_cases h : x < 0
      · rw [decide_eq_true h, decide_eq_false (by omega)]; rfl
      · rw [decide_eq_false h, decide_eq_true (by omega)]; rfl)
    have hown := Lib.ownsRow_putRow (q := q) (k := (zs.filter fun x => !decide (x < 0)).length) (ys := (zs.filter fun x => !decide (x < 0)) ++ List.replicate (zs.length - (zs.filter fun x => !decide (x < 0)).length) 0) hO (by rw [List.length_append, List.length_replicate]; omega) hfl
    rw [List.take_left] at hown
    refine ⟨_, _, _, he, ?_, by rw [hw]; exact Lib.below_putRow (Below.refl _ _) hbg⟩
    unfold NewRow
    rw [hw, ← hfe]
    exact hown
def rgVal12 (c : Cfg) (p a : Int) : Value := rgVal c p a 0 0
/-- a lay just made, without a list -/
theorem lay_row (W : World) (C : Cfg) (P A : Int) : Row W.heap.size 80 (lyV C P A 0 0 (.slice none 0 0) 0) (W.alloc (.cells (lyV C P A 0 0 (.slice none 0 0) 0).toArray 80)) := Row.new W _ _
theorem lzero_ok : LS.zero.Ok := by
  have := newL_ok cfg0 0 (l := []) (by simp)
  rw [show newL cfg0 0 [] = LS.zero by unfold newL; rw [if_neg (by intro h; have := (thB_iff.1 h).2; have e : cfg0.n = 0 := rfl; omega)]] at this
  exact this
theorem lmade_zero {c C : Cfg} {p P : Int} {l : List Int} {X : LS} {w W1 : World} {bb : Nat} (HX : Hid (newL c p l = X)) (HC : Hid ((thB c p = true ∧ C = c ∧ P = p ∧ 0 = 1) ∨ (thB c p = false ∧ 0 = 0))) (HROW : Hid (Row bb 80 (lyV C P (0 : Nat) 0 0 (.slice none 0 0) 0) W1)) (HB1 : Hid (RowKit.Below w.heap.size w W1)) (HBB : Hid (w.heap.size ≤ bb)) :
    MadeL LayIs X w (.returned (pptr bb)) W1 := by
  have hX := HX.out
  have hth : thB c p = false := by
    rcases HC.out with ⟨_, _, _, h⟩ | ⟨h, _⟩
    · cases h
    · exact h
  unfold newL at hX
  rw [if_neg (by rw [hth]; decide)] at hX
  subst hX
  exact ⟨bb, fun k => k = bb, rfl, ⟨⟨C, P, 0, 0, .slice none 0 0, 0, ⟨HROW.out, SlIs.nil _ _, fun e => absurd rfl e, fun e => absurd (show 0 = 2 from e) (by omega), fun e => absurd (show 0 = 2 ∨ 0 = 3 from e) (by omega), fun e => absurd (show 0 = 3 from e) (by omega)⟩⟩, rfl, fun k hk => by rw [hk]; exact HROW.out.lt, lzero_ok⟩, fun k hk => by rw [hk]; exact HBB.out, HB1.out⟩
theorem lmade_some {c C : Cfg} {p P : Int} {l : List Int} {X : LS} {w W1 w6 : World} {bb : Nat} {v6 : Value} (HX : Hid (newL c p l = X)) (HC : Hid (thB c p = true ∧ C = c ∧ P = p)) (HROW : Hid (Row bb 80 (lyV C P (1 : Nat) 0 0 (.slice none 0 0) 0) W1)) (HB1 : Hid (RowKit.Below w.heap.size w W1)) (HBB : Hid (w.heap.size ≤ bb)) (HL : Hid (l.length ≤ 1000))
    (r6 : Hid (Row bb 80 (lyV C P (1 : Nat) 0 0 (.slice none 0 0) 0) w6)) (HO6 : Hid (NewRow W1.heap.size w6 v6 (l.filter fun z => decide (0 ≤ z)))) (HB6 : Hid (RowKit.Below W1.heap.size W1 w6)) :
    MadeL LayIs X w (.returned (pptr bb)) (w6.setCell ⟨bb, 10, none⟩ v6) := by
  have ok : X.Ok := by rw [← HX.out]; exact newL_ok c p HL.out
  have hX := HX.out
  obtain ⟨hth, rfl, rfl⟩ : thB c p = true ∧ C = c ∧ P = p := HC.out
  unfold newL at hX
  rw [if_pos hth] at hX
  obtain ⟨q1, q2, q3, q4, q5, q6, q7⟩ := ls_parts hX.symm
  have hnl := HO6.out.lt
  have hlt := HROW.out.lt
  have hne : ∀ k, v6.ownBlock = some k → k ≠ bb := fun k e => by have := (hnl k e).1; omega
  have hO7 := HO6.out.tch (S := fun k => k = bb) (tset bb 10 v6 w6) (fun k e => hne k e)
  have hfl := List.length_filter_le (fun z : Int => decide (0 ≤ z)) l
  have hL := HL.out
  refine ⟨bb, fun k => k = bb ∨ v6.ownBlock = some k, rfl, ⟨⟨C, P, 0, 0, v6, 0, ⟨by rw [q4]; exact ly_setl r6.out v6, ?_, fun _ => ⟨q1.symm, q2.symm, q5.symm⟩, fun e => by omega, fun e => by omega, fun e => by omega⟩⟩, .inl rfl, fun k hk => ?_, ok⟩, fun k hk => ?_, ?_⟩
  · rw [q3]
    refine hO7.sl (by omega) (fun k e f => ?_)
    rcases f with f | f
    · exact f (.inr e)
    · exact hne k e f
  · rcases hk with hk | hk
    · rw [hk]; exact (ly_setl r6.out v6).lt
    · have := (hO7.lt k hk).2
      exact this
  · rcases hk with hk | hk
    · rw [hk]; exact HBB.out
    · exact Nat.le_trans HB1.out.size (hnl k hk).1
  · exact (HB1.out.trans (HB6.out.mono HB1.out.size)).trans ((tset bb 10 v6 w6).below (Nat.le_trans HB1.out.size HB6.out.size) (fun k e => by rw [e]; exact HBB.out))
set_option maxRecDepth 20000 in
set_option maxHeartbeats 2000000 in
theorem lnew_any (c : Cfg) (p : Int) (v : Value) (l : List Int) (w : World) (hl : SlIs (fun _ => False) w v l) (hlen : l.length ≤ 1000) : Calls Try.prog 24 #[cVal c, .int .i64 p, v] w (MadeL LayIs (newL c p l) w) := by
  obtain ⟨C, P, A, hC, hcs⟩ : ∃ (C : Cfg) (P : Int) (A : Nat), (if thB c p = true then rgVal c p 1 0 0 else rgVal cfg0 0 0 0 0) = rgVal C P A 0 0 ∧ ((thB c p = true ∧ C = c ∧ P = p ∧ A = 1) ∨ (thB c p = false ∧ A = 0)) := by
    cases h : thB c p with
    | true => exact ⟨c, p, 1, by rw [if_pos rfl]; rfl, .inl ⟨rfl, rfl, rfl, rfl⟩⟩
    | false => exact ⟨cfg0, 0, 0, by rw [if_neg (by decide)]; rfl, .inr ⟨rfl, rfl⟩⟩
  have HR := Lib.hid (fun W => ringof_any c p W)
  rw [hC] at HR
  have hA1 : A = 0 ∨ A = 1 := by rcases hcs with ⟨_, _, _, h⟩ | ⟨_, h⟩ <;> omega
  have HCs := Lib.hid hcs
  clear hC hcs
  obtain ⟨X, hX⟩ : ∃ X, newL c p l = X := ⟨_, rfl⟩
  rw [hX]
  have HX := Lib.hid hX
  have hbx := (Below.refl w.heap.size w).alloc (Nat.le_refl _) (.cells (cCells c).toArray 23)
  have hrx := Row.new w 23 (cCells c)
  have HRow := Lib.hid (fun W => lay_row W C P A)
  obtain ⟨n, q, g', m, t, s⟩ := c
  obtain ⟨N, Q, G, M, T, U⟩ := C
  have HR2 : Hid (∀ W, Calls Try.prog 49 #[.agg #[.int .i64 n, .int .i64 q, .int .i64 g', .int .i64 m, .int .i64 t, .int .i64 s], .int .i64 p] W (Ans (.agg #[.int .i64 N, .int .i64 Q, .int .i64 G, .int .i64 M, .int .i64 T, .int .i64 U, .int .i64 P, .int .i64 (A : Int), .int .u64 0, .int .i64 0]) W)) := HR
  show Calls _ _ #[.agg #[.int .i64 n, .int .i64 q, .int .i64 g', .int .i64 m, .int .i64 t, .int .i64 s], .int .i64 p, v] _ _
  change Below w.heap.size w (w.alloc (.cells #[.int .i64 n, .int .i64 q, .int .i64 g', .int .i64 m, .int .i64 t, .int .i64 s] 23)) at hbx
  change Row w.heap.size 23 [.int .i64 n, .int .i64 q, .int .i64 g', .int .i64 m, .int .i64 t, .int .i64 s] (w.alloc (.cells #[.int .i64 n, .int .i64 q, .int .i64 g', .int .i64 m, .int .i64 t, .int .i64 s] 23)) at hrx
  change Hid (∀ W : World, Row W.heap.size 80 (lyV ⟨N, Q, G, M, T, U⟩ P A 0 0 (.slice none 0 0) 0) (W.alloc (.cells #[.int .i64 N, .int .i64 Q, .int .i64 G, .int .i64 M, .int .i64 T, .int .i64 U, .int .i64 P, .int .i64 (A : Int), .int .u64 0, .int .i64 0, .slice none 0 0, .int .i64 0] 80))) at HRow
  have HB := Lib.hid hbx
  have c0 := hrx.cell 0
  have c1 := hrx.cell 1
  have c2 := hrx.cell 2
  have c3 := hrx.cell 3
  have c4 := hrx.cell 4
  have c5 := hrx.cell 5
  simp only [List.getElem?_cons_zero, List.getElem?_cons_succ] at c0 c1 c2 c3 c4 c5
  have HSl : Hid (∀ W, Below w.heap.size w W → SlIs (fun _ => False) W v l) := fun W hb => hl.on hb
  have HL := Lib.hid hlen
  obtain ⟨pv, nv, cv, rfl, -⟩ := hl.form
  clear hX hbx hrx HR hl hlen
  go_enter Try.func24, Try.ntmps24
  go_upto_region 2 with (go_at_call 49; (with_reducible refine (HR2.out _).mono ?_); rintro e w3 ⟨rfl, hb3⟩; have HB3 := Lib.hid (HB.out.trans (hb3.mono HB.out.size)); clear hb3 c0 c1 c2 c3 c4 c5)
  have hrow := HRow.out w3
  have hb1 := HB3.out.alloc HB3.out.size (.cells #[.int .i64 N, .int .i64 Q, .int .i64 G, .int .i64 M, .int .i64 T, .int .i64 U, .int .i64 P, .int .i64 (A : Int), .int .u64 0, .int .i64 0, .slice none 0 0, .int .i64 0] 80)
  obtain ⟨W1, hW1⟩ : ∃ W1, w3.alloc (.cells #[.int .i64 N, .int .i64 Q, .int .i64 G, .int .i64 M, .int .i64 T, .int .i64 U, .int .i64 P, .int .i64 (A : Int), .int .u64 0, .int .i64 0, .slice none 0 0, .int .i64 0] 80) = W1 := ⟨_, rfl⟩
  rw [hW1] at hrow hb1 ⊢
  have hbb := HB3.out.size
  obtain ⟨bb, hbb2⟩ : ∃ bb, w3.heap.size = bb := ⟨_, rfl⟩
  rw [hbb2] at hrow hbb ⊢
  have HROW := Lib.hid hrow
  have HB1 := Lib.hid hb1
  have HBB := Lib.hid hbb
  have HE := Lib.hid (rended_any hrow)
  clear hW1 hrow hb1 hbb hbb2 HRow HB HB3 HR2
  rcases hA1 with rfl | rfl
  · have hF : Hid (MadeL LayIs X w (.returned (pptr bb)) W1) := lmade_zero HX HCs HROW HB1 HBB
    clear HX HCs
    go_wp2_with (go_at_call 52; (with_reducible refine HE.out.mono ?_); rintro e w4 ⟨rfl, rfl⟩)
    go_ret
    exact hF.out
  · have HC3 : Hid (thB ⟨n, q, g', m, t, s⟩ p = true ∧ (⟨N, Q, G, M, T, U⟩ : Cfg) = ⟨n, q, g', m, t, s⟩ ∧ P = p) := by
      rcases HCs.out with ⟨h, h1, h2, _⟩ | ⟨_, h⟩
      · exact ⟨h, h1, h2⟩
      · cases h
    clear HCs
    have HCl := Lib.hid (iclone_any (HSl.out _ HB1.out) (by have := HL.out; omega))
    go_wp2_with (first
      | (go_at_call 52; (with_reducible refine HE.out.mono ?_); rintro e w4 ⟨rfl, rfl⟩)
      | (go_at_call 51; (with_reducible refine HCl.out.mono ?_); rintro e w5 ⟨p5, n5, c5, rfl, hn5, hO5, hB5⟩; have HD := Lib.hid (ldelete_any hO5 (by have := HL.out; omega)); have HB5 := Lib.hid hB5; clear hn5 hO5 hB5)
      | (go_at_call 70; (with_reducible refine HD.out.mono ?_); rintro e w6 ⟨p6, n6, c6, rfl, hO6, hB6⟩; have r6 := Lib.hid (HROW.out.on' (HB5.out.trans (hB6.mono (Nat.le_refl _)))); have d10 := ly_l r6.out; have f10 := r6.out.frozen 10; have HO6 := Lib.hid hO6; have HB6 := Lib.hid (HB5.out.trans (hB6.mono (Nat.le_refl _))); clear hO6 hB6))
    go_ret
    exact lmade_some HX HC3 HROW HB1 HBB HL r6 HO6 HB6
def theLay : LayApi where
  Is := LayIs
  lt := fun h => h.sl
  ok := fun h => h.ok
  tch := fun h ht hd => h.tch ht hd
  new_any := lnew_any
  step_any := fun h hm hd hu hk => lstep_any h hm hd hu hk
  done_any := fun h => (ldone_any h).mono (by rintro e w' ⟨rfl, rfl⟩; exact ⟨rfl, .refl _ _⟩)
  hands_any := fun h => lhands_any h
  step_nil := lstep_nil
  done_nil := fun w => (ldone_nil w).mono (by rintro e w' ⟨rfl, rfl⟩; exact ⟨rfl, .refl _ _⟩)
  hands_nil := lhands_nil
end Go.Proofs.Ytgfddkddacigfaa
