/- The walks of Draw and of Others. -/
import Derived.Test.YteijfgckeipkhaaSe
import Derived.Test.YteijfgckeipkhaaShelf
import Derived.Lib.OwnBridge
import Derived.Shelf.SlicesE.DeleteFunc
namespace Go.Proofs.Yteijfgckeipkhaa
open Go.RowKit Go.Sd Go.Shelf Go.Lib Go.Sort

theorem contains_any (zs : List Int) (p : Option Addr) (c : Nat) (x : Int) (w : World) (h : Lies .i64 w p zs) :
    Calls Try.prog 25 #[.slice p zs.length c, .int .i64 x] w fun e w' => e = .returned (.bool (isIn zs x)) ∧ w = w' := by
  by_cases h0 : zs = []
  · subst h0
    exact (Try.slices_Contains_int_empty p c x w).mono fun e w' ⟨he, hw⟩ => ⟨by rw [he]; rfl, hw.symm⟩
  · obtain ⟨b, o, rfl, _⟩ := h.cells 0 (List.length_pos_iff.2 h0)
    have hl := h.len
    refine (Try.slices_Contains_int b o zs.length c zs x w (Nat.le_refl _) (by omega) fun j hj => ?_).mono fun e w' ⟨he, hw⟩ => ⟨by rw [he, List.take_length]; rfl, hw.symm⟩
    obtain ⟨b', o', e, hc⟩ := h.cells j hj
    cases e; exact hc
theorem index_any (zs : List Int) (p : Option Addr) (c : Nat) (x : Int) (w : World) (h : Lies .i64 w p zs) :
    Calls Try.prog 26 #[.slice p zs.length c, .int .i64 x] w fun e w' => e = .returned (.int .i64 (Lib.idxOf zs x)) ∧ w = w' := by
  by_cases h0 : zs = []
  · subst h0
    exact (Try.slices_Index_int_empty p c x w).mono fun e w' ⟨he, hw⟩ => ⟨he, hw.symm⟩
  · obtain ⟨b, o, rfl, _⟩ := h.cells 0 (List.length_pos_iff.2 h0)
    have hl := h.len
    refine (Try.slices_Index_int b o zs.length c zs x w (Nat.le_refl _) (by omega) fun j hj => ?_).mono fun e w' ⟨he, hw⟩ => ⟨by rw [he, List.take_length], hw.symm⟩
    obtain ⟨b', o', e, hc⟩ := h.cells j hj
    cases e; exact hc

/-- the closure of Others, wherever the places without lie -/
theorem clo_any (wo : List Int) (p : Option Addr) (c B : Nat) (x : Int) (W : World) (hc : W.cell? ⟨B, 0, none⟩ = some (.slice p wo.length c)) (hL : Lies .i64 W p wo) :
    FnGives Try.prog 24 #[.pointer (some ⟨B, 0, none⟩)] #[.int .i64 x] (.bool (isIn wo x)) W := by
  show Calls Try.prog 24 #[.int .i64 x, .pointer (some ⟨B, 0, none⟩)] W _
  have HC := Lib.hid (contains_any wo p c x W hL)
  clear hL
  go_enter Try.func24, Try.ntmps24
  go_wp2_with fail
  refine HC.out.mono ?_
  rintro e w' ⟨rfl, rfl⟩
  go_wp2
  go_ret
  exact ⟨rfl, 0, rfl⟩
theorem sw_cell {w : World} {blk off n : Nat} {dk : Array Int} {os : Array Obj} (a : Addr) (h : a.block < w.heap.size) (hne : a.block ≠ blk) : (sortWorld (Value.int .i64) w blk off n dk os).cell? a = w.cell? a := by
  unfold sortWorld
  rw [cell?_grow _ _ _ (by show a.block < (putRow _ _ _ _ _).heap.size; rw [Sort.size_putRow]; exact h), cell?_putRow_other _ _ blk off _ _ (Or.inl hne)]
  rfl
theorem pred_at {wo : List Int} {p : Option Addr} {c B C : Nat} {w : World} (hc : w.cell? ⟨B, 0, none⟩ = some (.slice p wo.length c)) (hL : LiesB C .i64 w p wo) :
    PredAt Try.prog 24 #[.pointer (some ⟨B, 0, none⟩)] (Value.int .i64) (fun x => isIn wo x) w :=
  fun W x hb => clo_any wo p c B x W ((hb.cell (p := ⟨B, 0, none⟩) (block_lt_of_cell hc)).trans hc) (hL.lies.on hb)
theorem pred_over {wo : List Int} {p : Option Addr} {c B C blk off size : Nat} {w : World} (hc : w.cell? ⟨B, 0, none⟩ = some (.slice p wo.length c)) (hL : LiesB C .i64 w p wo) (hB : B < blk) (hC : C ≤ blk) :
    PredOver Try.prog 24 #[.pointer (some ⟨B, 0, none⟩)] (Value.int .i64) (fun x => isIn wo x) blk off size w :=
  fun n os dk x _ => clo_any wo p c B x _ ((sw_cell _ (block_lt_of_cell hc) (by show B ≠ blk; omega)).trans hc) ⟨hL.len, fun j hj => by
    obtain ⟨b, o, e, hlt, hcell⟩ := hL.cells j hj
    exact ⟨b, o, e, (sw_cell _ (block_lt_of_cell hcell) (by show b ≠ blk; omega)).trans hcell⟩⟩

/-- DeleteFunc of nothing -/
theorem delete_nil (fv : Value) (w : World) :
    Calls Try.prog 23 #[.slice none 0 0, fv] w fun e w' => e = .returned (.slice none 0 0) ∧ w = w' := by
  have HC := Lib.hid (Try.slices_IndexFunc_empty (α := Int) none 0 fv)
  go_enter Try.func23, Try.ntmps23
  go_wp2_with fail
  refine (HC.out _).mono ?_
  rintro e w' ⟨rfl, hw⟩
  obtain rfl := hw.symm
  go_wp2
  go_ret
  exact ⟨rfl, rfl⟩
theorem zeroI : ∀ w, (zeroValue 3).run Try.prog w = .ok (.int .i64 0) w := fun _ => by kernel_rfl

/-- what DeleteFunc leaves: a row of its own of what is kept -/
def KeptPost (zs wo : List Int) (base : Nat) (w : World) (e : Ending) (w' : World) : Prop :=
  ∃ v, e = .returned v ∧ w'.ownsRow base 3 1 v (zs.filter fun x => !isIn wo x).length ((zs.filter fun x => !isIn wo x).map (Value.int .i64)) ∧ Below base w w'
theorem delete_any (zs wo : List Int) (p : Option Addr) (c B C base : Nat) (v : Value) (w : World) (hO : w.ownsRow base 3 1 v zs.length (zs.map (Value.int .i64))) (hl : zs.length ≤ 1000)
    (hc : w.cell? ⟨B, 0, none⟩ = some (.slice p wo.length c)) (hL : LiesB C .i64 w p wo) (hB : B < base) (hC : C ≤ base) :
    Calls Try.prog 23 #[v, .func (.func 24) #[] #[.pointer (some ⟨B, 0, none⟩)]] w (KeptPost zs wo base w) := by
  by_cases hv : v = .slice none 0 0
  · subst hv
    have hz : zs = [] := by
      rcases hO.2 with ⟨_, h⟩ | ⟨_, _, _, h, _⟩
      · exact List.length_eq_zero_iff.1 h
      · cases h
    subst hz
    exact (delete_nil _ w).mono fun e w' ⟨he, hw⟩ => ⟨_, he, World.ownsRow_nil _ _ _ _, by rw [← hw]; exact Below.refl _ _⟩
  · obtain ⟨g, cap, rfl, hbg, hgl, hncap, hcm, hlen, hH⟩ := Lib.holds_of_ownsRow hO hv
    have eg : ∀ args w, (callFunc 24 args).run Try.prog w = .ok (.enter 24 args) w := enters_of Try.func24 (by kernel_rfl) rfl
    have hcon := Try.slices_DeleteFunc (Value.int .i64) (fun _ => rfl) (fun x => isIn wo x) 24 #[.pointer (some ⟨B, 0, none⟩)] eg 0 zeroI g 0 cap zs.toArray w
      (pred_at hc hL) (pred_over hc hL (by omega) (by omega)) hH (by simp; omega) (by simp; omega)
    rw [List.size_toArray] at hcon
    refine hcon.mono fun e w' ⟨he, q, hw⟩ => ?_
    have hfl : (zs.filter fun x => !isIn wo x).length ≤ zs.length := List.length_filter_le _ _
    have hown := Lib.ownsRow_putRow (q := q) (k := (zs.filter fun x => !isIn wo x).length) (ys := (zs.filter fun x => !isIn wo x) ++ List.replicate (zs.length - (zs.filter fun x => !isIn wo x).length) 0) hO (by rw [List.length_append, List.length_replicate]; omega) hfl
    rw [List.take_left] at hown
    exact ⟨_, he, by rw [hw]; exact hown, by rw [hw]; exact Lib.below_putRow (Below.refl _ _) hbg⟩

theorem hB_of {C : Nat} {w w1 w2 : World} (h : Below C w w1) (hs : C + 1 ≤ w1.heap.size) (h2 : Below (C + 1) w1 w2) : Below C w w2 := h.trans (h2.mono (by omega))

set_option maxHeartbeats 400000 in
theorem others_any (n d : Int) (wo : List Int) (p : Option Addr) (c : Nat) (w : World) (hL : Lies .i64 w p wo) :
    Calls Try.prog 15 #[.int .i64 n, .int .i64 d, .slice p wo.length c] w (RowPost (others n d wo) w) := by
  have HL := Lib.hid hL.at
  clear hL
  go_enter Try.func15, Try.ntmps15
  go_wp2_with fail
  refine (order_any n d _).mono ?_
  rintro e w1 ⟨v, rfl, hO, hb⟩
  have hB1 : Below w.heap.size w w1 := ((Below.refl _ _).alloc (Nat.le_refl _) _).trans (hb.mono (by simp))
  have hs : w.heap.size + 1 ≤ w1.heap.size := by have := hb.size; simpa using this
  have hbox : w1.cell? ⟨w.heap.size, 0, none⟩ = some (.slice p wo.length c) := by rw [hb.cell (p := ⟨w.heap.size, 0, none⟩) (by simp)]; simp
  have hO' : w1.ownsRow (w.heap.size + 1) 3 1 v (order n d).length ((order n d).map (Value.int .i64)) := own_base hO (by simp)
  have HD := Lib.hid (delete_any (order n d) wo p c w.heap.size w.heap.size (w.heap.size + 1) v w1 hO' (by have := @order_le n d; omega) hbox (HL.out.on hB1) (by omega) (by omega))
  have HB := Lib.hid hB1
  clear hO hO' hb hbox hB1
  go_wp2_with fail
  refine HD.out.mono ?_
  rintro e w2 ⟨v2, rfl, hO2, hb2⟩
  have HO2 := Lib.hid (own_base hO2 (show w.heap.size ≤ w.heap.size + 1 by omega))
  have HB2 := Lib.hid (hB_of HB.out hs hb2)
  clear hO2 hb2
  go_wp2
  go_ret
  exact ⟨_, rfl, HO2.out, HB2.out⟩

/-- the draw of a start and a stride, in plain words -/
def drawI (n st by' : Int) : Int := Lib.idxOf (strides n) by'
def drawOk (n st by' : Int) : Bool := decide (0 ≤ drawI n st by') && decide (0 ≤ st) && decide (st < n)
def drawN (n st by' : Int) : Int := if drawOk n st by' then drawI n st by' * n + st else 0
end Go.Proofs.Yteijfgckeipkhaa
