/- The walks of the reference's one and Do. -/
import Derived.Test.YtpeikhoepbkggaaDoorWra
import Derived.StillTailTactics
namespace Go.Proofs.YtpeikhoepbkggaaDoor
open Go.RowKit Go.Wd

theorem agg_eq {a b : Int} {h t : Nat} (ha : a = h) (hb : b = t) : Ending.returned (.agg #[.int .u32 a, .int .u32 b]) = Ending.returned (.agg #[.int .u32 (h : Int), .int .u32 (t : Int)]) := by rw [ha, hb]

set_option maxHeartbeats 1000000 in
theorem rone_get1 (x q : Nat) (hx : x < 18446744073709551616) (hq : q < 4294967296) (hl : 0 < ln x) (w : World) :
    Calls Tryd.prog 34 #[.agg #[.int .u32 (hd x : Nat), .int .u32 (tl x : Nat)], .int .u32 q, .int .i64 1] w (Ans (.agg #[.int .u32 (hd (stp q x 1) : Nat), .int .u32 (tl (stp q x 1) : Nat)]) w) := by
  have h1 := hd_lt hx
  have h2 := tl_lt x
  have h3 := ln_lt x
  rw [stp_get1 hl]
  go_enter Tryd.func34, Tryd.ntmps34
  go_wp2_with (first | (go_at_call 7; refine (rlen_ex x hx _).mono ?_; rintro e w1 ⟨rfl, rfl⟩))
  exact bodyPost_ret (v := .agg #[.int .u32 ((((hd x : Nat) : Int) + 1) % 4294967296), .int .u32 (((tl x : Nat) : Int))]) (by simp [results, Tryd.results34, go_sem]) rfl ⟨agg_eq (by rw [hd_gain]; omega) (by rw [tl_gain]), (((Below.refl _ _).alloc (Nat.le_refl _) _).alloc (by simp) _).alloc (by simp; omega) _⟩

set_option maxHeartbeats 1000000 in
theorem rone_get0 (x q : Nat) (hx : x < 18446744073709551616) (hq : q < 4294967296) (hl : ¬ 0 < ln x) (w : World) :
    Calls Tryd.prog 34 #[.agg #[.int .u32 (hd x : Nat), .int .u32 (tl x : Nat)], .int .u32 q, .int .i64 1] w (Ans (.agg #[.int .u32 (hd (stp q x 1) : Nat), .int .u32 (tl (stp q x 1) : Nat)]) w) := by
  have h1 := hd_lt hx
  have h2 := tl_lt x
  have h3 := ln_lt x
  rw [stp_get0 hx hl]
  go_enter Tryd.func34, Tryd.ntmps34
  go_wp2_with (first | (go_at_call 7; refine (rlen_ex x hx _).mono ?_; rintro e w1 ⟨rfl, rfl⟩))
  exact bodyPost_ret (v := .agg #[.int .u32 (((hd x : Nat) : Int)), .int .u32 (((tl x : Nat) : Int))]) (by simp [results, Tryd.results34, go_sem]) rfl ⟨agg_eq rfl rfl, (((Below.refl _ _).alloc (Nat.le_refl _) _).alloc (by simp) _).alloc (by simp; omega) _⟩

set_option maxHeartbeats 1000000 in
theorem rone_two (x q : Nat) (hx : x < 18446744073709551616) (hq : q < 4294967296) (w : World) :
    Calls Tryd.prog 34 #[.agg #[.int .u32 (hd x : Nat), .int .u32 (tl x : Nat)], .int .u32 q, .int .i64 2] w (Ans (.agg #[.int .u32 (hd (stp q x 2) : Nat), .int .u32 (tl (stp q x 2) : Nat)]) w) := by
  have h1 := hd_lt hx
  have h2 := tl_lt x
  have h3 := ln_lt x
  rw [stp_two]
  go_enter Tryd.func34, Tryd.ntmps34
  go_wp2_with (first | (go_at_call 7; refine (rlen_ex x hx _).mono ?_; rintro e w1 ⟨rfl, rfl⟩))
  exact bodyPost_ret (v := .agg #[.int .u32 ((((hd x : Nat) : Int) + (ln x : Nat) - ((ln x : Nat) : Int) / 2) % 4294967296), .int .u32 (((tl x : Nat) : Int))]) (by simp [results, Tryd.results34, go_sem]) rfl ⟨agg_eq (by rw [hd_gain]; unfold older; omega) (by rw [tl_gain]), (((Below.refl _ _).alloc (Nat.le_refl _) _).alloc (by simp) _).alloc (by simp; omega) _⟩

set_option maxHeartbeats 1000000 in
theorem rone_put1 (x q : Nat) (hx : x < 18446744073709551616) (hq : q < 4294967296) (hl : ln x < q) (w : World) :
    Calls Tryd.prog 34 #[.agg #[.int .u32 (hd x : Nat), .int .u32 (tl x : Nat)], .int .u32 q, .int .i64 3] w (Ans (.agg #[.int .u32 (hd (stp q x 3) : Nat), .int .u32 (tl (stp q x 3) : Nat)]) w) := by
  have h1 := hd_lt hx
  have h2 := tl_lt x
  have h3 := ln_lt x
  rw [stp_put1 hl]
  go_enter Tryd.func34, Tryd.ntmps34
  go_wp2_with (first | (go_at_call 7; refine (rlen_ex x hx _).mono ?_; rintro e w1 ⟨rfl, rfl⟩))
  exact bodyPost_ret (v := .agg #[.int .u32 (((hd x : Nat) : Int)), .int .u32 ((((tl x : Nat) : Int) + 1) % 4294967296)]) (by simp [results, Tryd.results34, go_sem]) rfl ⟨agg_eq (by rw [hd_grow]) (by rw [tl_grow]; omega), (((Below.refl _ _).alloc (Nat.le_refl _) _).alloc (by simp) _).alloc (by simp; omega) _⟩

set_option maxHeartbeats 1000000 in
theorem rone_put0 (x q : Nat) (hx : x < 18446744073709551616) (hq : q < 4294967296) (hl : ¬ ln x < q) (w : World) :
    Calls Tryd.prog 34 #[.agg #[.int .u32 (hd x : Nat), .int .u32 (tl x : Nat)], .int .u32 q, .int .i64 3] w (Ans (.agg #[.int .u32 (hd (stp q x 3) : Nat), .int .u32 (tl (stp q x 3) : Nat)]) w) := by
  have h1 := hd_lt hx
  have h2 := tl_lt x
  have h3 := ln_lt x
  rw [stp_put0 hl]
  go_enter Tryd.func34, Tryd.ntmps34
  go_wp2_with (first | (go_at_call 7; refine (rlen_ex x hx _).mono ?_; rintro e w1 ⟨rfl, rfl⟩))
  exact bodyPost_ret (v := .agg #[.int .u32 (((hd x : Nat) : Int)), .int .u32 (((tl x : Nat) : Int))]) (by simp [results, Tryd.results34, go_sem]) rfl ⟨agg_eq rfl rfl, (((Below.refl _ _).alloc (Nat.le_refl _) _).alloc (by simp) _).alloc (by simp; omega) _⟩

set_option maxHeartbeats 1000000 in
theorem rone_cut1 (x q : Nat) (hx : x < 18446744073709551616) (hq : q < 4294967296) (hl : ¬ ln x < q) (w : World) :
    Calls Tryd.prog 34 #[.agg #[.int .u32 (hd x : Nat), .int .u32 (tl x : Nat)], .int .u32 q, .int .i64 4] w (Ans (.agg #[.int .u32 (hd (stp q x 4) : Nat), .int .u32 (tl (stp q x 4) : Nat)]) w) := by
  have h1 := hd_lt hx
  have h2 := tl_lt x
  have h3 := ln_lt x
  rw [stp_cut1 hl]
  go_enter Tryd.func34, Tryd.ntmps34
  go_wp2_with (first | (go_at_call 7; refine (rlen_ex x hx _).mono ?_; rintro e w1 ⟨rfl, rfl⟩))
  exact bodyPost_ret (v := .agg #[.int .u32 (((hd x : Nat) : Int)), .int .u32 ((((tl x : Nat) : Int) - (q : Int) / 2) % 4294967296)]) (by simp [results, Tryd.results34, go_sem]) rfl ⟨agg_eq (by rw [hd_drop]) (by rw [tl_drop]; omega), (((Below.refl _ _).alloc (Nat.le_refl _) _).alloc (by simp) _).alloc (by simp; omega) _⟩

set_option maxHeartbeats 1000000 in
theorem rone_cut0 (x q : Nat) (hx : x < 18446744073709551616) (hq : q < 4294967296) (hl : ln x < q) (w : World) :
    Calls Tryd.prog 34 #[.agg #[.int .u32 (hd x : Nat), .int .u32 (tl x : Nat)], .int .u32 q, .int .i64 4] w (Ans (.agg #[.int .u32 (hd (stp q x 4) : Nat), .int .u32 (tl (stp q x 4) : Nat)]) w) := by
  have h1 := hd_lt hx
  have h2 := tl_lt x
  have h3 := ln_lt x
  rw [stp_cut0 hl]
  go_enter Tryd.func34, Tryd.ntmps34
  go_wp2_with (first | (go_at_call 7; refine (rlen_ex x hx _).mono ?_; rintro e w1 ⟨rfl, rfl⟩))
  exact bodyPost_ret (v := .agg #[.int .u32 (((hd x : Nat) : Int)), .int .u32 (((tl x : Nat) : Int))]) (by simp [results, Tryd.results34, go_sem]) rfl ⟨agg_eq rfl rfl, (((Below.refl _ _).alloc (Nat.le_refl _) _).alloc (by simp) _).alloc (by simp; omega) _⟩

set_option maxHeartbeats 1000000 in
theorem rone_less (x q : Nat) (d : Int) (hx : x < 18446744073709551616) (hq : q < 4294967296) (hl : d < 1) (w : World) :
    Calls Tryd.prog 34 #[.agg #[.int .u32 (hd x : Nat), .int .u32 (tl x : Nat)], .int .u32 q, .int .i64 d] w (Ans (.agg #[.int .u32 (hd (stp q x d) : Nat), .int .u32 (tl (stp q x d) : Nat)]) w) := by
  have h1 := hd_lt hx
  have h2 := tl_lt x
  have h3 := ln_lt x
  rw [stp_other (by omega)]
  go_enter Tryd.func34, Tryd.ntmps34
  go_wp2_with (first | (go_at_call 7; refine (rlen_ex x hx _).mono ?_; rintro e w1 ⟨rfl, rfl⟩))
  exact bodyPost_ret (v := .agg #[.int .u32 (((hd x : Nat) : Int)), .int .u32 (((tl x : Nat) : Int))]) (by simp [results, Tryd.results34, go_sem]) rfl ⟨agg_eq rfl rfl, (((Below.refl _ _).alloc (Nat.le_refl _) _).alloc (by simp) _).alloc (by simp; omega) _⟩

set_option maxHeartbeats 1000000 in
theorem rone_more (x q : Nat) (d : Int) (hx : x < 18446744073709551616) (hq : q < 4294967296) (hl : 4 < d) (w : World) :
    Calls Tryd.prog 34 #[.agg #[.int .u32 (hd x : Nat), .int .u32 (tl x : Nat)], .int .u32 q, .int .i64 d] w (Ans (.agg #[.int .u32 (hd (stp q x d) : Nat), .int .u32 (tl (stp q x d) : Nat)]) w) := by
  have h1 := hd_lt hx
  have h2 := tl_lt x
  have h3 := ln_lt x
  rw [stp_other (by omega)]
  go_enter Tryd.func34, Tryd.ntmps34
  go_wp2_with (first | (go_at_call 7; refine (rlen_ex x hx _).mono ?_; rintro e w1 ⟨rfl, rfl⟩))
  exact bodyPost_ret (v := .agg #[.int .u32 (((hd x : Nat) : Int)), .int .u32 (((tl x : Nat) : Int))]) (by simp [results, Tryd.results34, go_sem]) rfl ⟨agg_eq rfl rfl, (((Below.refl _ _).alloc (Nat.le_refl _) _).alloc (by simp) _).alloc (by simp; omega) _⟩


theorem rone_any (x q : Nat) (d : Int) (hx : x < 18446744073709551616) (hq : q < 4294967296) (w : World) :
    Calls Tryd.prog 34 #[.agg #[.int .u32 (hd x : Nat), .int .u32 (tl x : Nat)], .int .u32 q, .int .i64 d] w (Ans (.agg #[.int .u32 (hd (stp q x d) : Nat), .int .u32 (tl (stp q x d) : Nat)]) w) := by
  by_cases e0 : d < 1
  · exact rone_less x q d hx hq e0 w
  · by_cases e5 : 4 < d
    · exact rone_more x q d hx hq e5 w
    · have : d = 1 ∨ d = 2 ∨ d = 3 ∨ d = 4 := by omega
      rcases this with rfl | rfl | rfl | rfl
      · by_cases h : 0 < ln x
        · exact rone_get1 x q hx hq h w
        · exact rone_get0 x q hx hq h w
      · exact rone_two x q hx hq w
      · by_cases h : ln x < q
        · exact rone_put1 x q hx hq h w
        · exact rone_put0 x q hx hq h w
      · by_cases h : ln x < q
        · exact rone_cut0 x q hx hq h w
        · exact rone_cut1 x q hx hq h w


/-- two cells that may be written, with what they hold -/
structure Two (b : Nat) (u v : Value) (w : World) : Prop where
  fst : w.cell? ⟨b, 0, none⟩ = some u
  snd : w.cell? ⟨b, 1, none⟩ = some v
  free0 : w.frozen? ⟨b, 0, none⟩ = false
  free1 : w.frozen? ⟨b, 1, none⟩ = false
  lt : b < w.heap.size
theorem Two.on {b : Nat} {u v : Value} {w w' : World} (h : Two b u v w) (hb : Below w.heap.size w w') : Two b u v w' :=
  ⟨by rw [hb.cell (p := ⟨b, 0, none⟩) h.lt]; exact h.fst, by rw [hb.cell (p := ⟨b, 1, none⟩) h.lt]; exact h.snd, by rw [hb.frozen (p := ⟨b, 0, none⟩) h.lt]; exact h.free0, by rw [hb.frozen (p := ⟨b, 1, none⟩) h.lt]; exact h.free1, Nat.lt_of_lt_of_le h.lt hb.size⟩
theorem Two.new (u v : Value) (w : World) (t : TypeId) : Two w.heap.size u v (w.alloc (.cells #[u, v] t)) :=
  ⟨by rw [World.cell?_alloc_new]; rfl, by rw [World.cell?_alloc_new]; rfl, World.frozen?_alloc_new _ _ _ _, World.frozen?_alloc_new _ _ _ _, by simp⟩

theorem Two.set {b : Nat} {u v : Value} {w : World} (h : Two b u v w) (u' v' : Value) : Two b u' v' ((w.setCell ⟨b, 0, none⟩ u').setCell ⟨b, 1, none⟩ v') := by
  have n1 : (⟨b, 1, none⟩ : Addr) ≠ ⟨b, 0, none⟩ := by simp
  have n0 : (⟨b, 0, none⟩ : Addr) ≠ ⟨b, 1, none⟩ := by simp
  refine ⟨?_, ?_, ?_, ?_, ?_⟩
  · rw [World.cell?_setCell_other _ _ _ _ n1]; exact World.cell?_setCell_same _ _ _ h.fst
  · exact World.cell?_setCell_same _ _ _ (by rw [World.cell?_setCell_other _ _ _ _ n0]; exact h.snd)
  · simp [h.free0]
  · simp [h.free1]
  · simp [h.lt]
theorem Two.other {b c : Nat} {u v : Value} {w : World} (h : Two b u v w) (hne : c ≠ b) (u' v' : Value) : Two b u v ((w.setCell ⟨c, 0, none⟩ u').setCell ⟨c, 1, none⟩ v') := by
  have n : ∀ i j : Nat, (⟨c, i, none⟩ : Addr) ≠ ⟨b, j, none⟩ := fun i j e => hne (by injection e)
  refine ⟨?_, ?_, ?_, ?_, ?_⟩
  · rw [World.cell?_setCell_other _ _ _ _ (n _ _), World.cell?_setCell_other _ _ _ _ (n _ _)]; exact h.fst
  · rw [World.cell?_setCell_other _ _ _ _ (n _ _), World.cell?_setCell_other _ _ _ _ (n _ _)]; exact h.snd
  · simp [h.free0]
  · simp [h.free1]
  · simp [h.lt]

theorem rroom_is (q : Int) (b : Bool) (h : room q = b) (w : World) :
    Calls Tryd.prog 18 #[.int .i64 q] w fun e w' => e = .returned (.bool b) ∧ w = w' := by
  subst h; exact rroom_any q w

theorem rone_at (x q : Nat) (a b : Int) (c d : Int) (ha : a = (hd x : Nat)) (hb : b = (tl x : Nat)) (hc : c = q) (hx : x < 18446744073709551616) (hq : q < 4294967296) (w : World) :
    Calls Tryd.prog 34 #[.agg #[.int .u32 a, .int .u32 b], .int .u32 c, .int .i64 d] w (Ans (.agg #[.int .u32 (hd (stp q x d) : Nat), .int .u32 (tl (stp q x d) : Nat)]) w) := by
  subst ha; subst hb; subst hc; exact rone_any x q d hx hq w

set_option maxHeartbeats 1000000 in
theorem rdo_no (x : Nat) (q : Int) (hr : room q = false) (p : Option Addr) (len cap : Nat) (hl : len ≤ 1000000000000000) (w : World) :
    Calls Tryd.prog 30 #[.agg #[.int .u32 (hd x : Nat), .int .u32 (tl x : Nat)], .int .i64 q, .slice p len cap] w (Ans (.agg #[.int .u32 (hd x : Nat), .int .u32 (tl x : Nat)]) w) := by
  have HR := Lib.hid hr
  clear hr
  go_enter Tryd.func30, Tryd.ntmps30
  go_wp2_with fail
  go_loop [7] (fun i => i = .int .i64 0) (fun _ => 0)
  case atStart => rfl
  case round =>
    subst hrel
    go_wp2_with (go_at_call 18; refine (rroom_is _ _ HR.out _).mono ?_; rintro e w' ⟨rfl, rfl⟩)
    all_goals
      exact bodyPost_ret (v := .agg #[.int .u32 ((hd x : Nat) : Int), .int .u32 ((tl x : Nat) : Int)]) (by simp [results, Tryd.results30, go_sem]) rfl ⟨rfl, ((Below.refl _ _).alloc (Nat.le_refl _) _).alloc (by simp) _⟩

set_option maxHeartbeats 1000000 in
theorem rdo_yes (x : Nat) (hx : x < 18446744073709551616) (n : Nat) (hn : n ≤ 65536) (hr : room (n : Int) = true) (p : Option Addr) (cap : Nat) (zs : List Int) (w : World) (hl : Lies .i64 w p zs) :
    Calls Tryd.prog 30 #[.agg #[.int .u32 (hd x : Nat), .int .u32 (tl x : Nat)], .int .i64 (n : Nat), .slice p zs.length cap] w (Ans (.agg #[.int .u32 (hd (zs.foldl (stp n) x) : Nat), .int .u32 (tl (zs.foldl (stp n) x) : Nat)]) w) := by
  have hlen := hl.len
  have HL := Lib.hid hl.at
  have HR := Lib.hid hr
  clear hl hr
  go_enter Tryd.func30, Tryd.ntmps30
  go_wp2_with fail
  have hB1 := (Two.new (.int .u32 (hd x : Nat)) (.int .u32 (tl x : Nat)) w 24).on (((Below.refl _ _).alloc (Nat.le_refl _) _) : Below _ _ ((w.alloc (.cells #[.int .u32 (hd x : Nat), .int .u32 (tl x : Nat)] 24)).alloc (.cells #[.int .u32 0, .int .u32 0] 24)))
  have hB2 := Two.new (.int .u32 0) (.int .u32 0) (w.alloc (.cells #[.int .u32 (hd x : Nat), .int .u32 (tl x : Nat)] 24)) 24
  have hB3 : Below w.heap.size w ((w.alloc (.cells #[.int .u32 (hd x : Nat), .int .u32 (tl x : Nat)] 24)).alloc (.cells #[.int .u32 0, .int .u32 0] 24)) := ((Below.refl _ _).alloc (Nat.le_refl _) _).alloc (by simp) _
  rw [show (w.alloc (.cells #[.int .u32 (hd x : Nat), .int .u32 (tl x : Nat)] 24)).heap.size = w.heap.size + 1 by simp] at hB2
  have H1 := Lib.hid hB1
  have H2 := Lib.hid hB2
  have H3 := Lib.hid hB3
  clear hB1 hB2 hB3
  go_loopw [7] (fun i wr => ∃ (k y : Nat), k ≤ zs.length ∧ i = .int .i64 k ∧ y < 18446744073709551616 ∧ Hid (y = (zs.take k).foldl (stp n) x) ∧ Hid (Two w.heap.size (.int .u32 (hd y : Nat)) (.int .u32 (tl y : Nat)) wr) ∧ Hid (Two (w.heap.size + 1) (.int .u32 0) (.int .u32 0) wr) ∧ Hid (Below w.heap.size w wr)) (fun i _ => zs.length - (intOf i).toNat)
  case atStart => exact ⟨0, x, by omega, rfl, hx, rfl, H1, H2, H3⟩
  case round =>
    obtain ⟨k, y, hk, rfl, hy, HY, HA, HB, HC⟩ := hrel
    clear H1 H2 H3
    by_cases hlt : k < zs.length
    · obtain ⟨b, o, rfl, hbl, hc⟩ := (HL.out.on HC.out).cells k hlt
      have hm := fold_more (stp n) x zs k hlt
      rw [← HY.out] at hm
      obtain ⟨z, hz⟩ : ∃ z, zs.getD k 0 = z := ⟨_, rfl⟩
      rw [hz] at hc hm
      have HM := Lib.hid hm
      clear hz hm
      obtain ⟨c0, c1, f0, f1, hlt1⟩ := HA.out
      go_wp2_with (go_at_call 18; refine (rroom_is _ _ HR.out _).mono ?_; rintro e w' ⟨rfl, rfl⟩)
      go_still_tail 7, (by kernel_rfl)
      change wpList _ _ _ _ _ wr.drew
      go_wp2_with fail
      refine (rone_at y n _ _ _ z rfl rfl (by omega) hy (by omega) _).mono ?_
      rintro e w1 ⟨rfl, hb1⟩
      have hb2 : Below wr.heap.size wr w1 := ((Below.refl _ _).drew).trans hb1
      have hA1 := HA.out.on hb2
      have HB1 := Lib.hid (HB.out.on hb2)
      have HC1 := Lib.hid (HC.out.trans (hb2.mono (by omega)))
      clear c0 c1 f0 f1 hc hb1 hb2
      have HA1 := Lib.hid hA1
      obtain ⟨c0, c1, f0, f1, hlt2⟩ := hA1
      go_wp2
      go_roundw
      case rel =>
        exact ⟨k + 1, _, by omega, by go_num, stp_lt hy, HM.out.symm, HA1.out.set _ _, HB1.out.other (by omega) _ _, (HC1.out.setCell (p := ⟨w.heap.size, 0, none⟩) (Nat.le_refl _) _).setCell (p := ⟨w.heap.size, 1, none⟩) (Nat.le_refl _) _⟩
      case measure =>
        show _ < _
        simp only [intOf]
        omega
    · have hY := HY.out
      rw [List.take_of_length_le (by omega)] at hY
      obtain ⟨c0, c1, f0, f1, hlt1⟩ := HA.out
      obtain ⟨r0, r1, g0, g1, hlt2⟩ := HB.out
      have HZ := Lib.hid hY
      clear hY
      go_wp2
      exact bodyPost_ret (v := .agg #[.int .u32 ((hd y : Nat) : Int), .int .u32 ((tl y : Nat) : Int)]) (by simp [results, Tryd.results30, go_sem, r0, r1]) rfl ⟨by rw [HZ.out], (HC.out.setCell (p := ⟨w.heap.size + 1, 0, none⟩) (Nat.le_succ _) _).setCell (p := ⟨w.heap.size + 1, 1, none⟩) (Nat.le_succ _) _⟩

theorem rdo_any (x : Nat) (hx : x < 18446744073709551616) (q : Int) (p : Option Addr) (cap : Nat) (zs : List Int) (w : World) (hl : Lies .i64 w p zs) :
    Calls Tryd.prog 30 #[.agg #[.int .u32 (hd x : Nat), .int .u32 (tl x : Nat)], .int .i64 q, .slice p zs.length cap] w (Ans (.agg #[.int .u32 (hd (doW x q zs) : Nat), .int .u32 (tl (doW x q zs) : Nat)]) w) := by
  cases hr : room q with
  | true =>
    have hb := room_bd hr
    obtain ⟨n, rfl⟩ : ∃ n : Nat, q = n := ⟨q.toNat, by omega⟩
    have e : doW x n zs = zs.foldl (stp n) x := by unfold doW; rw [if_pos hr]; rfl
    rw [e]; exact rdo_yes x hx n (by omega) hr p cap zs w hl
  | false =>
    have e : doW x q zs = x := by unfold doW; rw [hr]; rfl
    rw [e]; exact rdo_no x q hr p zs.length cap hl.len w
end Go.Proofs.YtpeikhoepbkggaaDoor
