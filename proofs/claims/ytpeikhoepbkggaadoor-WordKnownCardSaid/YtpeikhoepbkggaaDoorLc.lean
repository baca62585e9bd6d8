/- The walk of the law WordParts. -/
import Derived.Test.YtpeikhoepbkggaaDoorLa
namespace Go.Proofs.YtpeikhoepbkggaaDoor
open Go.RowKit Go.Wd Go.Tx

theorem text_of {B : Nat} (x : Nat) (hx : x < 18446744073709551616) (w : World) (h : Env B w) :
    Calls Tryd.prog 14 #[.int .u64 x] w (Ans (.string ⟨(wtx x).toArray⟩) w) := text_is rfl hx w h
theorem rtext_of (x : Nat) (hx : x < 18446744073709551616) (w : World) :
    Calls Tryd.prog 15 #[.agg #[.int .u32 (hd x : Nat), .int .u32 (tl x : Nat)]] w (Ans (.string ⟨(wtx x).toArray⟩) w) :=
  (rtext_any x hx w).mono fun e w' ⟨l, h1, h2, h3⟩ => ⟨by rw [h2, h1], h3⟩
theorem rlen_is {x m : Nat} (hm : ln x = m) (hx : x < 18446744073709551616) (w : World) :
    Calls Tryd.prog 7 #[.agg #[.int .u32 (hd x : Nat), .int .u32 (tl x : Nat)]] w (Ans (.int .u32 m) w) := by
  subst hm; exact rlen_any x hx w

theorem of_gain {x n a : Nat} (ha : (hd x + n) % 4294967296 = a) (w : World) :
    Calls Tryd.prog 10 #[.int .u64 (gainW x n : Nat)] w (Ans (.agg #[.int .u32 a, .int .u32 (tl x : Nat)]) w) := by
  have := rof_any (gainW x n) gain_lt w
  rw [hd_gain, tl_gain, ha] at this; exact this
theorem of_grow {x n a : Nat} (hx : x < 18446744073709551616) (ha : (tl x + n) % 4294967296 = a) (w : World) :
    Calls Tryd.prog 10 #[.int .u64 (growW x n : Nat)] w (Ans (.agg #[.int .u32 (hd x : Nat), .int .u32 a]) w) := by
  have := rof_any (growW x n) (grow_lt hx) w
  rw [hd_grow, tl_grow, ha] at this; exact this
theorem of_drop {x n a : Nat} (hx : x < 18446744073709551616) (ha : (tl x + 4294967296 - n) % 4294967296 = a) (w : World) :
    Calls Tryd.prog 10 #[.int .u64 (dropW x n : Nat)] w (Ans (.agg #[.int .u32 (hd x : Nat), .int .u32 a]) w) := by
  have := rof_any (dropW x n) (drop_lt hx) w
  rw [hd_drop, tl_drop, ha] at this; exact this

theorem places_lit (x : Nat) (hx : x < 18446744073709551616) (w : World) :
    Calls Tryd.prog 28 #[.int .u64 x, .int .u32 0, .int .u32 70000] w (RowPost (pls x 0 70000) w) := places_any x 0 70000 hx w
theorem rplaces_lit (x : Nat) (hx : x < 18446744073709551616) (w : World) :
    Calls Tryd.prog 29 #[.agg #[.int .u32 (hd x : Nat), .int .u32 (tl x : Nat)], .int .u32 0, .int .u32 70000] w (RowPost (pls x 0 70000) w) := rplaces_any x 0 70000 hx (by decide) w
theorem same_held {x fr n : Nat} {v1 v2 : Value} {W wa w5 w6 : World}
    (hr1 : w5.ownsRow wa.heap.size 22 1 v1 (pls x fr n).length ((pls x fr n).map (Value.int .u32))) (hb6 : Below w5.heap.size w5 w6) (hr2 : w6.ownsRow w5.heap.size 22 1 v2 (pls x fr n).length ((pls x fr n).map (Value.int .u32)))
    (hsa : (wa.cell? ⟨W.heap.size, 0, none⟩ = some (.int .u32 (hd x : Nat)) ∧ wa.cell? ⟨W.heap.size, 1, none⟩ = some (.int .u32 (tl x : Nat))) ∧ W.heap.size < wa.heap.size ∧ Below W.heap.size W wa)
    (hs6 : (w6.cell? ⟨W.heap.size, 0, none⟩ = some (.int .u32 (hd x : Nat)) ∧ w6.cell? ⟨W.heap.size, 1, none⟩ = some (.int .u32 (tl x : Nat))) ∧ W.heap.size < w6.heap.size ∧ Below W.heap.size W w6) :
    Calls Tryd.prog 27 #[v1, v2] w6 fun e w7 => e = .returned (.bool true) ∧ ((w7.cell? ⟨W.heap.size, 0, none⟩ = some (.int .u32 (hd x : Nat)) ∧ w7.cell? ⟨W.heap.size, 1, none⟩ = some (.int .u32 (tl x : Nat))) ∧ W.heap.size < w7.heap.size ∧ Below W.heap.size W w7) := by
  refine (same_any (pls x fr n) v1 v2 _ _ (by have := pnum_le x fr n; rw [pls_length]; omega) _ (own_on hr1 hb6) hr2 (fun g hg => (hr1.lt g hg).2)).mono ?_
  rintro e w7 ⟨he, hb⟩
  obtain ⟨⟨c0, c1⟩, c2, c3⟩ := hs6
  have hlt := hsa.2.1
  exact ⟨he, ⟨by rw [hb.cell (p := ⟨W.heap.size, 0, none⟩) hlt]; exact c0, by rw [hb.cell (p := ⟨W.heap.size, 1, none⟩) hlt]; exact c1⟩, Nat.lt_of_lt_of_le c2 hb.size, c3.trans (hb.mono (by omega))⟩

theorem cell_keep {b o : Nat} {v : Value} {w w' : World} (h : w.cell? ⟨b, o, none⟩ = some v) (hb : Below w.heap.size w w') : w'.cell? ⟨b, o, none⟩ = some v := by
  rw [hb.cell (block_lt_of_cell h)]; exact h
theorem more_keep {B b x m : Nat} {v0 v1 v2 v3 v4 v5 : Value} {W w w' : World}
    (h : ((w.cell? ⟨b, 0, none⟩ = some (.int .u32 (hd x : Nat)) ∧ w.cell? ⟨b, 1, none⟩ = some (.int .u32 (tl x : Nat))) ∧ b < w.heap.size ∧ Below B W w) ∧ (w.cell? ⟨m, 0, none⟩ = some v0 ∧ w.cell? ⟨m, 1, none⟩ = some v1 ∧ w.cell? ⟨m, 2, none⟩ = some v2 ∧ w.cell? ⟨m, 3, none⟩ = some v3 ∧ w.cell? ⟨m, 4, none⟩ = some v4 ∧ w.cell? ⟨m, 5, none⟩ = some v5)) (hB : B ≤ b) (hb : Below w.heap.size w w') :
    ((w'.cell? ⟨b, 0, none⟩ = some (.int .u32 (hd x : Nat)) ∧ w'.cell? ⟨b, 1, none⟩ = some (.int .u32 (tl x : Nat))) ∧ b < w'.heap.size ∧ Below B W w') ∧ (w'.cell? ⟨m, 0, none⟩ = some v0 ∧ w'.cell? ⟨m, 1, none⟩ = some v1 ∧ w'.cell? ⟨m, 2, none⟩ = some v2 ∧ w'.cell? ⟨m, 3, none⟩ = some v3 ∧ w'.cell? ⟨m, 4, none⟩ = some v4 ∧ w'.cell? ⟨m, 5, none⟩ = some v5) := by
  obtain ⟨h1, k0, k1, k2, k3, k4, k5⟩ := h
  exact ⟨box_keep h1 hB hb, cell_keep k0 hb, cell_keep k1 hb, cell_keep k2 hb, cell_keep k3 hb, cell_keep k4 hb, cell_keep k5 hb⟩
theorem more_new {B b x : Nat} {W w : World} (v0 v1 v2 v3 v4 v5 : Value) (t : TypeId)
    (h : (w.cell? ⟨b, 0, none⟩ = some (.int .u32 (hd x : Nat)) ∧ w.cell? ⟨b, 1, none⟩ = some (.int .u32 (tl x : Nat))) ∧ b < w.heap.size ∧ Below B W w) (hB : B ≤ b) :
    let w' := w.alloc (.cells #[v0, v1, v2, v3, v4, v5] t)
    ((w'.cell? ⟨b, 0, none⟩ = some (.int .u32 (hd x : Nat)) ∧ w'.cell? ⟨b, 1, none⟩ = some (.int .u32 (tl x : Nat))) ∧ b < w'.heap.size ∧ Below B W w') ∧ (w'.cell? ⟨w.heap.size, 0, none⟩ = some v0 ∧ w'.cell? ⟨w.heap.size, 1, none⟩ = some v1 ∧ w'.cell? ⟨w.heap.size, 2, none⟩ = some v2 ∧ w'.cell? ⟨w.heap.size, 3, none⟩ = some v3 ∧ w'.cell? ⟨w.heap.size, 4, none⟩ = some v4 ∧ w'.cell? ⟨w.heap.size, 5, none⟩ = some v5) :=
  ⟨box_keep h hB ((Below.refl _ _).alloc (Nat.le_refl _) _), by rw [World.cell?_alloc_new]; rfl, by rw [World.cell?_alloc_new]; rfl, by rw [World.cell?_alloc_new]; rfl, by rw [World.cell?_alloc_new]; rfl, by rw [World.cell?_alloc_new]; rfl, by rw [World.cell?_alloc_new]; rfl⟩

set_option maxRecDepth 100000 in
set_option maxHeartbeats 4000000 in
theorem law_parts (x n place m : Nat) (q : Int) (hx : x < 18446744073709551616) (hn : n < 4294967296) (hp : place < 4294967296) (hm : ln x = m) (w : World) (h : Env w.heap.size w) :
    Calls Tryd.prog 3 #[.int .u32 (hd x : Nat), .int .u32 (tl x : Nat), .int .u32 n, .int .u32 place, .int .i64 q] w (Ans (.bool true) w) := by
  have HE := Lib.hid h
  have HM := Lib.hid hm
  clear h hm
  go_enter Tryd.func3, Tryd.ntmps3
  go_wp2_with fail
  refine (rlen_is HM.out hx _).mono ?_
  rintro e w1 ⟨rfl, hb1⟩
  have HS := Lib.hid (box_keep (box_new x w 24) (Nat.le_refl _) hb1)
  clear hb1
  go_wp2_with fail
  refine (pack_is (pk_eta x) (hd_lt hx) (tl_lt x) _).mono ?_
  rintro e w' ⟨rfl, rfl⟩
  go_wp2_with fail
  go_region_held3 (fun w' => (w'.cell? ⟨w.heap.size, 0, none⟩ = some (.int .u32 (hd x : Nat)) ∧ w'.cell? ⟨w.heap.size, 1, none⟩ = some (.int .u32 (tl x : Nat))) ∧ w.heap.size < w'.heap.size ∧ Below w.heap.size w w') (first | exact box_drew HS.out (Nat.le_refl _) | assumption | exact box_keep (by assumption) (Nat.le_refl _) (by assumption))
    (first
      | (go_at_call 9; refine (rpack_any x hx _).mono ?_; rintro e w3 ⟨rfl, hb3⟩)
      | (go_at_call 10; refine (rof_any x hx _).mono ?_; rintro e w3 ⟨rfl, hb3⟩)
      | (go_at_call 11; refine (head_any x hx _).mono ?_; rintro e w3 ⟨rfl, rfl⟩)
      | (go_at_call 12; refine (tail_any x hx _).mono ?_; rintro e w3 ⟨rfl, rfl⟩)
      | (go_at_call 13; refine (len_is HM.out hx _).mono ?_; rintro e w3 ⟨rfl, rfl⟩)
      | (go_at_call 14; refine (text_of x hx _ (held_env HE.out (by assumption))).mono ?_; rintro e w3 ⟨rfl, hb3⟩)
      | (go_at_call 15; refine (rtext_of x hx _).mono ?_; rintro e w3 ⟨rfl, hb3⟩))
  rename_i hh1
  have HS1 := Lib.hid hh1
  clear hh1 HS
  have q1 : IntKind.u32.wrap ((n : Int) - (n : Int) / 2) = ((older n : Nat) : Int) := by rw [w32]; unfold older; omega
  have q2 : (0 : Int) ≤ (n : Int) := by omega
  have q3 : IntKind.u32.wrap ((n : Int) / 2) = (n : Int) / 2 := by rw [w32]; omega
  have q4 : (n : Int).tdiv 2 = (n : Int) / 2 := Int.tdiv_eq_ediv_of_nonneg (by omega)
  go_wp2_with fail
  go_region_held3 (fun w' => (w'.cell? ⟨w.heap.size, 0, none⟩ = some (.int .u32 (hd x : Nat)) ∧ w'.cell? ⟨w.heap.size, 1, none⟩ = some (.int .u32 (tl x : Nat))) ∧ w.heap.size < w'.heap.size ∧ Below w.heap.size w w') (first | exact box_drew HS1.out (Nat.le_refl _) | assumption | exact box_keep (by assumption) (Nat.le_refl _) (by assumption))
    (first
      | (go_at_call 16; refine (older_any n hn _).mono ?_; rintro e w3 ⟨rfl, rfl⟩)
      | (go_at_call 17; refine (room_any q _).mono ?_; rintro e w3 ⟨rfl, rfl⟩)
      | (go_at_call 18; refine (rroom_any q _).mono ?_; rintro e w3 ⟨rfl, rfl⟩)
      | (go_at_call 19; refine (slot_any place q hp _).mono ?_; rintro e w3 ⟨rfl, rfl⟩)
      | (go_at_call 20; refine (rslot_any place q hp _).mono ?_; rintro e w3 ⟨rfl, rfl⟩)
      | (go_at_call 21; refine (has_any x place hx hp _).mono ?_; rintro e w3 ⟨rfl, rfl⟩)
      | (go_at_call 22; refine (rhas_any x place hx hp _).mono ?_; rintro e w3 ⟨rfl, hb3⟩))
  rename_i hh2
  have HS2 := Lib.hid hh2
  clear hh2 HS1 q1 q2 q3 q4
  obtain ⟨a1, ha1⟩ : ∃ a, (hd x + n) % 4294967296 = a := ⟨_, rfl⟩
  obtain ⟨a2, ha2⟩ : ∃ a, (tl x + n) % 4294967296 = a := ⟨_, rfl⟩
  obtain ⟨a3, ha3⟩ : ∃ a, (tl x + 4294967296 - n) % 4294967296 = a := ⟨_, rfl⟩
  have e1 : ((hd x : Int) + n) % 4294967296 = a1 := by rw [← ha1]; omega
  have e2 : ((tl x : Int) + n) % 4294967296 = a2 := by rw [← ha2]; omega
  have e3 : ((tl x : Int) - n) % 4294967296 = a3 := by rw [← ha3]; omega
  have A1 := Lib.hid ha1
  have A2 := Lib.hid ha2
  have A3 := Lib.hid ha3
  clear ha1 ha2 ha3
  go_wp2_with fail
  clear e1 e2 e3
  have HS3 := Lib.hid (more_new (.int .u32 (a1 : Nat)) (.int .u32 (tl x : Nat)) (.int .u32 (hd x : Nat)) (.int .u32 (a2 : Nat)) (.int .u32 (hd x : Nat)) (.int .u32 (a3 : Nat)) 24 HS2.out (Nat.le_refl _))
  go_region_held3 (fun w' => ((w'.cell? ⟨w.heap.size, 0, none⟩ = some (.int .u32 (hd x : Nat)) ∧ w'.cell? ⟨w.heap.size, 1, none⟩ = some (.int .u32 (tl x : Nat))) ∧ w.heap.size < w'.heap.size ∧ Below w.heap.size w w') ∧ (w'.cell? ⟨w3.heap.size, 0, none⟩ = some (.int .u32 (a1 : Nat)) ∧ w'.cell? ⟨w3.heap.size, 1, none⟩ = some (.int .u32 (tl x : Nat)) ∧ w'.cell? ⟨w3.heap.size, 2, none⟩ = some (.int .u32 (hd x : Nat)) ∧ w'.cell? ⟨w3.heap.size, 3, none⟩ = some (.int .u32 (a2 : Nat)) ∧ w'.cell? ⟨w3.heap.size, 4, none⟩ = some (.int .u32 (hd x : Nat)) ∧ w'.cell? ⟨w3.heap.size, 5, none⟩ = some (.int .u32 (a3 : Nat)))) (first | exact more_keep HS3.out (Nat.le_refl _) (Below.refl _ _).drew | assumption | exact more_keep (by assumption) (Nat.le_refl _) (by assumption))
    (first
      | (go_at_call 23; refine (gain_any x n hx hn _).mono ?_; rintro e w5 ⟨rfl, rfl⟩)
      | (go_at_call 24; refine (grow_any x n hx hn _).mono ?_; rintro e w5 ⟨rfl, rfl⟩)
      | (go_at_call 25; refine (drop_any x n hx hn _).mono ?_; rintro e w5 ⟨rfl, rfl⟩)
      | (go_at_call 10; first | ((with_reducible refine (of_gain A1.out _).mono ?_); rintro e w5 ⟨rfl, hb5⟩) | ((with_reducible refine (of_grow hx A2.out _).mono ?_); rintro e w5 ⟨rfl, hb5⟩) | ((with_reducible refine (of_drop hx A3.out _).mono ?_); rintro e w5 ⟨rfl, hb5⟩)))
  rename_i hh3
  have HS4 := Lib.hid hh3.1
  clear hh3 HS3 HS2 A1 A2 A3
  by_cases hbig : 3000 < m ∧ m ≤ 65536
  · obtain ⟨hb1, hb2⟩ := hbig
    go_wp2_with (go_at_call 26; refine (works_any _ (HE.out.on HS4.out.2.2)).mono ?_; rintro e w6 ⟨rfl, hb6⟩)
    go_ret
    exact ⟨rfl, HS4.out.2.2.trans (hb6.mono HS4.out.2.2.size)⟩
  · have hcase : m ≤ 3000 ∨ (3000 < m ∧ 65536 < m) := by omega
    clear hbig
    rcases hcase with hcase | ⟨hc1, hc2⟩
    all_goals
      go_wp2_with fail
      go_loopw [15] (fun i wr => ∃ k : Nat, k ≤ 2 ∧ i = .int .i64 k ∧ Hid ((wr.cell? ⟨w.heap.size, 0, none⟩ = some (.int .u32 (hd x : Nat)) ∧ wr.cell? ⟨w.heap.size, 1, none⟩ = some (.int .u32 (tl x : Nat))) ∧ w.heap.size < wr.heap.size ∧ Below w.heap.size w wr)) (fun i _ => 2 - (intOf i).toNat)
      case atStart => exact ⟨0, by omega, rfl, HS4⟩
      case round =>
        obtain ⟨k, hk, rfl, hK⟩ := hrel
        by_cases hlt : k < 2
        · go_wp2_with fail
          go_region_held3 (fun w' => (w'.cell? ⟨w.heap.size, 0, none⟩ = some (.int .u32 (hd x : Nat)) ∧ w'.cell? ⟨w.heap.size, 1, none⟩ = some (.int .u32 (tl x : Nat))) ∧ w.heap.size < w'.heap.size ∧ Below w.heap.size w w') (first | exact box_drew hK.out (Nat.le_refl _) | assumption | exact box_keep (by assumption) (Nat.le_refl _) (by assumption))
            (first
              | (go_at_call 28; first | ((with_reducible refine (places_lit x hx _).mono ?_); rintro e w5 ⟨v1, rfl, hr1, hb5⟩) | ((with_reducible refine (places_any x n place hx _).mono ?_); rintro e w5 ⟨v1, rfl, hr1, hb5⟩))
              | (go_at_call 29; first | ((with_reducible refine (rplaces_lit x hx _).mono ?_); rintro e w6 ⟨v2, rfl, hr2, hb6⟩) | ((with_reducible refine (rplaces_any x n place hx hp _).mono ?_); rintro e w6 ⟨v2, rfl, hr2, hb6⟩))
              | (go_at_call 27; refine (same_held hr1 hb6 hr2 (by first | exact hs7 | exact box_drew hK.out (Nat.le_refl _)) (by assumption)).mono ?_; rintro e w7 ⟨rfl, hs7⟩))
          rename_i hh5
          have HK := Lib.hid hh5
          clear hh5
          go_wp2
          go_roundw
          case rel => exact ⟨k + 1, by omega, by go_num, HK⟩
          case measure =>
            show _ < _
            simp only [intOf]; omega
        · go_wp2_with fail
          refine (works_any _ (HE.out.on hK.out.2.2)).mono ?_
          rintro e w6 ⟨rfl, hb6⟩
          go_wp2
          go_ret
          exact ⟨rfl, hK.out.2.2.trans (hb6.mono hK.out.2.2.size)⟩
end Go.Proofs.YtpeikhoepbkggaaDoor
