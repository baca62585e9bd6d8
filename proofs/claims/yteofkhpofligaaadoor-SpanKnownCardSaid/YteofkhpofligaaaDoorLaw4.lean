/- The walk of SpanSums. -/
import Derived.Test.YteofkhpofligaaaDoorLaw3
import Derived.Lib.SmallJoins
namespace Go.Proofs.YteofkhpofligaaaDoor
open Go.RowKit Go.Fm Go.Tx Go.Sm

theorem info2 : (Tryd.prog.info? 2).map (fun i => (i.zero, i.size, i.bytes)) = some (some (.int .i64 0), 1, 8) := by kernel_rfl

theorem Lies.on {w w' : World} {p : Option Addr} {zs : List Int} (h : Lies w p zs) (hb : Below w.heap.size w w') : Lies w' p zs := by
  refine ⟨h.len, fun j hj => ?_⟩
  obtain ⟨b, o, hp, hc⟩ := h.cells j hj
  exact ⟨b, o, hp, by rw [hb.cell (block_lt_of_cell hc)]; exact hc⟩

/-- a row of the call's own, as Sum reads it -/
theorem lies_of_row {w : World} {B n : Nat} {v : Value} {zs : List Int} (h : w.ownsRow B 2 1 v n (zs.map (Value.int .i64))) (hn : n = zs.length) (hl : zs.length ≤ 1000000000000000) : ∃ p cap, v = .slice p zs.length cap ∧ Lies w p zs := by
  subst hn
  rcases Joins.ownsRow_forms h with ⟨hv, hz⟩ | ⟨g, cap, hv⟩
  · refine ⟨none, 0, by rw [hv, hz], ⟨hl, fun j hj => by omega⟩⟩
  · subst hv
    refine ⟨some ⟨g, 0, none⟩, cap, rfl, ⟨hl, fun j hj => ⟨g, 0, rfl, ?_⟩⟩⟩
    have := h.cellAt j (by omega)
    rw [Nat.zero_add, this, List.getElem?_map]
    simp [List.getD, hj]

theorem rev_step (zs : List Int) (i : Nat) (h : i < zs.length) : (zs.reverse.take (zs.length - (i + 1))).map (Value.int .i64) ++ [Value.int .i64 (zs.getD i 0)] = (zs.reverse.take (zs.length - i)).map (Value.int .i64) := by
  have e : zs.length - i = zs.length - (i + 1) + 1 := by omega
  have hlt : zs.length - (i + 1) < zs.reverse.length := by rw [List.length_reverse]; omega
  rw [e, List.take_succ_eq_append_getElem hlt, List.map_append, List.getElem_reverse]
  have e2 : zs.length - 1 - (zs.length - (i + 1)) = i := by omega
  simp [List.getD, h, e2]

theorem div_some (n : Int) : ∃ r, Ieee.double.div (floatOfInt .f64 (clampI n)) C6 = some r := by
  have hb := clampI_bd n
  obtain ⟨m, hm⟩ : ∃ m : Nat, clampI n = m := ⟨(clampI n).toNat, by omega⟩
  rw [hm, floatOf]
  have hf := fl_lt (n := m) (by omega)
  have hk := K62_lt
  obtain ⟨r, hr, _⟩ := divC (x := fl m) (by rw [rg_small (by omega)]; omega) (sg_small (by omega))
  exact ⟨_, hr⟩

set_option maxHeartbeats 400000 in
theorem sums_long {B : Nat} (p : Option Addr) (len cap : Nat) (n : Int) (hl : 60 < len) (hm : len ≤ 9223372036854775807) (w : World) (h : Env B w) :
    Calls Tryd.prog 4 #[.slice p len cap, .int .i64 n] w fun e w' => e = .returned (.bool true) ∧ Below w.heap.size w w' := by
  go_enter Tryd.func4, Tryd.ntmps4
  go_wp2_with (go_at_call 12; refine (works_any _ h).mono ?_; rintro e w1 ⟨rfl, hb1⟩)
  go_ret
  exact ⟨rfl, hb1⟩

set_option maxRecDepth 100000 in
set_option maxHeartbeats 1000000 in
theorem sums_short (p : Option Addr) (cap : Nat) (zs : List Int) (n : Int) (hl : zs.length ≤ 60) (w : World) (h : Env w.heap.size w) (hL : Lies w p zs) :
    Calls Tryd.prog 4 #[.slice p zs.length cap, .int .i64 n] w fun e w' => e = .returned (.bool true) ∧ Below w.heap.size w w' := by
  obtain ⟨B, hB⟩ : ∃ B, w.heap.size = B := ⟨_, rfl⟩
  rw [hB] at h ⊢
  have HBs := Lib.hid hB
  have HL := Lib.hid hL
  have hBle : B ≤ w.heap.size := by omega
  have hbase : w.heap.size ≤ B := by omega
  clear hB hL
  obtain ⟨i0, hi, hz0, hz1, hz2⟩ := info_parts info2
  go_enter Tryd.func4, Tryd.ntmps4
  go_wp2_with fail
  go_loopw [5, 6] (fun v i wr => ∃ (j : Nat) (ys : List Value), j ≤ zs.length ∧ i = .int .i64 ((j : Int) - 1) ∧ wr.ownsRow B 2 1 v (zs.length - j) ys ∧ ys = (zs.reverse.take (zs.length - j)).map (Value.int .i64) ∧ Below B w wr ∧ B ≤ wr.heap.size) (fun _ i _ => (intOf i + 1).toNat)
  case atStart => exact ⟨zs.length, [], Nat.le_refl _, rfl, by simpa using World.ownsRow_nil _ _ _ _, by simp, Below.refl _ _, hBle⟩
  case round =>
    obtain ⟨j, ys, hj, rfl, hown, hys, hbw, hsz⟩ := hrel
    have HY := Lib.hid hys
    clear hys
    have hbw' : Below w.heap.size w wr := by rw [HBs.out]; exact hbw
    rcases j with _ | i
    · have hLw := HL.out.on hbw'
      have hyr : ys = zs.reverse.map (Value.int .i64) := by rw [HY.out, Nat.sub_zero, List.take_of_length_le (by simp)]
      rw [Nat.sub_zero, hyr] at hown
      obtain ⟨p2, cap2, hv, hL2⟩ := lies_of_row hown (by simp) (by simp; omega)
      rw [List.length_reverse] at hv
      have hlr : zs.reverse.length = zs.length := List.length_reverse
      subst hv
      obtain ⟨r, hr⟩ := div_some n
      have hw : Env B wr := h.on hbw
      have HLW := Lib.hid (And.intro hLw (And.intro hL2 (And.intro hr hlr)))
      have hbits := run_bits r wr
      clear hLw hL2 hr hyr hown hlr HY
      go_wp2_with fail
      refine (rsum_any p cap zs _ HLW.out.1).mono ?_
      rintro e w' ⟨rfl, rfl⟩
      obtain ⟨t, ht⟩ : ∃ t, S zs = t := ⟨_, rfl⟩
      rw [ht]
      have HT := Lib.hid ht
      clear ht
      go_wp2_with fail
      have M1 := sum_any p cap zs wr HLW.out.1
      rw [HT.out] at M1
      refine M1.mono ?_
      clear M1
      rintro e w' ⟨rfl, rfl⟩
      go_wp2_with fail
      have M2 := sum_any p2 cap2 zs.reverse wr HLW.out.2.1
      rw [S_reverse, HT.out, HLW.out.2.2.2] at M2
      refine M2.mono ?_
      clear M2
      rintro e w' ⟨rfl, rfl⟩
      go_wp2_with fail
      refine (millis_core n r wr HLW.out.2.2.1).mono ?_
      rintro e w' ⟨rfl, rfl⟩
      go_wp2_with fail
      refine (rmillis_core n r wr HLW.out.2.2.1).mono ?_
      rintro e w' ⟨rfl, rfl⟩
      go_wp2_with fail
      refine (works_any _ hw).mono ?_
      rintro e w5 ⟨rfl, hb5⟩
      go_wp2
      go_ret
      exact ⟨rfl, hbw.trans (hb5.mono hsz)⟩
    · obtain ⟨b, o, rfl, hc⟩ := (HL.out.on hbw').cells i (by omega)
      obtain ⟨z, hz⟩ : ∃ z, zs.getD i 0 = z := ⟨_, rfl⟩
      rw [hz] at hc
      have hstep := rev_step zs i (by omega)
      rw [hz, ← HY.out] at hstep
      have HS := Lib.hid hstep
      have hlen : i < zs.length := by omega
      clear hz hstep
      have e1 : ((i + 1 : Nat) : Int) - 1 = (i : Int) := by omega
      rw [e1]
      clear e1
      go_wp2_with (at_builtin; refine wpList_append_own _ rfl (.tmp 19) (.tmp 24) 29 rfl B 2 i0 (.int .i64 0) 1 8 Tryd.underlying29 hi hz0 hz1 hz2 rfl (by decide) _ _ _ rfl (hown.alloc _) ⟨wr.heap.size, 0, none⟩ 1 1 [.int .i64 z] rfl rfl ?c1 ?c2 ?c3 ?c4 ?c5 ?_)
      case c1 => intro j u hu; rcases j with _ | j <;> simp at hu; subst hu; simp [World.cell?_alloc_new, Addr.add]
      case c2 => intro u hu; simp at hu; subst hu; rfl
      case c3 => unfold maxLen; omega
      case c4 => omega
      case c5 => simp; omega
      intro v' w1 hown' hgrow _
      have hn : zs.length - (i + 1) + 1 = zs.length - i := by omega
      rw [hn] at hown'
      have hb1 : Below B w w1 := (hbw.alloc hsz _).grown hgrow (by simp; omega) (fun k hk => (hown.lt k hk).1)
      have hs1 : B ≤ w1.heap.size := Nat.le_trans hsz (by have := hgrow.size; simp at this; omega)
      clear hn hown hgrow hc
      go_wp2
      go_roundw
      case rel => exact ⟨i, _, by omega, rfl, hown', HS.out, hb1, hs1⟩
      case measure => simp [intOf]

theorem law_sums (p : Option Addr) (cap : Nat) (zs : List Int) (n : Int) (hm : zs.length ≤ 9223372036854775807) (w : World) (h : Env w.heap.size w)
    (hL : ∀ j, j < zs.length → ∃ b o, p = some ⟨b, o, none⟩ ∧ w.cell? ⟨b, o + j, none⟩ = some (.int .i64 (zs.getD j 0))) :
    Calls Tryd.prog 4 #[.slice p zs.length cap, .int .i64 n] w fun e w' => e = .returned (.bool true) ∧ Below w.heap.size w w' := by
  by_cases hl : 60 < zs.length
  · exact sums_long p zs.length cap n hl hm w h
  · exact sums_short p cap zs n (by omega) w h ⟨by omega, hL⟩
end Go.Proofs.YteofkhpofligaaaDoor
