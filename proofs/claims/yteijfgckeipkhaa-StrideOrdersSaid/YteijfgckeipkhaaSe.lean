/- The walks of Order and of the reference's Order. -/
import Derived.Test.YteijfgckeipkhaaSd
namespace Go.Proofs.Yteijfgckeipkhaa
open Go.RowKit Go.Sd

theorem order_none {n d : Int} (h : n < 1 ∨ 64 < n) (w : World) :
    Calls Try.prog 14 #[.int .i64 n, .int .i64 d] w (RowPost (order n d) w) := by
  rw [order_out h]
  have HS : ∀ w, Calls Try.prog 13 #[.int .i64 n] w (RowPost [] w) := fun w => by
    have := strides_any n w
    rwa [strides_out h] at this
  have HS := Lib.hid HS
  go_enter Try.func14, Try.ntmps14
  go_wp2_with fail
  refine (HS.out _).mono ?_
  rintro e w1 ⟨v, rfl, hO, hb⟩
  obtain ⟨p, cap, rfl⟩ := slice_form hO
  have HB := Lib.hid hb
  clear hb hO
  go_wp2
  go_ret
  exact ⟨_, rfl, World.ownsRow_nil _ _ _ _, HB.out⟩

/-- the first k cells of an order are done -/
def partO (n st by' k : Nat) : List Value := (List.range n).map fun j => if j < k then Value.int .i64 (((st + j * by') % n : Nat) : Int) else .int .i64 0
theorem partO_length (n st by' k : Nat) : (partO n st by' k).length = n := by unfold partO; simp
theorem partO_zero (n st by' : Nat) : (madeCells #[Value.int .i64 0] n).toList = partO n st by' 0 := by
  rw [toList_madeCells_one]
  apply List.ext_getElem
  · simp [partO]
  · intro i h1 h2; simp [partO]
theorem partO_step (n st by' k : Nat) (h : k < n) : (partO n st by' k).set k (.int .i64 (((st + k * by') % n : Nat) : Int)) = partO n st by' (k + 1) := by
  apply List.ext_getElem
  · simp [partO]
  · intro i h1 h2
    simp only [partO, List.getElem_set, List.getElem_map, List.getElem_range]
    by_cases e : k = i
    · subst e; simp
    · rw [if_neg e]
      by_cases c : i < k
      · rw [if_pos c, if_pos (by omega)]
      · rw [if_neg c, if_neg (by omega)]
theorem partO_done (n st by' : Nat) : partO n st by' n = (ordS n st by').map (Value.int .i64) := by
  apply List.ext_getElem
  · simp [partO, ordS]
  · intro i h1 h2
    simp only [partO, List.length_map, List.length_range] at h1
    simp [partO, ordS, h1]
theorem rowO_done {n st by' B : Nat} {w : World} {v : Value} (h : w.ownsRow B 3 1 v n (partO n st by' n)) : w.ownsRow B 3 1 v (ordS n st by').length ((ordS n st by').map (Value.int .i64)) := by
  rw [partO_done] at h
  rw [ordS_length]; exact h

/-- what the walk needs of the draw's numbers -/
structure Drawn (n : Nat) (d : Int) (all r st q s : Nat) : Prop where
  eall : orders n = (all : Int)
  num : ((d % (all : Int)).toNat) = r
  lt : r < all
  est : r % n = st
  eq : r / n = q
  es : (str n n).getD q 0 = (s : Int)
  s1 : 1 ≤ s
  s2 : s ≤ n
  ql : q < (str n n).length
  al : n * (str n n).length = all
theorem Drawn.ex {n : Nat} {d : Int} (h1 : 1 ≤ n) (h2 : n ≤ 64) : ∃ all r st q s, Drawn n d all r st q s := by
  have hl := drw_lt (d := d) h1 h2
  have hq := drw_div (d := d) h1 h2
  have hm : (str n n).getD (drw n d / n) 0 ∈ str n n := by
    simp [List.getD, hq]
  obtain ⟨s, hs, a, b, _⟩ := str_mem.1 hm
  exact ⟨n * (str n n).length, drw n d, drw n d % n, drw n d / n, s, ⟨orders_nat h2, by unfold drw; rw [orders_nat h2], hl, rfl, rfl, hs, a, b, hq, rfl⟩⟩
theorem Drawn.order {n : Nat} {d : Int} {all r st q s : Nat} (D : Drawn n d all r st q s) (h1 : 1 ≤ n) (h2 : n ≤ 64) : order n d = ordS n st s := by
  have e : drw n d = r := by unfold drw; rw [D.eall]; exact D.num
  rw [order_in h1 h2, e, D.est, D.eq, strides_in h2, D.es]; rfl

theorem draw_num {d : Int} {all r : Nat} (h0 : 1 ≤ all) (h1 : all ≤ 4096) (hr : (d % (all : Int)).toNat = r) : (wrap64 (d.tmod all + all)).tmod all = (r : Int) := by
  have a1 := Int.tmod_lt_of_pos d (show (0 : Int) < all by omega)
  have a2 := Int.lt_tmod_of_pos d (show (0 : Int) < all by omega)
  have a3 := Int.emod_nonneg d (show (all : Int) ≠ 0 by omega)
  rw [IntWalk.wrap64_in _ ⟨by omega, by omega⟩, Int.tmod_eq_emod_of_nonneg (by omega), Int.add_emod_right, Int.tmod_def, Int.sub_mul_emod_self_left]
  omega

/-- a row of its own, of so many numbers -/
def RowPostL (zs : List Int) (l : Nat) (w : World) (e : Ending) (w' : World) : Prop := ∃ p cap, e = .returned (.slice p l cap) ∧ Lies .i64 w' p zs ∧ Below w.heap.size w w'
theorem RowPost.to {zs : List Int} {l : Nat} {w : World} {e : Ending} {w' : World} (h : RowPost zs w e w') (hl : zs.length = l) (hm : l ≤ 1000000000000000) : RowPostL zs l w e w' := by
  obtain ⟨v, rfl, hO, hb⟩ := h
  obtain ⟨p, cap, rfl, hL⟩ := own_lies hO (by omega)
  exact ⟨p, cap, by rw [hl], hL, hb⟩

theorem ord_num {k s st n : Nat} (hk : k ≤ 64) (hs : s ≤ 64) (hn : n ≤ 64) (hst : st < n) : (wrap64 ((st : Int) + wrap64 ((k : Int) * (s : Int)))).tmod n = (((st + k * s) % n : Nat) : Int) := by
  have hks : k * s ≤ 4096 := Nat.le_trans (Nat.mul_le_mul hk hs) (by decide)
  have e : (k : Int) * (s : Int) = ((k * s : Nat) : Int) := by simp
  generalize k * s = ks at *
  rw [e, IntWalk.wrap64_in (ks : Int) (by omega), IntWalk.wrap64_in _ (by omega), Int.tmod_eq_emod_of_nonneg (by omega)]
  simp

set_option maxHeartbeats 400000 in
theorem order_core (n : Nat) (d : Int) (all r st q s l : Nat) (sl : List Int) (h1 : 1 ≤ n) (h2 : n ≤ 64) (hst : st < n) (hs1 : 1 ≤ s) (hs2 : s ≤ n) (hql : q < l) (hl : l ≤ 64) (ha1 : 1 ≤ all) (ha2 : all ≤ 4096)
    (HS : Hid (∀ w, Calls Try.prog 13 #[.int .i64 n] w (RowPostL sl l w))) (HL : Hid (sl.length = l)) (HM : Hid (wrap64 ((n : Int) * (l : Int)) = (all : Int))) (HD : Hid ((wrap64 (d.tmod all + all)).tmod all = (r : Int)))
    (HR : Hid ((r : Int).tmod n = (st : Int) ∧ (r : Int).tdiv n = (q : Int))) (HG : Hid (sl.getD q 0 = (s : Int))) (w : World) :
    Calls Try.prog 14 #[.int .i64 n, .int .i64 d] w (RowPost (ordS n st s) w) := by
  obtain ⟨i0, hi, hz0, hz1, hz2⟩ := info_parts infoInt
  have hne : ((l : Int) == 0) = false := beq_eq_false_iff_ne.2 (by omega)
  have h0 : ¬ (l = 0) := by omega
  have hall : ¬ (all = 0) := by omega
  go_enter Try.func14, Try.ntmps14
  go_wp2_with fail
  refine (HS.out _).mono ?_
  rintro e w1 ⟨p, cap, rfl, hL, hb⟩
  have HB := Lib.hid hb
  obtain ⟨b, o, rfl, cc⟩ := hL.cells q (by rw [HL.out]; exact hql)
  rw [HG.out] at cc
  have m1 := HM.out
  have m2 := HD.out
  clear hb hL
  go_wp2_with fail
  clear m1 m2
  have m3 := HR.out.1
  have m4 := HR.out.2
  go_quiet (fail)
  clear m3 m4 cc
  rename_i nq
  have HB1 := Lib.hid (below_drewN HB.out nq)
  have hsz := HB1.out.size
  generalize w1.drewN nq = w2 at HB1 hsz ⊢
  go_wp2_with (at_make; refine wpList_make_full _ rfl _ _ 22 rfl w.heap.size 3 i0 (.int .i64 0) 1 Try.underlying22 hi hz0 hz1 _ _ _ _ n rfl rfl (by omega) (by omega) ?b2 ?b3 ?b4 ?_)
  case b2 => rw [hz2]; omega
  case b3 => unfold maxLen; omega
  case b4 => exact hsz
  intro w3 hown hgrow
  have HB3 := Lib.hid (HB1.out.grown hgrow hsz (fun k hk => by cases hk))
  rw [partO_zero n st s] at hown
  have HO := Lib.hid hown
  obtain ⟨g, hg⟩ : ∃ g, w2.heap.size = g := ⟨_, rfl⟩
  rw [hg] at HO hsz
  rw [hg]
  clear hown hgrow hi hz0 hz1 hz2 hg HB1
  go_wp2_with fail
  go_loopw [39] (fun i wr => ∃ k : Nat, k ≤ n ∧ i = .int .i64 k ∧ Hid (wr.ownsRow w.heap.size 3 1 (.slice (some ⟨g, 0, none⟩) n n) n (partO n st s k)) ∧ Hid (Below w.heap.size w wr)) (fun i _ => n - (intOf i).toNat)
  case atStart => exact ⟨0, by omega, rfl, HO, HB3⟩
  case round =>
    obtain ⟨k, hk, rfl, hO, hB⟩ := hrel
    clear HO HB3
    by_cases hlt2 : k < n
    · have hcell : wr.cell? ⟨g, k, none⟩ = some ((partO n st s k).getD k undef) := by
        rw [hO.out.cellAt k (by omega)]
        have : k < (partO n st s k).length := by rw [partO_length]; exact hlt2
        simp [List.getD, this]
      have hfr := hO.out.frozenAt k
      obtain ⟨st1, st2⟩ := hO.out.stored k (.int .i64 (((st + k * s) % n : Nat) : Int))
      rw [partO_step n st s k hlt2] at st1
      have ST1 := Lib.hid st1
      have ST2 := Lib.hid (hB.out.setCell (p := ⟨g, k, none⟩) hsz (.int .i64 (((st + k * s) % n : Nat) : Int)))
      clear st1 st2
      have HN := Lib.hid (ord_num (k := k) (s := s) (st := st) (n := n) (by omega) (by omega) h2 hst)
      go_wp2_with fail
      go_roundw
      case rel =>
        rw [HN.out]
        exact ⟨k + 1, by omega, by go_num, ST1, ST2⟩
      case measure =>
        show _ < _
        simp only [intOf]; omega
    · obtain rfl : k = n := by omega
      have HR := Lib.hid (rowO_done hO.out)
      clear hO
      go_wp2
      go_ret
      exact ⟨_, rfl, HR.out, hB.out⟩

theorem order_any (n d : Int) (w : World) :
    Calls Try.prog 14 #[.int .i64 n, .int .i64 d] w (RowPost (order n d) w) := by
  by_cases h : n < 1 ∨ 64 < n
  · exact order_none h w
  · obtain ⟨m, rfl⟩ : ∃ m : Nat, n = m := ⟨n.toNat, by omega⟩
    have h1 : 1 ≤ m := by omega
    have h2 : m ≤ 64 := by omega
    obtain ⟨all, r, st, q, s, D⟩ := Drawn.ex (d := d) h1 h2
    rw [D.order h1 h2]
    have hal := mul_bd h1 h2 (str_pos (n := m) h1) (str_length m m)
    have hmu : (m : Int) * ((str m m).length : Int) = (all : Int) := by rw [← D.al]; simp
    rw [D.al] at hal
    have hll := str_length m m
    refine order_core m d all r st q s (str m m).length (str m m) h1 h2 (by rw [← D.est]; exact Nat.mod_lt _ (by omega)) D.s1 D.s2 D.ql (by omega) (by omega) hal.2 ?_ rfl ?_ (draw_num (by omega) hal.2 D.num) ⟨?_, ?_⟩ D.es w
    · intro w
      have := strides_any m w
      rw [strides_in h2] at this
      exact this.mono fun e w' h => h.to rfl (by omega)
    · show wrap64 _ = _
      rw [hmu]; exact IntWalk.wrap64_in _ (by omega)
    · rw [Int.tmod_eq_emod_of_nonneg (by omega), ← D.est]; simp
    · rw [Int.tdiv_eq_ediv_of_nonneg (by omega), ← D.eq]; simp
end Go.Proofs.Yteijfgckeipkhaa
