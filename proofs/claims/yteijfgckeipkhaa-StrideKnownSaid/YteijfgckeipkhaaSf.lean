/- The walk of the reference's Order. -/
import Derived.Test.YteijfgckeipkhaaSe
import Derived.StillTailTactics
import Derived.Deep.AppendLies
import Derived.StillTactics
namespace Go.Proofs.Yteijfgckeipkhaa
open Go.RowKit Go.Sd

theorem rorder_none {n d : Int} (h : n < 1 ∨ 64 < n) (w : World) :
    Calls Try.prog 11 #[.int .i64 n, .int .i64 d] w (RowPost (order n d) w) := by
  rw [order_out h]
  by_cases h1 : n < 1
  · go_enter Try.func11, Try.ntmps11
    go_wp2
    go_ret
    exact ⟨_, rfl, World.ownsRow_nil _ _ _ _, Below.refl _ _⟩
  · have h2 : 64 < n := by omega
    go_enter Try.func11, Try.ntmps11
    go_wp2
    go_ret
    exact ⟨_, rfl, World.ownsRow_nil _ _ _ _, Below.refl _ _⟩

theorem ordS_snoc (n st s k : Nat) : ((List.range (k + 1)).map fun i => (((st + i * s) % n : Nat) : Int)) = ((List.range k).map fun i => (((st + i * s) % n : Nat) : Int)) ++ [(((st + k * s) % n : Nat) : Int)] := by
  rw [List.range_succ, List.map_append]; rfl
/-- the first k of an order -/
def preO (n st s k : Nat) : List Int := (List.range k).map fun i => (((st + i * s) % n : Nat) : Int)
theorem preO_length (n st s k : Nat) : (preO n st s k).length = k := by simp [preO]

theorem wrap_is64 (n : Int) : IntKind.i64.wrap n = wrap64 n := by rw [IntKind.wrap_i64]; unfold wrap64; omega
theorem ord_num2 {k s st n : Nat} (hk : k ≤ 64) (hs : s ≤ 64) (hn : n ≤ 64) (hst : st < n) : (IntKind.i64.wrap ((st : Int) + IntKind.i64.wrap ((k : Int) * (s : Int)))).tmod n = (((st + k * s) % n : Nat) : Int) := by
  rw [← ord_num hk hs hn hst, wrap_is64, wrap_is64]

/-- the rounds of the reference's loop, from a draw in range on -/
theorem rorder_core (n : Nat) (d : Int) (all r st q s l : Nat) (sl : List Int) (h1 : 1 ≤ n) (h2 : n ≤ 64) (hst : st < n) (hs1 : 1 ≤ s) (hs2 : s ≤ n) (hql : q < l) (hl : l ≤ 64) (ha1 : 1 ≤ all) (ha2 : all ≤ 4096) (hr : r < all)
    (HS : Hid (∀ w, Calls Try.prog 10 #[.int .i64 n] w (RowPostL sl l w))) (HL : Hid (sl.length = l)) (HM : Hid (wrap64 ((n : Int) * (l : Int)) = (all : Int)))
    (HD : Hid ((d.tmod all = (r : Int)) ∨ (d.tmod all < 0 ∧ wrap64 (d.tmod all + all) = (r : Int))))
    (HR : Hid ((r : Int).tmod n = (st : Int) ∧ (r : Int).tdiv n = (q : Int))) (HG : Hid (sl.getD q 0 = (s : Int))) (w : World) :
    Calls Try.prog 11 #[.int .i64 n, .int .i64 d] w (RowPost (ordS n st s) w) := by
  obtain ⟨i0, hi, hz0, hz1, hz2⟩ := info_parts infoInt
  have hall : ¬ (all = 0) := by omega
  have hn1 : ¬ (n < 1) := by omega
  go_enter Try.func11, Try.ntmps11
  go_wp2_with fail
  refine (HS.out _).mono ?_
  rintro e w1 ⟨p, cap, rfl, hL, hb⟩
  have HB := Lib.hid hb
  obtain ⟨b, o, rfl, cc⟩ := hL.cells q (by rw [HL.out]; exact hql)
  rw [HG.out] at cc
  have hblt := block_lt_of_cell cc
  have HC := Lib.hid (And.intro hblt cc)
  have hsz := HB.out.size
  have m1 := HM.out
  clear hb hL cc hblt
  have hdd := HD.out
  clear HS HD
  rcases hdd with m2 | ⟨m2, m3⟩
  all_goals
    go_wp2_with fail
    (try rw [m3])
    (try clear m3)
    clear m1 m2
    go_loopw [5, 8] (fun v vi wr => ∃ k : Nat, k ≤ n ∧ vi = .int .i64 k ∧ Hid (wr.ownsRow w1.heap.size 3 1 v k ((preO n st s k).map (Value.int .i64))) ∧ Hid (Below w1.heap.size w1 wr)) (fun _ vi _ => n - (intOf vi).toNat)
    case atStart => exact ⟨0, by omega, rfl, World.ownsRow_nil _ _ _ _, Below.refl _ _⟩
    case round =>
      obtain ⟨k, hk, rfl, HO, HB1⟩ := hrel
      obtain ⟨pp, cap2, rfl⟩ := slice_form HO.out
      by_cases hlt : k < n
      · have cc : wr.cell? ⟨b, o + q, none⟩ = some (.int .i64 (s : Int)) := (HB1.out.cell (p := ⟨b, o + q, none⟩) HC.out.1).trans HC.out.2
        have m3 := HR.out.1
        have m4 := HR.out.2
        have n0 : ¬ (n = 0) := by omega
        have r0 : (0 : Int) ≤ (r : Int) := by omega
        have hso := HB1.out.size
        have hbw : b < wr.heap.size := by have h2 : b < w1.heap.size := HC.out.1; omega
        have n1 : ¬ ((n : Int) = 0) := by omega
        have q0 : (0 : Int) ≤ (q : Int) := by omega
        have q1 : (q : Int) < (l : Int) := by omega
        have q2 : IntKind.i64.wrap (q : Int) = (q : Int) := IntWalk.i64_in _ (by omega)
        have hfar : (Value.slice pp k cap2).ownBlock ≠ some b := fun h => by have h1 := (HO.out.lt b h).1; have h2 : b < w1.heap.size := HC.out.1; omega
        go_wp2_with fail
        go_region_held3 (fun w' => w'.cell? ⟨b, o + q, none⟩ = some (.int .i64 (s : Int)))
          (first
            | go_keep
            | (go_split_ands; (rw [hgrow.cell_far _ (by simp; omega) (Ne.symm hfar)]; assumption)))
          ((refine step_append_lies _ (by rfl) _ _ _ (by rfl) w1.heap.size 3 i0 _ 1 8 Try.underlying22 hi hz0 hz1 hz2 rfl (by omega) _ k ((preO n st s k).map (Value.int .i64)) (by rfl) ((HO.out.alloc _).drew)
              ⟨wr.heap.size, 0, none⟩ 1 1 [_] (by rfl) (by rfl) (World.news_of_block (cs := #[_]) (t := 3) (fr := (0, 0)) (heap_alloc_new wr _)) (by simp [Value.oneCell'])
              (by omega) (by unfold maxLen; omega) (by omega) (by simp; omega) (wr.heap.size + 1) (by simp) ?_; intro gg cap3 w5 hown5 hgrow hat hlt5))
        clear m3 m4 q2 cc
        have hB5 : Below w1.heap.size w1 w5 := ((HB1.out.alloc hso _).drew).grown hgrow (by simp; omega) (fun j hj => (HO.out.lt j hj).1)
        have hnum := ord_num2 (k := k) (s := s) (st := st) (n := n) (by omega) (by omega) h2 hst
        rw [hnum] at hown5
        have hO5 : Hid (w5.ownsRow w1.heap.size 3 1 (.slice (some ⟨gg, 0, none⟩) (k + 1) cap3) (k + 1) ((preO n st s (k + 1)).map (Value.int .i64))) := by
          show World.ownsRow _ _ _ _ _ _ _
          unfold preO
          rw [ordS_snoc, List.map_append]; exact hown5
        have HB5 := Lib.hid hB5
        clear hB5 hown5 hgrow hat hlt5 hnum
        go_wp2_with fail
        go_roundw
        case rel => exact ⟨k + 1, by omega, by go_num, hO5, HB5⟩
        case measure =>
          show _ < _
          simp only [intOf]; omega
      · obtain rfl : k = n := by omega
        have hO : Hid (wr.ownsRow w.heap.size 3 1 (.slice pp k cap2) (ordS k st s).length ((ordS k st s).map (Value.int .i64))) := by
          show World.ownsRow _ _ _ _ _ _ _
          rw [ordS_length]; exact own_base HO.out hsz
        have HB5 := Lib.hid (HB.out.trans (HB1.out.mono hsz))
        clear HO
        go_wp2
        go_ret
        exact ⟨_, rfl, hO.out, HB5.out⟩

theorem rdraw_num {d : Int} {all r : Nat} (h0 : 1 ≤ all) (h1 : all ≤ 4096) (hr : (d % (all : Int)).toNat = r) : (d.tmod all = (r : Int)) ∨ (d.tmod all < 0 ∧ wrap64 (d.tmod all + all) = (r : Int)) := by
  have a1 := Int.tmod_lt_of_pos d (show (0 : Int) < all by omega)
  have a2 := Int.lt_tmod_of_pos d (show (0 : Int) < all by omega)
  have e : (d.tmod all) % (all : Int) = d % (all : Int) := by rw [Int.tmod_def, Int.sub_mul_emod_self_left]
  by_cases h : d.tmod all < 0
  · refine .inr ⟨h, ?_⟩
    rw [IntWalk.wrap64_in _ (by omega), ← hr, ← e]
    have : (d.tmod all) % (all : Int) = d.tmod all + all := by
      rw [← Int.add_emod_right]; exact Int.emod_eq_of_lt (by omega) (by omega)
    rw [this]; omega
  · refine .inl ?_
    rw [← hr, ← e, Int.emod_eq_of_lt (by omega) (by omega)]; omega
theorem rorder_any (n d : Int) (w : World) :
    Calls Try.prog 11 #[.int .i64 n, .int .i64 d] w (RowPost (order n d) w) := by
  by_cases h : n < 1 ∨ 64 < n
  · exact rorder_none h w
  · obtain ⟨m, rfl⟩ : ∃ m : Nat, n = m := ⟨n.toNat, by omega⟩
    have h1 : 1 ≤ m := by omega
    have h2 : m ≤ 64 := by omega
    obtain ⟨all, r, st, q, s, D⟩ := Drawn.ex (d := d) h1 h2
    rw [D.order h1 h2]
    have hal := mul_bd h1 h2 (str_pos (n := m) h1) (str_length m m)
    have hmu : (m : Int) * ((str m m).length : Int) = (all : Int) := by rw [← D.al]; simp
    rw [D.al] at hal
    have hll := str_length m m
    refine rorder_core m d all r st q s (str m m).length (str m m) h1 h2 (by rw [← D.est]; exact Nat.mod_lt _ (by omega)) D.s1 D.s2 D.ql (by omega) (by omega) hal.2 D.lt ?_ rfl ?_ (rdraw_num (by omega) hal.2 D.num) ⟨?_, ?_⟩ D.es w
    · intro w
      have := rstrides_any m w
      rw [strides_in h2] at this
      exact this.mono fun e w' h => h.to rfl (by omega)
    · show wrap64 _ = _
      rw [hmu]; exact IntWalk.wrap64_in _ (by omega)
    · rw [Int.tmod_eq_emod_of_nonneg (by omega), ← D.est]; simp
    · rw [Int.tdiv_eq_ediv_of_nonneg (by omega), ← D.eq]; simp
end Go.Proofs.Yteijfgckeipkhaa
