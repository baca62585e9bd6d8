/- The walk of the law StrideOnce. -/
import Derived.Test.YteijfgckeipkhaaLb
import Derived.Test.YteijfgckeipkhaaSn
import Derived.Deep.DeepCutAuto
import Derived.Deep.Cut
namespace Go.Proofs.Yteijfgckeipkhaa
open Go.RowKit Go.Sd

theorem infoBool : (Try.prog.info? 4).map (fun i => (i.zero, i.size, i.bytes)) = some (some (.bool false), 1, 1) := by kernel_rfl
theorem pick_at {i : Int} {n r : Nat} (hr : i % (n : Int) = (r : Int)) (h1 : -9223372036854775808 ≤ i) (h2 : i ≤ 9223372036854775807) (hn1 : 1 ≤ n) (hn : n ≤ 1000000000) (w : World) (m : Int) (hm : m = n) :
    Calls Try.prog 18 #[.int .i64 i, .int .i64 m] w fun e w' => e = .returned (.int .i64 r) ∧ w = w' := by
  rw [← hr, hm]; exact pick_any i n h1 h2 hn1 hn w

/-- which places the first k of an order are -/
def seenL (n st s k : Nat) : List Value := (List.range n).map fun v => Value.bool ((List.range k).any fun j => el n st s j == v)
theorem seenL_length (n st s k : Nat) : (seenL n st s k).length = n := by simp [seenL]
theorem seenL_zero (n st s : Nat) : (madeCells #[Value.bool false] n).toList = seenL n st s 0 := by
  rw [toList_madeCells_one]
  apply List.ext_getElem
  · simp [seenL]
  · intro i h1 h2; simp [seenL]
theorem seenL_at {n st s k : Nat} (hg : Nat.gcd s n = 1) (hk : k < n) : (seenL n st s k).getD (el n st s k) undef = .bool false := by
  have hx := el_lt (n := n) (st := st) (s := s) (i := k) (by omega)
  have : (List.range k).any (fun j => el n st s j == el n st s k) = false := by
    rw [List.any_eq_false]
    intro j hj
    have hj' : j < k := by simpa using hj
    have := fun h => el_inj (st := st) hg (show j < n by omega) hk h
    simp only [beq_iff_eq]
    intro h; have := this h; omega
  simp [seenL, List.getD, hx, this]
theorem seenL_step {n st s k : Nat} : (seenL n st s k).set (el n st s k) (.bool true) = seenL n st s (k + 1) := by
  apply List.ext_getElem
  · simp [seenL]
  · intro i h1 h2
    simp only [seenL, List.getElem_set, List.getElem_map, List.getElem_range, List.range_succ, List.any_append, List.any_cons, List.any_nil, Bool.or_false]
    by_cases e : el n st s k = i
    · rw [if_pos e, e]; simp
    · rw [if_neg e]
      have : (el n st s k == i) = false := beq_eq_false_iff_ne.2 e
      rw [this, Bool.or_false]

/-- the numbers of the law -/
structure OnceN (n0 d0 : Int) (r0 n d all r st q s : Nat) (L : List Int) : Prop where
  e0 : n0 % ((64 : Nat) : Int) = (r0 : Int)
  en : (1 : Int) + (r0 : Int) = (n : Int)
  ed : d0 % ((1000000000 : Nat) : Int) = (d : Int)
  D : Drawn n (d : Int) all r st q s
  n1 : 1 ≤ n
  n2 : n ≤ 64
  d2 : d < 1000000000
  a1 : n ≤ all
  a2 : all ≤ 4096
  ll : L.length = n
  l0 : order n (d : Int) = L
  l1 : order n ((d : Int) + (all : Int)) = L
  l2 : order n ((d : Int) - (all : Int)) = L
  eo : orders n = (all : Int)
  lx : ordS n st s = L
  g : Nat.gcd s n = 1
  st2 : st < n
theorem OnceN.ex (n0 d0 : Int) : ∃ r0 n d all r st q s L, OnceN n0 d0 r0 n d all r st q s L := by
  have a1 := Int.emod_nonneg n0 (show (64 : Int) ≠ 0 by omega)
  have a2 := Int.emod_lt_of_pos n0 (show (0 : Int) < 64 by omega)
  have b1 := Int.emod_nonneg d0 (show (1000000000 : Int) ≠ 0 by omega)
  have b2 := Int.emod_lt_of_pos d0 (show (0 : Int) < 1000000000 by omega)
  obtain ⟨r0, hr0⟩ : ∃ r0 : Nat, n0 % 64 = r0 := ⟨(n0 % 64).toNat, by omega⟩
  obtain ⟨d, hd⟩ : ∃ d : Nat, d0 % 1000000000 = d := ⟨(d0 % 1000000000).toNat, by omega⟩
  have h1 : 1 ≤ r0 + 1 := by omega
  have h2 : r0 + 1 ≤ 64 := by omega
  obtain ⟨all, r, st, q, s, D⟩ := Drawn.ex (n := r0 + 1) (d := (d : Int)) h1 h2
  have hal := mul_bd h1 h2 (str_pos (n := r0 + 1) h1) (str_length (r0 + 1) (r0 + 1))
  rw [D.al] at hal
  have D1 := D.again 1
  have D2 := D.again (-1)
  rw [Int.one_mul] at D1
  rw [show (-1 : Int) * (all : Int) = -(all : Int) by omega, ← Int.sub_eq_add_neg] at D2
  exact ⟨r0, r0 + 1, d, all, r, st, q, s, ordS (r0 + 1) st s, {
    e0 := hr0, en := by omega, ed := hd, D := D, n1 := h1, n2 := h2, d2 := by omega, a1 := hal.1, a2 := hal.2, ll := ordS_length _ _ _
    l0 := D.order h1 h2, l1 := D1.order h1 h2, l2 := D2.order h1 h2, eo := D.eall, lx := rfl, g := str_gcd D.ql D.es, st2 := by rw [← D.est]; exact Nat.mod_lt _ (by omega) }⟩

theorem gcd2_at (x : Int) (a b g : Nat) (hx : x = (a : Int)) (hg : Nat.gcd a b = g) (ha1 : 1 ≤ a) (ha : a ≤ 64) (hb1 : 1 ≤ b) (hb : b ≤ 64) (w : World) :
    Calls Try.prog 20 #[.int .i64 x, .int .i64 b] w fun e w' => e = .returned (.int .i64 (g : Nat)) ∧ w = w' := by
  subst hx; subst hg; exact gcd2_any a b ha1 ha hb1 hb w
theorem two_drew {C : Nat} {w0 w : World} {a b : Addr} {u v : Value} (h : (w.cell? a = some u ∧ w.cell? b = some v) ∧ Below C w0 w) : (w.drew.cell? a = some u ∧ w.drew.cell? b = some v) ∧ Below C w0 w.drew := ⟨h.1, h.2.drew⟩
theorem one_drew {C : Nat} {w0 w : World} {a : Addr} {u : Value} (h : w.cell? a = some u ∧ Below C w0 w) : w.drew.cell? a = some u ∧ Below C w0 w.drew := ⟨h.1, h.2.drew⟩
/-- a start and a stride that are none -/
structure OnceNo (n : Nat) (start by' : Int) : Prop where
  en : drawN n start by' = 0
  ok : drawOk n start by' = false
  no : start < 0 ∨ (0 ≤ start ∧ (n : Int) ≤ start) ∨ (0 ≤ start ∧ start < n ∧ by' < 1) ∨ (0 ≤ start ∧ start < n ∧ 1 ≤ by' ∧ (n : Int) < by') ∨ (0 ≤ start ∧ start < n ∧ 1 ≤ by' ∧ by' ≤ n ∧ ∃ b g : Nat, by' = (b : Int) ∧ Nat.gcd b n = g ∧ ¬ (g = 1))
/-- and that are some -/
structure OnceYes (n all : Nat) (start by' : Int) (sn bn e : Nat) (L : List Int) : Prop where
  es : start = (sn : Int)
  eb : by' = (bn : Int)
  s2 : sn < n
  b1 : 1 ≤ bn
  b2 : bn ≤ n
  g : Nat.gcd bn n = 1
  en : drawN n start by' = (e : Int)
  ok : drawOk n start by' = true
  eo : order n (e : Int) = L
  ll : L.length = n
  l0 : L.getD 0 0 = (sn : Int)
  l1 : 1 < n → L.getD 1 0 = (((sn + bn) % n : Nat) : Int)
  ea : e < all
theorem once_cases (n all : Nat) (start by' : Int) (h1 : 1 ≤ n) (h2 : n ≤ 64) (ha : orders n = (all : Int)) : Hid (OnceNo n start by') ∨ ∃ sn bn en L2, Hid (OnceYes n all start by' sn bn en L2) := by
  cases h : drawOk n start by' with
  | true =>
    obtain ⟨a1, a2, a3, a4, a5⟩ := (ok_iff h1 h2).1 h
    obtain ⟨m, i, s, D⟩ := drawnAt h
    obtain ⟨all2, b, D2, hb, e2⟩ := D.drawn
    have en : n = m := by have := D.en; omega
    subst en
    have he := D.is h
    have eall : all2 = all := by omega
    subst eall
    refine .inr ⟨s, b, i * n + s, ordS n s b, {
      es := D.es, eb := hb, s2 := D.s2, b1 := D2.s1, b2 := D2.s2, g := by rw [hb] at a5; simpa using a5, en := he, ok := h, eo := D2.order h1 h2, ll := ordS_length _ _ _
      l0 := by rw [ordS_el (by omega), el_zero D.s2]
      l1 := fun hn => by rw [ordS_el hn, el_one]
      ea := D2.lt }⟩
  | false =>
    refine .inl { en := drawN_no h, ok := h, no := ?_ }
    by_cases c1 : 0 ≤ start
    · by_cases c2 : start < n
      · by_cases c3 : 1 ≤ by'
        · by_cases c4 : by' ≤ n
          · refine .inr (.inr (.inr (.inr ⟨c1, c2, c3, c4, by'.toNat, _, by omega, rfl, fun hg => ?_⟩)))
            have := (ok_iff h1 h2).2 ⟨c1, c2, c3, c4, hg⟩
            rw [h] at this; cases this
          · exact .inr (.inr (.inr (.inl ⟨c1, c2, c3, by omega⟩)))
        · exact .inr (.inr (.inl ⟨c1, c2, by omega⟩))
      · exact .inr (.inl ⟨c1, by omega⟩)
    · exact .inl (by omega)

set_option maxRecDepth 100000 in
set_option maxHeartbeats 4000000 in
theorem lonce (n0 d0 start by' : Int) (r0 n d all r st q s : Nat) (L : List Int) (HN : Hid (OnceN n0 d0 r0 n d all r st q s L)) (HW : Hid (OnceNo n start by') ∨ ∃ sn bn en L2, Hid (OnceYes n all start by' sn bn en L2))
    (w1 : -9223372036854775808 ≤ n0) (w2 : n0 ≤ 9223372036854775807) (w3 : -9223372036854775808 ≤ d0) (w4 : d0 ≤ 9223372036854775807) (w : World) :
    Calls Try.prog 5 #[.int .i64 n0, .int .i64 d0, .int .i64 start, .int .i64 by'] w (Ans (.bool true) w) := by
  obtain ⟨i0, hi, hz0, hz1, hz2⟩ := info_parts infoBool
  have n1 := HN.out.n1
  have n2 := HN.out.n2
  have d2 := HN.out.d2
  have a1 := HN.out.a1
  have a2 := HN.out.a2
  have st2 := HN.out.st2
  have m1 := HN.out.en
  go_enter Try.func5, Try.ntmps5
  go_wp2_with fail
  refine (pick_at HN.out.e0 w1 w2 (by omega) (by omega) _ _ rfl).mono ?_
  rintro e w' ⟨rfl, rfl⟩
  go_wp2_with fail
  refine (pick_at HN.out.ed w3 w4 (by omega) (by omega) _ _ rfl).mono ?_
  rintro e w' ⟨rfl, rfl⟩
  go_wp2_with fail
  clear m1
  refine (order_b HN.out.l0 HN.out.ll n2 _).mono ?_
  rintro e w1 ⟨p1, c1, rfl, hL1, -, hb1⟩
  have HB1 := Lib.hid hb1
  have HL1 := Lib.hid hL1
  have s1 := hb1.size
  clear hb1 hL1
  go_wp2_with fail
  refine (orders_at n all HN.out.eo _).mono ?_
  rintro e w2 ⟨rfl, hb2⟩
  have HB2 := Lib.hid (bt HB1.out s1 hb2)
  have HL2 := Lib.hid (HL1.out.on hb2)
  have s2 := HB2.out.size
  clear hb2 HL1 HB1
  go_wp2_with fail
  refine (order_b HN.out.l1 HN.out.ll n2 _).mono ?_
  rintro e w3 ⟨p3, c3, rfl, hL3, -, hb3⟩
  have HB3 := Lib.hid (bt HB2.out s2 hb3)
  have HL23 := Lib.hid (HL2.out.on hb3)
  have HL3 := Lib.hid hL3
  have s3 := HB3.out.size
  clear hb3 hL3 HL2 HB2
  go_wp2_with fail
  refine (sameints_at L n n p3 p1 c3 c1 _ HN.out.ll.symm HN.out.ll.symm HL3.out HL23.out).mono ?_
  rintro e w4 ⟨rfl, hb4⟩
  have HB4 := Lib.hid (bt HB3.out s3 hb4)
  have HL4 := Lib.hid (HL23.out.on hb4)
  have s4 := HB4.out.size
  clear hb4 HL3 HL23 HB3
  go_wp2_with fail
  refine (order_b HN.out.l2 HN.out.ll n2 _).mono ?_
  rintro e w5 ⟨p5, c5, rfl, hL5, -, hb5⟩
  have HB5 := Lib.hid (bt HB4.out s4 hb5)
  have HL45 := Lib.hid (HL4.out.on hb5)
  have HL5 := Lib.hid hL5
  have s5 := HB5.out.size
  clear hb5 hL5 HL4 HB4
  go_wp2_with fail
  refine (sameints_at L n n p5 p1 c5 c1 _ HN.out.ll.symm HN.out.ll.symm HL5.out HL45.out).mono ?_
  rintro e w6 ⟨rfl, hb6⟩
  have HB6 := Lib.hid (bt HB5.out s5 hb6)
  have HL6 := Lib.hid (HL45.out.on hb6).at
  have s6 := HB6.out.size
  clear hb6 HL5 HL45 HB5
  go_wp2_with (at_make; refine wpList_make_full _ rfl _ _ 35 rfl w6.heap.size 4 i0 (.bool false) 1 Try.underlying35 hi hz0 hz1 _ _ _ _ n rfl rfl (by omega) (by omega) ?b2 ?b3 ?b4 ?_)
  case b2 => rw [hz2]; omega
  case b3 => unfold maxLen; omega
  case b4 => exact Nat.le_refl _
  intro w7 hown hgrow
  have HB7 := Lib.hid ((Below.refl w6.heap.size w6).grown hgrow (Nat.le_refl _) (fun k hk => by cases hk))
  rw [seenL_zero n st s] at hown
  have HO := Lib.hid hown
  obtain ⟨g, hg⟩ : ∃ g, w6.heap.size = g := ⟨_, rfl⟩
  have gg := Nat.le_of_eq hg
  have HO : Hid (w7.ownsRow w6.heap.size 4 1 (.slice (some ⟨g, 0, none⟩) n n) n (seenL n st s 0)) := by rw [← hg]; exact HO.out
  have gg2 : w6.heap.size ≤ g := by omega
  rw [hg]
  clear hown hgrow hi hz0 hz1 hz2 hg gg
  go_wp2_with fail
  go_loopw [12] (fun i wr => ∃ k : Nat, k ≤ n ∧ i = .int .i64 k ∧ Hid (wr.ownsRow w6.heap.size 4 1 (.slice (some ⟨g, 0, none⟩) n n) n (seenL n st s k)) ∧ Hid (Below w6.heap.size w6 wr)) (fun i _ => n - (intOf i).toNat)
  case atStart => exact ⟨0, by omega, rfl, HO, HB7⟩
  case round =>
    obtain ⟨k, hk, rfl, hO, hB⟩ := hrel
    clear HO HB7
    by_cases hlt : k < n
    · obtain ⟨b, o, rfl, hbb, cc⟩ := (HL6.out.on hB.out).cells k (by rw [HN.out.ll]; exact hlt)
      rw [← HN.out.lx, ordS_el hlt] at cc
      have hx := el_lt (n := n) (st := st) (s := s) (i := k) (by omega)
      have hcell : wr.cell? ⟨g, el n st s k, none⟩ = some (.bool false) := by
        rw [hO.out.cellAt _ (by omega), ← seenL_at (st := st) HN.out.g hlt]
        have : el n st s k < (seenL n st s k).length := by rw [seenL_length]; exact hx
        simp [List.getD, this]
      have hfr := hO.out.frozenAt (el n st s k)
      obtain ⟨st1, st2'⟩ := hO.out.stored (el n st s k) (.bool true)
      rw [seenL_step] at st1
      have ST1 := Lib.hid st1
      have ST2 := Lib.hid (hB.out.setCell (p := ⟨g, el n st s k, none⟩) gg2 (.bool true))
      clear st1 st2'
      generalize el n st s k = x at cc hx hcell hfr ST1 ST2
      go_wp2_with fail
      go_roundw
      case rel => exact ⟨k + 1, by omega, by go_num, ST1, ST2⟩
      case measure =>
        show _ < _
        simp only [intOf]; omega
    · clear hO hk
      have HLr := Lib.hid (HL6.out.on hB.out).lies
      have hr1 := HN.out.D.s1
      have hr2 := HN.out.D.s2
      have hr3 := stride_mod HN.out.g hr1 hr2
      have hsr := hB.out.size
      go_upto_if 96 with fail
      go_cut [13] (fun v13 wx => v13 = .int .i64 s ∧ Hid (Below wr.heap.size wr wx))
      case first =>
        by_cases hn : 1 < n
        · obtain ⟨b, o, rfl, c0⟩ := HLr.out.cells 0 (by rw [HN.out.ll]; omega)
          obtain ⟨b', o', e, c1⟩ := HLr.out.cells 1 (by rw [HN.out.ll]; exact hn)
          cases e
          rw [← HN.out.lx, ordS_el (by omega)] at c0 c1
          rw [Nat.add_zero] at c0
          have hstep := el_step (n := n) (st := st) (s := s) (i := 0) (by omega)
          rw [Nat.zero_add, Nat.mod_eq_of_lt hn, hr3 hn] at hstep
          have x0 := el_lt (n := n) (st := st) (s := s) (i := 0) (by omega)
          have x1 := el_lt (n := n) (st := st) (s := s) (i := 1) (by omega)
          generalize el n st s 0 = y0 at c0 hstep x0
          generalize el n st s 1 = y1 at c1 hstep x1
          have m1 : IntKind.i64.wrap ((y1 : Int) - (y0 : Int)) = (y1 : Int) - (y0 : Int) := IntWalk.i64_in _ (by omega)
          have m2 : IntKind.i64.wrap ((y1 : Int) - (y0 : Int) + (n : Int)) = (y1 : Int) - (y0 : Int) + (n : Int) := IntWalk.i64_in _ (by omega)
          have m3 : ¬ ((n : Int) = 0) := by omega
          have m4 : (0 : Int) < (n : Int) := by omega
          have m5 : (1 : Int) < (n : Int) := by omega
          have m6 : 0 < n := by omega
          have m7 : (0 : Int) < (n : Int) := by omega
          go_wp2_with fail
          go_quiet (fail)
          go_wp2_with fail
          go_meet
          exact ⟨by go_num, Lib.hid (below_drewN (Below.refl _ _) _)⟩
        · have hs1 : s = 1 := by omega
          go_wp2_with fail
          go_meet
          exact ⟨by rw [hs1]; rfl, Below.refl _ _⟩
      case rest =>
        obtain ⟨rfl, HBx⟩ := hcut
        have HLx := Lib.hid (HLr.out.on HBx.out)
        have HBy := Lib.hid (bt hB.out hsr HBx.out)
        have hsy := HBy.out.size
        have hmod : ¬ ((n : Int) = 0) := by omega
        have hsm : (s : Int).tmod (n : Int) = ((s % n : Nat) : Int) := by rw [Int.tmod_eq_emod_of_nonneg (by omega)]; simp
        clear HLr HBx hsr
        go_wp2_with fail
        obtain ⟨wo14, rfl⟩ : ∃ wx : World, wx = wc := ⟨_, rfl⟩
        go_loopw [14] (fun vi wr => ∃ k : Nat, k ≤ n ∧ vi = .int .i64 k ∧ Hid (Below wo14.heap.size wo14 wr)) (fun vi _ => n - (intOf vi).toNat)
        case atStart => exact ⟨0, by omega, rfl, Below.refl _ _⟩
        case round =>
          obtain ⟨k, hk, rfl, HBk⟩ := hrel
          by_cases hlt : k < n
          · have HLk := Lib.hid (HLx.out.on HBk.out)
            have x2 : (k + 1) % n < n := Nat.mod_lt _ (by omega)
            obtain ⟨b, o, rfl, c0⟩ := HLk.out.cells k (by rw [HN.out.ll]; omega)
            obtain ⟨b', o', e, c1⟩ := HLk.out.cells ((k + 1) % n) (by rw [HN.out.ll]; exact x2)
            cases e
            rw [← HN.out.lx, ordS_el hlt] at c0
            rw [← HN.out.lx, ordS_el x2] at c1
            have hstep := el_step (n := n) (st := st) (s := s) (i := k) (by omega)
            have hix : ((k : Int) + 1).tmod (n : Int) = (((k + 1) % n : Nat) : Int) := by
              rw [Int.tmod_eq_emod_of_nonneg (by omega)]; simp
            have x0 := el_lt (n := n) (st := st) (s := s) (i := k) (by omega)
            have x1 := el_lt (n := n) (st := st) (s := s) (i := (k + 1) % n) (by omega)
            generalize el n st s k = y0 at c0 hstep x0
            generalize el n st s ((k + 1) % n) = y1 at c1 hstep x1
            generalize (k + 1) % n = j at c1 hix x2
            generalize s % n = sm at hstep hsm
            have m1 : IntKind.i64.wrap ((y1 : Int) - (y0 : Int)) = (y1 : Int) - (y0 : Int) := IntWalk.i64_in _ (by omega)
            have m2 : IntKind.i64.wrap ((y1 : Int) - (y0 : Int) + (n : Int)) = (y1 : Int) - (y0 : Int) + (n : Int) := IntWalk.i64_in _ (by omega)
            have m3 : IntKind.i64.wrap ((k : Int) + 1) = (k : Int) + 1 := IntWalk.i64_in _ (by omega)
            have m4 : (0 : Int) ≤ (j : Int) := by omega
            have m5 : (j : Int) < (n : Int) := by omega
            go_wp2_with fail
            go_quiet (fail)
            go_wp2_with fail
            go_roundw
            case rel => exact ⟨k + 1, by omega, by go_num, below_drewN HBk.out _⟩
            case measure =>
              show _ < _
              simp only [intOf]; omega
          · clear hk
            have HLz := Lib.hid (HLx.out.on HBk.out)
            have HBz := Lib.hid (bt HBy.out hsy HBk.out)
            have hsz := HBz.out.size
            obtain ⟨b, o, rfl, c0⟩ := HLz.out.cells 0 (by rw [HN.out.ll]; omega)
            rw [← HN.out.lx, ordS_el (by omega), el_zero st2, Nat.add_zero] at c0
            have hrem := HN.out.D.rem (by omega)
            have hall0 : ¬ ((all : Int) = 0) := by omega
            clear HLz HLx HBk HBy hsm
            go_wp2_with fail
            refine (draw_at n st s r true (HN.out.D.back n1 n2).1 (HN.out.D.back n1 n2).2 _).mono ?_
            rintro e w8 ⟨rfl, hb8⟩
            have HB8 := Lib.hid (bt HBz.out hsz hb8)
            have s8 := HB8.out.size
            clear hb8 c0 HBz
            go_wp2_with fail
            clear hrem hall0
            rcases HW with HW | HW
            · rcases HW.out.no with h | ⟨h, h'⟩ | ⟨h, h', h2⟩ | ⟨h, h', h2, h3⟩ | ⟨h, h', h2, h3, bb, g2, rfl, hg2, h4⟩
              all_goals
                refine (draw_at n start _ 0 false HW.out.en HW.out.ok _).mono ?_
                rintro e w9 ⟨rfl, hb9⟩
                have HB9 := Lib.hid (bt HB8.out s8 hb9)
                have s9 := HB9.out.size
                clear hb9
                go_wp2_with (go_at_call 20; refine (gcd2_at _ bb n g2 (by omega) hg2 (by omega) (by omega) (by omega) (by omega) _).mono ?_; rintro e w' ⟨rfl, rfl⟩)
                refine (works_any _).mono ?_
                rintro e w10 ⟨rfl, hb10⟩
                have HB10 := Lib.hid (bt HB9.out s9 hb10)
                clear hb10
                go_wp2
                go_ret
                exact ⟨rfl, bt HB6.out s6 HB10.out⟩
            · obtain ⟨sn, bn, en, L2, HW⟩ := HW
              obtain ⟨rfl, q1⟩ : start = (sn : Int) ∧ sn < n := ⟨HW.out.es, HW.out.s2⟩
              obtain ⟨rfl, q2, q3⟩ : by' = (bn : Int) ∧ 1 ≤ bn ∧ bn ≤ n := ⟨HW.out.eb, HW.out.b1, HW.out.b2⟩
              have q4 := HW.out.ea
              refine (draw_at n sn bn en true HW.out.en HW.out.ok _).mono ?_
              rintro e w9 ⟨rfl, hb9⟩
              have HB9 := Lib.hid (bt HB8.out s8 hb9)
              have s9 := HB9.out.size
              clear hb9
              go_wp2_with (go_at_call 20; refine (gcd2_at _ bn n 1 (by omega) HW.out.g (by omega) (by omega) (by omega) (by omega) _).mono ?_; rintro e w' ⟨rfl, rfl⟩)
              refine (order_b HW.out.eo HW.out.ll n2 _).mono ?_
              rintro e w10 ⟨p10, c10, rfl, hL10, -, hb10⟩
              have HB10 := Lib.hid (bt HB9.out s9 hb10)
              have s10 := HB10.out.size
              obtain ⟨b2, o2, rfl, d0⟩ := hL10.cells 0 (by rw [HW.out.ll]; omega)
              rw [HW.out.l0, Nat.add_zero] at d0
              by_cases hn : 1 < n
              · obtain ⟨b3, o3, e3, d1⟩ := hL10.cells 1 (by rw [HW.out.ll]; exact hn)
                cases e3
                rw [HW.out.l1 hn] at d1
                have hz : ((sn : Int) + (bn : Int)).tmod (n : Int) = (((sn + bn) % n : Nat) : Int) := by
                  rw [Int.tmod_eq_emod_of_nonneg (by omega)]; simp
                generalize (sn + bn) % n = y at d1 hz
                have e0 : decide ((en : Int) < 0) = false := by simp
                have e1 : decide ((all : Int) ≤ (en : Int)) = false := by simp; omega
                have e2 : ¬ ((en : Int) < 0) := by omega
                have e3 : ¬ ((all : Int) ≤ (en : Int)) := by omega
                have g0 : (0 : Int) < (n : Int) := by omega
                have g4 : 0 < n := by omega
                have g5 : ¬ (n = 0) := by omega
                have g1 : (1 : Int) < (n : Int) := by omega
                have g2 : IntKind.i64.wrap ((sn : Int) + (bn : Int)) = (sn : Int) + (bn : Int) := IntWalk.i64_in _ (by omega)
                have g3 : ¬ ((n : Int) = 0) := by omega
                clear hb10 hL10 HB9
                go_wp2_with fail
                go_big_quiet (fail)
                go_wp2_with fail
                refine (works_any _).mono ?_
                rintro e w11 ⟨rfl, hb11⟩
                have HB11 := Lib.hid (bt HB6.out s6 (bt (below_drewN HB10.out _) s10 hb11))
                clear hb11
                go_wp2
                go_ret
                exact ⟨rfl, HB11.out⟩
              · clear hb10 hL10 HB9
                have e0 : decide ((en : Int) < 0) = false := by simp
                have e1 : decide ((all : Int) ≤ (en : Int)) = false := by simp; omega
                have e2 : ¬ ((en : Int) < 0) := by omega
                have e3 : ¬ ((all : Int) ≤ (en : Int)) := by omega
                have g0 : (0 : Int) < (n : Int) := by omega
                have g4 : 0 < n := by omega
                have g5 : ¬ (n = 0) := by omega
                have g6 : decide ((1 : Int) < (n : Int)) = false := by simp; omega
                have g7 : decide (1 < n) = false := by simp; omega
                clear hn
                go_wp2_with fail
                go_big_quiet (fail)
                go_wp2_with fail
                refine (works_any _).mono ?_
                rintro e w11 ⟨rfl, hb11⟩
                have HB11 := Lib.hid (bt HB6.out s6 (bt (below_drewN HB10.out _) s10 hb11))
                clear hb11
                go_wp2
                go_ret
                exact ⟨rfl, HB11.out⟩

theorem law_once (n0 d0 start by' : Int) (w1 : -9223372036854775808 ≤ n0) (w2 : n0 ≤ 9223372036854775807) (w3 : -9223372036854775808 ≤ d0) (w4 : d0 ≤ 9223372036854775807) (w : World) :
    Calls Try.prog 5 #[.int .i64 n0, .int .i64 d0, .int .i64 start, .int .i64 by'] w (Ans (.bool true) w) := by
  obtain ⟨r0, n, d, all, r, st, q, s, L, HN⟩ := OnceN.ex n0 d0
  exact lonce n0 d0 start by' r0 n d all r st q s L HN (once_cases n all start by' HN.n1 HN.n2 HN.eo) w1 w2 w3 w4 w
end Go.Proofs.Yteijfgckeipkhaa
