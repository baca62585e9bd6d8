/- The law GetNone (layer 10), walked. -/
import Derived.Test.YtkhfanhboooilaaGw
import Derived.Test.YtkhfanhboooilaaDc
import Derived.Deep.Cut
set_option linter.unusedSimpArgs false
set_option linter.unusedVariables false
namespace Go.Proofs.Ytkhfanhboooilaa
open Go.RowKit Go.Cg Go.Pu Go.Wd Go.Ce

/-- a get that is not there, or is zero -/
def Idle (W : World) (v : Value) : Prop := v = .pointer none ∨ ∃ b, v = gptr b ∧ GetIs W b GS.zero
section
variable {W W' : World} {v : Value}
theorem Idle.on (h : Idle W v) (hb : Below W.heap.size W W') : Idle W' v := h.imp id (fun ⟨b, e, hi⟩ => ⟨b, e, hi.on hb⟩)
theorem Idle.got (h : Idle W v) : Calls Try.prog 51 #[v] W (fun e w' => e = .returned (.tuple #[.int .i64 0, .bool false]) ∧ w' = W) := by
  rcases h with rfl | ⟨b, rfl, hi⟩
  · exact ggot_nil W
  · exact ggot_any hi
theorem Idle.step (h : Idle W v) (mb : Nat) : Calls Try.prog 42 #[v, gptr mb] W (Ans (.bool true) W) := by
  rcases h with rfl | ⟨b, rfl, hi⟩
  · exact gstep_nil _ W
  · exact gstep_done hi rfl _
theorem Idle.done (h : Idle W v) : Calls Try.prog 49 #[v] W (fun e w' => e = .returned (.bool true) ∧ w' = W) := by
  rcases h with rfl | ⟨b, rfl, hi⟩
  · exact gdone_nil W
  · exact gdone_any hi
theorem Idle.tries (h : Idle W v) : Calls Try.prog 52 #[v] W (fun e w' => e = .returned (.int .i64 0) ∧ w' = W) := by
  rcases h with rfl | ⟨b, rfl, hi⟩
  · exact gtries_nil W
  · exact gtries_any hi
theorem Idle.hands (h : Idle W v) : Calls Try.prog 54 #[v] W (RowPost8 [] W) := by
  rcases h with rfl | ⟨b, rfl, hi⟩
  · exact ghands_nil W
  · exact ghands_any hi
end
/-- the law's state: the config's box, its three gets in a row, its memory -/
structure NS (w W : World) (c : Cfg) (cb zb xb lb mb mg : Nat) : Prop where
  box : Row cb 23 (cCells c) W
  lst : Row lb 70 [.pointer none, gptr zb, gptr xb] W
  z : GetIs W zb GS.zero
  x : GetIs W xb GS.zero
  mem : MemIs W mb mg (PM.new 20)
  bel : Below w.heap.size w W
  hb : w.heap.size ≤ mb ∧ w.heap.size ≤ mg
theorem NS.on {w W W' : World} {c : Cfg} {cb zb xb lb mb mg : Nat} (h : NS w W c cb zb xb lb mb mg) (hb : Below W.heap.size W W') : NS w W' c cb zb xb lb mb mg :=
  ⟨h.box.on' hb, h.lst.on' hb, h.z.on hb, h.x.on hb, h.mem.on hb, h.bel.trans (hb.mono h.bel.size), h.hb⟩
theorem NS.six {w W : World} {n q g m t s : Int} {cb zb xb lb mb mg : Nat} (h : NS w W ⟨n, q, g, m, t, s⟩ cb zb xb lb mb mg) : W.cell? ⟨cb, 0, none⟩ = some (.int .i64 n) ∧ W.cell? ⟨cb, 1, none⟩ = some (.int .i64 q) ∧ W.cell? ⟨cb, 2, none⟩ = some (.int .i64 g) ∧ W.cell? ⟨cb, 3, none⟩ = some (.int .i64 m) ∧ W.cell? ⟨cb, 4, none⟩ = some (.int .i64 t) ∧ W.cell? ⟨cb, 5, none⟩ = some (.int .i64 s) :=
  ⟨h.box.cell 0, h.box.cell 1, h.box.cell 2, h.box.cell 3, h.box.cell 4, h.box.cell 5⟩
theorem NS.at {w W : World} {c : Cfg} {cb zb xb lb mb mg : Nat} (h : NS w W c cb zb xb lb mb mg) (i : Nat) (hi : i < 3) : ∃ v, W.cell? ⟨lb, i, none⟩ = some v ∧ Idle W v := by
  have h3 : i = 0 ∨ i = 1 ∨ i = 2 := by omega
  rcases h3 with rfl | rfl | rfl
  · exact ⟨_, h.lst.cell 0, .inl rfl⟩
  · exact ⟨_, h.lst.cell 1, .inr ⟨zb, rfl, h.z⟩⟩
  · exact ⟨_, h.lst.cell 2, .inr ⟨xb, rfl, h.x⟩⟩
theorem got_none (c : Cfg) (p : Int) (hp : thB c p = false) (m : PM) : (gotN c p 65536 m).1 = [] := by
  have e : newG c p = GS.zero := by unfold newG; rw [if_neg (by rw [hp]; decide)]
  have ef : finG c p m = (GS.zero, m) := by
    unfold finG
    rw [e]
    exact runG_done 3 rfl m
  have h : ∀ n, (gotN c p (n + 1) m).1 = [] := fun n => by
    rw [gotN, ef]
    exact congrArg Prod.fst (if_neg Bool.false_ne_true)
  exact h 65535
theorem thB_neg (c : Cfg) {p : Int} (hp : p < 0) : thB c p = false := by
  cases h : thB c p with
  | false => rfl
  | true => have := (thB_iff.1 h).2.1; omega
set_option maxRecDepth 100000 in
set_option maxHeartbeats 4000000 in
theorem gnone_any (c : Cfg) (p : Int) (hp : -9223372036854775808 ≤ p ∧ p ≤ 9223372036854775807) (w : World) : Calls Try.prog 9 #[cVal c, .int .i64 p] w (Ans (.bool true) w) := by
  obtain ⟨k, hk, HPk0⟩ := pick_det p 9 hp (by omega)
  have HPk : Hid (∀ W, Calls Try.prog 43 #[.int .i64 p, .int .i64 9] W (fun e w' => e = .returned (.int .i64 k) ∧ w' = W)) := HPk0
  clear HPk0
  have hz : newG c (-1 - (k : Int)) = GS.zero := by unfold newG; rw [if_neg (by rw [thB_neg c (by omega)]; decide)]
  have HNew : Hid (∀ W, Calls Try.prog 38 #[cVal c, .int .i64 (-1 - (k : Int))] W (GMade GS.zero W)) := by rw [← hz]; exact fun W => gnew_any c _ W
  have HNm := Lib.hid (fun W => new_any (20 : Int) 20 (by unfold nN; omega) W)
  have HWk := Lib.hid (fun W => gworks_any W)
  have HAll : Hid (∀ W b g, MemIs W b g (PM.new 20) → Calls Try.prog 48 #[cVal c, gptr b, .int .i64 (-1)] W (fun e w' => ∃ q cc, e = .returned (.slice q 0 cc) ∧ Hid (Tch (Own b g) W w'))) := fun W b g h => by
    refine (gall_any c (-1) h (newN_u64 20) (by decide)).mono ?_
    rintro e w' ⟨q, n, cc, h1, h2, _, _, h5⟩
    have h2 := h2.out
    rw [got_none c (-1) (thB_neg c (by omega))] at h2
    simp only [List.length_nil] at h2
    subst h2
    exact ⟨q, cc, h1, h5⟩
  have HO : Hid (∀ (b g : Nat) (W : World), MemIs W b g (PM.new 20) → Calls Try.prog 22 #[gptr b] W (Ans (.int .u64 0) W)) := fun b g W h => ops_any h
  have hbx := (Below.refl w.heap.size w).alloc (Nat.le_refl _) (.cells (cCells c).toArray 23)
  have hrx := Row.new w 23 (cCells c)
  obtain ⟨W0, hW0⟩ : ∃ W, w.alloc (.cells (cCells c).toArray 23) = W := ⟨_, rfl⟩
  have hs0 : W0.heap.size = w.heap.size + 1 := by rw [← hW0]; simp
  rw [hW0] at hbx hrx
  have hzx := Row.new W0 92 (gtX GS.zero)
  have hbz := (Below.refl W0.heap.size W0).alloc (Nat.le_refl _) (.cells (gtX GS.zero).toArray 92)
  obtain ⟨W1, hW1⟩ : ∃ W, W0.alloc (.cells (gtX GS.zero).toArray 92) = W := ⟨_, rfl⟩
  rw [hW1] at hzx hbz
  have hok : GS.zero.Ok := ⟨Nat.zero_le _, fun h => absurd rfl h, Nat.zero_lt_succ _, fun h => absurd rfl h⟩
  rw [hs0] at hzx
  have HS1 : Hid (Row w.heap.size 23 (cCells c) W1 ∧ GetIs W1 (w.heap.size + 1) GS.zero ∧ Below w.heap.size w W1) := ⟨hrx.on' hbz, ⟨hzx, hok⟩, hbx.trans (hbz.mono hbx.size)⟩
  have HW01 := Lib.hid (And.intro hW0 hW1)
  clear hbx hrx hzx hbz hz hp hok hW0 hW1 hs0
  obtain ⟨N, Q, G, M, T, U⟩ := c
  change Hid (∀ W, Calls Try.prog 38 #[.agg #[.int .i64 N, .int .i64 Q, .int .i64 G, .int .i64 M, .int .i64 T, .int .i64 U], .int .i64 (-1 - (k : Int))] W _) at HNew
  change Hid (∀ W b g, _ → Calls Try.prog 48 #[.agg #[.int .i64 N, .int .i64 Q, .int .i64 G, .int .i64 M, .int .i64 T, .int .i64 U], gptr b, .int .i64 (-1)] W _) at HAll
  show Calls _ _ #[.agg #[.int .i64 N, .int .i64 Q, .int .i64 G, .int .i64 M, .int .i64 T, .int .i64 U], _] _ _
  go_enter Try.func9, Try.ntmps9
  go_upto_region 3 with (fail)
  change Code.wp _ _ _ _ ((w.alloc (.cells (cCells ⟨N, Q, G, M, T, U⟩).toArray 23)).alloc (.cells (gtX GS.zero).toArray 92))
  rw [HW01.out.1, HW01.out.2]
  obtain ⟨zb, hzb⟩ : ∃ z, w.heap.size + 1 = z := ⟨_, rfl⟩
  rw [hzb] at HS1 ⊢
  obtain ⟨cb, hcb⟩ : ∃ z, w.heap.size = z := ⟨_, rfl⟩
  have HS1' : Hid (Row cb 23 (cCells ⟨N, Q, G, M, T, U⟩) W1 ∧ GetIs W1 zb GS.zero ∧ Below w.heap.size w W1) := by rw [← hcb]; exact HS1.out
  rw [hcb]
  clear hzb hcb HW01 HS1
  go_upto_region 4 with (go_at_call 53; (with_reducible refine (HNm.out _).mono ?_); rintro e w1 ⟨mb, mg, rfl, hm, h1, h2, hb⟩; have HS2 : Hid (Row cb 23 (cCells ⟨N, Q, G, M, T, U⟩) w1 ∧ GetIs w1 zb GS.zero ∧ Below w.heap.size w w1 ∧ MemIs w1 mb mg (PM.new 20) ∧ w.heap.size ≤ mb ∧ w.heap.size ≤ mg) := Lib.hid ⟨HS1'.out.1.on' hb, HS1'.out.2.1.on hb, HS1'.out.2.2.trans (hb.mono HS1'.out.2.2.size), hm, Nat.le_trans HS1'.out.2.2.size (by omega), Nat.le_trans HS1'.out.2.2.size (by omega)⟩; clear hm h1 h2 hb)
  have hc : ∀ W, Below w1.heap.size w1 W → (W.cell? ⟨cb, 0, none⟩ = some (.int .i64 N) ∧ W.cell? ⟨cb, 1, none⟩ = some (.int .i64 Q) ∧ W.cell? ⟨cb, 2, none⟩ = some (.int .i64 G) ∧ W.cell? ⟨cb, 3, none⟩ = some (.int .i64 M) ∧ W.cell? ⟨cb, 4, none⟩ = some (.int .i64 T) ∧ W.cell? ⟨cb, 5, none⟩ = some (.int .i64 U)) := fun W hb => ⟨(HS2.out.1.on' hb).cell 0, (HS2.out.1.on' hb).cell 1, (HS2.out.1.on' hb).cell 2, (HS2.out.1.on' hb).cell 3, (HS2.out.1.on' hb).cell 4, (HS2.out.1.on' hb).cell 5⟩
  obtain ⟨c0, c1, c2, c3, c4, c5⟩ := hc w1 (Below.refl _ _)
  have hk9 : IntKind.i64.wrap (-1 - (k : Int)) = -1 - (k : Int) := IntWalk.i64_in _ (by omega)
  clear hc
  go_cut [8] from 14 (fun v8 wc => ∃ xb, v8 = gptr xb ∧ Hid (GetIs wc xb GS.zero) ∧ Hid (w1.heap.size ≤ xb) ∧ Hid (Below w1.heap.size w1 wc))
  case first =>
    go_region_with (first
      | (go_at_call 43; (with_reducible refine (HPk.out _).mono ?_); rintro e w2 ⟨rfl, rfl⟩)
      | (go_at_call 38; (with_reducible refine (HNew.out _).mono ?_); rintro e w3 ⟨xb, rfl, i1, i2, i3⟩; have HE : Hid (Below w1.heap.size w1 w3 ∧ w1.heap.size ≤ xb) := Lib.hid (by first | exact ⟨i3.out, i2.out⟩ | exact ⟨(Below.refl _ _).drew.trans (i3.out.mono (Nat.le_refl _)), i2.out⟩)))
    all_goals (go_wp2_with fail; go_meet; exact ⟨_, rfl, i1, HE.out.2, HE.out.1⟩)
  case rest =>
    obtain ⟨xb, rfl, i1, i2, i3⟩ := hcut
    have hlx := i1.out.row.lt
    have hrl := Row.new wc 70 [.pointer none, gptr zb, gptr xb]
    have hbl := (Below.refl wc.heap.size wc).alloc (Nat.le_refl _) (.cells [.pointer none, gptr zb, gptr xb].toArray 70)
    obtain ⟨W5, hW5⟩ : ∃ W, wc.alloc (.cells #[.pointer none, gptr zb, gptr xb] 70) = W := ⟨_, rfl⟩
    obtain ⟨lb, hlb⟩ : ∃ z, wc.heap.size = z := ⟨_, rfl⟩
    change Row _ _ _ (wc.alloc (.cells #[.pointer none, gptr zb, gptr xb] 70)) at hrl
    change Below _ _ (wc.alloc (.cells #[.pointer none, gptr zb, gptr xb] 70)) at hbl
    rw [hW5] at hrl hbl
    rw [hlb] at hrl
    have HN0 : Hid (NS w W5 ⟨N, Q, G, M, T, U⟩ cb zb xb lb mb mg) := Lib.hid ⟨(HS2.out.1.on' i3.out).on' hbl, hrl, (HS2.out.2.1.on i3.out).on hbl, i1.out.on hbl, (HS2.out.2.2.2.1.on i3.out).on hbl, (HS2.out.2.2.1.trans (i3.out.mono HS2.out.2.2.1.size)).trans (hbl.mono (Nat.le_trans HS2.out.2.2.1.size i3.out.size)), HS2.out.2.2.2.2⟩
    have HW5 := Lib.hid (And.intro hW5 hlb)
    clear hW5 hlb hrl hbl i1 i2 i3 c0 c1 c2 c3 c4 c5
    go_upto_region 6 with fail
    rw [HW5.out.1, HW5.out.2]
    go_wp2_with fail
    go_loopg [10] 3 (fun g0 s10 wy => ∃ i : Nat, i + g0 = 3 ∧ s10 = .int .i64 i ∧ Hid (NS w wy ⟨N, Q, G, M, T, U⟩ cb zb xb lb mb mg))
    case atStart => exact ⟨0, rfl, rfl, HN0⟩
    case round =>
      clear HN0 HS2 HS1' hlx HNew HPk HNm
      obtain ⟨i, hig, rfl, HN⟩ := hrel
      cases gk with
      | succ g0 =>
        have hi3 : (i : Int) < 3 := by omega
        have hi3n : i < 3 := by omega
        obtain ⟨v, hv, hid⟩ := HN.out.at i hi3n
        have HI := Lib.hid hid
        clear hid
        go_wp2_with (first
          | (go_at_call 51; (with_reducible refine HI.out.got.mono ?_); rintro e y1 ⟨rfl, rfl⟩)
          | (go_at_call 42; (with_reducible refine (HI.out.step mb).mono ?_); rintro e y2 ⟨rfl, hb⟩; have hv2 := k_al hv hb; have HI2 := Lib.hid (HI.out.on hb); have HN := Lib.hid (HN.out.on hb); clear hb)
          | (go_at_call 49; (with_reducible refine HI2.out.done.mono ?_); rintro e y3 ⟨rfl, rfl⟩)
          | (go_at_call 52; (with_reducible refine HI2.out.tries.mono ?_); rintro e y4 ⟨rfl, rfl⟩)
          | (go_at_call 54; (with_reducible refine HI2.out.hands.mono ?_); rintro e y5 ⟨p1, n1, k1, rfl, hn1, -, hb⟩; obtain rfl : n1 = 0 := hn1.out; have HN := Lib.hid (HN.out.on hb); clear hb))
        go_roundg g0
        case measure => omega
        case rel => exact ⟨i + 1, by omega, by go_num, HN⟩
      | zero =>
        obtain rfl : i = 3 := by omega
        obtain ⟨c0, c1, c2, c3, c4, c5⟩ := HN.out.six
        go_wp2_with (first
          | (go_at_call 22; (with_reducible refine (HO.out _ _ _ HN.out.mem).mono ?_); rintro e y1 ⟨rfl, hb⟩; have HN := Lib.hid (HN.out.on hb); clear hb; obtain ⟨c0, c1, c2, c3, c4, c5⟩ := HN.out.six)
          | (go_at_call 48; (with_reducible refine (HAll.out _ _ _ HN.out.mem).mono ?_); rintro e y2 ⟨q, cc, rfl, ht⟩; have HB := Lib.hid (HN.out.bel.trans (ht.out.below HN.out.bel.size (fun k hk => by have := HN.out.hb; rcases hk with hk | hk <;> omega))); clear ht)
          | (go_at_call 37; (with_reducible refine (HWk.out _).mono ?_); rintro e y3 ⟨rfl, hb⟩; have HB := Lib.hid (HB.out.trans (hb.mono HB.out.size)); clear hb))
        go_ret
        exact ⟨rfl, HB.out⟩
end Go.Proofs.Ytkhfanhboooilaa
