/- The law PutLayAll (layer 9), walked. -/
import Derived.Test.YtgfddkddacigfaaKt
import Derived.Test.YtgfddkddacigfaaBc
set_option linter.unusedSimpArgs false
set_option linter.unusedVariables false
namespace Go.Proofs.Ytgfddkddacigfaa
open Go.RowKit Go.Cg Go.Pu Go.Wd Go.Ce

/-- numbers that came in, of whatever length; known where they are few -/
def InSl (w : World) (v : Value) (l : List Int) : Prop := ∃ p n c, v = .slice p n c ∧ n = l.length ∧ n ≤ 9223372036854775807 ∧ (n ≤ 1000 → SlIs (fun _ => False) w v l)
/-- a lay in the law: the config's box, the row that it was made of -/
structure LQ (E : LayApi) (w0 W : World) (cb : Nat) (c : Cfg) (vo : Value) (own : List Int) (xb mb mg : Nat) (x : LS) (m : PM) : Prop where
  px : PXL E (KB cb vo (.slice none 0 0)) w0 W xb mb mg x m
  row : Row cb 23 (cCells c) W
  ro : NewRow w0.heap.size W vo own
section
variable {E : LayApi} {w0 W W' : World} {cb xb mb mg : Nat} {c : Cfg} {vo : Value} {own : List Int} {x x' : LS} {m m' : PM}
theorem LQ.on (h : LQ E w0 W cb c vo own xb mb mg x m) (hb : Below W.heap.size W W') : LQ E w0 W' cb c vo own xb mb mg x m := ⟨h.px.on hb, h.row.on' hb, h.ro.on hb⟩
theorem LQ.stp (h : LQ E w0 W cb c vo own xb mb mg x m) (hp : PXL E (KB cb vo (.slice none 0 0)) w0 W' xb mb mg x' m') (ht : Tch (fun k => ¬ KB cb vo (.slice none 0 0) k) W W') : LQ E w0 W' cb c vo own xb mb mg x' m' := ⟨hp, h.row.tch ht (fun e => e (.inl rfl)), h.ro.tch ht (fun k hk e => e (.inr (.inl hk)))⟩
end
theorem lq_cells {E : LayApi} {w0 W : World} {cb xb mb mg : Nat} {c : Cfg} {vo : Value} {own : List Int} {x : LS} {m : PM} {N Q G M T U : Nat} (h : LQ E w0 W cb c vo own xb mb mg x m) (hC : c = ⟨N, Q, G, M, T, U⟩) : W.cell? ⟨cb, 0, none⟩ = some (.int .i64 N) ∧ W.cell? ⟨cb, 1, none⟩ = some (.int .i64 Q) ∧ W.cell? ⟨cb, 2, none⟩ = some (.int .i64 G) ∧ W.cell? ⟨cb, 3, none⟩ = some (.int .i64 M) ∧ W.cell? ⟨cb, 4, none⟩ = some (.int .i64 T) ∧ W.cell? ⟨cb, 5, none⟩ = some (.int .i64 U) := by
  have := cf_cells h.row
  rw [hC] at this
  exact this
theorem lq_ring {E : LayApi} {w0 W : World} {cb xb mb mg : Nat} {c : Cfg} {vo : Value} {own : List Int} {x : LS} {m : PM} {N Q G M T U P : Nat} (h : LQ E w0 W cb c vo own xb mb mg x m) (hC : c = ⟨N, Q, G, M, T, U⟩) (hm : Mk c P m) (hr : rng c P m = own) : Calls Try.prog 32 #[.agg #[.int .i64 N, .int .i64 Q, .int .i64 G, .int .i64 M, .int .i64 T, .int .i64 U], pptr mb, .int .i64 P] W (RowPost8 own W) := by
  subst hC
  have := ring_any N Q G M T U P hm h.px.mem
  rw [hr] at this
  exact this
theorem same_two {B B' : Nat} {W : World} {l : List Int} {u v : Value} (h1 : NewRow B W u l) (h2 : NewRow B' W v l) (hl : l.length ≤ 1000) : Calls Try.prog 17 #[u, v] W (Ans (.bool true) W) := by
  have := sameints_gen l l u v W (h1.sl (S := fun _ => False) (by omega) (fun _ _ h => h)) (h2.sl (S := fun _ => False) (by omega) (fun _ _ h => h))
  rw [sameB_self] at this
  exact this
theorem lay_ops (x : LS) (m : PM) (hok : x.Ok) (hu : U64 m) : (stepL x m).2.k.ops ≤ m.k.ops + 1 := (lay_ok hok hu).2.2.2.2
/-- what loop 1 has -/
structure LO (w0 W : World) (cb : Nat) (c : Cfg) (vo : Value) (own : List Int) : Prop where
  row : Row cb 23 (cCells c) W
  ro : NewRow w0.heap.size W vo own
  bel : Below w0.heap.size w0 W
  pos : ∀ z ∈ own, 0 ≤ z ∧ z < 9223372036854775808
  le : own.length ≤ c.q.toNat
theorem LO.on {w0 W W' : World} {cb : Nat} {c : Cfg} {vo : Value} {own : List Int} (h : LO w0 W cb c vo own) (hb : Below W.heap.size W W') : LO w0 W' cb c vo own := ⟨h.row.on' hb, h.ro.on hb, h.bel.trans (hb.mono h.bel.size), h.pos, h.le⟩
theorem LO.app {w0 W W' : World} {cb : Nat} {c : Cfg} {vo vo' : Value} {own : List Int} {z : Int} (h : LO w0 W cb c vo own) (hz : 0 ≤ z ∧ z < 9223372036854775808) (hl : own.length < c.q.toNat) (hn : NewRow w0.heap.size W' vo' (own ++ [z])) (hg : W.grownBy W' vo.ownBlock) : LO w0 W' cb c vo' (own ++ [z]) := by
  have hne := ne_row h.row h.ro
  have ht := grown_tch hg
  refine ⟨h.row.tch ht (fun e => hne e), hn, new_below h.ro h.bel h.bel.size hg, fun y hy => ?_, by rw [List.length_append]; simp; omega⟩
  rcases List.mem_append.1 hy with h1 | h1
  · exact h.pos y h1
  · rw [List.mem_singleton] at h1; rw [h1]; exact hz
theorem lo_cells {w0 W : World} {cb : Nat} {c : Cfg} {vo : Value} {own : List Int} {N Q G M T U : Nat} (h : LO w0 W cb c vo own) (hC : c = ⟨N, Q, G, M, T, U⟩) : W.cell? ⟨cb, 0, none⟩ = some (.int .i64 N) ∧ W.cell? ⟨cb, 1, none⟩ = some (.int .i64 Q) ∧ W.cell? ⟨cb, 2, none⟩ = some (.int .i64 G) ∧ W.cell? ⟨cb, 3, none⟩ = some (.int .i64 M) ∧ W.cell? ⟨cb, 4, none⟩ = some (.int .i64 T) ∧ W.cell? ⟨cb, 5, none⟩ = some (.int .i64 U) := by
  have := cf_cells h.row
  rw [hC] at this
  exact this
theorem la_mem {C : Cfg} {P : Int} (hth : Right C ∧ 0 ≤ P ∧ P < C.n) {V : Nat} (hV : V < 18446744073709551616) : Mk C P ((PM.new (ccN C)).store (aW C P) V) ∧ wdN C P ((PM.new (ccN C)).store (aW C P) V) = V ∧ ((PM.new (ccN C)).store (aW C P) V).k.ops = 1 := by
  have hu : U64 (PM.new (ccN C)) := fun z hz => by
    have : z ∈ List.replicate (ccN C) (0 : Int) := hz
    rw [List.mem_replicate] at this
    omega
  have hm : Mk C P (PM.new (ccN C)) := ⟨hth, by unfold PM.new; simp, hu⟩
  rw [store_yes hm.hasW]
  have h1 := word_set hm 2 { (PM.new (ccN C)).k with s := (PM.new (ccN C)).k.s + 1 } hV
  exact ⟨h1.2.2, h1.1, rfl⟩
theorem newL_own {C : Cfg} {P : Int} {own : List Int} (hth : Right C ∧ 0 ≤ P ∧ P < C.n) (hpos : ∀ z ∈ own, 0 ≤ z ∧ z < 9223372036854775808) : newL C P own = ⟨C, P, own, 1, 0, 0, 0⟩ := by
  unfold newL
  rw [if_pos (thB_iff.2 hth), List.filter_eq_self.2 (fun z hz => decide_eq_true (hpos z hz).1)]
theorem la_start {C : Cfg} {P : Int} {own : List Int} {h : Nat} {m : PM} (hth : Right C ∧ 0 ≤ P ∧ P < C.n) (hpos : ∀ z ∈ own, 0 ≤ z ∧ z < 9223372036854775808) (hh : h < 4294967296) (hm : Mk C P m) (hw : wdN C P m = pk h h) (hl : 0 < own.length ∧ own.length ≤ C.q.toNat) : LI C P own h 0 (newL C P own) m := by
  rw [newL_own hth hpos]
  exact ⟨hm, rfl, rfl, rfl, hw, hh, hl, hpos, fun j hj => by omega, .inl ⟨rfl, rfl⟩⟩
/-- between two steps of the lay -/
def LT (C : Cfg) (P : Int) (own : List Int) (h i : Nat) (x : LS) (m : PM) : Prop := m.k.ops ≤ 1 + i ∧ (own ≠ [] → LI C P own h i x m) ∧ (own = [] → i = 0 ∧ x.l = [] ∧ x.a ≠ 0 ∧ m.k.ops = 1)
set_option maxRecDepth 20000 in
set_option maxHeartbeats 4000000 in
theorem layall_any (D : PutApi) (E : LayApi) (c : Cfg) (p : Int) (h : Nat) (vl : Value) (l : List Int) (w : World) (hc : ∀ z ∈ [c.n, c.q, c.g, c.m, c.t, c.s], -9223372036854775808 ≤ z ∧ z ≤ 9223372036854775807) (hp : -9223372036854775808 ≤ p ∧ p ≤ 9223372036854775807) (hh : h < 4294967296) (hl : InSl w vl l) (hlr : ∀ y ∈ l, -9223372036854775808 ≤ y ∧ y ≤ 9223372036854775807) :
    Calls Try.prog 6 #[cVal c, .int .i64 p, .int .u32 h, vl] w (Ans (.bool true) w) := by
  obtain ⟨pl, nl, kl, rfl, hnl, hnl2, hsl⟩ := hl
  have HWk := Lib.hid (fun W => works_any D W)
  obtain ⟨n, q, g, m, t, s⟩ := c
  have HMade := Lib.hid (fun W => made_any n q g m t s hc W)
  have hbx := (Below.refl w.heap.size w).alloc (Nat.le_refl _) (.cells (cCells ⟨n, q, g, m, t, s⟩).toArray 23)
  have hrx := Row.new w 23 (cCells ⟨n, q, g, m, t, s⟩)
  show Calls _ _ #[.agg #[.int .i64 n, .int .i64 q, .int .i64 g, .int .i64 m, .int .i64 t, .int .i64 s], .int .i64 p, .int .u32 h, .slice pl nl kl] _ _
  obtain ⟨W1, hW1⟩ : ∃ W1, w.alloc (.cells #[.int .i64 n, .int .i64 q, .int .i64 g, .int .i64 m, .int .i64 t, .int .i64 s] 23) = W1 := ⟨_, rfl⟩
  change Below w.heap.size w (w.alloc (.cells #[.int .i64 n, .int .i64 q, .int .i64 g, .int .i64 m, .int .i64 t, .int .i64 s] 23)) at hbx
  change Row w.heap.size 23 (cCells ⟨n, q, g, m, t, s⟩) (w.alloc (.cells #[.int .i64 n, .int .i64 q, .int .i64 g, .int .i64 m, .int .i64 t, .int .i64 s] 23)) at hrx
  rw [hW1] at hbx hrx
  have HB1 := Lib.hid hbx
  have HR1 := Lib.hid hrx
  have HSl := Lib.hid hsl
  have HNl := Lib.hid hnl
  have HLr := Lib.hid hlr
  clear hbx hrx hsl hc hnl hlr
  by_cases h70 : 70 < nl
  · have h70' : (70 : Int) < nl := by omega
    go_enter Try.func6, Try.ntmps6
    go_wp2_with (go_at_call 9; (with_reducible refine (HWk.out _).mono ?_); rintro e w1 ⟨rfl, hb⟩)
    go_ret
    exact ⟨rfl, HB1.out.trans (hb.mono HB1.out.size)⟩
  have h70' : ¬ (70 : Int) < nl := by omega
  obtain ⟨c0, c1, c2, c3, c4, c5⟩ := cf_cells HR1.out
  simp only at c0 c1 c2 c3 c4 c5
  go_enter Try.func6, Try.ntmps6
  go_upto_region 3 with (fail)
  clear hW1
  go_wp2_with fail
  (with_reducible refine (HMade.out _).mono ?_)
  rintro e w3 ⟨N, Q, G, M, T, U, rfl, HS, hb3⟩
  have hr3 := HR1.out.on' hb3.out
  have HB3 := Lib.hid (HB1.out.trans (hb3.out.mono HB1.out.size))
  clear c0 c1 c2 c3 c4 c5 hb3 HB1 HR1 HMade
  obtain ⟨cb, hcb⟩ : ∃ cb, w.heap.size = cb := ⟨_, rfl⟩
  rw [hcb] at hr3
  have HR3 := Lib.hid hr3
  have HCB := Lib.hid hcb
  obtain ⟨c0, c1, c2, c3, c4, c5⟩ := cf_cells hr3
  obtain ⟨f0, f1, f2, f3, f4, f5⟩ := cf_frozen hr3
  simp only at c0 c1 c2 c3 c4 c5
  clear hr3
  obtain ⟨W4, hW4, hr4, ht4⟩ := cf_put HR3.out ⟨N, Q, G, M, T, U⟩
  simp only at hW4
  have hb4 := HB3.out.trans (ht4.below HB3.out.size (fun k hk => by rw [hk, ← HCB.out]; exact Nat.le_refl _))
  have HR4 := Lib.hid hr4
  have HB4 := Lib.hid hb4
  go_upto_region 4 with (fail)
  clear hW4 hb4 ht4 c0 c1 c2 c3 c4 c5 f0 f1 f2 f3 f4 f5 HR3 HB3
  have hSm := HS.out
  obtain ⟨P, hP, HPk⟩ := pick_det p N hp ⟨hSm.n.1, by have := hSm.n.2; omega⟩
  have hth : Right (⟨N, Q, G, M, T, U⟩ : Cfg) ∧ 0 ≤ (P : Int) ∧ (P : Int) < (⟨N, Q, G, M, T, U⟩ : Cfg).n := ⟨hSm.right, by omega, by show (P : Int) < (N : Int); omega⟩
  obtain ⟨C, hC⟩ : ∃ C : Cfg, C = ⟨N, Q, G, M, T, U⟩ := ⟨_, rfl⟩
  rw [← hC] at hth
  have HTh := Lib.hid hth
  have HC := Lib.hid hC
  obtain ⟨c0, c1, c2, c3, c4, c5⟩ := cf_cells hr4
  simp only at c0 c1 c2 c3 c4 c5
  have HLO : Hid (LO w W4 cb C (.slice none 0 0) []) := ⟨by rw [hC]; exact hr4, NewRow.nil _ _, HB4.out, fun z hz => (by cases hz), Nat.zero_le _⟩
  clear hr4 hP hth hC HR4 HB4 hSm
  go_upto_region 5 with (go_at_call 31; (with_reducible refine (HPk.out _).mono ?_); rintro e w5 ⟨rfl, rfl⟩)
  clear c0 c1 c2 c3 c4 c5 HPk hcb
  go_wp2_with fail
  go_loopw [9, 10] (fun vo vi W => ∃ (i : Nat) (own : List Int) (po : Option Addr) (no ko : Nat), i ≤ nl ∧ vo = .slice po no ko ∧ vi = .int .i64 i ∧ Hid (no = own.length) ∧ no ≤ 8 ∧ Hid (LO w W cb C (.slice po no ko) own)) (fun _ vi _ => nl - (intOf vi).toNat)
  case atStart => exact ⟨0, [], none, 0, 0, by omega, rfl, rfl, rfl, by omega, HLO⟩
  case round =>
    obtain ⟨i, own, po, no, ko, hi, rfl, rfl, HNo, hno8, HLo⟩ := hrel
    clear HLO
    have hq8 : Q ≤ 8 := by have := HS.out.q; omega
    obtain ⟨c0, c1, c2, c3, c4, c5⟩ := lo_cells HLo.out HC.out
    by_cases hgo : i < nl ∧ no < Q
    · obtain ⟨h1, h2⟩ := hgo
      have h1' : (i : Int) < nl := by omega
      have h2' : (no : Int) < Q := by omega
      have hs := (HSl.out (by omega)).on HLo.out.bel
      obtain ⟨pp, kk, hsl, a1, a2, a3, a4⟩ := hs
      have hpe : pp = pl := by injection hsl with e1 e2 e3; exact e1.symm
      subst hpe
      obtain ⟨lg, lo, rfl, -, hcell⟩ := a4.cells i (by have := HNl.out; omega)
      have hzr : -9223372036854775808 ≤ l.getD i 0 ∧ l.getD i 0 ≤ 9223372036854775807 := by
        have hl : i < l.length := by have := HNl.out; omega
        have e : l.getD i 0 = l[i] := by simp [List.getD, hl]
        rw [e]; exact HLr.out _ (List.getElem_mem hl)
      obtain ⟨z, hz⟩ : ∃ z, l.getD i 0 = z := ⟨_, rfl⟩
      rw [hz] at hcell hzr
      clear hz a1 a2 a3 a4 hsl
      by_cases hz0 : z < 0
      · have hz0' : ¬ (0 ≤ z) := by omega
        go_wp2_with fail
        go_roundw
        case rel => exact ⟨i + 1, own, po, no, ko, by omega, rfl, by go_num, HNo, hno8, HLo⟩
        case measure =>
          show _ < _
          simp only [intOf]; omega
      · have hz0' : 0 ≤ z := by omega
        go_wp2_with (at_builtin; (refine append_new (R := fun _ => False) (B := w.heap.size) _ rfl (.tmp 42) (.tmp 47) (by rfl) (.slice (some ⟨_, 0, none⟩) 1 1) (.slice po no ko) own [z] (by kernel_rfl) (HLo.out.ro.on ((Below.refl _ _).alloc (Nat.le_refl _) _)) (by kernel_rfl) (sl_one z _ _ _ rfl id) (by have := HNo.out; simp; omega) (Nat.le_trans HLo.out.bel.size (by simp)) ?_); intro v4 z4 r4 g4; obtain ⟨pd, nd, kd, rfl, hnd⟩ := r4.form; have HLo4 := Lib.hid ((HLo.out.on ((Below.refl _ _).alloc (Nat.le_refl _) _)).app ⟨hz0', by omega⟩ (by rw [HC.out]; have := HNo.out; show _ < (Q : Int).toNat; omega) r4 g4); have HNd := Lib.hid hnd; clear r4 g4 hnd)
        go_roundw
        case rel => exact ⟨i + 1, _, pd, nd, kd, by omega, rfl, by go_num, HNd, by have := HNd.out; have := HNo.out; rw [List.length_append] at *; simp at *; omega, HLo4⟩
        case measure =>
          show _ < _
          simp only [intOf]; omega
    · have hgo2 : (¬ (i : Int) < nl) ∨ ((i : Int) < nl ∧ ¬ (no : Int) < Q) := by omega
      have HCe : Hid (∀ W, Calls Try.prog 35 #[.agg #[.int .i64 N, .int .i64 Q, .int .i64 G, .int .i64 M, .int .i64 T, .int .i64 U]] W (Ans (.int .i64 (ccN C)) W)) := by
        rw [HC.out]; exact fun W => ccells_any ⟨N, Q, G, M, T, U⟩ W
      have hcl := ccN_le C
      have HNw : Hid (∀ W, Calls Try.prog 34 #[.int .i64 (ccN C)] W (NewPost (ccN C) W)) := fun W => new_any (ccN C : Int) (ccN C) (by unfold nN; omega) W
      have HWd : Hid (∀ W, Calls Try.prog 37 #[.agg #[.int .i64 N, .int .i64 Q, .int .i64 G, .int .i64 M, .int .i64 T, .int .i64 U], .int .i64 P] W (Ans (.int .i64 (aW C P)) W)) := by
        rw [← aW_pl HTh.out, HC.out]; exact fun W => word_any ⟨N, Q, G, M, T, U⟩ P W
      have hsh : IntKind.u64.wrap ((h : Int) * 4294967296) = (h : Int) * 4294967296 := IntWalk.u64_in _ (by omega)
      have hor : bits BinOp.or IntKind.u64 ((h : Int) * 4294967296) (h : Int) = ((pk h h : Nat) : Int) := or64y h h hh hh
      obtain ⟨KK, hKK⟩ : ∃ KK, ccN C = KK := ⟨_, rfl⟩
      obtain ⟨A, hA⟩ : ∃ A, aW C P = A := ⟨_, rfl⟩
      obtain ⟨V, hV⟩ : ∃ V, pk h h = V := ⟨_, rfl⟩
      rw [hKK] at HCe HNw
      rw [hA] at HWd
      rw [hV] at hor
      have HKA := Lib.hid (And.intro hKK (And.intro hA hV))
      clear hKK hA hV hcl
      rcases hgo2 with hg1 | ⟨hg1, hg2⟩
      all_goals
        go_upto_region 11 with (fail)
        go_wp2_with fail
        (with_reducible refine (HCe.out _).mono ?_)
        rintro e w6 ⟨rfl, hb6⟩
        have HLo6 := Lib.hid (HLo.out.on hb6)
        clear hb6 c0 c1 c2 c3 c4 c5
        go_wp2_with fail
        (with_reducible refine (HNw.out _).mono ?_)
        rintro e w7 ⟨mb, mg, rfl, hm7, hmb, hmg, hb7⟩
        have HLo7 := Lib.hid (HLo6.out.on hb7)
        have HM7 := Lib.hid hm7
        have HGe := Lib.hid (And.intro hmb hmg)
        have HLt6 : Hid (cb < w6.heap.size ∧ ∀ k, (Value.slice po no ko).ownBlock = some k → k < w6.heap.size) := ⟨HLo6.out.row.lt, fun k hk => (HLo6.out.ro.lt k hk).2⟩
        have HBs := Lib.hid HLo6.out.bel.size
        clear hb7 hm7 hmb hmg HNw HCe
        obtain ⟨c0, c1, c2, c3, c4, c5⟩ := lo_cells HLo7.out HC.out
        go_wp2_with fail
        (with_reducible refine (HWd.out _).mono ?_)
        rintro e w8 ⟨rfl, hb8⟩
        have HLo8 := Lib.hid (HLo7.out.on hb8)
        have HM8 := Lib.hid (HM7.out.on hb8)
        have HSt := Lib.hid (store_any A (V : Int) w8 HM8.out (by show 0 + 1 ≤ 1000000000000; omega))
        clear hb8 HWd c0 c1 c2 c3 c4 c5
        go_wp2_with fail
        (with_reducible refine HSt.out.mono ?_)
        rintro e w9 ⟨rfl, hm9, ht9⟩
        obtain ⟨m1, hm1⟩ : ∃ m1, (PM.new KK).store A (V : Int) = m1 := ⟨_, rfl⟩
        rw [hm1] at hm9
        have hlam := la_mem (V := V) HTh.out (by rw [← HKA.out.2.2]; exact pk_lt hh hh)
        rw [HKA.out.1, HKA.out.2.1, hm1] at hlam
        have hne9 : ∀ k, (k = cb ∨ (Value.slice po no ko).ownBlock = some k) → ¬ Own mb mg k := fun k hk e => by
          have h1 := HLt6.out
          have h2 := HGe.out
          have h3 : k < w6.heap.size := by
            rcases hk with hk | hk
            · rw [hk]; exact h1.1
            · exact h1.2 k hk
          rcases e with e | e <;> omega
        have hr9 := HLo8.out.row.tch ht9 (hne9 cb (.inl rfl))
        have ho9 := HLo8.out.ro.tch ht9 (fun k hk => hne9 k (.inr hk))
        have hge : w.heap.size ≤ mb ∧ w.heap.size ≤ mg := ⟨Nat.le_trans HBs.out HGe.out.1, Nat.le_trans HBs.out HGe.out.2⟩
        have hb9 := HLo8.out.bel.trans (ht9.below HLo8.out.bel.size (fun k hk => by rcases hk with hk | hk <;> omega))
        have HNL : Hid (Calls Try.prog 24 #[.agg #[.int .i64 N, .int .i64 Q, .int .i64 G, .int .i64 M, .int .i64 T, .int .i64 U], .int .i64 P, .slice po no ko] w9 (MadeL E.Is (newL C P own) w9)) := by
          have := E.new_any C P (.slice po no ko) own w9 (ho9.sl (by have := HNo.out; omega) (fun _ _ h => h)) (by have := HNo.out; omega)
          rw [HC.out] at this ⊢
          exact this
        have HR9 := Lib.hid hr9
        have HO9 := Lib.hid ho9
        have HB9 := Lib.hid hb9
        have HM9 := Lib.hid hm9
        have HLam := Lib.hid hlam
        have HNe := Lib.hid hne9
        have HGw := Lib.hid hge
        have HPos := Lib.hid HLo8.out.pos
        have HLe := Lib.hid HLo8.out.le
        have hcl := cf_cells hr9
        rw [HC.out] at hcl
        obtain ⟨c0, c1, c2, c3, c4, c5⟩ := hcl
        simp only at c0 c1 c2 c3 c4 c5
        clear hm9 ht9 hlam hne9 hr9 ho9 hge hb9 hm1 HLo HLo6 HLo7 HLo8 HM7 HM8 HSt HLt6
        go_wp2_with fail
        (with_reducible refine HNL.out.mono ?_)
        rintro e w10 ⟨xb, S', rfl, i1, i2, i3⟩
        have HLQ : Hid (LQ E w w10 cb C (.slice po no ko) own xb mb mg (newL C P own) m1) := by
          refine ⟨PXL.made HM9.out HLam.out.1.u HB9.out HGw.out (fun k hk => ?_) i1.out i2.out i3.out, HR9.out.on' i3.out, HO9.out.on i3.out⟩
          rcases hk with hk | hk | hk
          · rw [hk]; exact ⟨HR9.out.lt, HNe.out cb (.inl rfl)⟩
          · exact ⟨(HO9.out.lt k hk).2, HNe.out k (.inr hk)⟩
          · cases hk
        have HLT : Hid (LT C P own h 0 (newL C P own) m1) := by
          refine ⟨by rw [HLam.out.2.2]; omega, fun h0 => la_start HTh.out HPos.out hh HLam.out.1 (by rw [HLam.out.2.1, ← HKA.out.2.2]) ⟨List.length_pos_iff.2 h0, HLe.out⟩, fun h0 => ⟨rfl, ?_, ?_, HLam.out.2.2⟩⟩
          · rw [newL_own HTh.out HPos.out]; exact h0
          · rw [newL_own HTh.out HPos.out]; exact Nat.succ_ne_zero _
        clear c0 c1 c2 c3 c4 c5 i1 i2 i3 HNL HR9 HO9 HB9 HM9 HNe
        go_wp2_with fail
        go_loopw [13] (fun v W => ∃ (i : Nat) (x : LS) (mm : PM), i ≤ 10 ∧ v = .int .i64 ((i : Int) + 1) ∧ Hid (LQ E w W cb C (.slice po no ko) own xb mb mg x mm) ∧ Hid (LT C P own h i x mm)) (fun v _ => 200 - (intOf v).toNat)
        case atStart => exact ⟨0, _, m1, by omega, rfl, HLQ, HLT⟩
        case round =>
          obtain ⟨i, x, mm, hi10, rfl, HLq, HLt⟩ := hrel
          clear HLQ HLT
          obtain ⟨M', hM'⟩ : ∃ M', (stepL x mm).2 = M' := ⟨_, rfl⟩
          obtain ⟨X, hX⟩ : ∃ X, (stepL x mm).1 = X := ⟨_, rfl⟩
          have hwi : IntKind.i64.wrap ((i : Int) + 1 + 1) = (i : Int) + 1 + 1 := IntWalk.i64_in _ (by omega)
          have hi200 : (i : Int) + 1 < 200 := by omega
          have hopm : mm.k.ops + 1 ≤ 1000000000 := by have := HLt.out.1; omega
          by_cases hown : own = []
          · obtain ⟨hi0, hxl, hxa, hxo⟩ := HLt.out.2.2 hown
            have hst := layE hxa hxl mm
            have hXa : X.a = 0 := by rw [← hX, hst]
            have hMM : M' = mm := by rw [← hM', hst]
            have HSt := Lib.hid (HLq.out.px.step hopm hX hM' (decide_eq_true hXa))
            have HOp : Hid (M'.k.ops = 1) := by rw [hMM]; exact hxo
            have hno0 : no = 0 := by rw [HNo.out, hown]; rfl
            subst hi0
            subst hno0
            clear hst hXa hMM hX hM' hxl hxa hxo hown
            go_wp2_with (first
              | (go_at_call 29; (with_reducible refine HSt.out.mono ?_); rintro e y1 ⟨rfl, hpx, htc⟩; have HL1 := Lib.hid (HLq.out.stp hpx.out htc.out); have HOy := Lib.hid (ops_any HL1.out.px.mem); rw [HOp.out] at HOy; clear hpx htc)
              | (go_at_call 20; (with_reducible refine HOy.out.mono ?_); rintro e y2 ⟨rfl, hb2⟩; have HB2 := Lib.hid (HL1.out.px.bel.trans (hb2.mono HL1.out.px.bel.size)); clear hb2)
              | (go_at_call 9; (with_reducible refine (HWk.out _).mono ?_); rintro e y3 ⟨rfl, hb3⟩; have HB3 := Lib.hid (HB2.out.trans (hb3.mono HB2.out.size)); clear hb3))
            go_ret
            exact ⟨rfl, HB3.out⟩
          · have hls := (HLt.out.2.1 hown).step
            rw [hX, hM'] at hls
            have hopX : M'.k.ops ≤ 2 + i := by
              have h1 := lay_ops x mm HLq.out.px.ok HLq.out.px.u
              rw [hM'] at h1
              have := HLt.out.1
              omega
            have hno1 : ¬ ((no : Int) = 0) := by have h1 := List.length_pos_iff.2 hown; have := HNo.out; omega
            have hiln : i ≤ no + 1 := by rcases hls with ⟨h1, -⟩ | ⟨h1, -⟩ <;> (have := HNo.out; omega)
            rcases hls with ⟨hil, hXa, hLI⟩ | ⟨hil, hXa, hXl, hXr, hXm⟩
            · have HSt := Lib.hid (HLq.out.px.step hopm hX hM' (decide_eq_false hXa))
              have HLI : Hid (LT C P own h (i + 1) X M') := ⟨by omega, fun _ => hLI, fun e => absurd e hown⟩
              clear hXa hX hM' hLI hown
              go_wp2_with (go_at_call 29; (with_reducible refine HSt.out.mono ?_); rintro e y1 ⟨rfl, hpx, htc⟩; have HL1 := Lib.hid (HLq.out.stp hpx.out htc.out); clear hpx htc)
              go_roundw
              case rel => exact ⟨i + 1, X, M', by have := HNo.out; omega, by go_num, HL1, HLI⟩
              case measure =>
                show _ < _
                simp only [intOf]; omega
            · have HSt := Lib.hid (HLq.out.px.step hopm hX hM' (decide_eq_true hXa))
              have HX := Lib.hid (And.intro hXl (And.intro hXr hXm))
              have hsteps : (i : Int) + 1 = (no : Int) + 2 := by have := HNo.out; omega
              have hwn : IntKind.i64.wrap ((no : Int) + 2) = (no : Int) + 2 := IntWalk.i64_in _ (by omega)
              clear hXa hX hM' hXl hXr hXm hown
              go_wp2_with (first
                | (go_at_call 29; (with_reducible refine HSt.out.mono ?_); rintro e y1 ⟨rfl, hpx, htc⟩; have HL1 := Lib.hid (HLq.out.stp hpx.out htc.out); have HHa := Lib.hid HL1.out.px.hands; rw [HX.out.1] at HHa; clear hpx htc)
                | (go_at_call 26; (with_reducible refine HHa.out.mono ?_); rintro e y2 ⟨p2, n2, k2, rfl, hn2, -, hb2⟩; obtain rfl : n2 = 0 := hn2.out; have HL2 := Lib.hid (HL1.out.on hb2); have HRi := Lib.hid (lq_ring HL2.out HC.out HX.out.2.2 HX.out.2.1); obtain ⟨c0, c1, c2, c3, c4, c5⟩ := lq_cells HL2.out HC.out; clear hn2 hb2)
                | (go_at_call 32; (with_reducible refine HRi.out.mono ?_); rintro e y3 ⟨p3, n3, k3, rfl, hn3, hO3, hb3⟩; have HL3 := Lib.hid (HL2.out.on hb3); have HSm := Lib.hid (same_two hO3 HL3.out.ro (by have := HNo.out; omega)); clear hn3 hO3 hb3 c0 c1 c2 c3 c4 c5)
                | (go_at_call 17; (with_reducible refine HSm.out.mono ?_); rintro e y4 ⟨rfl, hb4⟩; have HB4 := Lib.hid (HL3.out.px.bel.trans (hb4.mono HL3.out.px.bel.size)); clear hb4)
                | (go_at_call 9; (with_reducible refine (HWk.out _).mono ?_); rintro e y5 ⟨rfl, hb5⟩; have HB5 := Lib.hid (HB4.out.trans (hb5.mono HB4.out.size)); clear hb5))
              go_ret
              exact ⟨rfl, HB5.out⟩
end Go.Proofs.Ytgfddkddacigfaa
