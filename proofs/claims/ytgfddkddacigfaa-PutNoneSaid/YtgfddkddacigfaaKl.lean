/- The law PutKeeps (layer 9), walked. -/
import Derived.Test.YtgfddkddacigfaaKs
import Derived.Test.YtgfddkddacigfaaLw
import Derived.Test.YtgfddkddacigfaaDm
import Derived.LoopTactic
import Derived.Deep.DeepCutAuto
import Derived.Deep.CutBlock
set_option linter.unusedSimpArgs false
set_option linter.unusedVariables false
namespace Go.Proofs.Ytgfddkddacigfaa
open Go.RowKit Go.Cg Go.Pu Go.Wd Go.Ce

/-- bytes that came in, of whatever length; known where they are few -/
def InBy (w : World) (v : Value) (bs : List Int) : Prop := ∃ p n c, v = .slice p n c ∧ n = bs.length ∧ n ≤ 9223372036854775807 ∧ (n ≤ 1000 → Byts w p bs)
theorem InBy.on {w w' : World} {v : Value} {bs : List Int} (h : InBy w v bs) (hb : Below w.heap.size w w') : InBy w' v bs := by
  obtain ⟨p, n, c, h1, h2, h3, h4⟩ := h
  exact ⟨p, n, c, h1, h2, h3, fun hn => (h4 hn).on hb⟩
theorem cf_put {w : World} {b : Nat} {t : TypeId} {c0 : Cfg} (h : Row b t (cCells c0) w) (c : Cfg) : ∃ W, ((((((w.setCell ⟨b, 0, none⟩ (.int .i64 c.n)).setCell ⟨b, 1, none⟩ (.int .i64 c.q)).setCell ⟨b, 2, none⟩ (.int .i64 c.g)).setCell ⟨b, 3, none⟩ (.int .i64 c.m)).setCell ⟨b, 4, none⟩ (.int .i64 c.t)).setCell ⟨b, 5, none⟩ (.int .i64 c.s)) = W ∧ Row b t (cCells c) W ∧ Tch (fun k => k = b) w W := by
  have tset (b o : Nat) (v : Value) (w : World) : Tch (fun k => k = b) w (w.setCell ⟨b, o, none⟩ v) := (Tch.refl (fun k => k = b) w).setCell (p := ⟨b, o, none⟩) (.inl rfl) _
  exact ⟨_, rfl, ((((((h.set 0 (.int .i64 c.n)).set 1 (.int .i64 c.q)).set 2 (.int .i64 c.g)).set 3 (.int .i64 c.m)).set 4 (.int .i64 c.t)).set 5 (.int .i64 c.s)), (((((tset b 0 _ _).trans (tset b 1 _ _)).trans (tset b 2 _ _)).trans (tset b 3 _ _)).trans (tset b 4 _ _)).trans (tset b 5 _ _)⟩
theorem cf_cells {W : World} {b : Nat} {t : TypeId} {c : Cfg} (h : Row b t (cCells c) W) : W.cell? ⟨b, 0, none⟩ = some (.int .i64 c.n) ∧ W.cell? ⟨b, 1, none⟩ = some (.int .i64 c.q) ∧ W.cell? ⟨b, 2, none⟩ = some (.int .i64 c.g) ∧ W.cell? ⟨b, 3, none⟩ = some (.int .i64 c.m) ∧ W.cell? ⟨b, 4, none⟩ = some (.int .i64 c.t) ∧ W.cell? ⟨b, 5, none⟩ = some (.int .i64 c.s) := ⟨h.cell 0, h.cell 1, h.cell 2, h.cell 3, h.cell 4, h.cell 5⟩
theorem cf_frozen {W : World} {b : Nat} {t : TypeId} {c : Cfg} (h : Row b t (cCells c) W) : W.frozen? ⟨b, 0, none⟩ = false ∧ W.frozen? ⟨b, 1, none⟩ = false ∧ W.frozen? ⟨b, 2, none⟩ = false ∧ W.frozen? ⟨b, 3, none⟩ = false ∧ W.frozen? ⟨b, 4, none⟩ = false ∧ W.frozen? ⟨b, 5, none⟩ = false := ⟨h.frozen 0, h.frozen 1, h.frozen 2, h.frozen 3, h.frozen 4, h.frozen 5⟩
theorem ps_g {c : Cfg} {p g : Int} {a w : Nat} {t h : List Int} {X : PS} (hX : X = ⟨c, p, g, a, w, t, h⟩) : X.g = g := by subst hX; rfl
theorem step_g (x : PS) (m : PM) : (stepP x m).1.g = x.g := by
  obtain ⟨⟨X, M⟩, hXM⟩ : ∃ P, stepP x m = P := ⟨_, rfl⟩
  rw [hXM]
  show X.g = x.g
  by_cases h1 : x.a = 1
  · exact ps_g (congrArg Prod.fst (hXM.symm.trans (step1 h1 m)))
  · by_cases h2 : x.a = 2
    · exact ps_g (congrArg Prod.fst (hXM.symm.trans (step2 h2 m)))
    · by_cases h3 : x.a = 3
      · have e : X = _ := congrArg Prod.fst (hXM.symm.trans (step3 h3 m))
        by_cases hh : m.hit x.wa x.w
        · simp only [if_pos hh] at e
          exact ps_g e
        · simp only [if_neg hh] at e
          exact ps_g e
      · by_cases h4 : x.a = 4
        · exact ps_g (congrArg Prod.fst (hXM.symm.trans (step4 h4 m)))
        · by_cases h5 : x.a = 5
          · have e : X = _ := congrArg Prod.fst (hXM.symm.trans (step5 h5 m))
            by_cases hh : m.hit x.wa x.w
            · simp only [if_pos hh] at e
              exact ps_g e
            · simp only [if_neg hh] at e
              exact ps_g e
          · unfold stepP at hXM
            rw [if_neg h1, if_neg h2, if_neg h3, if_neg h4, if_neg h5] at hXM
            have e : x = X := congrArg Prod.fst hXM
            rw [e]
theorem step_ops (x : PS) (m : PM) (hok : x.Ok) (hu : U64 m) : (stepP x m).2.k.ops ≤ m.k.ops + 1 := (step_ok hok hu).2.2.2.2
theorem thief_ops (c : Cfg) (p : Int) (m : PM) (most : Nat) : (thiefM c p m most).k.ops ≤ m.k.ops + 2 := by
  unfold thiefM
  split
  · omega
  · have h1 := (mem_load m (aW c p)).2.2
    have h2 := (mem_store (m.load (aW c p)) (aW c p) (gainW (wdN c p m) (thN (rng c p m) most))).2.2
    omega
theorem kz_flag {C : Cfg} {N Q G M T U n : Nat} {l : List Int} (hC : C = ⟨N, Q, G, M, T, U⟩) (hn : n = l.length) : ((n : Int) == (Q : Int)) = decide (l.length = C.q.toNat) := by
  subst hC
  show decide ((n : Int) = (Q : Int)) = decide (l.length = (Q : Int).toNat)
  exact decide_eq_decide.2 (by omega)
theorem sameB_self (l : List Int) : sameB l l = true := by simp [sameB]
theorem ne_row {B cb : Nat} {cs : List Value} {W : World} {v : Value} {xs : List Int} (h : Row cb 23 cs W) (hn : NewRow B W v xs) : v.ownBlock ≠ some cb := by
  intro e
  rcases hn.2 with ⟨hv, _⟩ | ⟨g, cap, cur, hv, hB, hg, r⟩
  · rw [hv] at e; cases e
  · rw [hv] at e
    have e2 : g = cb := by simpa [Value.ownBlock] using e
    rw [e2] at hg
    unfold Row at h
    rw [h] at hg
    injection hg with hg
    injection hg with _ ht
    exact absurd ht (by decide)
theorem row_q {cb : Nat} {W : World} {c : Cfg} {N Q G M T U : Nat} (h : Row cb 23 (cCells c) W) (hC : c = ⟨N, Q, G, M, T, U⟩) : W.cell? ⟨cb, 1, none⟩ = some (.int .i64 Q) := by subst hC; exact h.cell 1
/-- the whole row and the first one, both grown, where the second of both has just grown -/
theorem tail_rows {D : PutApi} {w0 Wa W W' : World} {cb pb mb mg : Nat} {c : Cfg} {x : PS} {m : PM} {was gone xs : List Int} {vw vg va : Value} {arr : Array Value} {t : TypeId} (h : KS D w0 Wa cb c pb mb mg x m was gone vw vg) (hb : Below Wa.heap.size Wa W) (hr : NewRow Wa.heap.size W va xs) (hg : (W.alloc (.cells arr t)).grownBy W' vw.ownBlock) : NewRow Wa.heap.size W' va xs ∧ Below w0.heap.size w0 W' ∧ Row cb 23 (cCells c) W' := by
  have hcw := ne_row h.row h.rw
  have hwl := h.rw.lt
  have hal := (Below.refl W.heap.size W).alloc (Nat.le_refl _) (.cells arr t)
  have hra := hr.on hal
  have ht := grown_tch hg
  have hrl := hra.lt
  exact ⟨hra.tch ht (fun k hk e => by have h1 := (hwl k e).2; have h2 := (hrl k hk).1; omega), (h.on hb).bel.trans ((hal.mono (h.on hb).bel.size).trans (ht.below (Nat.le_trans (h.on hb).bel.size hal.size) (fun k e => (hwl k e).1))), ((h.on hb).row.on' hal).tch ht (fun e => hcw e)⟩
theorem tail_same {Ba Bb : Nat} {W : World} {was gone rn ov : List Int} {va vb : Value} (hall : gone ++ rn ++ ov = was ++ [999]) (hl : gone.length ≤ 1000 ∧ rn.length ≤ 1000 ∧ ov.length ≤ 1000) (hw : was.length ≤ 8) (ha : NewRow Ba W va (gone ++ rn ++ ov)) (hb : NewRow Bb W vb (was ++ [999])) : Calls Try.prog 17 #[va, vb] W (Ans (.bool true) W) := by
  have h1 : SlIs (fun _ => False) W va (gone ++ rn ++ ov) := ha.sl (by rw [List.length_append, List.length_append]; omega) (fun _ _ h => h)
  have h2 : SlIs (fun _ => False) W vb (was ++ [999]) := hb.sl (by simp; omega) (fun _ _ h => h)
  have := sameints_gen _ _ va vb W h1 h2
  rw [hall, sameB_self] at this
  exact this
def KA (c : Cfg) (p : Int) (was gone : List Int) (x : PS) (m : PM) (i : Nat) : Prop := KI c p was gone x m ∧ x.g = 999 ∧ muN c p x m + i ≤ 60 ∧ m.k.ops ≤ 600 + 4 * i
def KZ (c : Cfg) (p : Int) (was gone : List Int) (x : PS) (m : PM) (f : Bool) : Prop := ∃ x0 m0, KD c p was gone x0 x m0 m ∧ x0.g = 999 ∧ f = decide ((rng c p m0).length = c.q.toNat)
def KAZ (c : Cfg) (p : Int) (was gone : List Int) (x : PS) (m : PM) (i : Nat) (f d : Bool) : Prop := if d = true then KZ c p was gone x m f else KA c p was gone x m i
theorem ks_cells {D : PutApi} {w0 W : World} {cb pb mb mg : Nat} {c : Cfg} {x : PS} {m : PM} {was gone : List Int} {vw vg : Value} {N Q G M T U : Nat} (h : KS D w0 W cb c pb mb mg x m was gone vw vg) (hC : c = ⟨N, Q, G, M, T, U⟩) : W.cell? ⟨cb, 0, none⟩ = some (.int .i64 N) ∧ W.cell? ⟨cb, 1, none⟩ = some (.int .i64 Q) ∧ W.cell? ⟨cb, 2, none⟩ = some (.int .i64 G) ∧ W.cell? ⟨cb, 3, none⟩ = some (.int .i64 M) ∧ W.cell? ⟨cb, 4, none⟩ = some (.int .i64 T) ∧ W.cell? ⟨cb, 5, none⟩ = some (.int .i64 U) := by
  have := cf_cells h.row
  rw [hC] at this
  exact this
/-- what Ring answers of the state -/
theorem ks_ring {D : PutApi} {w0 W : World} {cb pb mb mg : Nat} {c : Cfg} {x : PS} {m : PM} {was gone : List Int} {vw vg : Value} {N Q G M T U P : Nat} (h : KS D w0 W cb c pb mb mg x m was gone vw vg) (hC : c = ⟨N, Q, G, M, T, U⟩) (hm : Mk c P m) : ∀ W1, Below W.heap.size W W1 → Calls Try.prog 32 #[.agg #[.int .i64 N, .int .i64 Q, .int .i64 G, .int .i64 M, .int .i64 T, .int .i64 U], pptr mb, .int .i64 P] W1 (RowPost8 (rng c P m) W1) := fun W1 hb => by
  subst hC
  exact ring_any N Q G M T U P hm (h.px.mem.on hb)
set_option maxRecDepth 20000 in
set_option maxHeartbeats 4000000 in
theorem keeps_any (D : PutApi) (c : Cfg) (p : Int) (vb vt : Value) (bs ts : List Int) (w : World) (hc : ∀ z ∈ [c.n, c.q, c.g, c.m, c.t, c.s], -9223372036854775808 ≤ z ∧ z ≤ 9223372036854775807) (hp : -9223372036854775808 ≤ p ∧ p ≤ 9223372036854775807) (hb : InBy w vb bs) (ht : InBy w vt ts) :
    Calls Try.prog 5 #[cVal c, .int .i64 p, vb, vt] w (Ans (.bool true) w) := by
  obtain ⟨pb, nb, kb, rfl, hnb, hnb2, hby⟩ := hb
  obtain ⟨pt, nt, kt, rfl, hnt, hnt2, hty⟩ := ht
  have HWk := Lib.hid (fun W => works_any D W)
  obtain ⟨n, q, g, m, t, s⟩ := c
  have HMade := Lib.hid (fun W => made_any n q g m t s hc W)
  have hbx := (Below.refl w.heap.size w).alloc (Nat.le_refl _) (.cells (cCells ⟨n, q, g, m, t, s⟩).toArray 23)
  have hrx := Row.new w 23 (cCells ⟨n, q, g, m, t, s⟩)
  show Calls _ _ #[.agg #[.int .i64 n, .int .i64 q, .int .i64 g, .int .i64 m, .int .i64 t, .int .i64 s], .int .i64 p, .slice pb nb kb, .slice pt nt kt] _ _
  obtain ⟨W1, hW1⟩ : ∃ W1, w.alloc (.cells #[.int .i64 n, .int .i64 q, .int .i64 g, .int .i64 m, .int .i64 t, .int .i64 s] 23) = W1 := ⟨_, rfl⟩
  change Below w.heap.size w (w.alloc (.cells #[.int .i64 n, .int .i64 q, .int .i64 g, .int .i64 m, .int .i64 t, .int .i64 s] 23)) at hbx
  change Row w.heap.size 23 (cCells ⟨n, q, g, m, t, s⟩) (w.alloc (.cells #[.int .i64 n, .int .i64 q, .int .i64 g, .int .i64 m, .int .i64 t, .int .i64 s] 23)) at hrx
  rw [hW1] at hbx hrx
  have HB1 := Lib.hid hbx
  have HR1 := Lib.hid hrx
  have HBy := Lib.hid hby
  have HTy := Lib.hid hty
  have HNb := Lib.hid hnb
  have HNt := Lib.hid hnt
  clear hbx hrx hby hty hc hnb hnt
  by_cases hb40 : 40 < nb
  · have hb40' : (40 : Int) < nb := by omega
    go_enter Try.func5, Try.ntmps5
    go_wp2_with (go_at_call 9; (with_reducible refine (HWk.out _).mono ?_); rintro e w1 ⟨rfl, hb⟩)
    go_ret
    exact ⟨rfl, HB1.out.trans (hb.mono HB1.out.size)⟩
  by_cases ht40 : 40 < nt
  · have ht40' : (40 : Int) < nt := by omega
    go_enter Try.func5, Try.ntmps5
    go_wp2_with (go_at_call 9; (with_reducible refine (HWk.out _).mono ?_); rintro e w1 ⟨rfl, hb⟩)
    go_ret
    exact ⟨rfl, HB1.out.trans (hb.mono HB1.out.size)⟩
  obtain ⟨c0, c1, c2, c3, c4, c5⟩ := cf_cells HR1.out
  simp only at c0 c1 c2 c3 c4 c5
  go_enter Try.func5, Try.ntmps5
  go_upto_region 3 with (fail)
  clear hW1
  go_wp2_with fail
  (with_reducible refine (HMade.out _).mono ?_)
  rintro e w3 ⟨N, Q, G, M, T, U, rfl, HS, hb3⟩
  have hr3 := HR1.out.on' hb3.out
  have HB3 := Lib.hid (HB1.out.trans (hb3.out.mono HB1.out.size))
  clear c0 c1 c2 c3 c4 c5 hb3 HB1 HR1 HMade
  obtain ⟨cb, hcb⟩ : ∃ cb, w.heap.size = cb := ⟨_, rfl⟩
  rw [hcb] at hr3
  have HR3 := Lib.hid hr3
  have HCB := Lib.hid hcb
  obtain ⟨c0, c1, c2, c3, c4, c5⟩ := cf_cells hr3
  obtain ⟨f0, f1, f2, f3, f4, f5⟩ := cf_frozen hr3
  simp only at c0 c1 c2 c3 c4 c5
  clear hr3
  obtain ⟨W4, hW4, hr4, ht4⟩ := cf_put HR3.out ⟨N, Q, G, M, T, U⟩
  simp only at hW4
  have hb4 := HB3.out.trans (ht4.below HB3.out.size (fun k hk => by rw [hk, ← HCB.out]; exact Nat.le_refl _))
  have HR4 := Lib.hid hr4
  have HB4 := Lib.hid hb4
  go_upto_region 4 with (fail)
  clear hW4 hb4 ht4 c0 c1 c2 c3 c4 c5 f0 f1 f2 f3 f4 f5 HR3 HB3
  have hSm := HS.out
  obtain ⟨P, hP, HPk⟩ := pick_det p N hp ⟨hSm.n.1, by have := hSm.n.2; omega⟩
  have hth : Right (⟨N, Q, G, M, T, U⟩ : Cfg) ∧ 0 ≤ (P : Int) ∧ (P : Int) < (⟨N, Q, G, M, T, U⟩ : Cfg).n := ⟨hSm.right, by omega, by show (P : Int) < (N : Int); omega⟩
  have HTh := Lib.hid hth
  clear hP hth
  obtain ⟨c0, c1, c2, c3, c4, c5⟩ := cf_cells hr4
  simp only at c0 c1 c2 c3 c4 c5
  clear hr4
  go_upto_region 5 with (go_at_call 31; (with_reducible refine (HPk.out _).mono ?_); rintro e w5 ⟨rfl, rfl⟩)
  have HF := Lib.hid (filled_any ⟨N, Q, G, M, T, U⟩ pb kb bs (by have := HNb.out; omega) w5 ((HBy.out (by omega)).on HB4.out))
  rw [← HNb.out] at HF
  change Hid (Calls Try.prog 11 #[.agg #[.int .i64 N, .int .i64 Q, .int .i64 G, .int .i64 M, .int .i64 T, .int .i64 U], .slice pb nb kb] w5 _) at HF
  go_wp2_with fail
  (with_reducible refine HF.out.mono ?_)
  rintro e w6 ⟨zs, zg, rfl, hf, hz, hb6⟩
  have hzl : zs.length ≤ 564 := by rw [hf.len]; exact ccN_le _
  have HDm := Lib.hid (dm_any (some ⟨zg, 0, none⟩) zs.length zs w6 hz (by omega))
  have HFo := Lib.hid hf
  have HR6 := Lib.hid (HR4.out.on' hb6)
  have HB6 := Lib.hid (HB4.out.trans (hb6.mono HB4.out.size))
  have HZl := Lib.hid hzl
  clear hf hz hb6 hzl HF HR4 HB4 c0 c1 c2 c3 c4 c5
  go_wp2_with fail
  (with_reducible refine HDm.out.mono ?_)
  rintro e w7 ⟨mb, mg, rq, rl, rc, m0, rfl, hmr, hops, hcs⟩
  have HR7 := Lib.hid (HR6.out.on' hmr.so.bel)
  have hu0 : U64 m0 := fun z hz => HFo.out.u z (by rw [← hcs]; exact hz)
  have hMk : Mk ⟨N, Q, G, M, T, U⟩ P m0 := ⟨HTh.out, by rw [hcs]; exact HFo.out.len, hu0⟩
  have hsz : ln (wdN ⟨N, Q, G, M, T, U⟩ P m0) ≤ Q := by
    have := HFo.out.w P HTh.out
    unfold wdN PM.at
    rw [hcs]
    exact this
  have HMk := Lib.hid hMk
  have HSz := Lib.hid hsz
  have HOps : Hid (m0.k.ops ≤ 564) := Nat.le_trans hops HZl.out
  have HMm := Lib.hid hmr.so.mem
  have HB7 := Lib.hid (HB6.out.trans (hmr.so.bel.mono HB6.out.size))
  have HGe : Hid (w.heap.size ≤ mb ∧ w.heap.size ≤ mg) := ⟨Nat.le_trans HB6.out.size hmr.so.b, Nat.le_trans HB6.out.size hmr.so.g⟩
  have HNeq : Hid (cb ≠ mb ∧ cb ≠ mg) := by
    have h1 := HR6.out.lt
    have h2 := hmr.so.b
    have h3 := hmr.so.g
    exact ⟨by omega, by omega⟩
  clear hmr hops hcs hu0 hMk hsz HDm HR6 HB6 HFo HZl
  go_upto_region 6 with (fail)
  have hba := (Below.refl w7.heap.size w7).alloc (Nat.le_refl _) (.cells #[.slice rq rl rc, .int .u64 (m0.k.ops : Nat)] 31)
  obtain ⟨W8, hW8⟩ : ∃ W8, w7.alloc (.cells #[.slice rq rl rc, .int .u64 (m0.k.ops : Nat)] 31) = W8 := ⟨_, rfl⟩
  rw [hW8] at hba ⊢
  obtain ⟨C, hC⟩ : ∃ C : Cfg, C = ⟨N, Q, G, M, T, U⟩ := ⟨_, rfl⟩
  rw [← hC] at HR7 HMk HSz HTh
  have HC := Lib.hid hC
  have HR8 := Lib.hid (HR7.out.on' hba)
  have HM8 := Lib.hid (HMm.out.on hba)
  have HB8 := Lib.hid (HB7.out.trans (hba.mono HB7.out.size))
  have HRi : Hid (∀ W1, Below W8.heap.size W8 W1 → Calls Try.prog 32 #[.agg #[.int .i64 N, .int .i64 Q, .int .i64 G, .int .i64 M, .int .i64 T, .int .i64 U], pptr mb, .int .i64 P] W1 (RowPost8 (rng C P m0) W1)) := fun W1 hb => by
    have := HMk.out
    rw [HC.out] at this ⊢
    exact ring_any N Q G M T U P this (HM8.out.on hb)
  have hcl := cf_cells HR8.out
  rw [HC.out] at hcl
  obtain ⟨c0, c1, c2, c3, c4, c5⟩ := hcl
  simp only at c0 c1 c2 c3 c4 c5
  clear hW8 hba hC HR7 HMm HB7
  go_wp2_with fail
  (with_reducible refine (HRi.out _ (Below.refl _ _)).mono ?_)
  rintro e w9 ⟨pw, nw, kw, rfl, hnw, hOw, hb9⟩
  obtain ⟨was, hwas⟩ : ∃ was, rng C P m0 = was := ⟨_, rfl⟩
  rw [hwas] at hnw hOw
  have HWas := Lib.hid hwas
  have HNw := Lib.hid hnw
  have HR9 := Lib.hid (HR8.out.on' hb9)
  have HM9 := Lib.hid (HM8.out.on hb9)
  have HB9 := Lib.hid (HB8.out.trans (hb9.mono HB8.out.size))
  have HOw := Lib.hid (hOw.base HB8.out.size)
  have hnwq : Hid (∀ k, (Value.slice pw nw kw).ownBlock = some k → k < w9.heap.size ∧ ¬ Own mb mg k) := fun k hk => by
    have h1 := hOw.lt k hk
    have h2 := HM8.out.lt
    exact ⟨h1.2, fun e => by rcases e with e | e <;> omega⟩
  have HNew : Hid (Calls Try.prog 12 #[.agg #[.int .i64 N, .int .i64 Q, .int .i64 G, .int .i64 M, .int .i64 T, .int .i64 U], .int .i64 P, .int .i64 999] w9 (MadeP D.Is (newP C P 999) w9)) := by
    rw [HC.out]; exact D.new_any ⟨N, Q, G, M, T, U⟩ P 999 w9
  clear hnw hwas hOw hb9 HR8 HM8 HB8 HRi c0 c1 c2 c3 c4 c5
  have hcl := cf_cells HR9.out
  rw [HC.out] at hcl
  obtain ⟨c0, c1, c2, c3, c4, c5⟩ := hcl
  simp only at c0 c1 c2 c3 c4 c5
  go_wp2_with fail
  (with_reducible refine HNew.out.mono ?_)
  rintro e w10 ⟨pb', S', rfl, i1, i2, i3⟩
  have hst := KI.start (g := 999) HMk.out (by rw [HC.out]; rw [HC.out] at HSz; exact HSz.out) (by omega)
  have HKS : Hid (KS D w w10 cb C pb' mb mg (newP C P 999) m0 was [] (.slice pw nw kw) (.slice none 0 0)) := by
    refine KS.start (PX.made HM9.out HMk.out.u HB9.out HGe.out (fun k hk => ?_) i1.out i2.out i3.out) (HR9.out.on' i3.out) (HOw.out.on i3.out) (by rw [← HCB.out]; exact Nat.le_refl _)
    rcases hk with hk | hk | hk
    · rw [hk]; exact ⟨HR9.out.lt, fun e => by rcases e with e | e; exact HNeq.out.1 e; exact HNeq.out.2 e⟩
    · exact hnwq.out k hk
    · cases hk
  have HKA : Hid (KA C P was [] (newP C P 999) m0 0) := by
    have h1 := hst.1
    rw [HWas.out] at h1
    refine ⟨h1, hst.2.1, ?_, Nat.le_trans HOps.out (by omega)⟩
    have h2 := hst.2.2
    have h3 := HSz.out
    have h4 := HS.out.q
    obtain ⟨L, hL⟩ : ∃ L, ln (wdN C P m0) = L := ⟨_, rfl⟩
    rw [hL] at h2 h3
    obtain ⟨mu, hmu⟩ : ∃ mu, muN C P (newP C P 999) m0 = mu := ⟨_, rfl⟩
    rw [hmu] at h2 ⊢
    have h5 : C.q.toNat = Q := by rw [HC.out]; rfl
    rw [h5] at h2
    have h6 : L * (Q / 2 + 2) ≤ Q * (Q / 2 + 2) := Nat.mul_le_mul_right _ h3
    rcases h4 with rfl | rfl | rfl <;> omega
  have HWl : Hid (was.length ≤ 8) := by
    have h1 := rng_length (c := C) (p := P) (m := m0) (by rw [HC.out]; have := HSz.out; rw [HC.out] at this; exact this)
    rw [HWas.out] at h1
    have h3 := HSz.out
    have h4 := HS.out.q
    show _ ≤ _
    rw [h1]
    obtain ⟨L, hL⟩ : ∃ L, ln (wdN C P m0) = L := ⟨_, rfl⟩
    rw [hL] at h3 ⊢
    omega
  clear hst HMk HSz HOps HM9 HB9 HR9 HOw hnwq HNew i1 i2 i3 c0 c1 c2 c3 c4 c5 HWas HNeq hSm hcb
  obtain ⟨c0, c1, c2, c3, c4, c5⟩ := ks_cells HKS.out HC.out
  go_wp2_with fail
  go_loopw [13, 14, 15, 16] (fun vg vf vd vi W => ∃ (i : Nat) (gone : List Int) (x : PS) (mm : PM) (pg : Option Addr) (ng kg : Nat) (f d : Bool), i ≤ 61 ∧ vg = .slice pg ng kg ∧ vf = .bool f ∧ vd = .bool d ∧ vi = .int .i64 i ∧ Hid (KS D w W cb C pb' mb mg x mm was gone (.slice pw nw kw) (.slice pg ng kg)) ∧ Hid (KAZ C P was gone x mm i f d)) (fun _ _ _ vi _ => 200 - (intOf vi).toNat)
  case atStart => exact ⟨0, [], _, m0, none, 0, 0, _, false, by omega, rfl, rfl, rfl, rfl, HKS, HKA⟩
  case round =>
    obtain ⟨i, gone, x, mm, pg, ng, kg, f, d, hi, rfl, rfl, rfl, rfl, HKs, HKz⟩ := hrel
    clear HKS HKA c0 c1 c2 c3 c4 c5
    obtain ⟨c0, c1, c2, c3, c4, c5⟩ := ks_cells HKs.out HC.out
    have hQ2 : Q = 2 ∨ Q = 4 ∨ Q = 8 := HS.out.q
    have hw1 : IntKind.i64.wrap ((Q : Int) * 20) = (Q : Int) * 20 := IntWalk.i64_in _ (by omega)
    have hw2 : IntKind.i64.wrap (60 + (Q : Int) * 20) = 60 + (Q : Int) * 20 := IntWalk.i64_in _ (by omega)
    have hlt : (i : Int) < 60 + (Q : Int) * 20 := by omega
    cases d with
    | true =>
      have HKz : Hid (KZ C P was gone x mm f) := HKz
      go_wp2_with fail
      clear hlt hw1 hw2
      obtain ⟨x0, mz, hKD, hg, hf⟩ := HKz.out
      have HRi := Lib.hid (ks_ring HKs.out HC.out hKD.mem)
      (with_reducible refine (HRi.out _ (Below.refl _ _)).mono ?_)
      rintro e y1 ⟨p1, n1, k1, rfl, hn1, hO1, hb1⟩
      have HOv := Lib.hid (HKs.out.px.on hb1).over
      have hall := hKD.all
      rw [hg] at hall
      have hrl : (rng C P mm).length ≤ Q := by
        have h1 := hKD.sz
        rw [rng_length h1]
        have h5 : C.q.toNat = Q := by rw [HC.out]; rfl
        rw [h5] at h1
        exact h1
      have hcut := hKD.cut
      have h5 : C.q.toNat = Q := by rw [HC.out]; rfl
      rw [h5] at hcut hf
      have hfd : x.over ≠ [] → f = true := fun h => by rw [hf]; exact decide_eq_true (hcut h).1
      obtain ⟨rn, hrn⟩ : ∃ rn, rng C P mm = rn := ⟨_, rfl⟩
      obtain ⟨ov, hov⟩ : ∃ ov, x.over = ov := ⟨_, rfl⟩
      rw [hrn] at hall hrl hcut hn1 hO1
      rw [hov] at hall hcut hfd HOv
      obtain rfl : n1 = rn.length := hn1.out
      have HKs1 := Lib.hid (HKs.out.on hb1)
      have HO1 := Lib.hid hO1
      have HB1 := Lib.hid hb1
      have HAll := Lib.hid (And.intro hall (And.intro hrl (And.intro hcut hfd)))
      clear hKD hg hf HKz HRi hrn hov hall hrl hcut hfd h5 hO1 hb1 c0 c1 c2 c3 c4 c5
      obtain ⟨c0, c1, c2, c3, c4, c5⟩ := ks_cells HKs1.out HC.out
      go_wp2_with fail
      (with_reducible refine HOv.out.mono ?_)
      rintro e y2 ⟨p2, n2, k2, rfl, hn2, hO2, hb2⟩
      obtain rfl : n2 = ov.length := hn2.out
      have HKs2 := Lib.hid (HKs1.out.on hb2)
      have HO1 := Lib.hid ((HO1.out.on hb2).base (show w.heap.size ≤ wr.heap.size from HKs.out.bel.size))
      have HO2 := Lib.hid (hO2.base (show w.heap.size ≤ y1.heap.size from HKs1.out.bel.size))
      clear hO2 hb2 HB1 HOv c0 c1 c2 c3 c4 c5
      obtain ⟨c0, c1, c2, c3, c4, c5⟩ := ks_cells HKs2.out HC.out
      obtain ⟨h2, hh2⟩ : ∃ h, Q / 2 = h := ⟨_, rfl⟩
      have hq2 : (Q : Int).tdiv 2 = (h2 : Int) := by rw [← hh2]; rfl
      have hw3 : IntKind.i64.wrap (h2 : Int) = h2 := IntWalk.i64_in _ (by omega)
      have hw4 : IntKind.i64.wrap ((h2 : Int) + 1) = (h2 : Int) + 1 := IntWalk.i64_in _ (by omega)
      have HH2 := Lib.hid hh2
      have HLn : Hid (gone.length ≤ 1000 ∧ rn.length ≤ 1000 ∧ ov.length ≤ 1000) := by
        have h1 := congrArg List.length HAll.out.1
        rw [List.length_append, List.length_append, List.length_append] at h1
        have h2 := HWl.out
        simp only [List.length_singleton] at h1
        show _ ∧ _ ∧ _
        omega
      have hn1q : ¬ (Q : Int) < rn.length := by have := HAll.out.2.1; omega
      have hn1q' : (rn.length : Int) ≤ Q := by omega
      by_cases hov0 : ov = []
      · clear hh2 hn1 hn2
        subst hov0
        go_upto_region 24 with (fail)
        have hk0 := HKs2.out
        have hz0 := hk0.rg
        have HBa := Lib.hid hk0.bel
        have HSg := Lib.hid (hk0.rg.sl (S := fun _ => False) (by have := HLn.out; omega) (fun _ _ h => h))
        have HSn := Lib.hid (HO1.out.sl (S := fun _ => False) (by have := HLn.out; omega) (fun _ _ h => h))
        have HSo := Lib.hid (HO2.out.sl (S := fun _ => False) (by have := HLn.out; omega) (fun _ _ h => h))
        clear hk0 hz0
        go_wp2_with (first
          | (at_builtin; first
            | ((refine append_new (R := fun _ => False) (B := y2.heap.size) _ rfl (.tmp 128) (.tmp 129) (by rfl) (.slice pg ng kg) (.slice none 0 0) [] gone (by kernel_rfl) (NewRow.nil _ _) (by kernel_rfl) HSg.out (by have := HLn.out; simp; omega) (Nat.le_refl _) ?_); intro v1 z1 r1 g1; obtain ⟨pa, na, ka, rfl, -⟩ := r1.form; have Hb1 := Lib.hid (nil_begun g1); have Hr1 := Lib.hid r1.begun; clear r1 g1)
            | ((refine append_new (R := fun _ => False) (B := y2.heap.size) _ rfl (.tmp 131) (.tmp 132) (by rfl) (.slice p1 rn.length k1) (.slice pa na ka) gone rn (by kernel_rfl) Hr1.out (by kernel_rfl) (HSn.out.on Hb1.out) (by have := HLn.out; omega) Hb1.out.size ?_); intro v2 z2 r2 g2; obtain ⟨pb2, nb2, kb2, rfl, -⟩ := r2.form; have Hb2 := Lib.hid (new_below Hr1.out Hb1.out Hb1.out.size g2); have Hr2 := Lib.hid r2; clear r2 g2)
            | ((refine append_new (R := fun _ => False) (B := y2.heap.size) _ rfl (.tmp 134) (.tmp 135) (by rfl) (.slice p2 0 k2) (.slice pb2 nb2 kb2) (gone ++ rn) [] (by kernel_rfl) Hr2.out (by kernel_rfl) (HSo.out.on Hb2.out) (by have := HLn.out; rw [List.length_append]; omega) Hb2.out.size ?_); intro v3 z3 r3 g3; obtain ⟨pc, nc, kc, rfl, -⟩ := r3.form; have Hb3 := Lib.hid (new_below Hr2.out Hb2.out Hb2.out.size g3); have Hr3 := Lib.hid r3; clear r3 g3)
            | ((refine append_new (R := fun _ => False) (B := w.heap.size) _ rfl (.tmp 138) (.tmp 139) (by rfl) (.slice (some ⟨_, 0, none⟩) 1 1) (.slice pw nw kw) was [999] (by kernel_rfl) (((HKs2.out.on Hb3.out).rw).on ((Below.refl _ _).alloc (Nat.le_refl _) _)) (by kernel_rfl) (sl_one 999 _ _ _ rfl id) (by have := HWl.out; simp; omega) (Nat.le_trans (HKs2.out.on Hb3.out).bel.size (by simp)) ?_); intro v4 z4 r4 g4; obtain ⟨pd, nd, kd, rfl, -⟩ := r4.form; have Hr4 := Lib.hid (And.intro r4 (tail_rows HKs2.out Hb3.out Hr3.out g4)); clear r4 g4))
          | (go_at_call 17; (with_reducible refine (tail_same HAll.out.1 HLn.out HWl.out Hr4.out.2.1 Hr4.out.1).mono ?_); rintro e z5 ⟨rfl, hb5⟩; have HB5 := Lib.hid (Hr4.out.2.2.1.trans (hb5.mono Hr4.out.2.2.1.size)); have e51 := row_q (Hr4.out.2.2.2.on' hb5) HC.out; clear hb5)
          | (go_at_call 9; (with_reducible refine (HWk.out _).mono ?_); rintro e z6 ⟨rfl, hb6⟩; have HB6 := Lib.hid (HB5.out.trans (hb6.mono HB5.out.size)); clear hb6))
        go_ret
        exact ⟨rfl, HB6.out⟩
      · obtain rfl : f = true := HAll.out.2.2.2 hov0
        have hc := HAll.out.2.2.1 hov0
        have h20 : (0 : Int) < ov.length := by have := List.length_pos_iff.2 hov0; omega
        have h21 : (ov.length : Int) = (h2 : Int) + 1 := by omega
        have h22 : (rn.length : Int) = (h2 : Int) := by omega
        clear hh2 hc hn1 hn2 hov0
        go_upto_region 24 with (fail)
        have hk0 := HKs2.out
        have hz0 := hk0.rg
        have HBa := Lib.hid hk0.bel
        have HSg := Lib.hid (hk0.rg.sl (S := fun _ => False) (by have := HLn.out; omega) (fun _ _ h => h))
        have HSn := Lib.hid (HO1.out.sl (S := fun _ => False) (by have := HLn.out; omega) (fun _ _ h => h))
        have HSo := Lib.hid (HO2.out.sl (S := fun _ => False) (by have := HLn.out; omega) (fun _ _ h => h))
        clear hk0 hz0
        go_wp2_with (first
          | (at_builtin; first
            | ((refine append_new (R := fun _ => False) (B := y2.heap.size) _ rfl (.tmp 128) (.tmp 129) (by rfl) (.slice pg ng kg) (.slice none 0 0) [] gone (by kernel_rfl) (NewRow.nil _ _) (by kernel_rfl) HSg.out (by have := HLn.out; simp; omega) (Nat.le_refl _) ?_); intro v1 z1 r1 g1; obtain ⟨pa, na, ka, rfl, -⟩ := r1.form; have Hb1 := Lib.hid (nil_begun g1); have Hr1 := Lib.hid r1.begun; clear r1 g1)
            | ((refine append_new (R := fun _ => False) (B := y2.heap.size) _ rfl (.tmp 131) (.tmp 132) (by rfl) (.slice p1 rn.length k1) (.slice pa na ka) gone rn (by kernel_rfl) Hr1.out (by kernel_rfl) (HSn.out.on Hb1.out) (by have := HLn.out; omega) Hb1.out.size ?_); intro v2 z2 r2 g2; obtain ⟨pb2, nb2, kb2, rfl, -⟩ := r2.form; have Hb2 := Lib.hid (new_below Hr1.out Hb1.out Hb1.out.size g2); have Hr2 := Lib.hid r2; clear r2 g2)
            | ((refine append_new (R := fun _ => False) (B := y2.heap.size) _ rfl (.tmp 134) (.tmp 135) (by rfl) (.slice p2 ov.length k2) (.slice pb2 nb2 kb2) (gone ++ rn) ov (by kernel_rfl) Hr2.out (by kernel_rfl) (HSo.out.on Hb2.out) (by have := HLn.out; rw [List.length_append]; omega) Hb2.out.size ?_); intro v3 z3 r3 g3; obtain ⟨pc, nc, kc, rfl, -⟩ := r3.form; have Hb3 := Lib.hid (new_below Hr2.out Hb2.out Hb2.out.size g3); have Hr3 := Lib.hid r3; clear r3 g3)
            | ((refine append_new (R := fun _ => False) (B := w.heap.size) _ rfl (.tmp 138) (.tmp 139) (by rfl) (.slice (some ⟨_, 0, none⟩) 1 1) (.slice pw nw kw) was [999] (by kernel_rfl) (((HKs2.out.on Hb3.out).rw).on ((Below.refl _ _).alloc (Nat.le_refl _) _)) (by kernel_rfl) (sl_one 999 _ _ _ rfl id) (by have := HWl.out; simp; omega) (Nat.le_trans (HKs2.out.on Hb3.out).bel.size (by simp)) ?_); intro v4 z4 r4 g4; obtain ⟨pd, nd, kd, rfl, -⟩ := r4.form; have Hr4 := Lib.hid (And.intro r4 (tail_rows HKs2.out Hb3.out Hr3.out g4)); clear r4 g4))
          | (go_at_call 17; (with_reducible refine (tail_same HAll.out.1 HLn.out HWl.out Hr4.out.2.1 Hr4.out.1).mono ?_); rintro e z5 ⟨rfl, hb5⟩; have HB5 := Lib.hid (Hr4.out.2.2.1.trans (hb5.mono Hr4.out.2.2.1.size)); have e51 := row_q (Hr4.out.2.2.2.on' hb5) HC.out; clear hb5)
          | (go_at_call 9; (with_reducible refine (HWk.out _).mono ?_); rintro e z6 ⟨rfl, hb6⟩; have HB6 := Lib.hid (HB5.out.trans (hb6.mono HB5.out.size)); clear hb6))
        go_ret
        exact ⟨rfl, HB6.out⟩
    | false =>
      have HKa : Hid (KA C P was gone x mm i) := HKz
      clear HKz
      obtain ⟨M', hM'⟩ : ∃ M', (stepP x mm).2 = M' := ⟨_, rfl⟩
      obtain ⟨X, hX⟩ : ∃ X, (stepP x mm).1 = X := ⟨_, rfl⟩
      have hks := HKa.out.1.step
      rw [hX, hM'] at hks
      have HRi := Lib.hid (ks_ring HKs.out HC.out HKa.out.1.mem)
      go_upto_region 14 with (fail)
      go_region_held3 (fun W1 => W1.cell? ⟨cb, 0, none⟩ = some (.int .i64 N) ∧ W1.cell? ⟨cb, 1, none⟩ = some (.int .i64 Q) ∧ W1.cell? ⟨cb, 2, none⟩ = some (.int .i64 G) ∧ W1.cell? ⟨cb, 3, none⟩ = some (.int .i64 M) ∧ W1.cell? ⟨cb, 4, none⟩ = some (.int .i64 T) ∧ W1.cell? ⟨cb, 5, none⟩ = some (.int .i64 U))
        (first | exact ks_cells HKs.out HC.out | exact ks_cells (HKs.out.on (Below.refl _ _).drew) HC.out | exact ks_cells (HKs.out.on (by assumption)) HC.out)
        (first | (go_at_call 32; (with_reducible refine (HRi.out _ (by first | exact Below.refl _ _ | exact (Below.refl _ _).drew)).mono ?_); rintro e y1 ⟨p1, n1, k1, rfl, hn1, -, hby1⟩; have hby2 := (show Below wr.heap.size wr y1 from by first | exact hby1 | exact (Below.refl _ _).drew.trans (hby1.mono (Nat.le_refl _)))))
      rename_i hcc
      clear hcc
      have HKs := Lib.hid (HKs.out.on hby2)
      have hn1 := hn1.out
      have hf2 : (n1 : Int) = ((rng C P mm).length : Nat) := by rw [hn1]
      clear hby1 hby2 c0 c1 c2 c3 c4 c5 HRi
      obtain ⟨c0, c1, c2, c3, c4, c5⟩ := ks_cells HKs.out HC.out
      rcases hks with ⟨hXa, hKI, hmu⟩ | ⟨hXa, hKD⟩
      · have HSt := Lib.hid (HKs.out.px.step (by have := HKa.out.2.2.2; omega) hX hM' (decide_eq_false hXa))
        have HKI := Lib.hid (And.intro hKI hmu)
        clear hKI hmu hXa
        go_wp2_with fail
        (with_reducible refine HSt.out.mono ?_)
        rintro e y2 ⟨rfl, hpx, htc⟩
        have HKs2 := Lib.hid (HKs.out.stp hpx.out htc.out)
        have HXg : Hid (X.g = 999) := by rw [← hX]; exact (step_g x mm).trans HKa.out.2.1
        have HXo : Hid (M'.k.ops ≤ 601 + 4 * i) := by
          have := step_ops x mm HKs.out.px.ok HKs.out.px.u
          rw [hM'] at this
          exact Nat.le_trans this (by have := HKa.out.2.2.2; omega)
        clear hpx htc HSt c0 c1 c2 c3 c4 c5
        by_cases hit : i < nt
        · have hit' : (i : Int) < nt := by omega
          have hby := HTy.out (by omega)
          obtain ⟨tg, tz, rfl, htc⟩ := hby.lies.cells i (by have := HNt.out; omega)
          have hzr : 0 ≤ ts.getD i 0 ∧ ts.getD i 0 ≤ 255 := by
            have hl : i < ts.length := by have := HNt.out; omega
            have e : ts.getD i 0 = ts[i] := by simp [List.getD, hl]
            rw [e]; exact hby.rng _ (List.getElem_mem hl)
          obtain ⟨z, hz⟩ : ∃ z : Nat, ts.getD i 0 = (z : Int) := ⟨(ts.getD i 0).toNat, by omega⟩
          rw [hz] at htc hzr
          have hz255 : z ≤ 255 := by omega
          have hwz : IntKind.i64.wrap (z : Int) = z := IntWalk.i64_in _ (by omega)
          have HTc : Hid (∀ W1, Below w.heap.size w W1 → W1.cell? ⟨tg, tz + i, none⟩ = some (.int .u8 z)) := fun W1 hb => by rw [hb.cell (block_lt_of_cell htc)]; exact htc
          have HThf : Hid (∀ W1, Below y2.heap.size y2 W1 → Calls Try.prog 33 #[.agg #[.int .i64 N, .int .i64 Q, .int .i64 G, .int .i64 M, .int .i64 T, .int .i64 U], pptr mb, .int .i64 P, .int .i64 z] W1 (ThiefPost C P mb mg M' z W1)) := fun W1 hb => by
            have h1 := HKI.out.1.mem
            rw [HC.out] at h1 ⊢
            exact thief_any N Q G M T U P z h1 (HKs2.out.px.mem.on hb) (by have := HXo.out; omega) (by omega)
          have hgl : Hid (gone.length + ((rng C P M').take (thN (rng C P M') z)).length ≤ 1000) := by
            have h1 := congrArg List.length HKI.out.1.all
            rw [List.length_append] at h1
            have h2 := HWl.out
            show _ ≤ _
            rw [List.length_take]
            omega
          have HK : Hid (∀ W1, Below y2.heap.size y2 W1 → ((W1.cell? ⟨cb, 0, none⟩ = some (.int .i64 N) ∧ W1.cell? ⟨cb, 1, none⟩ = some (.int .i64 Q) ∧ W1.cell? ⟨cb, 2, none⟩ = some (.int .i64 G) ∧ W1.cell? ⟨cb, 3, none⟩ = some (.int .i64 M) ∧ W1.cell? ⟨cb, 4, none⟩ = some (.int .i64 T) ∧ W1.cell? ⟨cb, 5, none⟩ = some (.int .i64 U)) ∧ W1.cell? ⟨tg, tz + i, none⟩ = some (.int .u8 z))) := fun W1 hb => ⟨ks_cells (HKs2.out.on hb) HC.out, HTc.out _ (HKs2.out.on hb).bel⟩
          have hi0 : (0 : Int) ≤ i := by omega
          clear hby htc hzr hz
          go_upto_region 17 with (fail)
          go_region_held3 (fun W1 => (W1.cell? ⟨cb, 0, none⟩ = some (.int .i64 N) ∧ W1.cell? ⟨cb, 1, none⟩ = some (.int .i64 Q) ∧ W1.cell? ⟨cb, 2, none⟩ = some (.int .i64 G) ∧ W1.cell? ⟨cb, 3, none⟩ = some (.int .i64 M) ∧ W1.cell? ⟨cb, 4, none⟩ = some (.int .i64 T) ∧ W1.cell? ⟨cb, 5, none⟩ = some (.int .i64 U)) ∧ W1.cell? ⟨tg, tz + i, none⟩ = some (.int .u8 z))
            (first | assumption | exact HK.out _ (Below.refl _ _) | exact HK.out _ (Below.refl _ _).drew)
            (first
              | ((refine step_append_new (R := fun _ => False) (B := w.heap.size) _ (by rfl) _ _ (by rfl) (.slice q3 k3 j3) (.slice pg ng kg) gone ((rng C P M').take (thN (rng C P M') z)) (by rfl) hk3.rg (by rfl) (hO3.out.sl (by have := hgl.out; omega) (fun _ _ h => h)) (by have := hgl.out; omega) hk3.bel.size ?_; intro v4 y4 hn4 hg4 hat4; have hk4 := hk3.app hn4 hg4 hat4; have hS4 := And.intro (ks_cells hk4 HC.out) (HTc.out _ hk4.bel); have HK4 := Lib.hid hk4; have HN4 := Lib.hid hn4; clear hk4 hn4 hg4 hat4))
              | (go_at_call 33; (with_reducible refine (HThf.out _ (by first | exact Below.refl _ _ | exact (Below.refl _ _).drew)).mono ?_); rintro e y3 ⟨q3, k3, j3, rfl, hO3, hm3, ht3⟩; have hk3 := (HKs2.out.on (show Below y2.heap.size y2 _ from by first | exact Below.refl _ _ | exact (Below.refl _ _).drew)).mem hm3.out ((HKI.out.1.thief z).1.mem.u) ht3.out; have hS3 := And.intro (ks_cells hk3 HC.out) (HTc.out _ hk3.bel)))
          all_goals
            obtain ⟨pg4, ng4, kg4, rfl, -⟩ := HN4.out.form
            clear hS3 hS4 hk3 HK HTc HThf hO3 hm3 ht3 HN4
            go_wp2_with fail
            go_roundw
            case rel => exact ⟨i + 1, _, X, _, pg4, ng4, kg4, _, false, by have := HKa.out.2.2.1; omega, rfl, rfl, rfl, by go_num, HK4, ⟨(HKI.out.1.thief z).1, HXg.out, by have h1 := HKI.out.2; have h2 := HKa.out.2.2.1; have h3 := (HKI.out.1.thief z).2; omega, by have h1 := HXo.out; have h2 := thief_ops C P M' z; omega⟩⟩
            case measure =>
              show _ < _
              simp only [intOf]; omega
        · have hit' : ¬ (i : Int) < nt := by omega
          go_wp2_with fail
          go_roundw
          case rel => exact ⟨i + 1, gone, X, M', pg, ng, kg, _, false, by have := HKa.out.2.2.1; omega, rfl, rfl, rfl, by go_num, HKs2, ⟨HKI.out.1, HXg.out, by have h1 := HKI.out.2; have h2 := HKa.out.2.2.1; omega, by have := HXo.out; omega⟩⟩
          case measure =>
            show _ < _
            simp only [intOf]; omega
      · have HSt := Lib.hid (HKs.out.px.step (by have := HKa.out.2.2.2; omega) hX hM' (decide_eq_true hXa))
        have HKD := Lib.hid hKD
        clear hKD hXa
        go_wp2_with fail
        (with_reducible refine HSt.out.mono ?_)
        rintro e y2 ⟨rfl, hpx, htc⟩
        have HKs2 := Lib.hid (HKs.out.stp hpx.out htc.out)
        by_cases hit : i < nt
        · have hit' : (i : Int) < nt := by omega
          go_wp2_with fail
          go_roundw
          case rel => exact ⟨i + 1, gone, X, M', pg, ng, kg, _, true, by have := HKa.out.2.2.1; omega, rfl, rfl, rfl, by go_num, HKs2, ⟨x, mm, HKD.out, HKa.out.2.1, kz_flag HC.out rfl⟩⟩
          case measure =>
            show _ < _
            simp only [intOf]; omega
        · have hit' : ¬ (i : Int) < nt := by omega
          go_wp2_with fail
          go_roundw
          case rel => exact ⟨i + 1, gone, X, M', pg, ng, kg, _, true, by have := HKa.out.2.2.1; omega, rfl, rfl, rfl, by go_num, HKs2, ⟨x, mm, HKD.out, HKa.out.2.1, kz_flag HC.out rfl⟩⟩
          case measure =>
            show _ < _
            simp only [intOf]; omega
end Go.Proofs.Ytgfddkddacigfaa
