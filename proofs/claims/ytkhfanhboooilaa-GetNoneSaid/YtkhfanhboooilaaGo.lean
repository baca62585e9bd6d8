/- The law GetOldest (layer 10), walked. -/
import Derived.Test.YtkhfanhboooilaaGs
import Derived.Test.YtkhfanhboooilaaRw
import Derived.LoopTactic
import Derived.Deep.LoopGhost
import Derived.Deep.DeepCutAuto
import Derived.Deep.CutBlock
set_option linter.unusedSimpArgs false
set_option linter.unusedVariables false
namespace Go.Proofs.Ytkhfanhboooilaa
open Go.RowKit Go.Cg Go.Pu Go.Wd Go.Ce

set_option maxRecDepth 20000 in
set_option maxHeartbeats 4000000 in
theorem oldest_any (c : Cfg) (p : Int) (vb vt : Value) (bs ts : List Int) (w : World) (hc : ∀ z ∈ [c.n, c.q, c.g, c.m, c.t, c.s], -9223372036854775808 ≤ z ∧ z ≤ 9223372036854775807) (hp : -9223372036854775808 ≤ p ∧ p ≤ 9223372036854775807) (hb : InBy w vb bs) (ht : InBy w vt ts) :
    Calls Try.prog 8 #[cVal c, .int .i64 p, vb, vt] w (Ans (.bool true) w) := by
  obtain ⟨pb, nb, kb, rfl, hnb, hnb2, hby⟩ := hb
  obtain ⟨pt, nt, kt, rfl, hnt, hnt2, hty⟩ := ht
  have HWk := Lib.hid (fun W => gworks_any W)
  obtain ⟨n, q, g, m, t, s⟩ := c
  have HMade := Lib.hid (fun W => made_any n q g m t s hc W)
  have hbx := (Below.refl w.heap.size w).alloc (Nat.le_refl _) (.cells (cCells ⟨n, q, g, m, t, s⟩).toArray 23)
  have hrx := Row.new w 23 (cCells ⟨n, q, g, m, t, s⟩)
  show Calls _ _ #[.agg #[.int .i64 n, .int .i64 q, .int .i64 g, .int .i64 m, .int .i64 t, .int .i64 s], .int .i64 p, .slice pb nb kb, .slice pt nt kt] _ _
  obtain ⟨W1, hW1⟩ : ∃ W1, w.alloc (.cells #[.int .i64 n, .int .i64 q, .int .i64 g, .int .i64 m, .int .i64 t, .int .i64 s] 23) = W1 := ⟨_, rfl⟩
  change Below w.heap.size w (w.alloc (.cells #[.int .i64 n, .int .i64 q, .int .i64 g, .int .i64 m, .int .i64 t, .int .i64 s] 23)) at hbx
  change Row w.heap.size 23 (cCells ⟨n, q, g, m, t, s⟩) (w.alloc (.cells #[.int .i64 n, .int .i64 q, .int .i64 g, .int .i64 m, .int .i64 t, .int .i64 s] 23)) at hrx
  rw [hW1] at hbx hrx
  have HB1 := Lib.hid hbx
  have HR1 := Lib.hid hrx
  have HBy := Lib.hid hby
  have HTy := Lib.hid hty
  have HNb := Lib.hid hnb
  have HNt := Lib.hid hnt
  clear hbx hrx hby hty hc hnb hnt
  by_cases ht80 : 80 < nt
  · have ht80' : (80 : Int) < nt := by omega
    go_enter Try.func8, Try.ntmps8
    go_wp2_with (go_at_call 37; (with_reducible refine (HWk.out _).mono ?_); rintro e w1 ⟨rfl, hb⟩)
    go_ret
    exact ⟨rfl, HB1.out.trans (hb.mono HB1.out.size)⟩
  by_cases hb40 : 40 < nb
  · have hb40' : (40 : Int) < nb := by omega
    go_enter Try.func8, Try.ntmps8
    go_wp2_with (go_at_call 37; (with_reducible refine (HWk.out _).mono ?_); rintro e w1 ⟨rfl, hb⟩)
    go_ret
    exact ⟨rfl, HB1.out.trans (hb.mono HB1.out.size)⟩
  obtain ⟨c0, c1, c2, c3, c4, c5⟩ := cf_cells HR1.out
  simp only at c0 c1 c2 c3 c4 c5
  go_enter Try.func8, Try.ntmps8
  go_upto_region 3 with (fail)
  clear hW1
  go_wp2_with fail
  (with_reducible refine (HMade.out _).mono ?_)
  rintro e w3 ⟨N, Q, G, M, T, U, rfl, HS, hb3⟩
  have hr3 := HR1.out.on' hb3.out
  have HB3 := Lib.hid (HB1.out.trans (hb3.out.mono HB1.out.size))
  clear c0 c1 c2 c3 c4 c5 hb3 HB1 HR1 HMade
  obtain ⟨cb, hcb⟩ : ∃ cb, w.heap.size = cb := ⟨_, rfl⟩
  rw [hcb] at hr3
  have HR3 := Lib.hid hr3
  have HCB := Lib.hid hcb
  obtain ⟨c0, c1, c2, c3, c4, c5⟩ := cf_cells hr3
  obtain ⟨f0, f1, f2, f3, f4, f5⟩ := cf_frozen hr3
  simp only at c0 c1 c2 c3 c4 c5
  clear hr3
  obtain ⟨W4, hW4, hr4, ht4⟩ := cf_put HR3.out ⟨N, Q, G, M, T, U⟩
  simp only at hW4
  have hb4 := HB3.out.trans (ht4.below HB3.out.size (fun k hk => by rw [hk, ← HCB.out]; exact Nat.le_refl _))
  have HR4 := Lib.hid hr4
  have HB4 := Lib.hid hb4
  go_upto_region 4 with (fail)
  clear hW4 hb4 ht4 c0 c1 c2 c3 c4 c5 f0 f1 f2 f3 f4 f5 HR3 HB3
  have hSm := HS.out
  obtain ⟨P, hP, HPk⟩ := pick_det p N hp ⟨hSm.n.1, by have := hSm.n.2; omega⟩
  have hth : Right (⟨N, Q, G, M, T, U⟩ : Cfg) ∧ 0 ≤ (P : Int) ∧ (P : Int) < (⟨N, Q, G, M, T, U⟩ : Cfg).n := ⟨hSm.right, by omega, by show (P : Int) < (N : Int); omega⟩
  have HTh := Lib.hid hth
  clear hP hth
  obtain ⟨c0, c1, c2, c3, c4, c5⟩ := cf_cells hr4
  simp only at c0 c1 c2 c3 c4 c5
  clear hr4
  go_upto_region 5 with (go_at_call 43; (with_reducible refine (HPk.out _).mono ?_); rintro e w5 ⟨rfl, rfl⟩)
  have HF := Lib.hid (filled_any ⟨N, Q, G, M, T, U⟩ pb kb bs (by have := HNb.out; omega) w5 ((HBy.out (by omega)).on HB4.out))
  rw [← HNb.out] at HF
  change Hid (Calls Try.prog 13 #[.agg #[.int .i64 N, .int .i64 Q, .int .i64 G, .int .i64 M, .int .i64 T, .int .i64 U], .slice pb nb kb] w5 _) at HF
  go_wp2_with fail
  (with_reducible refine HF.out.mono ?_)
  rintro e w6 ⟨zs, zg, rfl, hf, hz, hb6⟩
  have hzl : zs.length ≤ 564 := by rw [hf.len]; exact ccN_le _
  have HDm := Lib.hid (dm_any (some ⟨zg, 0, none⟩) zs.length zs w6 hz (by omega))
  have HFo := Lib.hid hf
  have HR6 := Lib.hid (HR4.out.on' hb6)
  have HB6 := Lib.hid (HB4.out.trans (hb6.mono HB4.out.size))
  have HZl := Lib.hid hzl
  clear hf hz hb6 hzl HF HR4 HB4 c0 c1 c2 c3 c4 c5
  go_wp2_with fail
  (with_reducible refine HDm.out.mono ?_)
  rintro e w7 ⟨mb, mg, rq, rl, rc, m0, rfl, hmr, hops, hcs⟩
  have HR7 := Lib.hid (HR6.out.on' hmr.so.bel)
  have hu0 : U64 m0 := fun z hz => HFo.out.u z (by rw [← hcs]; exact hz)
  have hMk : Mk ⟨N, Q, G, M, T, U⟩ P m0 := ⟨HTh.out, by rw [hcs]; exact HFo.out.len, hu0⟩
  have hsz : ln (wdN ⟨N, Q, G, M, T, U⟩ P m0) ≤ Q := by
    have := HFo.out.w P HTh.out
    unfold wdN PM.at
    rw [hcs]
    exact this
  have HMk := Lib.hid hMk
  have HSz := Lib.hid hsz
  have HOps : Hid (m0.k.ops ≤ 564) := Nat.le_trans hops HZl.out
  have HMm := Lib.hid hmr.so.mem
  have HB7 := Lib.hid (HB6.out.trans (hmr.so.bel.mono HB6.out.size))
  have HGe : Hid (w.heap.size ≤ mb ∧ w.heap.size ≤ mg) := ⟨Nat.le_trans HB6.out.size hmr.so.b, Nat.le_trans HB6.out.size hmr.so.g⟩
  have HNeq : Hid (cb ≠ mb ∧ cb ≠ mg) := by
    have h1 := HR6.out.lt
    have h2 := hmr.so.b
    have h3 := hmr.so.g
    exact ⟨by omega, by omega⟩
  clear hmr hops hcs hu0 hMk hsz HDm HR6 HB6 HFo HZl
  go_upto_region 6 with (fail)
  have hba := (Below.refl w7.heap.size w7).alloc (Nat.le_refl _) (.cells #[.slice rq rl rc, .int .u64 (m0.k.ops : Nat)] 31)
  obtain ⟨W8, hW8⟩ : ∃ W8, w7.alloc (.cells #[.slice rq rl rc, .int .u64 (m0.k.ops : Nat)] 31) = W8 := ⟨_, rfl⟩
  rw [hW8] at hba ⊢
  obtain ⟨C, hC⟩ : ∃ C : Cfg, C = ⟨N, Q, G, M, T, U⟩ := ⟨_, rfl⟩
  rw [← hC] at HR7 HMk HSz HTh
  have HC := Lib.hid hC
  have HR8 := Lib.hid (HR7.out.on' hba)
  have HM8 := Lib.hid (HMm.out.on hba)
  have HB8 := Lib.hid (HB7.out.trans (hba.mono HB7.out.size))
  have HRi : Hid (∀ W1, Below W8.heap.size W8 W1 → Calls Try.prog 46 #[.agg #[.int .i64 N, .int .i64 Q, .int .i64 G, .int .i64 M, .int .i64 T, .int .i64 U], gptr mb, .int .i64 P] W1 (RowPost8 (rng C P m0) W1)) := fun W1 hb => by
    have := HMk.out
    rw [HC.out] at this ⊢
    exact ring_any N Q G M T U P this (HM8.out.on hb)
  have hcl := cf_cells HR8.out
  rw [HC.out] at hcl
  obtain ⟨c0, c1, c2, c3, c4, c5⟩ := hcl
  simp only at c0 c1 c2 c3 c4 c5
  clear hW8 hba hC HR7 HMm HB7
  go_wp2_with fail
  (with_reducible refine (HRi.out _ (Below.refl _ _)).mono ?_)
  rintro e w9 ⟨pw, nw, kw, rfl, hnw, hOw, hb9⟩
  obtain ⟨was, hwas⟩ : ∃ was, rng C P m0 = was := ⟨_, rfl⟩
  rw [hwas] at hnw hOw
  have HWas := Lib.hid hwas
  have HNw := Lib.hid hnw
  have HR9 := Lib.hid (HR8.out.on' hb9)
  have HM9 := Lib.hid (HM8.out.on hb9)
  have HB9 := Lib.hid (HB8.out.trans (hb9.mono HB8.out.size))
  have HOw := Lib.hid (hOw.base HB8.out.size)
  have hnwq : Hid (∀ k, (Value.slice pw nw kw).ownBlock = some k → k < w9.heap.size ∧ ¬ Own mb mg k) := fun k hk => by
    have h1 := hOw.lt k hk
    have h2 := HM8.out.lt
    exact ⟨h1.2, fun e => by rcases e with e | e <;> omega⟩
  have HNew : Hid (Calls Try.prog 38 #[.agg #[.int .i64 N, .int .i64 Q, .int .i64 G, .int .i64 M, .int .i64 T, .int .i64 U], .int .i64 P] w9 (GMade (newG C P) w9)) := by
    rw [HC.out]; exact gnew_any ⟨N, Q, G, M, T, U⟩ P w9
  clear hnw hwas hOw hb9 HR8 HM8 HB8 HRi c0 c1 c2 c3 c4 c5
  have hcl := cf_cells HR9.out
  rw [HC.out] at hcl
  obtain ⟨c0, c1, c2, c3, c4, c5⟩ := hcl
  simp only at c0 c1 c2 c3 c4 c5
  go_wp2_with fail
  (with_reducible refine HNew.out.mono ?_)
  rintro e w10 ⟨gb, rfl, i1, i2, i3⟩
  have hst := OI.start HMk.out (by rw [HC.out]; rw [HC.out] at HSz; exact HSz.out)
  have HOX : Hid (OX w w10 cb C gb mb mg (newG C P) m0 was [] (.slice pw nw kw) (.slice none 0 0)) := by
    refine OX.start (GX.made HM9.out HMk.out.u HB9.out HGe.out (fun k hk => ?_) i1.out i2.out i3.out) (HR9.out.on' i3.out) (HOw.out.on i3.out) (by rw [← HCB.out]; exact Nat.le_refl _)
    rcases hk with hk | hk | hk
    · rw [hk]; exact ⟨HR9.out.lt, fun e => by rcases e with e | e; exact HNeq.out.1 e; exact HNeq.out.2 e⟩
    · exact hnwq.out k hk
    · cases hk
  have HOA : Hid (OAZ C P was [] 0 (newG C P) m0 0) := by
    obtain ⟨h1, h2, h3, h4⟩ := hst
    rw [HWas.out] at h1
    refine .inr ⟨by rw [h4]; exact Nat.succ_ne_zero _, h1, h3, ?_, Nat.le_trans HOps.out (by omega), Nat.le_refl _⟩
    have h5 : C.q.toNat = Q := by rw [HC.out]; rfl
    rw [h5] at h2
    have h6 := HS.out.q
    omega
  have HWl : Hid (was.length ≤ 8) := by
    have h1 := rng_length (c := C) (p := P) (m := m0) (by rw [HC.out]; have := HSz.out; rw [HC.out] at this; exact this)
    rw [HWas.out] at h1
    have h3 := HSz.out
    have h4 := HS.out.q
    show _ ≤ _
    rw [h1]
    obtain ⟨L, hL⟩ : ∃ L, ln (wdN C P m0) = L := ⟨_, rfl⟩
    rw [hL] at h3 ⊢
    omega
  clear hst HMk HSz HOps HM9 HB9 HR9 HOw hnwq HNew i1 i2 i3 c0 c1 c2 c3 c4 c5 HWas HNeq hSm hcb
  obtain ⟨c0, c1, c2, c3, c4, c5⟩ := HOX.out.cells HC.out
  go_wp2_with fail
  go_loopg [13, 14, 15] 400 (fun g0 vg vn vi W => ∃ (i gains : Nat) (out : List Int) (x : GS) (mm : PM) (pg : Option Addr) (ng kg : Nat), i + g0 = 400 ∧ i ≤ 31 ∧ vg = .slice pg ng kg ∧ vn = .int .i64 gains ∧ vi = .int .i64 i ∧ Hid (OX w W cb C gb mb mg x mm was out (.slice pw nw kw) (.slice pg ng kg)) ∧ Hid (OAZ C P was out gains x mm i))
  case atStart => exact ⟨0, 0, [], _, m0, none, 0, 0, rfl, by omega, rfl, rfl, rfl, HOX, HOA⟩
  case round =>
    clear HOX HOA c0 c1 c2 c3 c4 c5
    obtain ⟨i, gains, out, x, mm, pg, ng, kg, hig, hi31, rfl, rfl, rfl, HX, HZ⟩ := hrel
    obtain ⟨c0, c1, c2, c3, c4, c5⟩ := HX.out.cells HC.out
    have hi4 : (i : Int) < 400 := by omega
    have HDn := Lib.hid (gdone_any HX.out.gx.is)
    rcases HZ.out with ⟨ha, hz⟩ | ⟨ha, hoa⟩
    · rw [decide_eq_true ha] at HDn
      have hmk := hz.mem
      have HRi := Lib.hid (HX.out.ring HC.out hmk)
      obtain ⟨rn, hrn⟩ : ∃ rn, rng C P mm = rn := ⟨_, rfl⟩
      rw [hrn] at HRi
      have hall : out ++ rn = was := by rw [← hrn]; exact hz.all
      have HAl : Hid (out ++ rn = was ∧ out.length + rn.length ≤ 8) := by
        refine ⟨hall, ?_⟩
        have h1 := congrArg List.length hall
        rw [List.length_append] at h1
        have h2 := HWl.out
        omega
      have htg : (x.t : Int) ≤ (gains : Int) := by have := hz.t; omega
      have HDn2 : Hid (∀ W, GetIs W gb x → Calls Try.prog 49 #[gptr gb] W (fun e w' => e = .returned (.bool true) ∧ w' = W)) := fun W h => by
        have := gdone_any h
        rw [decide_eq_true ha] at this
        exact this
      clear hz hmk hrn hall HZ
      go_wp2_with (first
        | (go_at_call 49; (with_reducible refine HDn.out.mono ?_); rintro e y0 ⟨rfl, rfl⟩)
        | (go_at_call 46; (with_reducible refine (HRi.out _ (Below.refl _ _)).mono ?_); rintro e y1 ⟨p1, n1, k1, rfl, hn1, hO1, hb1⟩; have HX1 := Lib.hid (HX.out.on hb1); have HO1 := Lib.hid hO1; clear hn1 hO1 hb1)
        | (at_builtin; refine append_new_at (R := fun _ => False) (B := w.heap.size) _ rfl (.tmp 130) (.tmp 134) (by rfl) (.slice p1 n1 k1) (.slice pg ng kg) out rn (by kernel_rfl) HX1.out.rg (by kernel_rfl) (HO1.out.sl (by have := HAl.out.2; omega) (fun _ _ h => h)) (by have := HAl.out.2; omega) HX1.out.bel.size ?_; intro v2 y2 r2 g2 a2; obtain ⟨p2, n2, k2, rfl, -⟩ := r2.form; have HX2 := Lib.hid (HX1.out.app r2 g2 a2); clear r2 g2 a2)
        | (go_at_call 49; (with_reducible refine (HDn2.out _ HX2.out.gx.is).mono ?_); rintro e y3 ⟨rfl, rfl⟩)
        | (go_at_call 52; (with_reducible refine (gtries_any HX2.out.gx.is).mono ?_); rintro e y4 ⟨rfl, rfl⟩)
        | (go_at_call 19; (with_reducible refine (same_rows HAl.out.1 (by rw [List.length_append]; have := HAl.out.2; omega) HX2.out.rg HX2.out.rw).mono ?_); rintro e y5 ⟨rfl, hb5⟩; have HB5 := Lib.hid ((HX2.out.on hb5).bel); clear hb5)
        | (go_at_call 37; (with_reducible refine (HWk.out _).mono ?_); rintro e y6 ⟨rfl, hb6⟩; have HB6 := Lib.hid (HB5.out.trans (hb6.mono HB5.out.size)); clear hb6))
      go_ret
      exact ⟨rfl, HB6.out⟩
    · rw [decide_eq_false ha] at HDn
      have HOA := Lib.hid hoa
      have hgn31 : gains ≤ 31 := by have := hoa.gn; omega
      clear hoa HZ
      go_upto_if 61 with (go_at_call 49; (with_reducible refine HDn.out.mono ?_); rintro e y0 ⟨rfl, rfl⟩)
      go_cut [13, 14, 16] from 49 to 129 (fun v13 v14 v16 wc => ∃ (gains' : Nat) (out' : List Int) (mm' : PM) (pg' : Option Addr) (ng' kg' : Nat), v13 = .slice pg' ng' kg' ∧ v14 = .int .i64 gains' ∧ Hid (OX w wc cb C gb mb mg x mm' was out' (.slice pw nw kw) (.slice pg' ng' kg')) ∧ Hid (OI C P was out' gains' x mm' ∧ x.h = false ∧ muG C P x mm' + i ≤ 30 ∧ mm'.k.ops ≤ 602 + 4 * i ∧ gains' ≤ i + 1))
      case first =>
        by_cases hit : i < nt
        · have hit' : (i : Int) < nt := by omega
          have hby := HTy.out (by omega)
          obtain ⟨tg, tz, rfl, htc⟩ := hby.lies.cells i (by have := HNt.out; omega)
          have hzr : 0 ≤ ts.getD i 0 ∧ ts.getD i 0 ≤ 255 := by
            have hl : i < ts.length := by have := HNt.out; omega
            have e : ts.getD i 0 = ts[i] := by simp [List.getD, hl]
            rw [e]; exact hby.rng _ (List.getElem_mem hl)
          obtain ⟨z, hz⟩ : ∃ z : Nat, ts.getD i 0 = (z : Int) := ⟨(ts.getD i 0).toNat, by omega⟩
          rw [hz] at htc hzr
          have hz255 : z ≤ 255 := by omega
          obtain ⟨r, hr⟩ : ∃ r, z % 4 = r := ⟨_, rfl⟩
          have hr4 : r < 4 := by omega
          have hm1 : (z : Int) % 4 = r := by omega
          have hm2 : (z : Int).tmod 4 = r := by rw [Int.tmod_eq_emod_of_nonneg (by omega)]; exact hm1
          have hwz1 : IntKind.u8.wrap (r : Int) = r := IntWalk.u8_in _ (by omega)
          have hwz : IntKind.i64.wrap (r : Int) = r := IntWalk.i64_in _ (by omega)
          have HTc : Hid (∀ W1, Below w.heap.size w W1 → W1.cell? ⟨tg, tz + i, none⟩ = some (.int .u8 z)) := fun W1 hb => by rw [hb.cell (block_lt_of_cell htc)]; exact htc
          have HThf : Hid (∀ W1, Below y0.heap.size y0 W1 → Calls Try.prog 50 #[.agg #[.int .i64 N, .int .i64 Q, .int .i64 G, .int .i64 M, .int .i64 T, .int .i64 U], gptr mb, .int .i64 P, .int .i64 r] W1 (ThiefPost C P mb mg mm r W1)) := fun W1 hb => by
            have h1 := HOA.out.oi.mem
            rw [HC.out] at h1 ⊢
            exact thief_any N Q G M T U P r h1 (HX.out.gx.mem.on hb) (by have := HOA.out.ops; omega) (by omega)
          obtain ⟨tk, htk⟩ : ∃ tk, (rng C P mm).take (thN (rng C P mm) r) = tk := ⟨_, rfl⟩
          have hth := HOA.out.oi.thief r
          rw [htk] at hth
          have hgl : Hid (out.length + tk.length ≤ 8) := by
            have h1 := congrArg List.length hth.1.all
            rw [List.length_append, List.length_append] at h1
            have h2 := HWl.out
            show _ ≤ _
            omega
          have HTH := Lib.hid hth
          have HOp : Hid ((thiefM C P mm r).k.ops ≤ 602 + 4 * i) := by have h1 := HOA.out.ops; have h2 := thief_ops C P mm r; show _ ≤ _; omega
          have HK : Hid (∀ W1, Below y0.heap.size y0 W1 → ((W1.cell? ⟨cb, 0, none⟩ = some (.int .i64 N) ∧ W1.cell? ⟨cb, 1, none⟩ = some (.int .i64 Q) ∧ W1.cell? ⟨cb, 2, none⟩ = some (.int .i64 G) ∧ W1.cell? ⟨cb, 3, none⟩ = some (.int .i64 M) ∧ W1.cell? ⟨cb, 4, none⟩ = some (.int .i64 T) ∧ W1.cell? ⟨cb, 5, none⟩ = some (.int .i64 U)) ∧ W1.cell? ⟨tg, tz + i, none⟩ = some (.int .u8 z))) := fun W1 hb => ⟨(HX.out.on hb).cells HC.out, HTc.out _ (HX.out.on hb).bel⟩
          have hi0 : (0 : Int) ≤ i := by omega
          clear hby htc hzr hz hth hr
          go_upto_region 14 with (fail)
          go_region_held3 (fun W1 => (W1.cell? ⟨cb, 0, none⟩ = some (.int .i64 N) ∧ W1.cell? ⟨cb, 1, none⟩ = some (.int .i64 Q) ∧ W1.cell? ⟨cb, 2, none⟩ = some (.int .i64 G) ∧ W1.cell? ⟨cb, 3, none⟩ = some (.int .i64 M) ∧ W1.cell? ⟨cb, 4, none⟩ = some (.int .i64 T) ∧ W1.cell? ⟨cb, 5, none⟩ = some (.int .i64 U)) ∧ W1.cell? ⟨tg, tz + i, none⟩ = some (.int .u8 z))
            (first | assumption | exact HK.out _ (Below.refl _ _) | exact HK.out _ (Below.refl _ _).drew)
            (first
              | (go_at_call 50; (with_reducible refine (HThf.out _ (by first | exact Below.refl _ _ | exact (Below.refl _ _).drew)).mono ?_); rintro e y3 ⟨q3, k3, j3, rfl, hO3, hm3, ht3⟩; have hk3 := Lib.hid ((HX.out.on (show Below y0.heap.size y0 _ from by first | exact Below.refl _ _ | exact (Below.refl _ _).drew)).mem hm3.out HTH.out.1.mem.u ht3.out); have hS3 := And.intro (hk3.out.cells HC.out) (HTc.out _ hk3.out.bel)))
          all_goals
            have hO3' := hO3.out
            rw [htk] at hO3'
            obtain ⟨_, _, _, e3, hn3⟩ := hO3'.form
            cases e3
            have HO3 := Lib.hid hO3'
            have HN3 := Lib.hid hn3
            have HK3 := hk3
            clear hS3 hk3 HK HTc HThf hO3 hO3' hm3 ht3 hn3 htk
            by_cases h0 : 0 < k3
            · have h0' : (0 : Int) < k3 := by omega
              have HTg : Hid (OI C P was (out ++ tk) (gains + 1) x (thiefM C P mm r)) := by
                have h1 := HTH.out.1
                rw [if_pos (show 0 < tk.length by have := HN3.out; omega)] at h1
                exact h1
              go_wp2_with (at_builtin; refine append_new_at (R := fun _ => False) (B := w.heap.size) _ rfl (.tmp 72) (.tmp 73) (by rfl) (.slice q3 k3 j3) (.slice pg ng kg) out tk (by kernel_rfl) HK3.out.rg (by kernel_rfl) (HO3.out.sl (by have := hgl.out; omega) (fun _ _ h => h)) (by have := hgl.out; omega) HK3.out.bel.size ?_; intro v4 y4 r4 g4 a4; obtain ⟨p4, n4, c4, rfl, -⟩ := r4.form; have HK4 := Lib.hid (HK3.out.app r4 g4 a4); clear r4 g4 a4)
              go_meet
              exact ⟨gains + 1, out ++ tk, thiefM C P mm r, p4, n4, c4, rfl, by go_num, HK4, HTg.out, HOA.out.h, by have := HTH.out.2; have := HOA.out.mu; omega, HOp.out, by have := HOA.out.gn; omega⟩
            · have h0' : ¬ (0 : Int) < k3 := by omega
              have HTg : Hid (OI C P was (out ++ tk) gains x (thiefM C P mm r)) := by
                have h1 := HTH.out.1
                rw [if_neg (show ¬ 0 < tk.length by have := HN3.out; omega)] at h1
                exact h1
              go_wp2_with (at_builtin; refine append_new_at (R := fun _ => False) (B := w.heap.size) _ rfl (.tmp 72) (.tmp 73) (by rfl) (.slice q3 k3 j3) (.slice pg ng kg) out tk (by kernel_rfl) HK3.out.rg (by kernel_rfl) (HO3.out.sl (by have := hgl.out; omega) (fun _ _ h => h)) (by have := hgl.out; omega) HK3.out.bel.size ?_; intro v4 y4 r4 g4 a4; obtain ⟨p4, n4, c4, rfl, -⟩ := r4.form; have HK4 := Lib.hid (HK3.out.app r4 g4 a4); clear r4 g4 a4)
              go_meet
              exact ⟨gains, out ++ tk, thiefM C P mm r, p4, n4, c4, rfl, rfl, HK4, HTg.out, HOA.out.h, by have := HTH.out.2; have := HOA.out.mu; omega, HOp.out, by have := HOA.out.gn; omega⟩
        · have hit' : ¬ (i : Int) < nt := by omega
          go_wp2_with fail
          go_meet
          exact ⟨gains, out, mm, pg, ng, kg, rfl, rfl, HX, HOA.out.oi, HOA.out.h, HOA.out.mu, by have := HOA.out.ops; omega, by have := HOA.out.gn; omega⟩
      case rest =>
        obtain ⟨gains', out', mm', pg', ng', kg', rfl, rfl, HXc, HI⟩ := hcut
        obtain ⟨c0, c1, c2, c3, c4, c5⟩ := HXc.out.cells HC.out
        have HRi := Lib.hid (HXc.out.ring HC.out HI.out.1.mem)
        obtain ⟨rn, hrn⟩ : ∃ rn, rng C P mm' = rn := ⟨_, rfl⟩
        rw [hrn] at HRi
        have HLr : Hid (out'.length + rn.length ≤ 8) := by
          have h1 := congrArg List.length HI.out.1.all
          rw [List.length_append, hrn] at h1
          have h2 := HWl.out
          show _ ≤ _
          omega
        obtain ⟨⟨X, M'⟩, hXM⟩ : ∃ R, gStep x mm' = R := ⟨_, rfl⟩
        have hks := HI.out.1.step HI.out.2.1 hXM
        have hopM : M'.k.ops ≤ 603 + 4 * i := by
          have h1 := (gstep_ok HXc.out.gx.is.ok HXc.out.gx.u).2.2.2.2.1
          rw [hXM] at h1
          have h2 := HI.out.2.2.2.1
          show M'.k.ops ≤ _
          change M'.k.ops ≤ mm'.k.ops + 1 at h1
          omega
        have HOM := Lib.hid hopM
        have HB1 : Hid (gb < wc.heap.size ∧ mb < wc.heap.size ∧ mg < wc.heap.size) := ⟨HXc.out.gx.is.row.lt, HXc.out.gx.mem.lt⟩
        obtain ⟨rb, hrb⟩ : ∃ r, decide (X.a = 0) = r := ⟨_, rfl⟩
        have HSt : Hid (∀ W, OX w W cb C gb mb mg x mm' was out' (.slice pw nw kw) (.slice pg' ng' kg') → Calls Try.prog 42 #[gptr gb, gptr mb] W (fun e w' => e = .returned (.bool rb) ∧ Hid (OX w w' cb C gb mb mg X M' was out' (.slice pw nw kw) (.slice pg' ng' kg')) ∧ Hid (Tch (fun k => k = gb ∨ Own mb mg k) W w'))) := fun W h => h.step (by have := HI.out.2.2.2.1; omega) (by have h1 := HI.out.1.t; have h2 := HI.out.2.2.2.2; omega) hXM hrb
        have HRn := Lib.hid hrn
        clear hopM hXM hrn
        rcases hks with ⟨hXa, hoi, hrs, hmu, hXh⟩ | ⟨hXa, hod⟩
        · rw [decide_eq_false hXa] at hrb
          subst hrb
          rw [HRn.out] at hrs
          have HMk := Lib.hid hoi.mem
          have HRs := Lib.hid hrs
          have HNx : Hid (OAZ C P was out' gains' X M' (i + 1)) := .inr ⟨hXa, hoi, hXh, by have := HI.out.2.2.1; omega, by have := HOM.out; omega, HI.out.2.2.2.2⟩
          have hi30 : i + 1 ≤ 31 := by have h1 := HI.out.2.2.1; omega
          clear hoi hrs hmu hXh
          go_wp2_with (first
            | (go_at_call 46; (with_reducible refine (HRi.out _ (Below.refl _ _)).mono ?_); rintro e y1 ⟨p1, n1, k1, rfl, hn1, hO1, hb1⟩; have HX1 := Lib.hid (HXc.out.on hb1); have HO1 := Lib.hid hO1; clear hn1 hO1 hb1; obtain ⟨c0, c1, c2, c3, c4, c5⟩ := HX1.out.cells HC.out)
            | (go_at_call 42; (with_reducible refine (HSt.out _ HX1.out).mono ?_); rintro e y2 ⟨rfl, HX2, ht2⟩; have HO2 := Lib.hid (HO1.out.tch ht2.out (fun k hk e => by have h1 := (HO1.out.lt k hk).1; have h2 := HB1.out; rcases e with e | e | e <;> omega)); clear ht2; obtain ⟨c0, c1, c2, c3, c4, c5⟩ := HX2.out.cells HC.out)
            | (go_at_call 46; (with_reducible refine (HX2.out.ring HC.out HMk.out _ (Below.refl _ _)).mono ?_); rintro e y3 ⟨p3, n3, k3, rfl, hn3, hO3, hb3⟩; rw [HRs.out] at hO3; have HX3 := Lib.hid (HX2.out.on hb3); have HO3 := Lib.hid hO3; have HO4 := Lib.hid (HO2.out.on hb3); clear hn3 hO3 hb3)
            | (go_at_call 19; (with_reducible refine (same_rows rfl (by have := HLr.out; omega) HO3.out HO4.out).mono ?_); rintro e y4 ⟨rfl, hb4⟩; have HX4 := Lib.hid (HX3.out.on hb4); clear hb4))
          obtain ⟨g0, rfl⟩ : ∃ g0, gk = g0 + 1 := ⟨gk - 1, by omega⟩
          go_roundg g0
          case measure => omega
          case rel => exact ⟨i + 1, gains', out', X, M', pg', ng', kg', by omega, hi30, rfl, rfl, by go_num, HX4, HNx⟩
        · rw [decide_eq_true hXa] at hrb
          subst hrb
          have HOD := Lib.hid hod
          go_upto_region 23 with (first
            | (go_at_call 46; (with_reducible refine (HRi.out _ (Below.refl _ _)).mono ?_); rintro e y1 ⟨p1, n1, k1, rfl, hn1, hO1, hb1⟩; have HX1 := Lib.hid (HXc.out.on hb1); have HO1 := Lib.hid hO1; clear hn1 hO1 hb1; obtain ⟨c0, c1, c2, c3, c4, c5⟩ := HX1.out.cells HC.out)
            | (go_at_call 42; (with_reducible refine (HSt.out _ HX1.out).mono ?_); rintro e y2 ⟨rfl, HX2, ht2⟩; have HO2 := Lib.hid (HO1.out.tch ht2.out (fun k hk e => by have h1 := (HO1.out.lt k hk).1; have h2 := HB1.out; rcases e with e | e | e <;> omega)); clear ht2; obtain ⟨c0, c1, c2, c3, c4, c5⟩ := HX2.out.cells HC.out)
            | (go_at_call 51; (with_reducible refine (ggot_any HX2.out.gx.is).mono ?_); rintro e y3 ⟨rfl, rfl⟩))
          obtain ⟨hh, hhh⟩ : ∃ b, X.h = b := ⟨_, rfl⟩
          obtain ⟨gv, hgv⟩ : ∃ z, X.got = z := ⟨_, rfl⟩
          rw [hhh, hgv]
          have hod2 := hod.hs
          rw [HRn.out, hhh] at hod2
          obtain ⟨_, _, _, e1, hn1⟩ := HO2.out.form
          cases e1
          cases hh with
          | false =>
            have hr0 : rn = [] := by
              apply List.eq_nil_of_length_eq_zero
              rcases Nat.eq_zero_or_pos rn.length with h | h
              · exact h
              · rw [decide_eq_true h] at hod2; cases hod2
            subst hr0
            simp only [List.length_nil] at hn1
            subst hn1
            have HNx : Hid (OAZ C P was out' gains' X M' (i + 1)) := .inl ⟨hXa, hod.mem, hod.sz, by have := hod.all; rw [hands_no hhh, List.append_nil] at this; exact this, hod.t, by have := HI.out.2.2.2.2; omega⟩
            have hi30 : i + 1 ≤ 31 := by have h1 := HI.out.2.2.1; have h2 : 1 ≤ muG C P x mm' := (by unfold muG remG; split <;> (try split) <;> omega); omega
            clear hod hod2 hhh hgv HOD
            go_quiet (fail)
            have HX3 := Lib.hid (HX2.out.on (below_dN (Below.refl _ _) nq))
            go_wp2_with fail
            obtain ⟨g0, rfl⟩ : ∃ g0, gk = g0 + 1 := ⟨gk - 1, by omega⟩
            go_roundg g0
            case measure => omega
            case rel => exact ⟨i + 1, gains', out', X, M', pg', ng', kg', by omega, hi30, rfl, rfl, by go_num, HX3, HNx⟩
          | true =>
            have hring := hod.got hhh
            rw [HRn.out] at hring
            have hgs : gv = X.s := by rw [← hgv]; unfold GS.got; rw [if_pos hhh]
            obtain ⟨s0, hs0⟩ : ∃ s0, X.s = s0 := ⟨_, rfl⟩
            obtain ⟨rl, hrl⟩ : ∃ rl, rng C P M' = rl := ⟨_, rfl⟩
            rw [hs0] at hgs
            subst hgs
            rw [hs0, hrl] at hring
            subst hring
            obtain ⟨wb, wo, rfl, hnn, hlk, hkm, hwb, hwc, hws, hw1⟩ := row_head HO2.out (by have := HLr.out; simp at this; omega)
            have hn0 : (0 : Int) < n1 := by omega
            have hn0' : 0 < n1 := by omega
            have hn00 : ¬ ((n1 : Int) ≤ 0) := by omega
            have hs1 : (1 : Int) ≤ n1 := by omega
            have hs2 : (n1 : Int) ≤ k1 := by omega
            have hs3 : (1 : Int) ≤ k1 := by omega
            have hs4 : 1 ≤ n1 := by omega
            have hs5 : n1 ≤ k1 := by omega
            have hs6 : 1 ≤ k1 := by omega
            have hs7 : ¬ ((n1 : Int) < 1) := by omega
            have hs8 : ¬ ((k1 : Int) < n1) := by omega
            have HLr2 : Hid (out'.length + rl.length ≤ 8) := by have := HLr.out; simp only [List.length_cons] at this; show _ ≤ _; omega
            have HNx : Hid (OAZ C P was (out' ++ [gv]) gains' X M' (i + 1)) := .inl ⟨hXa, hod.mem, hod.sz, by have := hod.all; rw [hands_yes hhh, hs0] at this; exact this, hod.t, by have := HI.out.2.2.2.2; omega⟩
            have hi30 : i + 1 ≤ 31 := by have h1 := HI.out.2.2.1; have h2 : 1 ≤ muG C P x mm' := (by unfold muG remG; split <;> (try split) <;> omega); omega
            have HMk := Lib.hid hod.mem
            have HRl := Lib.hid hrl
            have HK : Hid (∀ W1, Below y3.heap.size y3 W1 → ((W1.cell? ⟨cb, 0, none⟩ = some (.int .i64 N) ∧ W1.cell? ⟨cb, 1, none⟩ = some (.int .i64 Q) ∧ W1.cell? ⟨cb, 2, none⟩ = some (.int .i64 G) ∧ W1.cell? ⟨cb, 3, none⟩ = some (.int .i64 M) ∧ W1.cell? ⟨cb, 4, none⟩ = some (.int .i64 T) ∧ W1.cell? ⟨cb, 5, none⟩ = some (.int .i64 U)) ∧ W1.cell? ⟨wb, wo, none⟩ = some (.int .i64 gv))) := fun W1 hb => ⟨(HX2.out.on hb).cells HC.out, k_al hwc hb⟩
            clear hod hod2 hhh hgv HOD hs0 hrl hwc hwb hn1
            by_cases hk1 : k1 = 1
            · subst hk1
              obtain rfl : rl = [] := hw1 rfl
              obtain rfl : n1 = 1 := by simpa using hnn
              have HWs : Hid (∀ W1, Below y3.heap.size y3 W1 → SlIs (fun _ => False) W1 (.slice (some ⟨wb, wo, none⟩) 0 0) []) := fun W1 _ => ⟨_, _, rfl, Nat.le_refl _, Nat.zero_le _, (fun e => by cases e), .nil ..⟩
              clear hws hw1 hnn hlk hkm hs1 hs2 hs3 hs4 hs5 hs6 hs7 hs8 hn0 hn0' hn00
              refine wp_region_noPanic ?_
              refine wp_region_held_drew (S := (fun W1 => (W1.cell? ⟨cb, 0, none⟩ = some (.int .i64 N) ∧ W1.cell? ⟨cb, 1, none⟩ = some (.int .i64 Q) ∧ W1.cell? ⟨cb, 2, none⟩ = some (.int .i64 G) ∧ W1.cell? ⟨cb, 3, none⟩ = some (.int .i64 M) ∧ W1.cell? ⟨cb, 4, none⟩ = some (.int .i64 T) ∧ W1.cell? ⟨cb, 5, none⟩ = some (.int .i64 U)) ∧ W1.cell? ⟨wb, wo, none⟩ = some (.int .i64 gv))) (by kernel_rfl) (HK.out _ (Below.refl _ _).drew) (fun hHeld => ?_)
              refine wpAnyH_take (i := 0) (v := ?_) at_0 (by kernel_rfl) (by kernel_rfl) (by kernel_rfl) (fun _ _ _ h => h) (Or.inl ⟨by rfl, ?_⟩) (by assumption) ?_
              rotate_left
              · (intro w hSw; (try dsimp only at hSw); go_simp; (try with_reducible rfl))
              (try simp only [Act.put, List.setIfInBounds_toArray, List.set_cons_zero, List.set_cons_succ])
              refine wpAnyH_take (i := 1) (v := ?_) at_1 (by kernel_rfl) (by kernel_rfl) (by kernel_rfl) (fun _ _ _ h => h) (Or.inl ⟨by rfl, ?_⟩) (by assumption) ?_
              rotate_left
              · (intro w hSw; (try dsimp only at hSw); go_simp; (try with_reducible rfl))
              (try simp only [Act.put, List.setIfInBounds_toArray, List.set_cons_zero, List.set_cons_succ])
              refine wpAnyH_take (i := 2) (v := ?_) at_2 (by kernel_rfl) (by kernel_rfl) (by kernel_rfl) (fun _ _ _ h => h) (Or.inl ⟨by rfl, ?_⟩) (by assumption) ?_
              rotate_left
              · (intro w hSw; (try dsimp only at hSw); go_simp; (try with_reducible rfl))
              (try simp only [Act.put, List.setIfInBounds_toArray, List.set_cons_zero, List.set_cons_succ])
              refine wpAnyH_take (i := 3) (v := ?_) at_3 (by kernel_rfl) (by kernel_rfl) (by kernel_rfl) (fun _ _ _ h => h) (Or.inl ⟨by rfl, ?_⟩) (by assumption) ?_
              rotate_left
              · (intro w hSw; (try dsimp only at hSw); go_simp; (try with_reducible rfl))
              (try simp only [Act.put, List.setIfInBounds_toArray, List.set_cons_zero, List.set_cons_succ])
              refine wpAnyH_take (i := 4) (v := ?_) at_4 (by kernel_rfl) (by kernel_rfl) (by kernel_rfl) (fun _ _ _ h => h) (Or.inl ⟨by rfl, ?_⟩) (by assumption) ?_
              rotate_left
              · (intro w hSw; (try dsimp only at hSw); go_simp; (try with_reducible rfl))
              (try simp only [Act.put, List.setIfInBounds_toArray, List.set_cons_zero, List.set_cons_succ])
              refine wpAnyH_take (i := 5) (v := ?_) at_5 (by kernel_rfl) (by kernel_rfl) (by kernel_rfl) (fun _ _ _ h => h) (Or.inl ⟨by rfl, ?_⟩) (by assumption) ?_
              rotate_left
              · (intro w hSw; (try dsimp only at hSw); go_simp; (try with_reducible rfl))
              (try simp only [Act.put, List.setIfInBounds_toArray, List.set_cons_zero, List.set_cons_succ])
              refine wpAnyH_take (i := 6) (v := ?_) at_6 (by kernel_rfl) (by kernel_rfl) (by kernel_rfl) (fun _ _ _ h => h) (Or.inl ⟨by rfl, ?_⟩) (by assumption) ?_
              rotate_left
              · (intro w hSw; (try dsimp only at hSw); go_simp; (try with_reducible rfl))
              (try simp only [Act.put, List.setIfInBounds_toArray, List.set_cons_zero, List.set_cons_succ])
              refine wpAnyH_take (i := 7) (v := ?_) at_7 (by kernel_rfl) (by kernel_rfl) (by kernel_rfl) (fun _ _ _ h => h) (Or.inl ⟨by rfl, ?_⟩) (by assumption) ?_
              rotate_left
              · (intro w hSw; (try dsimp only at hSw); go_simp; (try with_reducible rfl))
              (try simp only [Act.put, List.setIfInBounds_toArray, List.set_cons_zero, List.set_cons_succ])
              refine wpAnyH_take (i := 8) (v := ?_) at_8 (by kernel_rfl) (by kernel_rfl) (by kernel_rfl) (fun _ _ _ h => h) (Or.inl ⟨by rfl, ?_⟩) (by assumption) ?_
              rotate_left
              · (intro w hSw; (try dsimp only at hSw); go_simp; (try with_reducible rfl))
              (try simp only [Act.put, List.setIfInBounds_toArray, List.set_cons_zero, List.set_cons_succ])
              refine wpAnyH_take (i := 9) (v := ?_) at_9 (by kernel_rfl) (by kernel_rfl) (by kernel_rfl) (fun _ _ _ h => h) (Or.inl ⟨by rfl, ?_⟩) (by assumption) ?_
              rotate_left
              · (intro w hSw; (try dsimp only at hSw); go_simp; (try with_reducible rfl))
              (try simp only [Act.put, List.setIfInBounds_toArray, List.set_cons_zero, List.set_cons_succ])
              refine wpAnyH_take (i := 10) (v := ?_) at_10 (by kernel_rfl) (by kernel_rfl) (by kernel_rfl) (fun _ _ _ h => h) (Or.inl ⟨by rfl, ?_⟩) (by assumption) ?_
              rotate_left
              · (intro w hSw; (try dsimp only at hSw); go_simp; (try with_reducible rfl))
              (try simp only [Act.put, List.setIfInBounds_toArray, List.set_cons_zero, List.set_cons_succ])
              refine wpAnyH_take (i := 11) (v := ?_) at_11 (by kernel_rfl) (by kernel_rfl) (by kernel_rfl) (fun _ _ _ h => h) (Or.inl ⟨by rfl, ?_⟩) (by assumption) ?_
              rotate_left
              · (intro w hSw; (try dsimp only at hSw); go_simp; (try with_reducible rfl))
              (try simp only [Act.put, List.setIfInBounds_toArray, List.set_cons_zero, List.set_cons_succ])
              refine wpAnyH_take (i := 12) (v := ?_) at_12 (by kernel_rfl) (by kernel_rfl) (by kernel_rfl) (fun _ _ _ h => h) (Or.inl ⟨by rfl, ?_⟩) (by assumption) ?_
              rotate_left
              · (intro w hSw; (try dsimp only at hSw); go_simp; (try with_reducible rfl))
              (try simp only [Act.put, List.setIfInBounds_toArray, List.set_cons_zero, List.set_cons_succ])
              refine wpAnyH_take (i := 13) (v := ?_) at_13 (by kernel_rfl) (by kernel_rfl) (by kernel_rfl) (fun _ _ _ h => h) (Or.inl ⟨by rfl, ?_⟩) (by assumption) ?_
              rotate_left
              · (intro w hSw; (try dsimp only at hSw); go_simp; (try with_reducible rfl))
              (try simp only [Act.put, List.setIfInBounds_toArray, List.set_cons_zero, List.set_cons_succ])
              refine wpAnyH_take (i := 14) (v := ?_) at_14 (by kernel_rfl) (by kernel_rfl) (by kernel_rfl) (fun _ _ _ h => h) (Or.inl ⟨by rfl, ?_⟩) (by assumption) ?_
              rotate_left
              · (intro w hSw; (try dsimp only at hSw); go_simp; (try with_reducible rfl))
              (try simp only [Act.put, List.setIfInBounds_toArray, List.set_cons_zero, List.set_cons_succ])
              refine wpAnyH_take (i := 15) (v := ?_) at_15 (by kernel_rfl) (by kernel_rfl) (by kernel_rfl) (fun _ _ _ h => h) (Or.inl ⟨by rfl, ?_⟩) (by assumption) ?_
              rotate_left
              · (intro w hSw; (try dsimp only at hSw); go_simp; (try with_reducible rfl))
              (try simp only [Act.put, List.setIfInBounds_toArray, List.set_cons_zero, List.set_cons_succ])
              refine wpAnyH_take (i := 16) (v := ?_) at_16 (by kernel_rfl) (by kernel_rfl) (by kernel_rfl) (fun _ _ _ h => h) (Or.inl ⟨by rfl, ?_⟩) (by assumption) ?_
              rotate_left
              · (intro w hSw; (try dsimp only at hSw); go_simp; (try with_reducible rfl))
              (try simp only [Act.put, List.setIfInBounds_toArray, List.set_cons_zero, List.set_cons_succ])
              refine wpAnyH_take (i := 18) (v := ?_) at_18 (by kernel_rfl) (by kernel_rfl) (by kernel_rfl) (fun _ _ _ h => h) (Or.inl ⟨by rfl, ?_⟩) (by assumption) ?_
              rotate_left
              · (intro w hSw; (try dsimp only at hSw); go_simp; (try with_reducible rfl))
              (try simp only [Act.put, List.setIfInBounds_toArray, List.set_cons_zero, List.set_cons_succ])
              refine wpAnyH_take (i := 19) (v := ?_) at_19 (by kernel_rfl) (by kernel_rfl) (by kernel_rfl) (fun _ _ _ h => h) (Or.inl ⟨by rfl, ?_⟩) (by assumption) ?_
              rotate_left
              · (intro w hSw; (try dsimp only at hSw); go_simp; (try with_reducible rfl))
              (try simp only [Act.put, List.setIfInBounds_toArray, List.set_cons_zero, List.set_cons_succ])
              refine wpAnyH_ready (rs := [17]) (by kernel_rfl) (by simp) ?_
              refine AllReadyH.cons at_17 (fun K hK => ?_) AllReadyH.nil
              go_simp
              go_at_call 46
              (with_reducible refine (HX2.out.ring HC.out HMk.out _ (Below.refl _ _).drew).mono ?_)
              rintro e y4 ⟨p4, n4, k4, rfl, hn4, hO4, hB4⟩
              rw [HRl.out] at hO4
              have hb4 : Below y3.heap.size y3 y4 := (Below.refl _ _).drew.trans (hB4.mono (Nat.le_refl _))
              go_wp2_with fail
              refine hK.out _ _ (HK.out _ hb4) (fun hHeld => ?_)
              clear hK K
              (try simp only [Act.put, List.setIfInBounds_toArray, List.set_cons_zero, List.set_cons_succ])
              refine wpAnyH_ready (rs := [20]) (by kernel_rfl) (by simp) ?_
              refine AllReadyH.cons at_20 (fun K hK => ?_) AllReadyH.nil
              go_simp
              go_at_call 19
              (with_reducible refine (same_sl (by have := HLr2.out; omega) (show NewRow _ y4 _ _ from hO4) (HWs.out _ hb4)).mono ?_)
              rintro e y5 ⟨rfl, hB5⟩
              have hb5 : Below y3.heap.size y3 y5 := hb4.trans (hB5.mono hb4.size)
              go_wp2_with fail
              refine hK.out _ _ (HK.out _ hb5) (fun hHeld => ?_)
              clear hK K
              (try simp only [Act.put, List.setIfInBounds_toArray, List.set_cons_zero, List.set_cons_succ])
              refine wpAnyH_take (i := 21) (v := ?_) at_21 (by kernel_rfl) (by kernel_rfl) (by kernel_rfl) (fun _ _ _ h => h) (Or.inl ⟨by rfl, ?_⟩) (by assumption) ?_
              rotate_left
              · (intro w hSw; (try dsimp only at hSw); go_simp; (try with_reducible rfl))
              (try simp only [Act.put, List.setIfInBounds_toArray, List.set_cons_zero, List.set_cons_succ])
              refine wpAnyH_take (i := 22) (v := ?_) at_22 (by kernel_rfl) (by kernel_rfl) (by kernel_rfl) (fun _ _ _ h => h) (Or.inl ⟨by rfl, ?_⟩) (by assumption) ?_
              rotate_left
              · (intro w hSw; (try dsimp only at hSw); go_simp; (try with_reducible rfl))
              (try simp only [Act.put, List.setIfInBounds_toArray, List.set_cons_zero, List.set_cons_succ])
              refine wpAnyH_take (i := 23) (v := ?_) at_23 (by kernel_rfl) (by kernel_rfl) (by kernel_rfl) (fun _ _ _ h => h) (Or.inl ⟨by rfl, ?_⟩) (by assumption) ?_
              rotate_left
              · (intro w hSw; (try dsimp only at hSw); go_simp; (try with_reducible rfl))
              (try simp only [Act.put, List.setIfInBounds_toArray, List.set_cons_zero, List.set_cons_succ])
              refine wpAnyH_take (i := 24) (v := ?_) at_24 (by kernel_rfl) (by kernel_rfl) (by kernel_rfl) (fun _ _ _ h => h) (Or.inl ⟨by rfl, ?_⟩) (by assumption) ?_
              rotate_left
              · (intro w hSw; (try dsimp only at hSw); go_simp; (try with_reducible rfl))
              (try simp only [Act.put, List.setIfInBounds_toArray, List.set_cons_zero, List.set_cons_succ])
              refine wpAnyH_done (by kernel_rfl) ?_ _
              refine NoPanic.normal ?_
              have HX5 := Lib.hid (HX2.out.on hb5)
              clear HK HWs hO4 hb4 hb5 hB4 hB5 hn4
              go_wp2_with (at_builtin; refine append_new_at (R := fun _ => False) (B := w.heap.size) _ rfl (.tmp 126) (.tmp 128) (by rfl) (.slice (some ⟨_, 0, none⟩) 1 1) (.slice pg' ng' kg') out' [gv] (by kernel_rfl) (HX5.out.rg.on ((Below.refl _ _).alloc (Nat.le_refl _) _)) (by kernel_rfl) (sl_one gv _ _ _ rfl id) (by have := HLr2.out; rw [List.length_singleton]; omega) (Nat.le_trans HX5.out.bel.size (by simp)) ?_; intro v6 y6 r6 g6 a6; obtain ⟨p6, n6, k6, rfl, -⟩ := r6.form; have HX6 := Lib.hid ((HX5.out.on ((Below.refl _ _).alloc (Nat.le_refl _) _)).app r6 g6 a6); clear r6 g6 a6)
              obtain ⟨g0, rfl⟩ : ∃ g0, gk = g0 + 1 := ⟨gk - 1, by omega⟩
              go_roundg g0
              case measure => omega
              case rel => exact ⟨i + 1, gains', out' ++ [gv], X, M', p6, n6, k6, by omega, hi30, rfl, rfl, by go_num, HX6, HNx⟩
            · have HWs : Hid (∀ W1, Below y3.heap.size y3 W1 → SlIs (fun _ => False) W1 (.slice (some ⟨wb, wo + 1, none⟩) (n1 - 1) (k1 - 1)) rl) := fun W1 hb => by
                have h1 := (hws hk1).on hb
                rw [show n1 - 1 = rl.length by omega]
                exact h1
              clear hws hw1 hnn hlk hkm hs2 hs3 hs5 hs6 hs8
              refine wp_region_noPanic ?_
              refine wp_region_held_drew (S := (fun W1 => (W1.cell? ⟨cb, 0, none⟩ = some (.int .i64 N) ∧ W1.cell? ⟨cb, 1, none⟩ = some (.int .i64 Q) ∧ W1.cell? ⟨cb, 2, none⟩ = some (.int .i64 G) ∧ W1.cell? ⟨cb, 3, none⟩ = some (.int .i64 M) ∧ W1.cell? ⟨cb, 4, none⟩ = some (.int .i64 T) ∧ W1.cell? ⟨cb, 5, none⟩ = some (.int .i64 U)) ∧ W1.cell? ⟨wb, wo, none⟩ = some (.int .i64 gv))) (by kernel_rfl) (HK.out _ (Below.refl _ _).drew) (fun hHeld => ?_)
              refine wpAnyH_take (i := 0) (v := ?_) at_0 (by kernel_rfl) (by kernel_rfl) (by kernel_rfl) (fun _ _ _ h => h) (Or.inl ⟨by rfl, ?_⟩) (by assumption) ?_
              rotate_left
              · (intro w hSw; (try dsimp only at hSw); go_simp; (try with_reducible rfl))
              (try simp only [Act.put, List.setIfInBounds_toArray, List.set_cons_zero, List.set_cons_succ])
              refine wpAnyH_take (i := 1) (v := ?_) at_1 (by kernel_rfl) (by kernel_rfl) (by kernel_rfl) (fun _ _ _ h => h) (Or.inl ⟨by rfl, ?_⟩) (by assumption) ?_
              rotate_left
              · (intro w hSw; (try dsimp only at hSw); go_simp; (try with_reducible rfl))
              (try simp only [Act.put, List.setIfInBounds_toArray, List.set_cons_zero, List.set_cons_succ])
              refine wpAnyH_take (i := 2) (v := ?_) at_2 (by kernel_rfl) (by kernel_rfl) (by kernel_rfl) (fun _ _ _ h => h) (Or.inl ⟨by rfl, ?_⟩) (by assumption) ?_
              rotate_left
              · (intro w hSw; (try dsimp only at hSw); go_simp; (try with_reducible rfl))
              (try simp only [Act.put, List.setIfInBounds_toArray, List.set_cons_zero, List.set_cons_succ])
              refine wpAnyH_take (i := 3) (v := ?_) at_3 (by kernel_rfl) (by kernel_rfl) (by kernel_rfl) (fun _ _ _ h => h) (Or.inl ⟨by rfl, ?_⟩) (by assumption) ?_
              rotate_left
              · (intro w hSw; (try dsimp only at hSw); go_simp; (try with_reducible rfl))
              (try simp only [Act.put, List.setIfInBounds_toArray, List.set_cons_zero, List.set_cons_succ])
              refine wpAnyH_take (i := 4) (v := ?_) at_4 (by kernel_rfl) (by kernel_rfl) (by kernel_rfl) (fun _ _ _ h => h) (Or.inl ⟨by rfl, ?_⟩) (by assumption) ?_
              rotate_left
              · (intro w hSw; (try dsimp only at hSw); go_simp; (try with_reducible rfl))
              (try simp only [Act.put, List.setIfInBounds_toArray, List.set_cons_zero, List.set_cons_succ])
              refine wpAnyH_take (i := 5) (v := ?_) at_5 (by kernel_rfl) (by kernel_rfl) (by kernel_rfl) (fun _ _ _ h => h) (Or.inl ⟨by rfl, ?_⟩) (by assumption) ?_
              rotate_left
              · (intro w hSw; (try dsimp only at hSw); go_simp; (try with_reducible rfl))
              (try simp only [Act.put, List.setIfInBounds_toArray, List.set_cons_zero, List.set_cons_succ])
              refine wpAnyH_take (i := 6) (v := ?_) at_6 (by kernel_rfl) (by kernel_rfl) (by kernel_rfl) (fun _ _ _ h => h) (Or.inl ⟨by rfl, ?_⟩) (by assumption) ?_
              rotate_left
              · (intro w hSw; (try dsimp only at hSw); go_simp; (try with_reducible rfl))
              (try simp only [Act.put, List.setIfInBounds_toArray, List.set_cons_zero, List.set_cons_succ])
              refine wpAnyH_take (i := 7) (v := ?_) at_7 (by kernel_rfl) (by kernel_rfl) (by kernel_rfl) (fun _ _ _ h => h) (Or.inl ⟨by rfl, ?_⟩) (by assumption) ?_
              rotate_left
              · (intro w hSw; (try dsimp only at hSw); go_simp; (try with_reducible rfl))
              (try simp only [Act.put, List.setIfInBounds_toArray, List.set_cons_zero, List.set_cons_succ])
              refine wpAnyH_take (i := 8) (v := ?_) at_8 (by kernel_rfl) (by kernel_rfl) (by kernel_rfl) (fun _ _ _ h => h) (Or.inl ⟨by rfl, ?_⟩) (by assumption) ?_
              rotate_left
              · (intro w hSw; (try dsimp only at hSw); go_simp; (try with_reducible rfl))
              (try simp only [Act.put, List.setIfInBounds_toArray, List.set_cons_zero, List.set_cons_succ])
              refine wpAnyH_take (i := 9) (v := ?_) at_9 (by kernel_rfl) (by kernel_rfl) (by kernel_rfl) (fun _ _ _ h => h) (Or.inl ⟨by rfl, ?_⟩) (by assumption) ?_
              rotate_left
              · (intro w hSw; (try dsimp only at hSw); go_simp; (try with_reducible rfl))
              (try simp only [Act.put, List.setIfInBounds_toArray, List.set_cons_zero, List.set_cons_succ])
              refine wpAnyH_take (i := 10) (v := ?_) at_10 (by kernel_rfl) (by kernel_rfl) (by kernel_rfl) (fun _ _ _ h => h) (Or.inl ⟨by rfl, ?_⟩) (by assumption) ?_
              rotate_left
              · (intro w hSw; (try dsimp only at hSw); go_simp; (try with_reducible rfl))
              (try simp only [Act.put, List.setIfInBounds_toArray, List.set_cons_zero, List.set_cons_succ])
              refine wpAnyH_take (i := 11) (v := ?_) at_11 (by kernel_rfl) (by kernel_rfl) (by kernel_rfl) (fun _ _ _ h => h) (Or.inl ⟨by rfl, ?_⟩) (by assumption) ?_
              rotate_left
              · (intro w hSw; (try dsimp only at hSw); go_simp; (try with_reducible rfl))
              (try simp only [Act.put, List.setIfInBounds_toArray, List.set_cons_zero, List.set_cons_succ])
              refine wpAnyH_take (i := 12) (v := ?_) at_12 (by kernel_rfl) (by kernel_rfl) (by kernel_rfl) (fun _ _ _ h => h) (Or.inl ⟨by rfl, ?_⟩) (by assumption) ?_
              rotate_left
              · (intro w hSw; (try dsimp only at hSw); go_simp; (try with_reducible rfl))
              (try simp only [Act.put, List.setIfInBounds_toArray, List.set_cons_zero, List.set_cons_succ])
              refine wpAnyH_take (i := 13) (v := ?_) at_13 (by kernel_rfl) (by kernel_rfl) (by kernel_rfl) (fun _ _ _ h => h) (Or.inl ⟨by rfl, ?_⟩) (by assumption) ?_
              rotate_left
              · (intro w hSw; (try dsimp only at hSw); go_simp; (try with_reducible rfl))
              (try simp only [Act.put, List.setIfInBounds_toArray, List.set_cons_zero, List.set_cons_succ])
              refine wpAnyH_take (i := 14) (v := ?_) at_14 (by kernel_rfl) (by kernel_rfl) (by kernel_rfl) (fun _ _ _ h => h) (Or.inl ⟨by rfl, ?_⟩) (by assumption) ?_
              rotate_left
              · (intro w hSw; (try dsimp only at hSw); go_simp; (try with_reducible rfl))
              (try simp only [Act.put, List.setIfInBounds_toArray, List.set_cons_zero, List.set_cons_succ])
              refine wpAnyH_take (i := 15) (v := ?_) at_15 (by kernel_rfl) (by kernel_rfl) (by kernel_rfl) (fun _ _ _ h => h) (Or.inl ⟨by rfl, ?_⟩) (by assumption) ?_
              rotate_left
              · (intro w hSw; (try dsimp only at hSw); go_simp; (try with_reducible rfl))
              (try simp only [Act.put, List.setIfInBounds_toArray, List.set_cons_zero, List.set_cons_succ])
              refine wpAnyH_take (i := 16) (v := ?_) at_16 (by kernel_rfl) (by kernel_rfl) (by kernel_rfl) (fun _ _ _ h => h) (Or.inl ⟨by rfl, ?_⟩) (by assumption) ?_
              rotate_left
              · (intro w hSw; (try dsimp only at hSw); go_simp; (try with_reducible rfl))
              (try simp only [Act.put, List.setIfInBounds_toArray, List.set_cons_zero, List.set_cons_succ])
              refine wpAnyH_take (i := 18) (v := ?_) at_18 (by kernel_rfl) (by kernel_rfl) (by kernel_rfl) (fun _ _ _ h => h) (Or.inl ⟨by rfl, ?_⟩) (by assumption) ?_
              rotate_left
              · (intro w hSw; (try dsimp only at hSw); go_simp; (try with_reducible rfl))
              (try simp only [Act.put, List.setIfInBounds_toArray, List.set_cons_zero, List.set_cons_succ])
              refine wpAnyH_take (i := 19) (v := ?_) at_19 (by kernel_rfl) (by kernel_rfl) (by kernel_rfl) (fun _ _ _ h => h) (Or.inl ⟨by rfl, ?_⟩) (by assumption) ?_
              rotate_left
              · (intro w hSw; (try dsimp only at hSw); go_simp; (try with_reducible rfl))
              (try simp only [Act.put, List.setIfInBounds_toArray, List.set_cons_zero, List.set_cons_succ])
              refine wpAnyH_ready (rs := [17]) (by kernel_rfl) (by simp) ?_
              refine AllReadyH.cons at_17 (fun K hK => ?_) AllReadyH.nil
              go_simp
              go_at_call 46
              (with_reducible refine (HX2.out.ring HC.out HMk.out _ (Below.refl _ _).drew).mono ?_)
              rintro e y4 ⟨p4, n4, k4, rfl, hn4, hO4, hB4⟩
              rw [HRl.out] at hO4
              have hb4 : Below y3.heap.size y3 y4 := (Below.refl _ _).drew.trans (hB4.mono (Nat.le_refl _))
              go_wp2_with fail
              refine hK.out _ _ (HK.out _ hb4) (fun hHeld => ?_)
              clear hK K
              (try simp only [Act.put, List.setIfInBounds_toArray, List.set_cons_zero, List.set_cons_succ])
              refine wpAnyH_ready (rs := [20]) (by kernel_rfl) (by simp) ?_
              refine AllReadyH.cons at_20 (fun K hK => ?_) AllReadyH.nil
              go_simp
              go_at_call 19
              (with_reducible refine (same_sl (by have := HLr2.out; omega) (show NewRow _ y4 _ _ from hO4) (HWs.out _ hb4)).mono ?_)
              rintro e y5 ⟨rfl, hB5⟩
              have hb5 : Below y3.heap.size y3 y5 := hb4.trans (hB5.mono hb4.size)
              go_wp2_with fail
              refine hK.out _ _ (HK.out _ hb5) (fun hHeld => ?_)
              clear hK K
              (try simp only [Act.put, List.setIfInBounds_toArray, List.set_cons_zero, List.set_cons_succ])
              refine wpAnyH_take (i := 21) (v := ?_) at_21 (by kernel_rfl) (by kernel_rfl) (by kernel_rfl) (fun _ _ _ h => h) (Or.inl ⟨by rfl, ?_⟩) (by assumption) ?_
              rotate_left
              · (intro w hSw; (try dsimp only at hSw); go_simp; (try with_reducible rfl))
              (try simp only [Act.put, List.setIfInBounds_toArray, List.set_cons_zero, List.set_cons_succ])
              refine wpAnyH_take (i := 22) (v := ?_) at_22 (by kernel_rfl) (by kernel_rfl) (by kernel_rfl) (fun _ _ _ h => h) (Or.inl ⟨by rfl, ?_⟩) (by assumption) ?_
              rotate_left
              · (intro w hSw; (try dsimp only at hSw); go_simp; (try with_reducible rfl))
              (try simp only [Act.put, List.setIfInBounds_toArray, List.set_cons_zero, List.set_cons_succ])
              refine wpAnyH_take (i := 23) (v := ?_) at_23 (by kernel_rfl) (by kernel_rfl) (by kernel_rfl) (fun _ _ _ h => h) (Or.inl ⟨by rfl, ?_⟩) (by assumption) ?_
              rotate_left
              · (intro w hSw; (try dsimp only at hSw); go_simp; (try with_reducible rfl))
              (try simp only [Act.put, List.setIfInBounds_toArray, List.set_cons_zero, List.set_cons_succ])
              refine wpAnyH_take (i := 24) (v := ?_) at_24 (by kernel_rfl) (by kernel_rfl) (by kernel_rfl) (fun _ _ _ h => h) (Or.inl ⟨by rfl, ?_⟩) (by assumption) ?_
              rotate_left
              · (intro w hSw; (try dsimp only at hSw); go_simp; (try with_reducible rfl))
              (try simp only [Act.put, List.setIfInBounds_toArray, List.set_cons_zero, List.set_cons_succ])
              refine wpAnyH_done (by kernel_rfl) ?_ _
              refine NoPanic.normal ?_
              have HX5 := Lib.hid (HX2.out.on hb5)
              clear HK HWs hO4 hb4 hb5 hB4 hB5 hn4
              go_wp2_with (at_builtin; refine append_new_at (R := fun _ => False) (B := w.heap.size) _ rfl (.tmp 126) (.tmp 128) (by rfl) (.slice (some ⟨_, 0, none⟩) 1 1) (.slice pg' ng' kg') out' [gv] (by kernel_rfl) (HX5.out.rg.on ((Below.refl _ _).alloc (Nat.le_refl _) _)) (by kernel_rfl) (sl_one gv _ _ _ rfl id) (by have := HLr2.out; rw [List.length_singleton]; omega) (Nat.le_trans HX5.out.bel.size (by simp)) ?_; intro v6 y6 r6 g6 a6; obtain ⟨p6, n6, k6, rfl, -⟩ := r6.form; have HX6 := Lib.hid ((HX5.out.on ((Below.refl _ _).alloc (Nat.le_refl _) _)).app r6 g6 a6); clear r6 g6 a6)
              obtain ⟨g0, rfl⟩ : ∃ g0, gk = g0 + 1 := ⟨gk - 1, by omega⟩
              go_roundg g0
              case measure => omega
              case rel => exact ⟨i + 1, gains', out' ++ [gv], X, M', p6, n6, k6, by omega, hi30, rfl, rfl, by go_num, HX6, HNx⟩
end Go.Proofs.Ytkhfanhboooilaa
