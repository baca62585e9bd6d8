/- The reference's Step (layer 10), walked: at 3. -/
import Derived.Test.YtkhfanhboooilaaHd
import Derived.Test.YtkhfanhboooilaaRw
import Derived.Deep.Cut
set_option linter.unusedSimpArgs false
set_option linter.unusedVariables false
namespace Go.Proofs.Ytkhfanhboooilaa
open Go.RowKit Go.Cg Go.Pu Go.Wd Go.Ce

set_option maxRecDepth 20000 in
set_option maxHeartbeats 4000000 in
theorem rgstep3_any {q0 : Option Addr} {x : GS} {m : PM} {w : World} {l cc : Nat} (ha : x.a = 3) (hok : x.Ok) (ht0 : x.t + 1 ≤ 1000000000) (hm : RM w q0 l cc m.cs) (hu : U64 m) (hops : m.k.ops ≤ 900000) : Calls Try.prog 41 #[rgVal x, .agg #[.slice q0 l cc, .int .u64 m.k.ops]] w (RGStepPost q0 (gStep x m).1 (gStep x m).2 w) := by
  obtain ⟨W4, hW4, hz⟩ := gz_start (x := x) hm
  obtain ⟨X, M, hXM⟩ : ∃ X M, gStep x m = (X, M) := ⟨_, _, rfl⟩
  rw [hXM]
  have HXM := Lib.hid hXM
  show Calls _ _ _ _ (RGStepPost q0 X M w)
  have HHd := Lib.hid (fun W => rhead_any x.w hok.w W)
  have HTl := Lib.hid (fun W => rtail_any x.w hok.w W)
  have HZ := Lib.hid hz
  obtain ⟨b, hb⟩ : ∃ b, w.heap.size = b := ⟨_, rfl⟩
  rw [hb] at HZ
  have HW4 := Lib.hid hW4
  have HOk := Lib.hid hok
  have HU := Lib.hid hu
  have HAa := Lib.hid ha
  clear hz hW4 hm hXM hok hu ha
  show Calls _ _ #[.agg #[.int .i64 x.c.n, .int .i64 x.c.q, .int .i64 x.c.g, .int .i64 x.c.m, .int .i64 x.c.t, .int .i64 x.c.s, .int .i64 x.p, .int .i64 x.a, .int .u64 x.w, .int .i64 x.s, .int .i64 x.got, .bool x.h, .int .i64 x.t], _] _ _
  obtain ⟨gg, hgg⟩ : ∃ gg, x.got = gg := ⟨_, rfl⟩
  obtain ⟨hh, hhh⟩ : ∃ hh, x.h = hh := ⟨_, rfl⟩
  rw [hgg, hhh] at HZ HW4
  rw [hgg, hhh]
  go_enter Try.func41, Try.ntmps41
  go_upto_region 1 with (fail)
  change Code.wp _ _ _ _ ((((w.alloc (.cells (rgC x.c x.p x.a x.w x.s gg hh x.t).toArray 73)).alloc (.cells #[.slice q0 l cc, .int .u64 m.k.ops] 31)).alloc (.cells (rgC cfg0 0 0 0 0 0 false 0).toArray 73)).alloc (.cells #[.slice none 0 0, .int .u64 0] 31))
  rw [HW4.out]
  clear HW4
  obtain ⟨ai, hai⟩ : ∃ ai : Int, (x.a : Int) = ai := ⟨_, rfl⟩
  rw [hai] at HZ
  simp only [hai]
  have ha := HAa.out
  obtain rfl : ai = 3 := by omega
  have hd8 : W4.cell? ⟨b, 8, none⟩ = some (.int .u64 x.w) := HZ.out.gw.get.cell 8
  have HHq : Hid (∀ n, Calls Try.prog 81 #[.int .u64 x.w] (W4.drewN n) (fun e w' => e = .returned (.int .u32 (hd x.w : Nat)) ∧ ∃ m, w' = W4.drewN m)) := fun n => (HHd.out _).mono (fun e w' h => ⟨h.1, n, h.2⟩)
  have HTq : Hid (∀ n, Calls Try.prog 74 #[.int .u64 x.w] (W4.drewN n) (fun e w' => e = .returned (.int .u32 (tl x.w : Nat)) ∧ ∃ m, w' = W4.drewN m)) := fun n => (HTl.out _).mono (fun e w' h => ⟨h.1, n, h.2⟩)
  go_quiet (first | (with_reducible exact (HHq.out _)) | (with_reducible exact (HTq.out _)))
  clear HHq HTq
  obtain ⟨W5, hW5⟩ : ∃ W, W4.drewN nq = W := ⟨_, rfl⟩
  have HZd : Hid (GZ q0 w W5 b x.c x.p 3 x.w x.s gg hh x.t m q0 l cc) := by rw [← hW5]; exact HZ.out.on (below_dN (Below.refl _ _) nq)
  rw [hW5]
  clear hd8 hW5 HZ
  obtain ⟨d0, d1, d2, d3, d4, d5, d6, d7, d8, d9, da, db, dc⟩ := rg_cells HZd.out.gw.get
  have hth := HOk.out.th (by omega)
  have hh0 := HOk.out.h (by omega)
  obtain rfl : hh = false := by rw [← hhh]; exact hh0
  obtain rfl : gg = 0 := by rw [← hgg]; unfold GS.got; rw [if_neg (by rw [hh0]; decide)]
  obtain ⟨ad, had⟩ : ∃ ad, aW x.c x.p = ad := ⟨_, rfl⟩
  have HWo : Hid (∀ W, Calls Try.prog 76 #[.agg #[.int .i64 x.c.n, .int .i64 x.c.q, .int .i64 x.c.g, .int .i64 x.c.m, .int .i64 x.c.t, .int .i64 x.c.s], .int .i64 x.p] W (Ans (.int .i64 ad) W)) := by rw [← had]; exact fun W => rgwordR hth W
  have hwa : x.wa = ad := had
  have hw64 := HOk.out.w
  have htl := tl_lt x.w
  have hhd := hd_lt hw64
  obtain ⟨h1, hh1⟩ : ∃ h1 : Nat, (hd x.w + 1) % 4294967296 = h1 := ⟨_, rfl⟩
  have hh1b : h1 < 4294967296 := by omega
  obtain ⟨nw, hnw⟩ : ∃ nw : Nat, gainW x.w 1 = nw := ⟨_, rfl⟩
  have hnw2 : pk h1 (tl x.w) = nw := by rw [← hnw, ← hh1]; rfl
  have HPk : Hid (∀ W, Calls Try.prog 80 #[.int .u32 h1, .int .u32 (tl x.w : Nat)] W (fun e w' => e = .returned (.int .u64 (nw : Nat)) ∧ w' = W)) := by rw [← hnw2]; exact fun W => rpack_any _ _ hh1b htl W
  have hst := (gstep3 ha m).symm.trans HXM.out
  rw [hwa, hnw] at hst
  have e2 : m.cas ad x.w nw = M := congrArg Prod.snd hst
  obtain ⟨ok, hok⟩ : ∃ ok, decide (m.hit ad x.w) = ok := ⟨_, rfl⟩
  have HCs : Hid (∀ (W : World) (q : Option Addr) (l cc : Nat), RM W q l cc m.cs → Calls Try.prog 79 #[.agg #[.slice q l cc, .int .u64 m.k.ops], .int .i64 ad, .int .u64 x.w, .int .u64 nw] W (RQB q M ok W)) := by
    rw [← e2, ← hok]; exact fun W q l cc h => m_cas ad x.w nw h (by omega)
  have e1 : (if ok = true then { x with a := 0, h := true } else { x with a := 1, t := x.t + 1 } : GS) = X := by
    refine Eq.trans ?_ (congrArg Prod.fst hst : (if m.hit ad x.w then ({ x with a := 0, h := true } : GS) else { x with a := 1, t := x.t + 1 }) = X)
    rw [← hok]
    by_cases hh : m.hit ad x.w
    · simp only [hh, decide_true, if_true]
    · simp only [hh, decide_false, if_false, Bool.false_eq_true]
  have HE : Hid (if ok = true then (X.c = x.c ∧ X.p = x.p ∧ (X.a : Int) = 0 ∧ (X.w : Int) = x.w ∧ X.s = x.s ∧ X.got = x.s ∧ X.h = true ∧ (X.t : Int) = x.t) else (X.c = x.c ∧ X.p = x.p ∧ (X.a : Int) = 1 ∧ (X.w : Int) = x.w ∧ X.s = x.s ∧ X.got = 0 ∧ X.h = false ∧ (X.t : Int) = x.t + 1)) := by
    rw [← e1]
    cases ok with
    | true => exact ⟨rfl, rfl, rfl, rfl, rfl, rfl, rfl, rfl⟩
    | false =>
      refine ⟨rfl, rfl, rfl, rfl, rfl, ?_, hh0, by show ((x.t + 1 : Nat) : Int) = _; omega⟩
      show (if x.h = true then x.s else 0) = (0 : Int)
      rw [if_neg (by rw [hh0]; decide)]
  have hw2 : ((hd x.w : Int) + 1) % 4294967296 = (h1 : Int) := by omega
  have hw1 : IntKind.u32.wrap ((hd x.w : Int) + 1) = (h1 : Int) := by rw [← hw2]; simp [IntKind.wrap, IntKind.bits, IntKind.signed]
  have hwt : IntKind.i64.wrap ((x.t : Int) + 1) = (x.t : Int) + 1 := IntWalk.i64_in _ (by omega)
  clear hst e1 e2 HXM hai had hwa hnw hnw2 hh1 hok hw64 htl hhd hh0 hgg hhh
  go_upto_region 15 with fail
  clear d0 d1 d2 d3 d4 d5 d6 d7 d8 d9 da db dc
  have HZd := Lib.hid (HZd.out.on (Below.refl _ _).drew)
  have HBa : Hid (Below W5.drew.heap.size W5.drew (W5.drew.alloc (.cells #[.slice none 0 0, .int .u64 0] 31))) := Lib.hid ((Below.refl _ _).alloc (Nat.le_refl _) _)
  have HZda := Lib.hid (HZd.out.on HBa.out)
  have HRda : Hid (Row W5.heap.size 31 [.slice none 0 0, .int .u64 0] (W5.drew.alloc (.cells #[.slice none 0 0, .int .u64 0] 31))) := Lib.hid (Row.new W5.drew 31 [.slice none 0 0, .int .u64 0])
  go_cut [11, 12, 20] from 21 (fun v11 v12 v20 wc => ∃ b9 q2 l2 cc2, v11 = .pointer (some ⟨b9, 0, none⟩) ∧ v12 = .bool ok ∧ v20 = .int .i64 3 ∧ Hid (GAft q0 w wc b x.c x.p 3 x.w x.s 0 false x.t m M q0 l cc b9 q2 l2 cc2))
  case first =>
    go_region_held3 (fun w' => (w'.cell? ⟨b, 0, none⟩ = some (.int .i64 x.c.n) ∧ w'.cell? ⟨b, 1, none⟩ = some (.int .i64 x.c.q) ∧ w'.cell? ⟨b, 2, none⟩ = some (.int .i64 x.c.g) ∧ w'.cell? ⟨b, 3, none⟩ = some (.int .i64 x.c.m) ∧ w'.cell? ⟨b, 4, none⟩ = some (.int .i64 x.c.t) ∧ w'.cell? ⟨b, 5, none⟩ = some (.int .i64 x.c.s) ∧ w'.cell? ⟨b, 6, none⟩ = some (.int .i64 x.p)) ∧ w'.cell? ⟨b, 8, none⟩ = some (.int .u64 x.w) ∧ w'.cell? ⟨b + 1, 0, none⟩ = some (.slice q0 l cc) ∧ w'.cell? ⟨b + 1, 1, none⟩ = some (.int .u64 m.k.ops)) (first | (with_reducible exact gz_c10 HZd.out) | (with_reducible exact gz_c10 HZda.out) | (with_reducible exact gz_c10 HZ5.out) | (with_reducible exact gz_c10 HZ5a.out) | (with_reducible exact gz_c10 HZ6.out) | (with_reducible exact gz_c10 HZ6a.out) | (with_reducible exact gz_c10 HA.out.gz)) (first | (go_at_call 76; (with_reducible refine (HWo.out _).mono ?_); rintro e w5 ⟨rfl, hb5⟩; first | (have HB5 : Hid (Below W5.drew.heap.size W5.drew w5) := Lib.hid hb5; have HZ5 := Lib.hid (HZd.out.on HB5.out); have HB5a := Lib.hid (HB5.out.alloc HB5.out.size (.cells #[.slice none 0 0, .int .u64 0] 31)); have HZ5a := Lib.hid (HZd.out.on HB5a.out); have HR5a := Lib.hid (Row.new w5 31 [.slice none 0 0, .int .u64 0]); clear hb5) | (have HB5 : Hid (Below W5.drew.heap.size W5.drew w5) := Lib.hid (HBa.out.trans (hb5.mono HBa.out.size)); have HZ5 := Lib.hid (HZd.out.on HB5.out); have HR5 := Lib.hid (HRda.out.on' hb5); clear hb5)) | (go_at_call 80; (with_reducible refine (HPk.out _).mono ?_); rintro e w4 ⟨rfl, hw4⟩; subst hw4) | (go_at_call 79; first | ((with_reducible refine (HCs.out _ _ _ _ HZ5.out.rm).mono ?_); rintro e w6 ⟨q2, l2, cc2, rfl, hm6, hb6, hf6⟩; have HB6 := Lib.hid (HB5.out.trans (hb6.mono HB5.out.size)); have HZ6 := Lib.hid (HZd.out.on HB6.out); have HF := Lib.hid (hf6.old HZ5.out.gw.bel.size); first | (have HR6 := Lib.hid (HR5.out.on' hb6); have HA := Lib.hid (gz_aft HZd.out HB6.out HR6.out (by first | exact Nat.le_refl _ | exact HB5.out.size | exact HB6.out.size) hm6 HF.out); obtain ⟨c0, c1, f0, f1⟩ := HR6.out.two; clear hm6 hb6 hf6) | (have HB6a := Lib.hid (HB6.out.alloc HB6.out.size (.cells #[.slice none 0 0, .int .u64 0] 31)); have HZ6a := Lib.hid (HZd.out.on HB6a.out); have HR6 := Lib.hid (Row.new w6 31 [.slice none 0 0, .int .u64 0]); have HA := Lib.hid (gz_aft2 HZd.out HB6.out hm6 HF.out); obtain ⟨c0, c1, f0, f1⟩ := HR6.out.two; clear hm6 hb6 hf6)) | ((with_reducible refine (HCs.out _ _ _ _ HZ5a.out.rm).mono ?_); rintro e w6 ⟨q2, l2, cc2, rfl, hm6, hb6, hf6⟩; have HB6 := Lib.hid (HB5a.out.trans (hb6.mono HB5a.out.size)); have HZ6 := Lib.hid (HZd.out.on HB6.out); have HF := Lib.hid (hf6.old HZ5a.out.gw.bel.size); have HR6 := Lib.hid (HR5a.out.on' hb6); have HA := Lib.hid (gz_aft HZd.out HB6.out HR6.out (by first | exact Nat.le_refl _ | exact HB5.out.size | exact HB6.out.size) hm6 HF.out); obtain ⟨c0, c1, f0, f1⟩ := HR6.out.two; clear hm6 hb6 hf6)))
    all_goals (go_wp2_with fail; go_meet; exact ⟨_, _, _, _, rfl, rfl, rfl, HA⟩)
  case rest =>
    obtain ⟨b9, q2, l2, cc2, rfl, rfl, rfl, HA⟩ := hcut
    clear HZd HZda HBa HRda hw1 hw2
    obtain ⟨c0, c1, -, -⟩ := HA.out.row.two
    obtain ⟨m0, m1, k0, k1⟩ := HA.out.gz.gw.mem.two
    have HZ5 := Lib.hid (HA.out.gz.setm HA.out.rm HA.out.fr)
    go_upto_region 17 with fail
    obtain ⟨W6, hW6⟩ : ∃ W, (wc.setCell ⟨b + 1, 0, none⟩ (.slice q2 l2 cc2)).setCell ⟨b + 1, 1, none⟩ (.int .u64 M.k.ops) = W := ⟨_, rfl⟩
    rw [hW6] at HZ5 ⊢
    clear hW6 c0 c1 m0 m1 k0 k1 HA
    have d7 : W6.cell? ⟨b, 7, none⟩ = some (.int .i64 3) := HZ5.out.gw.get.cell 7
    have g7 := HZ5.out.gw.get.frozen 7
    cases ok with
    | true =>
      have HX : Hid (X.c = x.c ∧ X.p = x.p ∧ (X.a : Int) = 0 ∧ (X.w : Int) = x.w ∧ X.s = x.s ∧ X.got = x.s ∧ X.h = true ∧ (X.t : Int) = x.t) := HE.out
      have d9 : W6.cell? ⟨b, 9, none⟩ = some (.int .i64 x.s) := HZ5.out.gw.get.cell 9
      have da : W6.cell? ⟨b, 10, none⟩ = some (.int .i64 0) := HZ5.out.gw.get.cell 10
      have ga := HZ5.out.gw.get.frozen 10
      have HZ6 := Lib.hid (HZ5.out.gt x.s)
      have db : (W6.setCell ⟨b, 10, none⟩ (.int .i64 x.s)).cell? ⟨b, 11, none⟩ = some (.bool false) := HZ6.out.gw.get.cell 11
      have gb := HZ6.out.gw.get.frozen 11
      have HZ7 := Lib.hid (HZ6.out.hs true)
      have e7 : ((W6.setCell ⟨b, 10, none⟩ (.int .i64 x.s)).setCell ⟨b, 11, none⟩ (.bool true)).cell? ⟨b, 7, none⟩ = some (.int .i64 3) := HZ7.out.gw.get.cell 7
      have h7 := HZ7.out.gw.get.frozen 7
      have HZ := Lib.hid (HZ7.out.at 0)
      clear HZ5 HZ6 HZ7 HE
      go_upto_region 23 with fail
      obtain ⟨WE, hWE⟩ : ∃ W, ((W6.setCell ⟨b, 10, none⟩ (.int .i64 x.s)).setCell ⟨b, 11, none⟩ (.bool true)).setCell ⟨b, 7, none⟩ (.int .i64 0) = W := ⟨_, rfl⟩
      rw [hWE] at HZ ⊢
      clear hWE
      clear d9 d7 g7 da ga db gb e7 h7
      obtain ⟨d0, d1, d2, d3, d4, d5, d6, d7, d8, d9, da, db, dc⟩ := rg_cells HZ.out.gw.get
      obtain ⟨m0, m1, -, -⟩ := HZ.out.gw.mem.two
      obtain ⟨r0, r1, r2, r3, r4, r5, r6, r7, r8, r9, ra, rb, rc⟩ := rg_cells HZ.out.gw.rget
      obtain ⟨g0, g1, g2, g3, g4, g5, g6, g7, g8, g9, ga, gb, gc⟩ := rg_frozen HZ.out.gw.rget
      obtain ⟨s0, s1, t0, t1⟩ := HZ.out.gw.rmem.two
      simp only [cfg0] at r0 r1 r2 r3 r4 r5
      obtain ⟨W2, W3, hW2, hW3, hrp, hrm, hpost⟩ := HZ.out.fin HX.out
      have HP := Lib.hid hpost.drew
      obtain ⟨e0, e1, e2, e3, e4, e5, e6, e7, e8, e9, ea, eb, ec⟩ := rg_cells hrp
      obtain ⟨n0, n1, -, -⟩ := hrm.two
      have HW := Lib.hid (And.intro hW2 hW3)
      clear hpost hrp hrm hW2 hW3
      go_region
      rw [HW.out.1, HW.out.2]
      clear d0 d1 d2 d3 d4 d5 d6 d7 d8 d9 da db dc m0 m1 r0 r1 r2 r3 r4 r5 r6 r7 r8 r9 ra rb rc g0 g1 g2 g3 g4 g5 g6 g7 g8 g9 ga gb gc s0 s1 t0 t1
      go_wp2_with fail
      refine bodyPost_ret (v := .tuple #[rgV x.c x.p 0 x.w x.s x.s true x.t, .agg #[.slice q2 l2 cc2, .int .u64 M.k.ops]]) (by simp [results, Try.results41, rgV, go_sem, World.cell?_drew, e0, e1, e2, e3, e4, e5, e6, e7, e8, e9, ea, eb, ec, n0, n1]) rfl ?_
      exact HP.out
    | false =>
      have HX : Hid (X.c = x.c ∧ X.p = x.p ∧ (X.a : Int) = 1 ∧ (X.w : Int) = x.w ∧ X.s = x.s ∧ X.got = 0 ∧ X.h = false ∧ (X.t : Int) = x.t + 1) := HE.out
      have dc : W6.cell? ⟨b, 12, none⟩ = some (.int .i64 x.t) := HZ5.out.gw.get.cell 12
      have gc := HZ5.out.gw.get.frozen 12
      have HZ6 := Lib.hid (HZ5.out.tr (x.t + 1))
      have e7 : (W6.setCell ⟨b, 12, none⟩ (.int .i64 (x.t + 1))).cell? ⟨b, 7, none⟩ = some (.int .i64 3) := HZ6.out.gw.get.cell 7
      have h7 := HZ6.out.gw.get.frozen 7
      have HZ := Lib.hid (HZ6.out.at 1)
      clear HZ5 HZ6 HE
      go_upto_region 23 with fail
      obtain ⟨WE, hWE⟩ : ∃ W, (W6.setCell ⟨b, 12, none⟩ (.int .i64 (x.t + 1))).setCell ⟨b, 7, none⟩ (.int .i64 1) = W := ⟨_, rfl⟩
      rw [hWE] at HZ ⊢
      clear hWE
      clear d7 g7 dc gc e7 h7
      obtain ⟨d0, d1, d2, d3, d4, d5, d6, d7, d8, d9, da, db, dc⟩ := rg_cells HZ.out.gw.get
      obtain ⟨m0, m1, -, -⟩ := HZ.out.gw.mem.two
      obtain ⟨r0, r1, r2, r3, r4, r5, r6, r7, r8, r9, ra, rb, rc⟩ := rg_cells HZ.out.gw.rget
      obtain ⟨g0, g1, g2, g3, g4, g5, g6, g7, g8, g9, ga, gb, gc⟩ := rg_frozen HZ.out.gw.rget
      obtain ⟨s0, s1, t0, t1⟩ := HZ.out.gw.rmem.two
      simp only [cfg0] at r0 r1 r2 r3 r4 r5
      obtain ⟨W2, W3, hW2, hW3, hrp, hrm, hpost⟩ := HZ.out.fin HX.out
      have HP := Lib.hid hpost.drew
      obtain ⟨e0, e1, e2, e3, e4, e5, e6, e7, e8, e9, ea, eb, ec⟩ := rg_cells hrp
      obtain ⟨n0, n1, -, -⟩ := hrm.two
      have HW := Lib.hid (And.intro hW2 hW3)
      clear hpost hrp hrm hW2 hW3
      go_region
      rw [HW.out.1, HW.out.2]
      clear d0 d1 d2 d3 d4 d5 d6 d7 d8 d9 da db dc m0 m1 r0 r1 r2 r3 r4 r5 r6 r7 r8 r9 ra rb rc g0 g1 g2 g3 g4 g5 g6 g7 g8 g9 ga gb gc s0 s1 t0 t1
      go_wp2_with fail
      refine bodyPost_ret (v := .tuple #[rgV x.c x.p 1 x.w x.s 0 false (x.t + 1), .agg #[.slice q2 l2 cc2, .int .u64 M.k.ops]]) (by simp [results, Try.results41, rgV, go_sem, World.cell?_drew, e0, e1, e2, e3, e4, e5, e6, e7, e8, e9, ea, eb, ec, n0, n1]) rfl ?_
      exact HP.out

end Go.Proofs.Ytkhfanhboooilaa
