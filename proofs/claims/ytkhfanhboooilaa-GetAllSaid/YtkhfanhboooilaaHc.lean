/- The reference's Step (layer 10), walked: at 1. -/
import Derived.Test.YtkhfanhboooilaaHb
import Derived.Test.YtkhfanhboooilaaRw
import Derived.Deep.Cut
set_option linter.unusedSimpArgs false
set_option linter.unusedVariables false
namespace Go.Proofs.Ytkhfanhboooilaa
open Go.RowKit Go.Cg Go.Pu Go.Wd Go.Ce

theorem rg_c7 {W : World} {b : Nat} {c : Cfg} {p a x s g t : Int} {h : Bool} (H : Row b 73 (rgC c p a x s g h t) W) : W.cell? ⟨b, 0, none⟩ = some (.int .i64 c.n) ∧ W.cell? ⟨b, 1, none⟩ = some (.int .i64 c.q) ∧ W.cell? ⟨b, 2, none⟩ = some (.int .i64 c.g) ∧ W.cell? ⟨b, 3, none⟩ = some (.int .i64 c.m) ∧ W.cell? ⟨b, 4, none⟩ = some (.int .i64 c.t) ∧ W.cell? ⟨b, 5, none⟩ = some (.int .i64 c.s) ∧ W.cell? ⟨b, 6, none⟩ = some (.int .i64 p) :=
  ⟨H.cell 0, H.cell 1, H.cell 2, H.cell 3, H.cell 4, H.cell 5, H.cell 6⟩
set_option maxRecDepth 20000 in
set_option maxHeartbeats 4000000 in
theorem rgstep1_any {q0 : Option Addr} {x : GS} {m : PM} {w : World} {l cc : Nat} (ha : x.a = 1) (hok : x.Ok) (ht0 : x.t + 1 ≤ 1000000000) (hm : RM w q0 l cc m.cs) (hu : U64 m) (hops : m.k.ops ≤ 900000) : Calls Try.prog 41 #[rgVal x, .agg #[.slice q0 l cc, .int .u64 m.k.ops]] w (RGStepPost q0 (gStep x m).1 (gStep x m).2 w) := by
  obtain ⟨W4, hW4, hz⟩ := gz_start (x := x) hm
  obtain ⟨X, M, hXM⟩ : ∃ X M, gStep x m = (X, M) := ⟨_, _, rfl⟩
  rw [hXM]
  have HXM := Lib.hid hXM
  show Calls _ _ _ _ (RGStepPost q0 X M w)
  have HHd := Lib.hid (fun W => rhead_any x.w hok.w W)
  have HTl := Lib.hid (fun W => rtail_any x.w hok.w W)
  have HZ := Lib.hid hz
  obtain ⟨b, hb⟩ : ∃ b, w.heap.size = b := ⟨_, rfl⟩
  rw [hb] at HZ
  have HW4 := Lib.hid hW4
  have HOk := Lib.hid hok
  have HU := Lib.hid hu
  have HAa := Lib.hid ha
  clear hz hW4 hm hXM hok hu ha
  show Calls _ _ #[.agg #[.int .i64 x.c.n, .int .i64 x.c.q, .int .i64 x.c.g, .int .i64 x.c.m, .int .i64 x.c.t, .int .i64 x.c.s, .int .i64 x.p, .int .i64 x.a, .int .u64 x.w, .int .i64 x.s, .int .i64 x.got, .bool x.h, .int .i64 x.t], _] _ _
  obtain ⟨gg, hgg⟩ : ∃ gg, x.got = gg := ⟨_, rfl⟩
  obtain ⟨hh, hhh⟩ : ∃ hh, x.h = hh := ⟨_, rfl⟩
  rw [hgg, hhh] at HZ HW4
  rw [hgg, hhh]
  go_enter Try.func41, Try.ntmps41
  go_upto_region 1 with (fail)
  change Code.wp _ _ _ _ ((((w.alloc (.cells (rgC x.c x.p x.a x.w x.s gg hh x.t).toArray 73)).alloc (.cells #[.slice q0 l cc, .int .u64 m.k.ops] 31)).alloc (.cells (rgC cfg0 0 0 0 0 0 false 0).toArray 73)).alloc (.cells #[.slice none 0 0, .int .u64 0] 31))
  rw [HW4.out]
  clear HW4
  obtain ⟨ai, hai⟩ : ∃ ai : Int, (x.a : Int) = ai := ⟨_, rfl⟩
  rw [hai] at HZ
  simp only [hai]
  have ha := HAa.out
  obtain rfl : ai = 1 := by omega
  have hd8 : W4.cell? ⟨b, 8, none⟩ = some (.int .u64 x.w) := HZ.out.gw.get.cell 8
  have HHq : Hid (∀ n, Calls Try.prog 81 #[.int .u64 x.w] (W4.drewN n) (fun e w' => e = .returned (.int .u32 (hd x.w : Nat)) ∧ ∃ m, w' = W4.drewN m)) := fun n => (HHd.out _).mono (fun e w' h => ⟨h.1, n, h.2⟩)
  have HTq : Hid (∀ n, Calls Try.prog 74 #[.int .u64 x.w] (W4.drewN n) (fun e w' => e = .returned (.int .u32 (tl x.w : Nat)) ∧ ∃ m, w' = W4.drewN m)) := fun n => (HTl.out _).mono (fun e w' h => ⟨h.1, n, h.2⟩)
  go_quiet (first | (with_reducible exact (HHq.out _)) | (with_reducible exact (HTq.out _)))
  clear HHq HTq
  obtain ⟨W5, hW5⟩ : ∃ W, W4.drewN nq = W := ⟨_, rfl⟩
  have HZd : Hid (GZ q0 w W5 b x.c x.p 1 x.w x.s gg hh x.t m q0 l cc) := by rw [← hW5]; exact HZ.out.on (below_dN (Below.refl _ _) nq)
  rw [hW5]
  clear hd8 hW5 HZ
  obtain ⟨d0, d1, d2, d3, d4, d5, d6, d7, d8, d9, da, db, dc⟩ := rg_cells HZd.out.gw.get
  have hth := HOk.out.th (by omega)
  have hh0 := HOk.out.h (by omega)
  obtain rfl : hh = false := by rw [← hhh]; exact hh0
  obtain rfl : gg = 0 := by rw [← hgg]; unfold GS.got; rw [if_neg (by rw [hh0]; decide)]
  obtain ⟨ad, had⟩ : ∃ ad, aW x.c x.p = ad := ⟨_, rfl⟩
  have HWo : Hid (∀ W, Calls Try.prog 76 #[.agg #[.int .i64 x.c.n, .int .i64 x.c.q, .int .i64 x.c.g, .int .i64 x.c.m, .int .i64 x.c.t, .int .i64 x.c.s], .int .i64 x.p] W (Ans (.int .i64 ad) W)) := by rw [← had]; exact fun W => rgwordR hth W
  have hwa : x.wa = ad := had
  obtain ⟨zn, hzn, hz64⟩ : ∃ zn : Nat, m.ans ad = zn ∧ zn < 18446744073709551616 := by have h := HU.out.ans ad; exact ⟨(m.ans ad).toNat, by omega, by omega⟩
  have hst := (gstep1 ha m).symm.trans HXM.out
  rw [hwa, hzn, Int.toNat_natCast] at hst
  have e2 : m.load ad = M := congrArg Prod.snd hst
  have e1 : ({ x with w := zn, a := lookA (ln zn) x.q } : GS) = X := congrArg Prod.fst hst
  have HLd : Hid (∀ (W : World) (q : Option Addr) (l cc : Nat), RM W q l cc m.cs → Calls Try.prog 75 #[.agg #[.slice q l cc, .int .u64 m.k.ops], .int .i64 ad] W (RQ q M zn W)) := by
    rw [← e2, ← hzn]; exact fun W q l cc h => m_load ad h (by omega)
  have hq := q_le hth.1
  have hqq : (x.q : Int) = x.c.q := hq.2.2.1
  obtain ⟨L, hL⟩ : ∃ L, ln zn = L := ⟨_, rfl⟩
  have HSz : Hid (∀ W, Calls Try.prog 77 #[.int .u64 zn] W (fun e w' => e = .returned (.int .u32 (L : Nat)) ∧ w' = W)) := by rw [← hL]; exact fun W => rsize_any zn hz64 W
  rw [hL] at e1
  have hL32 : L < 4294967296 := by rw [← hL]; unfold ln; omega
  obtain ⟨A, hA⟩ : ∃ A, lookA L x.q = A := ⟨_, rfl⟩
  rw [hA] at e1
  have HE : Hid (X.c = x.c ∧ X.p = x.p ∧ X.a = A ∧ (X.w : Int) = zn ∧ X.s = x.s ∧ X.got = 0 ∧ X.h = false ∧ (X.t : Int) = x.t) := by
    rw [← e1]
    refine ⟨rfl, rfl, rfl, rfl, rfl, ?_, hh0, rfl⟩
    unfold GS.got
    rw [if_neg (by show ¬ x.h = true; rw [hh0]; decide)]
  have HA := Lib.hid hA
  have hqw : IntKind.u32.wrap x.c.q = x.c.q := IntWalk.u32_in _ (by omega)
  clear hst e1 e2 HXM hai hwa had hzn hL hA hh0 hgg hhh
  go_upto_region 4 with fail
  clear d0 d1 d2 d3 d4 d5 d6 d7 d8 d9 da db dc
  have HZd := Lib.hid (HZd.out.on (Below.refl _ _).drew)
  go_cut [20] from 21 (fun v20 wc => v20 = .int .i64 1 ∧ ∃ q2 l2 cc2, Hid (GZ q0 w wc b x.c x.p 1 zn x.s 0 false x.t M q2 l2 cc2))
  case first =>
    obtain ⟨m0, m1, -, -⟩ := HZd.out.gw.mem.two
    refine wp_region_noPanic ?_
    refine wp_region_held_drew (S := (fun w' => w'.cell? ⟨b, 0, none⟩ = some (.int .i64 x.c.n) ∧ w'.cell? ⟨b, 1, none⟩ = some (.int .i64 x.c.q) ∧ w'.cell? ⟨b, 2, none⟩ = some (.int .i64 x.c.g) ∧ w'.cell? ⟨b, 3, none⟩ = some (.int .i64 x.c.m) ∧ w'.cell? ⟨b, 4, none⟩ = some (.int .i64 x.c.t) ∧ w'.cell? ⟨b, 5, none⟩ = some (.int .i64 x.c.s) ∧ w'.cell? ⟨b, 6, none⟩ = some (.int .i64 x.p))) (by kernel_rfl) (by first | (with_reducible exact rg_c7 HZd.out.gw.get) | (with_reducible exact rg_c7 HZ5.out.gw.get) | (with_reducible exact rg_c7 HZ6.out.gw.get) | (with_reducible exact rg_c7 HZ7.out.gw.get) | (with_reducible exact rg_c7 HZ8.out.gw.get)) (fun hHeld => ?_)
    refine wpAnyH_take (i := 1) (v := ?_) at_1 (by kernel_rfl) (by kernel_rfl) (by kernel_rfl) (fun _ _ _ h => h) (Or.inl ⟨by rfl, ?_⟩) (by assumption) ?_
    rotate_left
    · (intro w hSw; (try dsimp only at hSw); go_simp; (try with_reducible rfl))
    (try simp only [Act.put, List.setIfInBounds_toArray, List.set_cons_zero, List.set_cons_succ])
    refine wpAnyH_take (i := 2) (v := ?_) at_2 (by kernel_rfl) (by kernel_rfl) (by kernel_rfl) (fun _ _ _ h => h) (Or.inl ⟨by rfl, ?_⟩) (by assumption) ?_
    rotate_left
    · (intro w hSw; (try dsimp only at hSw); go_simp; (try with_reducible rfl))
    (try simp only [Act.put, List.setIfInBounds_toArray, List.set_cons_zero, List.set_cons_succ])
    refine wpAnyH_take (i := 3) (v := ?_) at_3 (by kernel_rfl) (by kernel_rfl) (by kernel_rfl) (fun _ _ _ h => h) (Or.inl ⟨by rfl, ?_⟩) (by assumption) ?_
    rotate_left
    · (intro w hSw; (try dsimp only at hSw); go_simp; (try with_reducible rfl))
    (try simp only [Act.put, List.setIfInBounds_toArray, List.set_cons_zero, List.set_cons_succ])
    refine wpAnyH_take (i := 4) (v := ?_) at_4 (by kernel_rfl) (by kernel_rfl) (by kernel_rfl) (fun _ _ _ h => h) (Or.inl ⟨by rfl, ?_⟩) (by assumption) ?_
    rotate_left
    · (intro w hSw; (try dsimp only at hSw); go_simp; (try with_reducible rfl))
    (try simp only [Act.put, List.setIfInBounds_toArray, List.set_cons_zero, List.set_cons_succ])
    refine wpAnyH_ready (rs := [0, 5]) (by kernel_rfl) (by simp) ?_
    refine AllReadyH.cons at_0 (fun K hK => ?_) (AllReadyH.cons at_5 (fun K hK => ?_) AllReadyH.nil)
    · go_simp
      refine hK.out _ _ (by first | (with_reducible exact rg_c7 HZd.out.gw.get) | (with_reducible exact rg_c7 HZ5.out.gw.get) | (with_reducible exact rg_c7 HZ6.out.gw.get) | (with_reducible exact rg_c7 HZ7.out.gw.get) | (with_reducible exact rg_c7 HZ8.out.gw.get)) (fun hHeld => ?_)
      clear hK K
      (try simp only [Act.put, List.setIfInBounds_toArray, List.set_cons_zero, List.set_cons_succ])
      refine wpAnyH_ready (rs := [5]) (by kernel_rfl) (by simp) ?_
      refine AllReadyH.cons at_5 (fun K hK => ?_) AllReadyH.nil
      · go_simp
        go_at_call 76; (with_reducible refine (HWo.out _).mono ?_); rintro e w5 ⟨rfl, hb5⟩; have HZ5 := Lib.hid (HZd.out.on hb5); obtain ⟨m0, m1, -, -⟩ := HZ5.out.gw.mem.two; clear hb5
        go_wp2_with fail
        refine hK.out _ _ (by first | (with_reducible exact rg_c7 HZd.out.gw.get) | (with_reducible exact rg_c7 HZ5.out.gw.get) | (with_reducible exact rg_c7 HZ6.out.gw.get) | (with_reducible exact rg_c7 HZ7.out.gw.get) | (with_reducible exact rg_c7 HZ8.out.gw.get)) (fun hHeld => ?_)
        clear hK K
        (try simp only [Act.put, List.setIfInBounds_toArray, List.set_cons_zero, List.set_cons_succ])
        refine wpAnyH_ready (rs := [6]) (by kernel_rfl) (by simp) ?_
        refine AllReadyH.cons at_6 (fun K hK => ?_) AllReadyH.nil
        · go_simp
          go_at_call 75; (with_reducible refine (HLd.out _ _ _ _ HZ5.out.rm).mono ?_); rintro e w6 ⟨q2, l2, cc2, rfl, hm6, hb6, hf6⟩; have HZ6 := Lib.hid (HZ5.out.on hb6); have HZ7 := Lib.hid (HZ6.out.setm hm6 (hf6.old HZ5.out.gw.bel.size)); have HZ8 := Lib.hid (HZ7.out.wd zn); obtain ⟨m0, m1, k0, k1⟩ := HZ6.out.gw.mem.two; obtain ⟨d0, d1, d2, d3, d4, d5, d6, d7, d8, d9, da, db, dc⟩ := rg_cells HZ6.out.gw.get; obtain ⟨g0, g1, g2, g3, g4, g5, g6, g7, g8, g9, ga, gb, gc⟩ := rg_frozen HZ6.out.gw.get; clear hm6 hb6 hf6
          go_wp2_with fail
          refine hK.out _ _ (by first | (with_reducible exact rg_c7 HZd.out.gw.get) | (with_reducible exact rg_c7 HZ5.out.gw.get) | (with_reducible exact rg_c7 HZ6.out.gw.get) | (with_reducible exact rg_c7 HZ7.out.gw.get) | (with_reducible exact rg_c7 HZ8.out.gw.get)) (fun hHeld => ?_)
          clear hK K
          (try simp only [Act.put, List.setIfInBounds_toArray, List.set_cons_zero, List.set_cons_succ])
          refine wpAnyH_take (i := 7) (v := ?_) at_7 (by kernel_rfl) (by kernel_rfl) (by kernel_rfl) (fun _ _ _ h => h) (Or.inl ⟨by rfl, ?_⟩) (by assumption) ?_
          rotate_left
          · (intro w hSw; (try dsimp only at hSw); go_simp; (try with_reducible rfl))
          (try simp only [Act.put, List.setIfInBounds_toArray, List.set_cons_zero, List.set_cons_succ])
          refine wpAnyH_take (i := 8) (v := ?_) at_8 (by kernel_rfl) (by kernel_rfl) (by kernel_rfl) (fun _ _ _ h => h) (Or.inl ⟨by rfl, ?_⟩) (by assumption) ?_
          rotate_left
          · (intro w hSw; (try dsimp only at hSw); go_simp; (try with_reducible rfl))
          (try simp only [Act.put, List.setIfInBounds_toArray, List.set_cons_zero, List.set_cons_succ])
          refine wpAnyH_take (i := 9) (v := ?_) at_9 (by kernel_rfl) (by kernel_rfl) (by kernel_rfl) (fun _ _ _ h => h) (Or.inl ⟨by rfl, ?_⟩) (by assumption) ?_
          rotate_left
          · (intro w hSw; (try dsimp only at hSw); go_simp; (try with_reducible rfl))
          (try simp only [Act.put, List.setIfInBounds_toArray, List.set_cons_zero, List.set_cons_succ])
          refine wpAnyH_ready (rs := [10]) (by kernel_rfl) (by simp) ?_
          refine AllReadyH.cons at_10 (fun K hK => ?_) AllReadyH.nil
          · go_simp
            refine hK.out _ _ (by first | (with_reducible exact rg_c7 HZd.out.gw.get) | (with_reducible exact rg_c7 HZ5.out.gw.get) | (with_reducible exact rg_c7 HZ6.out.gw.get) | (with_reducible exact rg_c7 HZ7.out.gw.get) | (with_reducible exact rg_c7 HZ8.out.gw.get)) (fun hHeld => ?_)
            clear hK K
            (try simp only [Act.put, List.setIfInBounds_toArray, List.set_cons_zero, List.set_cons_succ])
            refine wpAnyH_take (i := 11) (v := ?_) at_11 (by kernel_rfl) (by kernel_rfl) (by kernel_rfl) (fun _ _ _ h => h) (Or.inl ⟨by rfl, ?_⟩) (by assumption) ?_
            rotate_left
            · (intro w hSw; (try dsimp only at hSw); go_simp; (try with_reducible rfl))
            (try simp only [Act.put, List.setIfInBounds_toArray, List.set_cons_zero, List.set_cons_succ])
            refine wpAnyH_ready (rs := [12]) (by kernel_rfl) (by simp) ?_
            refine AllReadyH.cons at_12 (fun K hK => ?_) AllReadyH.nil
            · go_simp
              refine hK.out _ _ (by first | (with_reducible exact rg_c7 HZd.out.gw.get) | (with_reducible exact rg_c7 HZ5.out.gw.get) | (with_reducible exact rg_c7 HZ6.out.gw.get) | (with_reducible exact rg_c7 HZ7.out.gw.get) | (with_reducible exact rg_c7 HZ8.out.gw.get)) (fun hHeld => ?_)
              clear hK K
              (try simp only [Act.put, List.setIfInBounds_toArray, List.set_cons_zero, List.set_cons_succ])
              refine wpAnyH_done (by kernel_rfl) ?_ _
              refine NoPanic.normal ?_
              go_wp2_with fail
              go_meet
              exact ⟨rfl, _, _, _, HZ8⟩
    · go_simp
      go_at_call 76; (with_reducible refine (HWo.out _).mono ?_); rintro e w5 ⟨rfl, hb5⟩; have HZ5 := Lib.hid (HZd.out.on hb5); obtain ⟨m0, m1, -, -⟩ := HZ5.out.gw.mem.two; clear hb5
      go_wp2_with fail
      refine hK.out _ _ (by first | (with_reducible exact rg_c7 HZd.out.gw.get) | (with_reducible exact rg_c7 HZ5.out.gw.get) | (with_reducible exact rg_c7 HZ6.out.gw.get) | (with_reducible exact rg_c7 HZ7.out.gw.get) | (with_reducible exact rg_c7 HZ8.out.gw.get)) (fun hHeld => ?_)
      clear hK K
      (try simp only [Act.put, List.setIfInBounds_toArray, List.set_cons_zero, List.set_cons_succ])
      refine wpAnyH_ready (rs := [0]) (by kernel_rfl) (by simp) ?_
      refine AllReadyH.cons at_0 (fun K hK => ?_) AllReadyH.nil
      · go_simp
        refine hK.out _ _ (by first | (with_reducible exact rg_c7 HZd.out.gw.get) | (with_reducible exact rg_c7 HZ5.out.gw.get) | (with_reducible exact rg_c7 HZ6.out.gw.get) | (with_reducible exact rg_c7 HZ7.out.gw.get) | (with_reducible exact rg_c7 HZ8.out.gw.get)) (fun hHeld => ?_)
        clear hK K
        (try simp only [Act.put, List.setIfInBounds_toArray, List.set_cons_zero, List.set_cons_succ])
        refine wpAnyH_ready (rs := [6]) (by kernel_rfl) (by simp) ?_
        refine AllReadyH.cons at_6 (fun K hK => ?_) AllReadyH.nil
        · go_simp
          go_at_call 75; (with_reducible refine (HLd.out _ _ _ _ HZ5.out.rm).mono ?_); rintro e w6 ⟨q2, l2, cc2, rfl, hm6, hb6, hf6⟩; have HZ6 := Lib.hid (HZ5.out.on hb6); have HZ7 := Lib.hid (HZ6.out.setm hm6 (hf6.old HZ5.out.gw.bel.size)); have HZ8 := Lib.hid (HZ7.out.wd zn); obtain ⟨m0, m1, k0, k1⟩ := HZ6.out.gw.mem.two; obtain ⟨d0, d1, d2, d3, d4, d5, d6, d7, d8, d9, da, db, dc⟩ := rg_cells HZ6.out.gw.get; obtain ⟨g0, g1, g2, g3, g4, g5, g6, g7, g8, g9, ga, gb, gc⟩ := rg_frozen HZ6.out.gw.get; clear hm6 hb6 hf6
          go_wp2_with fail
          refine hK.out _ _ (by first | (with_reducible exact rg_c7 HZd.out.gw.get) | (with_reducible exact rg_c7 HZ5.out.gw.get) | (with_reducible exact rg_c7 HZ6.out.gw.get) | (with_reducible exact rg_c7 HZ7.out.gw.get) | (with_reducible exact rg_c7 HZ8.out.gw.get)) (fun hHeld => ?_)
          clear hK K
          (try simp only [Act.put, List.setIfInBounds_toArray, List.set_cons_zero, List.set_cons_succ])
          refine wpAnyH_take (i := 7) (v := ?_) at_7 (by kernel_rfl) (by kernel_rfl) (by kernel_rfl) (fun _ _ _ h => h) (Or.inl ⟨by rfl, ?_⟩) (by assumption) ?_
          rotate_left
          · (intro w hSw; (try dsimp only at hSw); go_simp; (try with_reducible rfl))
          (try simp only [Act.put, List.setIfInBounds_toArray, List.set_cons_zero, List.set_cons_succ])
          refine wpAnyH_take (i := 8) (v := ?_) at_8 (by kernel_rfl) (by kernel_rfl) (by kernel_rfl) (fun _ _ _ h => h) (Or.inl ⟨by rfl, ?_⟩) (by assumption) ?_
          rotate_left
          · (intro w hSw; (try dsimp only at hSw); go_simp; (try with_reducible rfl))
          (try simp only [Act.put, List.setIfInBounds_toArray, List.set_cons_zero, List.set_cons_succ])
          refine wpAnyH_take (i := 9) (v := ?_) at_9 (by kernel_rfl) (by kernel_rfl) (by kernel_rfl) (fun _ _ _ h => h) (Or.inl ⟨by rfl, ?_⟩) (by assumption) ?_
          rotate_left
          · (intro w hSw; (try dsimp only at hSw); go_simp; (try with_reducible rfl))
          (try simp only [Act.put, List.setIfInBounds_toArray, List.set_cons_zero, List.set_cons_succ])
          refine wpAnyH_ready (rs := [10]) (by kernel_rfl) (by simp) ?_
          refine AllReadyH.cons at_10 (fun K hK => ?_) AllReadyH.nil
          · go_simp
            refine hK.out _ _ (by first | (with_reducible exact rg_c7 HZd.out.gw.get) | (with_reducible exact rg_c7 HZ5.out.gw.get) | (with_reducible exact rg_c7 HZ6.out.gw.get) | (with_reducible exact rg_c7 HZ7.out.gw.get) | (with_reducible exact rg_c7 HZ8.out.gw.get)) (fun hHeld => ?_)
            clear hK K
            (try simp only [Act.put, List.setIfInBounds_toArray, List.set_cons_zero, List.set_cons_succ])
            refine wpAnyH_take (i := 11) (v := ?_) at_11 (by kernel_rfl) (by kernel_rfl) (by kernel_rfl) (fun _ _ _ h => h) (Or.inl ⟨by rfl, ?_⟩) (by assumption) ?_
            rotate_left
            · (intro w hSw; (try dsimp only at hSw); go_simp; (try with_reducible rfl))
            (try simp only [Act.put, List.setIfInBounds_toArray, List.set_cons_zero, List.set_cons_succ])
            refine wpAnyH_ready (rs := [12]) (by kernel_rfl) (by simp) ?_
            refine AllReadyH.cons at_12 (fun K hK => ?_) AllReadyH.nil
            · go_simp
              refine hK.out _ _ (by first | (with_reducible exact rg_c7 HZd.out.gw.get) | (with_reducible exact rg_c7 HZ5.out.gw.get) | (with_reducible exact rg_c7 HZ6.out.gw.get) | (with_reducible exact rg_c7 HZ7.out.gw.get) | (with_reducible exact rg_c7 HZ8.out.gw.get)) (fun hHeld => ?_)
              clear hK K
              (try simp only [Act.put, List.setIfInBounds_toArray, List.set_cons_zero, List.set_cons_succ])
              refine wpAnyH_done (by kernel_rfl) ?_ _
              refine NoPanic.normal ?_
              go_wp2_with fail
              go_meet
              exact ⟨rfl, _, _, _, HZ8⟩
  case rest =>
    obtain ⟨rfl, q2, l2, cc2, HZc⟩ := hcut
    clear HZd
    have d8 : wc.cell? ⟨b, 8, none⟩ = some (.int .u64 zn) := HZc.out.gw.get.cell 8
    have d7 : wc.cell? ⟨b, 7, none⟩ = some (.int .i64 1) := HZc.out.gw.get.cell 7
    have d1 : wc.cell? ⟨b, 1, none⟩ = some (.int .i64 x.c.q) := HZc.out.gw.get.cell 1
    have g7 := HZc.out.gw.get.frozen 7
    have HZ2 := Lib.hid (HZc.out.at 2)
    have e1 : (wc.setCell ⟨b, 7, none⟩ (.int .i64 2)).cell? ⟨b, 1, none⟩ = some (.int .i64 x.c.q) := HZ2.out.gw.get.cell 1
    have e7 : (wc.setCell ⟨b, 7, none⟩ (.int .i64 2)).cell? ⟨b, 7, none⟩ = some (.int .i64 2) := HZ2.out.gw.get.cell 7
    have h7 := HZ2.out.gw.get.frozen 7
    have HZ3 := Lib.hid (HZ2.out.at 0)
    by_cases hL0 : L = 0
    · subst hL0
      have HX : Hid (X.c = x.c ∧ X.p = x.p ∧ (X.a : Int) = 0 ∧ (X.w : Int) = zn ∧ X.s = x.s ∧ X.got = 0 ∧ X.h = false ∧ (X.t : Int) = x.t) := by
        have h0 : A = 0 := by rw [← HA.out]; unfold lookA; rw [if_pos (.inl rfl)]
        have h := HE.out
        rw [h0] at h
        exact ⟨h.1, h.2.1, by rw [h.2.2.1]; rfl, h.2.2.2⟩
      have HZ := HZ3
      clear HZ3 HZ2 HZc HE HA
      go_upto_region 23 with (go_at_call 77; (with_reducible refine (HSz.out _).mono ?_); rintro e w5 ⟨rfl, hw5⟩; obtain rfl : wc = w5 := hw5.symm)
      obtain ⟨WE, hWE⟩ : ∃ W, (wc.setCell ⟨b, 7, none⟩ (.int .i64 2)).setCell ⟨b, 7, none⟩ (.int .i64 0) = W := ⟨_, rfl⟩
      rw [hWE] at HZ ⊢
      clear hWE
      clear g7 d1 d7 d8 e1 e7 h7
      obtain ⟨d0, d1, d2, d3, d4, d5, d6, d7, d8, d9, da, db, dc⟩ := rg_cells HZ.out.gw.get
      obtain ⟨m0, m1, -, -⟩ := HZ.out.gw.mem.two
      obtain ⟨r0, r1, r2, r3, r4, r5, r6, r7, r8, r9, ra, rb, rc⟩ := rg_cells HZ.out.gw.rget
      obtain ⟨g0, g1, g2, g3, g4, g5, g6, g7, g8, g9, ga, gb, gc⟩ := rg_frozen HZ.out.gw.rget
      obtain ⟨s0, s1, t0, t1⟩ := HZ.out.gw.rmem.two
      simp only [cfg0] at r0 r1 r2 r3 r4 r5
      obtain ⟨W2, W3, hW2, hW3, hrp, hrm, hpost⟩ := HZ.out.fin HX.out
      have HP := Lib.hid hpost.drew
      obtain ⟨e0, e1, e2, e3, e4, e5, e6, e7, e8, e9, ea, eb, ec⟩ := rg_cells hrp
      obtain ⟨n0, n1, -, -⟩ := hrm.two
      have HW := Lib.hid (And.intro hW2 hW3)
      clear hpost hrp hrm hW2 hW3
      go_region
      rw [HW.out.1, HW.out.2]
      clear d0 d1 d2 d3 d4 d5 d6 d7 d8 d9 da db dc m0 m1 r0 r1 r2 r3 r4 r5 r6 r7 r8 r9 ra rb rc g0 g1 g2 g3 g4 g5 g6 g7 g8 g9 ga gb gc s0 s1 t0 t1
      go_wp2_with fail
      refine bodyPost_ret (v := .tuple #[rgV x.c x.p 0 zn x.s 0 false x.t, .agg #[.slice q2 l2 cc2, .int .u64 M.k.ops]]) (by simp [results, Try.results41, rgV, go_sem, World.cell?_drew, e0, e1, e2, e3, e4, e5, e6, e7, e8, e9, ea, eb, ec, n0, n1]) rfl ?_
      exact HP.out
    · have hL0' : ¬ (L : Int) = 0 := by omega
      have hb1 : ((L : Int) == 0) = false := beq_false_of_ne hL0'
      by_cases hLq : x.c.q < (L : Int)
      · have HX : Hid (X.c = x.c ∧ X.p = x.p ∧ (X.a : Int) = 0 ∧ (X.w : Int) = zn ∧ X.s = x.s ∧ X.got = 0 ∧ X.h = false ∧ (X.t : Int) = x.t) := by
          have h0 : A = 0 := by rw [← HA.out]; unfold lookA; rw [if_pos (.inr (by omega))]
          have h := HE.out
          rw [h0] at h
          exact ⟨h.1, h.2.1, by rw [h.2.2.1]; rfl, h.2.2.2⟩
        have HZ := HZ3
        clear HZ3 HZ2 HZc HE HA
        go_upto_region 23 with (go_at_call 77; (with_reducible refine (HSz.out _).mono ?_); rintro e w5 ⟨rfl, hw5⟩; obtain rfl : wc = w5 := hw5.symm)
        obtain ⟨WE, hWE⟩ : ∃ W, (wc.setCell ⟨b, 7, none⟩ (.int .i64 2)).setCell ⟨b, 7, none⟩ (.int .i64 0) = W := ⟨_, rfl⟩
        rw [hWE] at HZ ⊢
        clear hWE
        clear g7 d1 d7 d8 e1 e7 h7
        obtain ⟨d0, d1, d2, d3, d4, d5, d6, d7, d8, d9, da, db, dc⟩ := rg_cells HZ.out.gw.get
        obtain ⟨m0, m1, -, -⟩ := HZ.out.gw.mem.two
        obtain ⟨r0, r1, r2, r3, r4, r5, r6, r7, r8, r9, ra, rb, rc⟩ := rg_cells HZ.out.gw.rget
        obtain ⟨g0, g1, g2, g3, g4, g5, g6, g7, g8, g9, ga, gb, gc⟩ := rg_frozen HZ.out.gw.rget
        obtain ⟨s0, s1, t0, t1⟩ := HZ.out.gw.rmem.two
        simp only [cfg0] at r0 r1 r2 r3 r4 r5
        obtain ⟨W2, W3, hW2, hW3, hrp, hrm, hpost⟩ := HZ.out.fin HX.out
        have HP := Lib.hid hpost.drew
        obtain ⟨e0, e1, e2, e3, e4, e5, e6, e7, e8, e9, ea, eb, ec⟩ := rg_cells hrp
        obtain ⟨n0, n1, -, -⟩ := hrm.two
        have HW := Lib.hid (And.intro hW2 hW3)
        clear hpost hrp hrm hW2 hW3
        go_region
        rw [HW.out.1, HW.out.2]
        clear d0 d1 d2 d3 d4 d5 d6 d7 d8 d9 da db dc m0 m1 r0 r1 r2 r3 r4 r5 r6 r7 r8 r9 ra rb rc g0 g1 g2 g3 g4 g5 g6 g7 g8 g9 ga gb gc s0 s1 t0 t1
        go_wp2_with fail
        refine bodyPost_ret (v := .tuple #[rgV x.c x.p 0 zn x.s 0 false x.t, .agg #[.slice q2 l2 cc2, .int .u64 M.k.ops]]) (by simp [results, Try.results41, rgV, go_sem, World.cell?_drew, e0, e1, e2, e3, e4, e5, e6, e7, e8, e9, ea, eb, ec, n0, n1]) rfl ?_
        exact HP.out
      · have HX : Hid (X.c = x.c ∧ X.p = x.p ∧ (X.a : Int) = 2 ∧ (X.w : Int) = zn ∧ X.s = x.s ∧ X.got = 0 ∧ X.h = false ∧ (X.t : Int) = x.t) := by
          have h0 : A = 2 := by rw [← HA.out]; unfold lookA; rw [if_neg (by omega)]
          have h := HE.out
          rw [h0] at h
          exact ⟨h.1, h.2.1, by rw [h.2.2.1]; rfl, h.2.2.2⟩
        have hb2 : decide (x.c.q < (L : Int)) = false := decide_eq_false hLq
        have HZ := HZ2
        clear HZ3 HZ2 HZc HE HA
        go_upto_region 23 with (go_at_call 77; (with_reducible refine (HSz.out _).mono ?_); rintro e w5 ⟨rfl, hw5⟩; obtain rfl : wc = w5 := hw5.symm)
        obtain ⟨WE, hWE⟩ : ∃ W, wc.setCell ⟨b, 7, none⟩ (.int .i64 2) = W := ⟨_, rfl⟩
        rw [hWE] at HZ ⊢
        clear hWE
        clear g7 d1 d7 d8 e1 e7 h7
        obtain ⟨d0, d1, d2, d3, d4, d5, d6, d7, d8, d9, da, db, dc⟩ := rg_cells HZ.out.gw.get
        obtain ⟨m0, m1, -, -⟩ := HZ.out.gw.mem.two
        obtain ⟨r0, r1, r2, r3, r4, r5, r6, r7, r8, r9, ra, rb, rc⟩ := rg_cells HZ.out.gw.rget
        obtain ⟨g0, g1, g2, g3, g4, g5, g6, g7, g8, g9, ga, gb, gc⟩ := rg_frozen HZ.out.gw.rget
        obtain ⟨s0, s1, t0, t1⟩ := HZ.out.gw.rmem.two
        simp only [cfg0] at r0 r1 r2 r3 r4 r5
        obtain ⟨W2, W3, hW2, hW3, hrp, hrm, hpost⟩ := HZ.out.fin HX.out
        have HP := Lib.hid hpost.drew
        obtain ⟨e0, e1, e2, e3, e4, e5, e6, e7, e8, e9, ea, eb, ec⟩ := rg_cells hrp
        obtain ⟨n0, n1, -, -⟩ := hrm.two
        have HW := Lib.hid (And.intro hW2 hW3)
        clear hpost hrp hrm hW2 hW3
        go_region
        rw [HW.out.1, HW.out.2]
        clear d0 d1 d2 d3 d4 d5 d6 d7 d8 d9 da db dc m0 m1 r0 r1 r2 r3 r4 r5 r6 r7 r8 r9 ra rb rc g0 g1 g2 g3 g4 g5 g6 g7 g8 g9 ga gb gc s0 s1 t0 t1
        go_wp2_with fail
        refine bodyPost_ret (v := .tuple #[rgV x.c x.p 2 zn x.s 0 false x.t, .agg #[.slice q2 l2 cc2, .int .u64 M.k.ops]]) (by simp [results, Try.results41, rgV, go_sem, World.cell?_drew, e0, e1, e2, e3, e4, e5, e6, e7, e8, e9, ea, eb, ec, n0, n1]) rfl ?_
        exact HP.out

end Go.Proofs.Ytkhfanhboooilaa
