/- A get's steps: look, copy, gain (layer 10's code). -/
import Derived.Test.YtkhfanhboooilaaGa
set_option linter.unusedSimpArgs false
set_option linter.unusedVariables false
namespace Go.Proofs.Ytkhfanhboooilaa
open Go.RowKit Go.Cg Go.Pu Go.Wd Go.Ce

/-- what a step of the get at b leaves: its cells turned so, its memory m', the answer v -/
def GtPost (b : Nat) (V : List Value) (mb mg : Nat) (m' : PM) (v : Value) (w : World) (e : Ending) (w' : World) : Prop :=
  e = .returned v ∧ Row b 92 V w' ∧ MemIs w' mb mg m' ∧ Tch (fun k => k = b ∨ Own mb mg k) w w'
section
variable {c : Cfg} {p a : Int} {s : Nat} {k t : Int} {hh : Bool} {w w' : World} {b mb mg : Nat} {m : PM}
theorem gown_ne (hb : ¬ Own mb mg b) : b ≠ mb ∧ b ≠ mg := ⟨fun e => hb (.inl e), fun e => hb (.inr e)⟩
theorem gt_fin {w4 w5 : World} {V : List Value} {v : Value} {m' : PM} (HM : MemIs w4 mb mg m') (HT : Tch (fun k => k = b ∨ Own mb mg k) w w4) (hb : ¬ Own mb mg b) (t1 : Tch (fun k => k = b) w4 w5) (hr : Row b 92 V w5) : GtPost b V mb mg m' v w (.returned v) w5 :=
  ⟨rfl, hr, HM.tch t1 (fun e => (gown_ne hb).1 e.symm) (fun e => (gown_ne hb).2 e.symm), HT.trans (t1.wide (fun k e => .inl e))⟩
theorem gset (b o : Nat) (v : Value) (w : World) : Tch (fun k => k = b) w (w.setCell ⟨b, o, none⟩ v) := (Tch.refl (fun k => k = b) w).setCell (p := ⟨b, o, none⟩) (.inl rfl) _

set_option maxHeartbeats 400000 in
theorem glook_row (h : Row b 92 (gtC c p a s k hh t) w) (hm : MemIs w mb mg m) (hu : U64 m) (hb : ¬ Own mb mg b) (hk : m.k.ops + 1 ≤ 1000000000000) (hR : Right c ∧ 0 ≤ p ∧ p < c.n) :
    Calls Try.prog 94 #[gptr b, gptr mb] w (GtPost b (gtC c p (lookA (ln (m.ans (aW c p)).toNat) c.q.toNat : Nat) (m.ans (aW c p)).toNat k hh t) mb mg (m.load (aW c p)) (.tuple #[]) w) := by
  have HW : Hid (∀ w, Calls Try.prog 33 #[cVal c, .int .i64 p] w (Ans (.int .i64 (aW c p)) w)) := by
    rw [← aW_pl hR]; exact fun w => word_any c p w
  obtain ⟨z, hz⟩ : ∃ z, aW c p = z := ⟨_, rfl⟩
  rw [hz] at HW ⊢
  have hw := hu.ans z
  obtain ⟨y, hy⟩ : ∃ y : Nat, (m.ans z).toNat = y := ⟨_, rfl⟩
  have hy2 : m.ans z = (y : Int) := by omega
  have hy3 : y < 18446744073709551616 := by omega
  obtain ⟨Q, hQ⟩ : ∃ Q : Nat, c.q = Q := ⟨c.q.toNat, by have := hR.1.q; omega⟩
  have hQ2 : Q ≤ 64 := by have := hR.1.q; omega
  have HC : Hid (∀ w1, Below w.heap.size w w1 → Calls Try.prog 101 #[gptr mb, .int .i64 z] w1 (fun e w' => e = .returned (.int .u64 y) ∧ Hid (Row b 92 (gtC c p a s k hh t) w') ∧ Hid (MemIs w' mb mg (m.load z)) ∧ Hid (Tch (fun k => k = b ∨ Own mb mg k) w w'))) := fun w1 hb1 => by
    refine (load_any z w1 (hm.on hb1) hk).mono ?_
    rintro e w' ⟨rfl, hm1, ht1⟩
    exact ⟨by rw [hy2], (h.on' hb1).tch ht1 hb, hm1, (Tch.of _ hb1).trans (ht1.wide (fun k e => .inr e))⟩
  have HL := Lib.hid (fun w => wlen_any y hy3 w)
  obtain ⟨l, hl⟩ : ∃ l, ln y = l := ⟨_, rfl⟩
  have hl2 : l < 4294967296 := by rw [← hl]; exact ln_lt y
  rw [hl] at HL
  rw [hy, hl]
  have hQt : c.q.toNat = Q := by omega
  rw [hQt]
  obtain ⟨A, hA⟩ : ∃ A : Nat, lookA l Q = A := ⟨_, rfl⟩
  rw [hA]
  have HA := Lib.hid hA
  clear hA
  have HK := Lib.hid (gt_keep h)
  have HO := Lib.hid hb
  obtain ⟨n, q, g, m', tt, ss⟩ := c
  simp only at HK hQ
  subst hQ
  change Hid (∀ w, Calls Try.prog 33 #[.agg #[.int .i64 n, .int .i64 Q, .int .i64 g, .int .i64 m', .int .i64 tt, .int .i64 ss], .int .i64 p] w (Ans (.int .i64 z) w)) at HW
  have hwq : IntKind.u32.wrap (Q : Int) = Q := IntWalk.u32_in _ (by omega)
  clear h hR hz hm hb hk hu hw hy hy2 hl hQt
  obtain ⟨c0, c1, c2, c3, c4, c5, c6, c8⟩ := HK.out _ (Below.refl _ _)
  go_enter Try.func94, Try.ntmps94
  go_wp2_with fail
  go_region_with (first
      | (go_at_call 33; (with_reducible refine (HW.out _).mono ?_); rintro e w3 ⟨rfl, hb3⟩; have hB3 : Below w.heap.size w w3 := (by first | exact Below.refl _ _ | exact (Below.refl _ _).drew : Below w.heap.size w _).trans (hb3.mono (Nat.le_refl _)))
      | (go_at_call 101; (with_reducible refine (HC.out _ hB3).mono ?_); rintro e w4 ⟨rfl, H4, HM4, HT4⟩; have f8 := H4.out.frozen 8; have d8 : w4.cell? ⟨b, 8, none⟩ = some (.int .u64 s) := H4.out.cell 8))
  all_goals
    have HX := Lib.hid (gt_seen H4.out y)
    have HTT := Lib.hid (gset b 8 (.int .u64 y) w4)
    obtain ⟨W, hW⟩ : ∃ W, w4.setCell ⟨b, 8, none⟩ (.int .u64 y) = W := ⟨_, rfl⟩
    rw [hW] at HX HTT ⊢
    clear hW c0 c1 c2 c3 c4 c5 c6 c8 f8 d8 hb3 hB3 HK HW HC H4
    obtain ⟨c0, c1, c2, c3, c4, c5, c6, c8⟩ := gt_cells HX.out
    obtain ⟨c7, c9, c10, c11⟩ := gt_last HX.out
    have f7 := HX.out.frozen 7
    simp only at c0 c1 c2 c3 c4 c5
    have hX2 := gt_at HX.out 2
    have HF : Hid (Row b 92 (gtC ⟨n, Q, g, m', tt, ss⟩ p 2 y k hh t) (W.setCell ⟨b, 7, none⟩ (.int .i64 2)) ∧ Row b 92 (gtC ⟨n, Q, g, m', tt, ss⟩ p 0 y k hh t) ((W.setCell ⟨b, 7, none⟩ (.int .i64 2)).setCell ⟨b, 7, none⟩ (.int .i64 0))) := ⟨hX2, gt_at hX2 0⟩
    have e1 : (W.setCell ⟨b, 7, none⟩ (.int .i64 2)).cell? ⟨b, 1, none⟩ = some (.int .i64 Q) := hX2.cell 1
    have e7 : (W.setCell ⟨b, 7, none⟩ (.int .i64 2)).cell? ⟨b, 7, none⟩ = some (.int .i64 2) := hX2.cell 7
    have g7 : (W.setCell ⟨b, 7, none⟩ (.int .i64 2)).frozen? ⟨b, 7, none⟩ = false := hX2.frozen 7
    clear hX2
    by_cases hl0 : l = 0
    · subst hl0
      obtain rfl : A = 0 := by rw [← HA.out]; unfold lookA; rw [if_pos (.inl rfl)]
      clear HA
      go_wp2_with (go_at_call 118; (with_reducible refine (HL.out _).mono ?_); rintro e w5 ⟨rfl, rfl⟩)
      go_end0
      exact gt_fin HM4.out HT4.out HO.out (HTT.out.trans ((gset _ _ _ _).trans (gset _ _ _ _))) HF.out.2
    · by_cases hlq : Q < l
      · obtain rfl : A = 0 := by rw [← HA.out]; unfold lookA; rw [if_pos (.inr hlq)]
        clear HA
        have hl0' : ¬ (l : Int) = 0 := by omega
        go_wp2_with (go_at_call 118; (with_reducible refine (HL.out _).mono ?_); rintro e w5 ⟨rfl, rfl⟩)
        go_end0
        exact gt_fin HM4.out HT4.out HO.out (HTT.out.trans ((gset _ _ _ _).trans (gset _ _ _ _))) HF.out.2
      · obtain rfl : A = 2 := by rw [← HA.out]; unfold lookA; rw [if_neg (by omega)]
        clear HA
        have hl0' : ¬ (l : Int) = 0 := by omega
        go_wp2_with (go_at_call 118; (with_reducible refine (HL.out _).mono ?_); rintro e w5 ⟨rfl, rfl⟩)
        go_end0
        exact gt_fin HM4.out HT4.out HO.out (HTT.out.trans (gset _ _ _ _)) HF.out.1
set_option maxHeartbeats 400000 in
theorem gcopy_row (h : Row b 92 (gtC c p a s k hh t) w) (hm : MemIs w mb mg m) (hu : U64 m) (hb : ¬ Own mb mg b) (hk : m.k.ops + 1 ≤ 1000000000000) (hR : Right c ∧ 0 ≤ p ∧ p < c.n) (hs : s < 18446744073709551616) :
    Calls Try.prog 95 #[gptr b, gptr mb] w (GtPost b (gtC c p 3 s (IntKind.i64.wrap (m.ans (aS c p (hd s)))) hh t) mb mg (m.load (aS c p (hd s))) (.tuple #[]) w) := by
  have hhd := hd_lt hs
  have HH := Lib.hid (fun w => whead_any s hs w)
  obtain ⟨i, hi⟩ : ∃ i, hd s = i := ⟨_, rfl⟩
  rw [hi] at HH hhd ⊢
  have HS : Hid (∀ w, Calls Try.prog 60 #[cVal c, .int .i64 p, .int .u32 i] w (Ans (.int .i64 (aS c p i)) w)) := by
    rw [← aS_sl hR]; exact fun w => cslot_any c p i hhd w
  obtain ⟨z, hz⟩ : ∃ z, aS c p i = z := ⟨_, rfl⟩
  rw [hz] at HS ⊢
  obtain ⟨y, hy⟩ : ∃ y, m.ans z = y := ⟨_, rfl⟩
  have HC : Hid (∀ w1, Below w.heap.size w w1 → Calls Try.prog 101 #[gptr mb, .int .i64 z] w1 (fun e w' => e = .returned (.int .u64 y) ∧ Hid (Row b 92 (gtC c p a s k hh t) w') ∧ Hid (MemIs w' mb mg (m.load z)) ∧ Hid (Tch (fun k => k = b ∨ Own mb mg k) w w'))) := fun w1 hb1 => by
    refine (load_any z w1 (hm.on hb1) hk).mono ?_
    rintro e w' ⟨rfl, hm1, ht1⟩
    exact ⟨by rw [hy], (h.on' hb1).tch ht1 hb, hm1, (Tch.of _ hb1).trans (ht1.wide (fun k e => .inr e))⟩
  rw [hy]
  obtain ⟨Y, hY⟩ : ∃ Y, IntKind.i64.wrap y = Y := ⟨_, rfl⟩
  rw [hY]
  have HK := Lib.hid (gt_keep h)
  have HO := Lib.hid hb
  obtain ⟨n, q, g, m', tt, ss⟩ := c
  simp only at HK
  change Hid (∀ w, Calls Try.prog 60 #[.agg #[.int .i64 n, .int .i64 q, .int .i64 g, .int .i64 m', .int .i64 tt, .int .i64 ss], .int .i64 p, .int .u32 i] w (Ans (.int .i64 z) w)) at HS
  clear h hR hz hm hb hk hu hy hs hi
  obtain ⟨c0, c1, c2, c3, c4, c5, c6, c8⟩ := HK.out _ (Below.refl _ _)
  go_enter Try.func95, Try.ntmps95
  go_wp2_with fail
  go_region_held3 (fun w1 => GtC b n q g m' tt ss p s w1)
    (first | assumption | exact gt_cells (gt_copied H4.out _) | exact HK.out _ (Below.refl _ _) | exact HK.out _ ((Below.refl _ _).drew) | exact HK.out _ (by assumption))
    (first
      | (go_at_call 119; (with_reducible refine (HH.out _).mono ?_); rintro e w3 ⟨rfl, rfl⟩)
      | (go_at_call 60; (with_reducible refine (HS.out _).mono ?_); rintro e w3 ⟨rfl, hb3⟩; have hB3 : Below w.heap.size w w3 := (by first | exact Below.refl _ _ | exact (Below.refl _ _).drew : Below w.heap.size w _).trans (hb3.mono (Nat.le_refl _)))
      | (go_at_call 101; (with_reducible refine (HC.out _ hB3).mono ?_); rintro e w4 ⟨rfl, H4, HM4, HT4⟩; have HK4 := gt_cells H4.out; simp only at HK4; have f9 := H4.out.frozen 9; have d9 : w4.cell? ⟨b, 9, none⟩ = some (.int .i64 k) := H4.out.cell 9))
  all_goals
    have HX := Lib.hid (gt_copied H4.out Y)
    have HTT := Lib.hid (gset b 9 (.int .i64 Y) w4)
    obtain ⟨W, hW⟩ : ∃ W, w4.setCell ⟨b, 9, none⟩ (.int .i64 Y) = W := ⟨_, rfl⟩
    rw [hW] at HX HTT ⊢
    clear hW c0 c1 c2 c3 c4 c5 c6 c8 f9 d9 hb3 hB3 HK HS HC H4
    obtain ⟨c7, c9, c10, c11⟩ := gt_last HX.out
    have f7 := HX.out.frozen 7
    go_wp2_with fail
    go_end0
    exact gt_fin HM4.out HT4.out HO.out (HTT.out.trans (gset _ _ _ _)) (gt_at HX.out 3)
set_option maxHeartbeats 400000 in
theorem ggain_row (tn : Nat) (htn : tn + 1 ≤ 1000000000) (h : Row b 92 (gtC c p a s k hh tn) w) (hm : MemIs w mb mg m) (hb : ¬ Own mb mg b) (hk : m.k.ops + 1 ≤ 1000000000000) (hR : Right c ∧ 0 ≤ p ∧ p < c.n) (hs : s < 18446744073709551616) (r : Bool) (hr : decide (m.hit (aW c p) s) = r) :
    Calls Try.prog 96 #[gptr b, gptr mb] w (GtPost b (gtC c p (cond r 0 1) s k r (cond r tn (tn + 1))) mb mg (m.cas (aW c p) s (gainW s 1)) (.tuple #[]) w) := by
  have HG : Hid (∀ w, Calls Try.prog 121 #[.int .u64 s, .int .u32 1] w fun e w' => e = .returned (.int .u64 (gainW s 1 : Nat)) ∧ w = w') := fun w => wgain_any s 1 hs (by decide) w
  obtain ⟨y, hy⟩ : ∃ y, gainW s 1 = y := ⟨_, rfl⟩
  rw [hy] at HG ⊢
  have HW : Hid (∀ w, Calls Try.prog 33 #[cVal c, .int .i64 p] w (Ans (.int .i64 (aW c p)) w)) := by
    rw [← aW_pl hR]; exact fun w => word_any c p w
  obtain ⟨z, hz⟩ : ∃ z, aW c p = z := ⟨_, rfl⟩
  rw [hz] at HW hr ⊢
  have HC : Hid (∀ w1, Below w.heap.size w w1 → Calls Try.prog 120 #[gptr mb, .int .i64 z, .int .u64 s, .int .u64 y] w1 (fun e w' => e = .returned (.bool r) ∧ Hid (Row b 92 (gtC c p a s k hh tn) w') ∧ Hid (MemIs w' mb mg (m.cas z s y)) ∧ Hid (Tch (fun k => k = b ∨ Own mb mg k) w w'))) := fun w1 hb1 => by
    refine (cas_any z s y w1 (hm.on hb1) hk).mono ?_
    rintro e w' ⟨rfl, hm1, ht1⟩
    exact ⟨by rw [hr], (h.on' hb1).tch ht1 hb, hm1, (Tch.of _ hb1).trans (ht1.wide (fun k e => .inr e))⟩
  have HK := Lib.hid (gt_keep h)
  have HO := Lib.hid hb
  obtain ⟨n, q, g, m', tt, ss⟩ := c
  simp only at HK
  change Hid (∀ w, Calls Try.prog 33 #[.agg #[.int .i64 n, .int .i64 q, .int .i64 g, .int .i64 m', .int .i64 tt, .int .i64 ss], .int .i64 p] w (Ans (.int .i64 z) w)) at HW
  clear h hR hz hm hb hk hr hs hy
  obtain ⟨c0, c1, c2, c3, c4, c5, c6, c8⟩ := HK.out _ (Below.refl _ _)
  go_enter Try.func96, Try.ntmps96
  go_wp2_with fail
  go_region_held3 (fun w1 => GtC b n q g m' tt ss p s w1)
    (first | assumption | exact gt_cells (gt_has H4.out _) | exact HK.out _ (Below.refl _ _) | exact HK.out _ ((Below.refl _ _).drew) | exact HK.out _ (by assumption))
    (first
      | (go_at_call 121; (with_reducible refine (HG.out _).mono ?_); rintro e w3 ⟨rfl, rfl⟩)
      | (go_at_call 33; (with_reducible refine (HW.out _).mono ?_); rintro e w3 ⟨rfl, hb3⟩; have hB3 : Below w.heap.size w w3 := (by first | exact Below.refl _ _ | exact (Below.refl _ _).drew : Below w.heap.size w _).trans (hb3.mono (Nat.le_refl _)))
      | (go_at_call 120; (with_reducible refine (HC.out _ hB3).mono ?_); rintro e w4 ⟨rfl, H4, HM4, HT4⟩; have HK4 := gt_cells H4.out; simp only at HK4; have f10 := H4.out.frozen 10; have d10 : w4.cell? ⟨b, 10, none⟩ = some (.bool hh) := H4.out.cell 10))
  all_goals
    have HX := Lib.hid (gt_has H4.out r)
    have HTT := Lib.hid (gset b 10 (.bool r) w4)
    obtain ⟨W, hW⟩ : ∃ W, w4.setCell ⟨b, 10, none⟩ (.bool r) = W := ⟨_, rfl⟩
    rw [hW] at HX HTT ⊢
    clear hW c0 c1 c2 c3 c4 c5 c6 c8 f10 d10 hb3 hB3 HK HW HC H4 HK4
    obtain ⟨c7, c9, c10, c11⟩ := gt_last HX.out
    have f7 := HX.out.frozen 7
    have f11 := HX.out.frozen 11
    cases r with
    | true =>
      go_wp2_with fail
      refine bodyPost_ret (v := .tuple #[]) (by simp [results, Try.results96]) rfl ?_
      exact gt_fin HM4.out HT4.out HO.out (HTT.out.trans (gset _ _ _ _)) (gt_at HX.out 0)
    | false =>
      have hX2 := gt_at HX.out 1
      have HF := Lib.hid (gt_tries hX2 (tn + 1))
      have e11 : (W.setCell ⟨b, 7, none⟩ (.int .i64 1)).cell? ⟨b, 11, none⟩ = some (.int .i64 tn) := hX2.cell 11
      have g11 : (W.setCell ⟨b, 7, none⟩ (.int .i64 1)).frozen? ⟨b, 11, none⟩ = false := hX2.frozen 11
      have hwt : IntKind.i64.wrap ((tn : Int) + 1) = (tn : Int) + 1 := IntWalk.i64_in _ (by omega)
      clear hX2
      go_wp2_with fail
      go_end0
      exact gt_fin HM4.out HT4.out HO.out (HTT.out.trans ((gset _ _ _ _).trans (gset _ _ _ _))) HF.out
end
end Go.Proofs.Ytkhfanhboooilaa
