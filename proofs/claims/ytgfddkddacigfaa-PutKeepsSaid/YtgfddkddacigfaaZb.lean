/- A ring of a put or a lay: look, lay, swap (layer 9's code). -/
import Derived.Test.YtgfddkddacigfaaZa
set_option linter.unusedSimpArgs false
set_option linter.unusedVariables false
namespace Go.Proofs.Ytgfddkddacigfaa
open Go.RowKit Go.Cg Go.Pu Go.Wd Go.Ce

/-- what a call on the ring at b leaves: the ring's cells turned so, its memory m', the answer v -/
def RgPost (t : TypeId) (b : Nat) (V : List Value) (mb mg : Nat) (m' : PM) (v : Value) (w : World) (e : Ending) (w' : World) : Prop :=
  e = .returned v ∧ Row b t V w' ∧ MemIs w' mb mg m' ∧ Tch (fun k => k = b ∨ Own mb mg k) w w'
section
variable {t : TypeId} {rest : List Value} {c : Cfg} {p a : Int} {s : Nat} {k : Int} {w w' : World} {b mb mg : Nat} {m : PM}
theorem rown_ne (hb : ¬ Own mb mg b) : b ≠ mb ∧ b ≠ mg := ⟨fun e => hb (.inl e), fun e => hb (.inr e)⟩

theorem rg_fin {w4 w5 : World} {V : List Value} {v : Value} {m' : PM} (HM : MemIs w4 mb mg m') (HT : Tch (fun k => k = b ∨ Own mb mg k) w w4) (hb : ¬ Own mb mg b) (t1 : Tch (fun k => k = b) w4 w5) (hr : Row b t V w5) : RgPost t b V mb mg m' v w (.returned v) w5 :=
  ⟨rfl, hr, HM.tch t1 (fun e => (rown_ne hb).1 e.symm) (fun e => (rown_ne hb).2 e.symm), HT.trans (t1.wide (fun k e => .inl e))⟩
theorem tset (b o : Nat) (v : Value) (w : World) : Tch (fun k => k = b) w (w.setCell ⟨b, o, none⟩ v) := (Tch.refl (fun k => k = b) w).setCell (p := ⟨b, o, none⟩) (.inl rfl) _

set_option maxHeartbeats 400000 in
theorem rswap_any (h : Row b t (rgV c p a s k rest) w) (hm : MemIs w mb mg m) (hb : ¬ Own mb mg b) (hk : m.k.ops + 1 ≤ 1000000000000) (hR : Right c ∧ 0 ≤ p ∧ p < c.n) (y : Nat) (r : Bool) (hr : decide (m.hit (aW c p) s) = r) :
    Calls Try.prog 90 #[pptr b, pptr mb, .int .u64 y] w (RgPost t b (rgV c p (cond r 0 1) s k rest) mb mg (m.cas (aW c p) s y) (.bool r) w) := by
  have HW : Hid (∀ w, Calls Try.prog 37 #[cVal c, .int .i64 p] w (Ans (.int .i64 (aW c p)) w)) := by
    rw [← aW_pl hR]; exact fun w => word_any c p w
  obtain ⟨z, hz⟩ : ∃ z, aW c p = z := ⟨_, rfl⟩
  rw [hz] at HW hr ⊢
  have HC : Hid (∀ w1, Below w.heap.size w w1 → Calls Try.prog 100 #[pptr mb, .int .i64 z, .int .u64 s, .int .u64 y] w1 (fun e w' => e = .returned (.bool r) ∧ Hid (Row b t (rgV c p a s k rest) w') ∧ Hid (MemIs w' mb mg (m.cas z s y)) ∧ Hid (Tch (fun k => k = b ∨ Own mb mg k) w w'))) := fun w1 hb1 => by
    refine (cas_any z s y w1 (hm.on hb1) hk).mono ?_
    rintro e w' ⟨rfl, hm1, ht1⟩
    exact ⟨by rw [hr], (h.on' hb1).tch ht1 hb, hm1, (Tch.of _ hb1).trans (ht1.wide (fun k e => .inr e))⟩
  have HK := Lib.hid (rg_keep h)
  have HO := Lib.hid hb
  obtain ⟨n, q, g, m', tt, ss⟩ := c
  simp only at HK
  change Hid (∀ w, Calls Try.prog 37 #[.agg #[.int .i64 n, .int .i64 q, .int .i64 g, .int .i64 m', .int .i64 tt, .int .i64 ss], .int .i64 p] w (Ans (.int .i64 z) w)) at HW
  clear h hR hz hm hb hk hr
  obtain ⟨⟨c0, c1, c2, c3, c4, c5, c6, c7, c8, c9⟩, -⟩ := HK.out _ (Below.refl _ _)
  go_enter Try.func90, Try.ntmps90
  go_wp2_with fail
  go_region_held3 (fun w1 => RgC b n q g m' tt ss p a s k w1)
    (first | assumption | exact (HK.out _ (Below.refl _ _)).1 | exact (HK.out _ ((Below.refl _ _).drew)).1 | exact (HK.out _ (by assumption)).1)
    (first
      | (go_at_call 37; (with_reducible refine (HW.out _).mono ?_); rintro e w3 ⟨rfl, hb3⟩; have hB3 : Below w.heap.size w w3 := (by first | exact Below.refl _ _ | exact (Below.refl _ _).drew : Below w.heap.size w _).trans (hb3.mono (Nat.le_refl _)))
      | (go_at_call 100; (with_reducible refine (HC.out _ hB3).mono ?_); rintro e w4 ⟨rfl, H4, HM4, HT4⟩; have HK4 := rg_cells H4.out; simp only at HK4))
  all_goals (clear c0 c1 c2 c3 c4 c5 c6 c7 c8 c9; have f7 := H4.out.frozen 7; obtain ⟨c0, c1, c2, c3, c4, c5, c6, c7, c8, c9⟩ := HK4; clear hB3 hb3 HK HW HC)
  all_goals
    have hr7 := rg_at H4.out 1
    have hF1 : Hid (Row b t (rgV ⟨n, q, g, m', tt, ss⟩ p 1 s k rest) (w4.setCell ⟨b, 7, none⟩ (.int .i64 1)) ∧ Row b t (rgV ⟨n, q, g, m', tt, ss⟩ p 0 s k rest) ((w4.setCell ⟨b, 7, none⟩ (.int .i64 1)).setCell ⟨b, 7, none⟩ (.int .i64 0))) := ⟨hr7, rg_at hr7 0⟩
    have d7 : (w4.setCell ⟨b, 7, none⟩ (.int .i64 1)).cell? ⟨b, 7, none⟩ = some (.int .i64 1) := hr7.cell 7
    have g7 : (w4.setCell ⟨b, 7, none⟩ (.int .i64 1)).frozen? ⟨b, 7, none⟩ = false := hr7.frozen 7
    clear hr7
    cases r with
    | true =>
      go_wp2_with fail
      go_ret
      exact rg_fin HM4.out HT4.out HO.out ((tset _ _ _ _).trans (tset _ _ _ _)) hF1.out.2
    | false =>
      go_wp2_with fail
      go_ret
      exact rg_fin HM4.out HT4.out HO.out (tset _ _ _ _) hF1.out.1

set_option maxHeartbeats 400000 in
theorem rload_any (h : Row b t (rgV c p a s k rest) w) (hm : MemIs w mb mg m) (hu : U64 m) (hb : ¬ Own mb mg b) (hk : m.k.ops + 1 ≤ 1000000000000) (hR : Right c ∧ 0 ≤ p ∧ p < c.n) :
    Calls Try.prog 88 #[pptr b, pptr mb] w (RgPost t b (rgV c p a (m.ans (aW c p)).toNat 0 rest) mb mg (m.load (aW c p)) (.int .i64 ((c.q.toNat - min c.q.toNat (ln (m.ans (aW c p)).toNat) : Nat) : Int)) w) := by
  have HW : Hid (∀ w, Calls Try.prog 37 #[cVal c, .int .i64 p] w (Ans (.int .i64 (aW c p)) w)) := by
    rw [← aW_pl hR]; exact fun w => word_any c p w
  obtain ⟨z, hz⟩ : ∃ z, aW c p = z := ⟨_, rfl⟩
  rw [hz] at HW ⊢
  have hw := hu.ans z
  obtain ⟨y, hy⟩ : ∃ y : Nat, (m.ans z).toNat = y := ⟨_, rfl⟩
  have hy2 : m.ans z = (y : Int) := by omega
  have hy3 : y < 18446744073709551616 := by omega
  obtain ⟨Q, hQ⟩ : ∃ Q : Nat, c.q = Q := ⟨c.q.toNat, by have := hR.1.q; omega⟩
  have hQ2 : Q ≤ 64 := by have := hR.1.q; omega
  have HC : Hid (∀ w1, Below w.heap.size w w1 → Calls Try.prog 75 #[pptr mb, .int .i64 z] w1 (fun e w' => e = .returned (.int .u64 y) ∧ Hid (Row b t (rgV c p a s k rest) w') ∧ Hid (MemIs w' mb mg (m.load z)) ∧ Hid (Tch (fun k => k = b ∨ Own mb mg k) w w'))) := fun w1 hb1 => by
    refine (load_any z w1 (hm.on hb1) hk).mono ?_
    rintro e w' ⟨rfl, hm1, ht1⟩
    exact ⟨by rw [hy2], (h.on' hb1).tch ht1 hb, hm1, (Tch.of _ hb1).trans (ht1.wide (fun k e => .inr e))⟩
  have HL := Lib.hid (fun w => wlen_any y hy3 w)
  obtain ⟨l, hl⟩ : ∃ l, ln y = l := ⟨_, rfl⟩
  have hl2 : l < 4294967296 := by rw [← hl]; exact ln_lt y
  rw [hl] at HL
  rw [hy, hl]
  have HK := Lib.hid (rg_keep h)
  have HO := Lib.hid hb
  obtain ⟨n, q, g, m', tt, ss⟩ := c
  simp only at HK hQ
  subst hQ
  change Hid (∀ w, Calls Try.prog 37 #[.agg #[.int .i64 n, .int .i64 Q, .int .i64 g, .int .i64 m', .int .i64 tt, .int .i64 ss], .int .i64 p] w (Ans (.int .i64 z) w)) at HW
  have hwq : IntKind.u32.wrap (Q : Int) = Q := IntWalk.u32_in _ (by omega)
  obtain ⟨V, hV⟩ : ∃ V : Int, (((Q : Int).toNat - min (Q : Int).toNat l : Nat) : Int) = V := ⟨_, rfl⟩
  simp only [hV]
  have HV := Lib.hid hV
  clear hV
  clear h hR hz hm hb hk hu hw hy hy2 hl
  obtain ⟨⟨c0, c1, c2, c3, c4, c5, c6, c7, c8, c9⟩, -⟩ := HK.out _ (Below.refl _ _)
  go_enter Try.func88, Try.ntmps88
  go_wp2_with fail
  go_region_with (first
      | (go_at_call 37; (with_reducible refine (HW.out _).mono ?_); rintro e w3 ⟨rfl, hb3⟩; have hB3 : Below w.heap.size w w3 := (by first | exact Below.refl _ _ | exact (Below.refl _ _).drew : Below w.heap.size w _).trans (hb3.mono (Nat.le_refl _)))
      | (go_at_call 75; (with_reducible refine (HC.out _ hB3).mono ?_); rintro e w4 ⟨rfl, H4, HM4, HT4⟩; have f8 := H4.out.frozen 8; have f9 := H4.out.frozen 9; have d8 : w4.cell? ⟨b, 8, none⟩ = some (.int .u64 s) := H4.out.cell 8; have d9 : w4.cell? ⟨b, 9, none⟩ = some (.int .i64 k) := H4.out.cell 9))
  all_goals
    have HX := Lib.hid (rg_k (rg_seen H4.out y) 0)
    have HTT := Lib.hid ((tset b 8 (.int .u64 y) w4).trans (tset b 9 (.int .i64 0) _))
    obtain ⟨W, hW⟩ : ∃ W, (w4.setCell ⟨b, 8, none⟩ (.int .u64 y)).setCell ⟨b, 9, none⟩ (.int .i64 0) = W := ⟨_, rfl⟩
    rw [hW] at HX HTT ⊢
    clear hW c0 c1 c2 c3 c4 c5 c6 c7 c8 c9 f8 f9 d8 d9 hb3 hB3 HK HW HC H4
    obtain ⟨c0, c1, c2, c3, c4, c5, c6, c7, c8, c9⟩ := rg_cells HX.out
    simp only at c0 c1 c2 c3 c4 c5
    by_cases hlq : l < Q
    · obtain rfl : V = (Q : Int) - l := by rw [← HV.out]; omega
      go_wp2_with (go_at_call 99; (with_reducible refine (HL.out _).mono ?_); rintro e w5 ⟨rfl, rfl⟩)
      all_goals first | (exfalso; omega) | (go_ret; exact rg_fin HM4.out HT4.out HO.out HTT.out HX.out)
    · obtain rfl : V = 0 := by rw [← HV.out]; omega
      go_wp2_with (go_at_call 99; (with_reducible refine (HL.out _).mono ?_); rintro e w5 ⟨rfl, rfl⟩)
      all_goals first | (exfalso; omega) | (go_ret; exact rg_fin HM4.out HT4.out HO.out HTT.out HX.out)
end
end Go.Proofs.Ytgfddkddacigfaa
