/- A put's steps: look, store, swing (layer 9's code). -/
import Derived.Test.YtgfddkddacigfaaZc
set_option linter.unusedSimpArgs false
set_option linter.unusedVariables false
namespace Go.Proofs.Ytgfddkddacigfaa
open Go.RowKit Go.Cg Go.Pu Go.Wd Go.Ce

section
variable {t : TypeId} {rest : List Value} {c : Cfg} {p a : Int} {s : Nat} {k : Int} {w w' : World} {b mb mg : Nat} {m : PM}
theorem RgPost.from {V : List Value} {m' : PM} {v : Value} {w1 : World} {e : Ending} (hb : Below w.heap.size w w1) (h : RgPost t b V mb mg m' v w1 e w') : RgPost t b V mb mg m' v w e w' :=
  ⟨h.1, h.2.1, h.2.2.1, (Tch.of _ hb).trans h.2.2.2⟩
theorem rg_then {V V' : List Value} {m' : PM} {v v' : Value} {e : Ending} {w1 w2 : World} (hb : ¬ Own mb mg b) (h : RgPost t b V mb mg m' v w e w1) (t1 : Tch (fun k => k = b) w1 w2) (hr : Row b t V' w2) : RgPost t b V' mb mg m' v' w (.returned v') w2 :=
  rg_fin h.2.2.1 h.2.2.2 hb t1 hr
theorem rg_self (hm : MemIs w mb mg m) (h : Row b t (rgV c p a s k rest) w) (hb : ¬ Own mb mg b) (a' : Int) : MemIs (w.setCell ⟨b, 7, none⟩ (.int .i64 a')) mb mg m ∧ Tch (fun k => k = b ∨ Own mb mg k) w (w.setCell ⟨b, 7, none⟩ (.int .i64 a')) :=
  ⟨hm.tch (tset b 7 _ w) (fun e => (rown_ne hb).1 e.symm) (fun e => (rown_ne hb).2 e.symm), (tset b 7 _ w).wide (fun k e => .inl e)⟩

set_option maxHeartbeats 400000 in
theorem plook_any (h : Row b t (rgV c p a s k rest) w) (hm : MemIs w mb mg m) (hu : U64 m) (hb : ¬ Own mb mg b) (hk : m.k.ops + 1 ≤ 1000000000000) (hR : Right c ∧ 0 ≤ p ∧ p < c.n) :
    Calls Try.prog 65 #[pptr b, pptr mb] w (RgPost t b (rgV c p (if ln (m.ans (aW c p)).toNat < c.q.toNat then 2 else 4) (m.ans (aW c p)).toNat 0 rest) mb mg (m.load (aW c p)) (.tuple #[]) w) := by
  have hs := rg_self hm h hb 4
  have HL := Lib.hid (rload_any (rg_at h 4) hs.1 hu hb hk hR)
  obtain ⟨y, hy⟩ : ∃ y, (m.ans (aW c p)).toNat = y := ⟨_, rfl⟩
  rw [hy] at HL ⊢
  obtain ⟨l, hl⟩ : ∃ l, ln y = l := ⟨_, rfl⟩
  rw [hl] at HL ⊢
  obtain ⟨Q, hQ⟩ : ∃ Q, c.q.toNat = Q := ⟨_, rfl⟩
  rw [hQ] at HL ⊢
  obtain ⟨d, hd⟩ : ∃ d, Q - min Q l = d := ⟨_, rfl⟩
  rw [hd] at HL
  have HD := Lib.hid hd
  have HT := Lib.hid hs.2
  have HO := Lib.hid hb
  have f7 := h.frozen 7
  have c7 : w.cell? ⟨b, 7, none⟩ = some (.int .i64 a) := h.cell 7
  clear h hm hu hb hk hR hs hy hl hQ hd
  by_cases hlq : l < Q
  · rw [if_pos hlq]
    have hd0 : 0 < d := by have := HD.out; omega
    go_enter Try.func65, Try.ntmps65
    go_wp2_with (go_at_call 88; (with_reducible refine HL.out.mono ?_); rintro e w5 ⟨rfl, H5, HM5, HT5⟩; have H5 := Lib.hid H5; have HM5 := Lib.hid HM5; have HT5 := Lib.hid (HT.out.trans HT5); have d7 : w5.cell? ⟨b, 7, none⟩ = some (.int .i64 4) := H5.out.cell 7; have f7' := H5.out.frozen 7)
    go_end0
    exact rg_fin HM5.out HT5.out HO.out (tset _ _ _ _) (rg_at H5.out _)
  · rw [if_neg hlq]
    obtain rfl : d = 0 := by have := HD.out; omega
    go_enter Try.func65, Try.ntmps65
    go_wp2_with (go_at_call 88; (with_reducible refine HL.out.mono ?_); rintro e w5 ⟨rfl, H5, HM5, HT5⟩; have H5 := Lib.hid H5; have HM5 := Lib.hid HM5; have HT5 := Lib.hid (HT.out.trans HT5); have d7 : w5.cell? ⟨b, 7, none⟩ = some (.int .i64 4) := H5.out.cell 7; have f7' := H5.out.frozen 7)
    go_end0
    exact rg_fin HM5.out HT5.out HO.out (Tch.refl _ _) H5.out
set_option maxHeartbeats 400000 in
theorem pstore_any {g : Int} (h : Row b t (rgV c p a s 0 (.int .i64 g :: rest)) w) (hm : MemIs w mb mg m) (hb : ¬ Own mb mg b) (hk : m.k.ops + 1 ≤ 1000000000000) (hR : Right c ∧ 0 ≤ p ∧ p < c.n) (hs : s < 18446744073709551616) :
    Calls Try.prog 66 #[pptr b, pptr mb] w (RgPost t b (rgV c p 3 s 1 (.int .i64 g :: rest)) mb mg (m.store (aS c p (tl s)) (IntKind.u64.wrap g)) (.tuple #[]) w) := by
  have e0 : (tl s + 0) % 4294967296 = tl s := by have := tl_lt s; omega
  have HC : Hid (∀ w1, Below w.heap.size w w1 → Calls Try.prog 89 #[pptr b, pptr mb, .int .i64 g] w1 (RgPost t b (rgV c p a s 1 (.int .i64 g :: rest)) mb mg (m.store (aS c p (tl s)) (IntKind.u64.wrap g)) (.tuple #[]) w)) := fun w1 hb1 => by
    refine (rlay_any (h.on' hb1) (hm.on hb1) hb hk hR hs 0 rfl (by omega) g).mono ?_
    intro e w' hp
    have hp := hp.from hb1
    rw [e0] at hp
    exact hp
  have HO := Lib.hid hb
  have c10 : w.cell? ⟨b, 10, none⟩ = some (.int .i64 g) := h.cell 10
  clear h hm hb hk hR hs e0
  go_enter Try.func66, Try.ntmps66
  go_wp2_with fail
  go_region_with (go_at_call 89; (with_reducible refine (HC.out _ (by first | exact Below.refl _ _ | exact (Below.refl _ _).drew)).mono ?_); rintro e w5 ⟨rfl, H5, HM5, HT5⟩; have H5 := Lib.hid H5; have HM5 := Lib.hid HM5; have HT5 := Lib.hid HT5; have d7 : w5.cell? ⟨b, 7, none⟩ = some (.int .i64 a) := H5.out.cell 7; have f7' := H5.out.frozen 7)
  all_goals (go_wp2_with fail; go_end0; exact rg_fin HM5.out HT5.out HO.out (tset _ _ _ _) (rg_at H5.out _))
set_option maxHeartbeats 400000 in
theorem pswing_any (h : Row b t (rgV c p a s k rest) w) (hm : MemIs w mb mg m) (hb : ¬ Own mb mg b) (hk : m.k.ops + 1 ≤ 1000000000000) (hR : Right c ∧ 0 ≤ p ∧ p < c.n) (hs : s < 18446744073709551616) (r : Bool) (hr : decide (m.hit (aW c p) s) = r) :
    Calls Try.prog 67 #[pptr b, pptr mb] w (RgPost t b (rgV c p (cond r 0 1) s k rest) mb mg (m.cas (aW c p) s (growW s 1)) (.tuple #[]) w) := by
  have HG : Hid (∀ w, Calls Try.prog 91 #[.int .u64 s, .int .u32 1] w fun e w' => e = .returned (.int .u64 (growW s 1 : Nat)) ∧ w = w') := fun w => wgrow_any s 1 hs (by decide) w
  have HC : Hid (∀ w1, Below w.heap.size w w1 → Calls Try.prog 90 #[pptr b, pptr mb, .int .u64 (growW s 1 : Nat)] w1 (RgPost t b (rgV c p (cond r 0 1) s k rest) mb mg (m.cas (aW c p) s (growW s 1)) (.bool r) w)) := fun w1 hb1 => by
    refine (rswap_any (h.on' hb1) (hm.on hb1) hb hk hR _ r hr).mono ?_
    intro e w' hp
    exact hp.from hb1
  obtain ⟨y, hy⟩ : ∃ y, growW s 1 = y := ⟨_, rfl⟩
  rw [hy] at HG HC ⊢
  have HO := Lib.hid hb
  have c8 : w.cell? ⟨b, 8, none⟩ = some (.int .u64 s) := h.cell 8
  clear h hm hb hk hR hs hr hy
  go_enter Try.func67, Try.ntmps67
  go_wp2_with fail
  go_region_with (first
    | (go_at_call 91; (with_reducible refine (HG.out _).mono ?_); rintro e w3 ⟨rfl, rfl⟩)
    | (go_at_call 90; (with_reducible refine (HC.out _ (by first | exact Below.refl _ _ | exact (Below.refl _ _).drew)).mono ?_); rintro e w5 ⟨rfl, H5, HM5, HT5⟩; have H5 := Lib.hid H5; have HM5 := Lib.hid HM5; have HT5 := Lib.hid HT5))
  all_goals (go_wp2_with fail; go_end0; exact rg_fin HM5.out HT5.out HO.out (Tch.refl _ _) H5.out)
end
end Go.Proofs.Ytgfddkddacigfaa
