/- The reference's get: Step's boxes; Step at 0 (layer 10). -/
import Derived.Test.YtkhfanhboooilaaHa
set_option linter.unusedSimpArgs false
set_option linter.unusedVariables false
namespace Go.Proofs.Ytkhfanhboooilaa
open Go.RowKit Go.Cg Go.Pu Go.Wd Go.Ce

/-- what Step answers: the get x', the memory m' -/
def RGStepPost (q0 : Option Addr) (x' : GS) (m' : PM) (w : World) (e : Ending) (w' : World) : Prop :=
  ∃ q l cc, e = .returned (.tuple #[rgVal x', .agg #[.slice q l cc, .int .u64 m'.k.ops]]) ∧ Hid (RM w' q l cc m'.cs) ∧ Hid (Below w.heap.size w w') ∧ Hid (Fr q0 q w)
/-- Step's boxes: the get's, the memory's, the results' -/
structure GW (w0 W : World) (b : Nat) (c : Cfg) (p a x s g : Int) (h : Bool) (t : Int) (vm : Value) (ops : Int) : Prop where
  get : Row b 73 (rgC c p a x s g h t) W
  mem : Row (b + 1) 31 [vm, .int .u64 ops] W
  rget : Row (b + 1 + 1) 73 (rgC cfg0 0 0 0 0 0 false 0) W
  rmem : Row (b + 1 + 1 + 1) 31 [.slice none 0 0, .int .u64 0] W
  bel : Below w0.heap.size w0 W
  ge : w0.heap.size ≤ b
section
variable {w0 W W' : World} {b : Nat} {c : Cfg} {p a x s g t : Int} {h : Bool} {vm : Value} {ops : Int}
theorem GW.on (H : GW w0 W b c p a x s g h t vm ops) (hb : Below W.heap.size W W') : GW w0 W' b c p a x s g h t vm ops :=
  ⟨H.get.on' hb, H.mem.on' hb, H.rget.on' hb, H.rmem.on' hb, H.bel.trans (hb.mono H.bel.size), H.ge⟩
/-- a store into the get's box -/
theorem GW.setp (H : GW w0 W b c p a x s g h t vm ops) {a' x' s' g' t' : Int} {h' : Bool} {o : Nat} {v : Value} (hr : Row b 73 (rgC c p a' x' s' g' h' t') (W.setCell ⟨b, o, none⟩ v)) : GW w0 (W.setCell ⟨b, o, none⟩ v) b c p a' x' s' g' h' t' vm ops :=
  ⟨hr, H.mem.far (by show b + 1 ≠ b; omega) v, H.rget.far (by show b + 1 + 1 ≠ b; omega) v, H.rmem.far (by show b + 1 + 1 + 1 ≠ b; omega) v, H.bel.trans ((rgts b o v W).below H.bel.size (fun k e => by rw [e]; exact H.ge)), H.ge⟩
/-- the memory's box is stored into -/
theorem GW.setm (H : GW w0 W b c p a x s g h t vm ops) (vm' : Value) (ops' : Int) : GW w0 ((W.setCell ⟨b + 1, 0, none⟩ vm').setCell ⟨b + 1, 1, none⟩ (.int .u64 ops')) b c p a x s g h t vm' ops' := by
  have ht := (rgts (b + 1) 0 vm' W).trans (rgts (b + 1) 1 (.int .u64 ops') _)
  exact ⟨H.get.tch ht (by omega), H.mem.put2 _ _, H.rget.tch ht (by omega), H.rmem.tch ht (by omega), H.bel.trans (ht.below H.bel.size (fun k e => by have := H.ge; omega)), H.ge⟩
end
/-- a variable is written whose first cell is no number of the memory -/
theorem RM.put9 {w : World} {G i : Nat} {t : TypeId} {q : Option Addr} {l c : Nat} {cs : List Int} {y : Value} {rest : List Value} (h : RM w q l c cs) (hr : Row G t (y :: rest) w) (hy : ∀ z, y ≠ .int .u64 z) (v : Value) : RM (w.setCell ⟨G, i, none⟩ v) q l c cs := by
  refine ⟨h.len, h.few, h.nl, h.off, ⟨h.lies.len, fun j hj => ?_⟩⟩
  obtain ⟨b, o, hp, hc⟩ := h.lies.cells j hj
  refine ⟨b, o, hp, ?_⟩
  have hne : G ≠ b := by
    rintro rfl
    obtain ⟨b', o', hp', hc'⟩ := h.lies.cells 0 (by omega)
    rw [hp] at hp'
    cases hp'
    have h0 := h.off _ _ hp
    subst h0
    have h1 : w.cell? ⟨G, 0, none⟩ = some y := hr.cell 0
    rw [show (0 : Nat) + 0 = 0 from rfl, h1] at hc'
    injection hc' with e
    exact hy _ e
  rw [World.cell?_setCell_far _ _ _ _ hne]; exact hc
/-- between two statements of Step: the get's fields, the memory m -/
structure GZ (q0 : Option Addr) (w0 W : World) (b : Nat) (c : Cfg) (p a x s g : Int) (h : Bool) (t : Int) (m : PM) (q : Option Addr) (l cc : Nat) : Prop where
  gw : GW w0 W b c p a x s g h t (.slice q l cc) m.k.ops
  rm : RM W q l cc m.cs
  fr : Fr q0 q w0
section
variable {q0 q q2 : Option Addr} {w0 W W' : World} {b l cc l2 cc2 : Nat} {c : Cfg} {p a x s g t : Int} {h : Bool} {m m2 : PM}
theorem GZ.on (H : GZ q0 w0 W b c p a x s g h t m q l cc) (hb : Below W.heap.size W W') : GZ q0 w0 W' b c p a x s g h t m q l cc := ⟨H.gw.on hb, H.rm.on hb, H.fr⟩
theorem GZ.set {a' x' s' g' t' : Int} {h' : Bool} {o : Nat} {v : Value} (H : GZ q0 w0 W b c p a x s g h t m q l cc) (hr : Row b 73 (rgC c p a' x' s' g' h' t') (W.setCell ⟨b, o, none⟩ v)) : GZ q0 w0 (W.setCell ⟨b, o, none⟩ v) b c p a' x' s' g' h' t' m q l cc :=
  ⟨H.gw.setp hr, H.rm.put9 H.gw.get (fun z e => by cases e) v, H.fr⟩
theorem GZ.at (H : GZ q0 w0 W b c p a x s g h t m q l cc) (a' : Int) : GZ q0 w0 (W.setCell ⟨b, 7, none⟩ (.int .i64 a')) b c p a' x s g h t m q l cc := H.set (H.gw.get.set 7 _)
theorem GZ.wd (H : GZ q0 w0 W b c p a x s g h t m q l cc) (x' : Int) : GZ q0 w0 (W.setCell ⟨b, 8, none⟩ (.int .u64 x')) b c p a x' s g h t m q l cc := H.set (H.gw.get.set 8 _)
theorem GZ.sn (H : GZ q0 w0 W b c p a x s g h t m q l cc) (s' : Int) : GZ q0 w0 (W.setCell ⟨b, 9, none⟩ (.int .i64 s')) b c p a x s' g h t m q l cc := H.set (H.gw.get.set 9 _)
theorem GZ.gt (H : GZ q0 w0 W b c p a x s g h t m q l cc) (g' : Int) : GZ q0 w0 (W.setCell ⟨b, 10, none⟩ (.int .i64 g')) b c p a x s g' h t m q l cc := H.set (H.gw.get.set 10 _)
theorem GZ.hs (H : GZ q0 w0 W b c p a x s g h t m q l cc) (h' : Bool) : GZ q0 w0 (W.setCell ⟨b, 11, none⟩ (.bool h')) b c p a x s g h' t m q l cc := H.set (H.gw.get.set 11 _)
theorem GZ.tr (H : GZ q0 w0 W b c p a x s g h t m q l cc) (t' : Int) : GZ q0 w0 (W.setCell ⟨b, 12, none⟩ (.int .i64 t')) b c p a x s g h t' m q l cc := H.set (H.gw.get.set 12 _)
theorem GZ.setm (H : GZ q0 w0 W b c p a x s g h t m q l cc) (hm : RM W q2 l2 cc2 m2.cs) (hf : Fr q0 q2 w0) : GZ q0 w0 ((W.setCell ⟨b + 1, 0, none⟩ (.slice q2 l2 cc2)).setCell ⟨b + 1, 1, none⟩ (.int .u64 m2.k.ops)) b c p a x s g h t m2 q2 l2 cc2 :=
  ⟨H.gw.setm _ _, (hm.put9 H.gw.mem (fun z e => by cases e) _).put9 (H.gw.mem.set 0 (.slice q2 l2 cc2)) (fun z e => by cases e) _, hf⟩
theorem GZ.fin (H : GZ q0 w0 W b c p a x s g h t m q l cc) {X : GS} (hX : X.c = c ∧ X.p = p ∧ (X.a : Int) = a ∧ (X.w : Int) = x ∧ X.s = s ∧ X.got = g ∧ X.h = h ∧ (X.t : Int) = t) :
    ∃ W2 W3, (((((((((((((W.setCell ⟨b + 1 + 1, 0, none⟩ (.int .i64 c.n)).setCell ⟨b + 1 + 1, 1, none⟩ (.int .i64 c.q)).setCell ⟨b + 1 + 1, 2, none⟩ (.int .i64 c.g)).setCell ⟨b + 1 + 1, 3, none⟩ (.int .i64 c.m)).setCell ⟨b + 1 + 1, 4, none⟩ (.int .i64 c.t)).setCell ⟨b + 1 + 1, 5, none⟩ (.int .i64 c.s)).setCell ⟨b + 1 + 1, 6, none⟩ (.int .i64 p)).setCell ⟨b + 1 + 1, 7, none⟩ (.int .i64 a)).setCell ⟨b + 1 + 1, 8, none⟩ (.int .u64 x)).setCell ⟨b + 1 + 1, 9, none⟩ (.int .i64 s)).setCell ⟨b + 1 + 1, 10, none⟩ (.int .i64 g)).setCell ⟨b + 1 + 1, 11, none⟩ (.bool h)).setCell ⟨b + 1 + 1, 12, none⟩ (.int .i64 t)) = W2 ∧ ((W2.setCell ⟨b + 1 + 1 + 1, 0, none⟩ (.slice q l cc)).setCell ⟨b + 1 + 1 + 1, 1, none⟩ (.int .u64 m.k.ops)) = W3 ∧ Row (b + 1 + 1) 73 (rgC c p a x s g h t) W3 ∧ Row (b + 1 + 1 + 1) 31 [.slice q l cc, .int .u64 m.k.ops] W3 ∧ RGStepPost q0 X m w0 (.returned (.tuple #[rgV c p a x s g h t, .agg #[.slice q l cc, .int .u64 m.k.ops]])) W3 := by
  obtain ⟨W2, h2, hr2, ht2⟩ := rg_put H.gw.rget c p a x s g h t
  have hm2 : Row (b + 1 + 1 + 1) 31 [.slice none 0 0, .int .u64 0] W2 := H.gw.rmem.tch ht2 (by omega)
  have t3 := (rgts (b + 1 + 1 + 1) 0 (.slice q l cc) W2).trans (rgts (b + 1 + 1 + 1) 1 (.int .u64 m.k.ops) _)
  have hB : Tch (fun k => k = b + 1 + 1 ∨ k = b + 1 + 1 + 1) W ((W2.setCell ⟨b + 1 + 1 + 1, 0, none⟩ (.slice q l cc)).setCell ⟨b + 1 + 1 + 1, 1, none⟩ (.int .u64 m.k.ops)) := (ht2.wide (fun k e => .inl e)).trans (t3.wide (fun k e => .inr e))
  have hrm : RM ((W2.setCell ⟨b + 1 + 1 + 1, 0, none⟩ (.slice q l cc)).setCell ⟨b + 1 + 1 + 1, 1, none⟩ (.int .u64 m.k.ops)) q l cc m.cs := by
    have h3 : RM W2 q l cc m.cs := by
      refine ⟨H.rm.len, H.rm.few, H.rm.nl, H.rm.off, ⟨H.rm.lies.len, fun j hj => ?_⟩⟩
      obtain ⟨b', o, hp, hc⟩ := H.rm.lies.cells j hj
      refine ⟨b', o, hp, ht2.cell hc (fun e => ?_)⟩
      have e' : b' = b + 1 + 1 := e
      subst e'
      obtain ⟨b', o', hp', hc'⟩ := H.rm.lies.cells 0 (by omega)
      rw [hp] at hp'
      cases hp'
      have h0 := H.rm.off _ _ hp
      subst h0
      have h1 : W.cell? ⟨b + 1 + 1, 0, none⟩ = some (.int .i64 cfg0.n) := H.gw.rget.cell 0
      rw [show (0 : Nat) + 0 = 0 from rfl, h1] at hc'
      cases hc'
    exact (h3.put9 hm2 (fun z e => by cases e) _).put9 (hm2.set 0 (.slice q l cc)) (fun z e => by cases e) _
  obtain ⟨e1, e2, e3, e4, e5, e6, e7, e8⟩ := hX
  exact ⟨W2, _, h2, rfl, hr2.tch t3 (by omega), hm2.put2 _ _, q, l, cc, by unfold rgVal; rw [e1, e2, e3, e4, e5, e6, e7, e8], hrm, H.gw.bel.trans (hB.below H.gw.bel.size (fun k hk => by have := H.gw.ge; omega)), H.fr⟩
theorem RGStepPost.drew {x' : GS} {m' : PM} {w W : World} {e : Ending} (H : RGStepPost q0 x' m' w e W) : RGStepPost q0 x' m' w e W.drew := by
  obtain ⟨q, l, cc, he, h2, h3, h4⟩ := H
  have hd := (Below.refl W.heap.size W).drew
  exact ⟨q, l, cc, he, h2.out.on hd, h3.out.trans (hd.mono h3.out.size), h4⟩
theorem gz_start {x : GS} {m : PM} {w : World} (hm : RM w q0 l cc m.cs) :
    ∃ W, ((((w.alloc (.cells (rgC x.c x.p x.a x.w x.s x.got x.h x.t).toArray 73)).alloc (.cells #[.slice q0 l cc, .int .u64 m.k.ops] 31)).alloc (.cells (rgC cfg0 0 0 0 0 0 false 0).toArray 73)).alloc (.cells #[.slice none 0 0, .int .u64 0] 31)) = W ∧ GZ q0 w W w.heap.size x.c x.p x.a x.w x.s x.got x.h x.t m q0 l cc := by
  have r1 := Row.new w 73 (rgC x.c x.p x.a x.w x.s x.got x.h x.t)
  have b1 := (Below.refl w.heap.size w).alloc (Nat.le_refl _) (.cells (rgC x.c x.p x.a x.w x.s x.got x.h x.t).toArray 73)
  obtain ⟨W1, hW1⟩ : ∃ W, w.alloc (.cells (rgC x.c x.p x.a x.w x.s x.got x.h x.t).toArray 73) = W := ⟨_, rfl⟩
  have s1 : W1.heap.size = w.heap.size + 1 := by rw [← hW1]; simp
  rw [hW1] at r1 b1 ⊢
  have r2 := Row.new' W1 31 [.slice q0 l cc, .int .u64 m.k.ops] (w.heap.size + 1) s1.symm
  have b2 := (Below.refl W1.heap.size W1).alloc (Nat.le_refl _) (.cells [.slice q0 l cc, .int .u64 m.k.ops].toArray 31)
  obtain ⟨W2, hW2⟩ : ∃ W, W1.alloc (.cells #[.slice q0 l cc, .int .u64 m.k.ops] 31) = W := ⟨_, rfl⟩
  have s2 : W2.heap.size = w.heap.size + 1 + 1 := by rw [← hW2]; simp [s1]
  change Row (w.heap.size + 1) _ _ (W1.alloc (.cells #[.slice q0 l cc, .int .u64 m.k.ops] 31)) at r2
  change Below _ W1 (W1.alloc (.cells #[.slice q0 l cc, .int .u64 m.k.ops] 31)) at b2
  rw [hW2] at r2 b2 ⊢
  have r3 := Row.new' W2 73 (rgC cfg0 0 0 0 0 0 false 0) (w.heap.size + 1 + 1) s2.symm
  have b3 := (Below.refl W2.heap.size W2).alloc (Nat.le_refl _) (.cells (rgC cfg0 0 0 0 0 0 false 0).toArray 73)
  obtain ⟨W3, hW3⟩ : ∃ W, W2.alloc (.cells (rgC cfg0 0 0 0 0 0 false 0).toArray 73) = W := ⟨_, rfl⟩
  have s3 : W3.heap.size = w.heap.size + 1 + 1 + 1 := by rw [← hW3]; simp [s2]
  rw [hW3] at r3 b3 ⊢
  have r4 := Row.new' W3 31 [.slice none 0 0, .int .u64 0] (w.heap.size + 1 + 1 + 1) s3.symm
  have b4 := (Below.refl W3.heap.size W3).alloc (Nat.le_refl _) (.cells [.slice none 0 0, .int .u64 0].toArray 31)
  have B2 := b1.trans (b2.mono b1.size)
  have B3 := B2.trans (b3.mono B2.size)
  have B4 := B3.trans (b4.mono B3.size)
  exact ⟨_, rfl, ⟨((r1.on' b2).on' b3).on' b4, (r2.on' b3).on' b4, r3.on' b4, r4, B4, Nat.le_refl _⟩, hm.on B4, Fr.same _ _⟩
theorem rgwordR {c : Cfg} {p : Int} (h : Right c ∧ 0 ≤ p ∧ p < c.n) (w : World) : Calls Try.prog 76 #[.agg #[.int .i64 c.n, .int .i64 c.q, .int .i64 c.g, .int .i64 c.m, .int .i64 c.t, .int .i64 c.s], .int .i64 p] w (Ans (.int .i64 (aW c p)) w) := by
  obtain ⟨a, b, g, m, t, s, rfl, h1, h2, -⟩ := h.1.small
  obtain ⟨P, rfl⟩ : ∃ P : Nat, p = P := ⟨p.toNat, by omega⟩
  have hp : (P : Int) < (a : Int) := h.2.2
  exact rword_any a b g m t s P h1 h2 (by omega) w
theorem rgslotR {c : Cfg} {p : Int} (h : Right c ∧ 0 ≤ p ∧ p < c.n) (i : Nat) (hi : i < 4294967296) (w : World) : Calls Try.prog 78 #[.agg #[.int .i64 c.n, .int .i64 c.q, .int .i64 c.g, .int .i64 c.m, .int .i64 c.t, .int .i64 c.s], .int .i64 p, .int .u32 i] w (Ans (.int .i64 (aS c p i)) w) := by
  have hq := h.1.q
  obtain ⟨a, b, g, m, t, s, rfl, h1, h2, -⟩ := h.1.small
  obtain ⟨P, rfl⟩ : ∃ P : Nat, p = P := ⟨p.toNat, by omega⟩
  have hp : (P : Int) < (a : Int) := h.2.2
  exact rsl_any a b g m t s P i h1 ⟨by simp only at hq; omega, h2⟩ (by omega) hi w
end
set_option maxRecDepth 20000 in
set_option maxHeartbeats 4000000 in
theorem rgstep0_any {q0 : Option Addr} {x : GS} {m : PM} {w : World} {l cc : Nat} (ha : x.a = 0) (hok : x.Ok) (ht0 : x.t + 1 ≤ 1000000000) (hm : RM w q0 l cc m.cs) (hu : U64 m) (hops : m.k.ops ≤ 900000) : Calls Try.prog 41 #[rgVal x, .agg #[.slice q0 l cc, .int .u64 m.k.ops]] w (RGStepPost q0 (gStep x m).1 (gStep x m).2 w) := by
  obtain ⟨W4, hW4, hz⟩ := gz_start (x := x) hm
  obtain ⟨X, M, hXM⟩ : ∃ X M, gStep x m = (X, M) := ⟨_, _, rfl⟩
  rw [hXM]
  have HXM := Lib.hid hXM
  show Calls _ _ _ _ (RGStepPost q0 X M w)
  have HHd := Lib.hid (fun W => rhead_any x.w hok.w W)
  have HTl := Lib.hid (fun W => rtail_any x.w hok.w W)
  have HZ := Lib.hid hz
  obtain ⟨b, hb⟩ : ∃ b, w.heap.size = b := ⟨_, rfl⟩
  rw [hb] at HZ
  have HW4 := Lib.hid hW4
  have HOk := Lib.hid hok
  have HU := Lib.hid hu
  have HAa := Lib.hid ha
  clear hz hW4 hm hXM hok hu ha
  show Calls _ _ #[.agg #[.int .i64 x.c.n, .int .i64 x.c.q, .int .i64 x.c.g, .int .i64 x.c.m, .int .i64 x.c.t, .int .i64 x.c.s, .int .i64 x.p, .int .i64 x.a, .int .u64 x.w, .int .i64 x.s, .int .i64 x.got, .bool x.h, .int .i64 x.t], _] _ _
  obtain ⟨gg, hgg⟩ : ∃ gg, x.got = gg := ⟨_, rfl⟩
  obtain ⟨hh, hhh⟩ : ∃ hh, x.h = hh := ⟨_, rfl⟩
  rw [hgg, hhh] at HZ HW4
  rw [hgg, hhh]
  go_enter Try.func41, Try.ntmps41
  go_upto_region 1 with (fail)
  change Code.wp _ _ _ _ ((((w.alloc (.cells (rgC x.c x.p x.a x.w x.s gg hh x.t).toArray 73)).alloc (.cells #[.slice q0 l cc, .int .u64 m.k.ops] 31)).alloc (.cells (rgC cfg0 0 0 0 0 0 false 0).toArray 73)).alloc (.cells #[.slice none 0 0, .int .u64 0] 31))
  rw [HW4.out]
  clear HW4
  obtain ⟨ai, hai⟩ : ∃ ai : Int, (x.a : Int) = ai := ⟨_, rfl⟩
  rw [hai] at HZ
  simp only [hai]
  have ha := HAa.out
  obtain rfl : ai = 0 := by omega
  have hd8 : W4.cell? ⟨b, 8, none⟩ = some (.int .u64 x.w) := HZ.out.gw.get.cell 8
  have HHq : Hid (∀ n, Calls Try.prog 81 #[.int .u64 x.w] (W4.drewN n) (fun e w' => e = .returned (.int .u32 (hd x.w : Nat)) ∧ ∃ m, w' = W4.drewN m)) := fun n => (HHd.out _).mono (fun e w' h => ⟨h.1, n, h.2⟩)
  have HTq : Hid (∀ n, Calls Try.prog 74 #[.int .u64 x.w] (W4.drewN n) (fun e w' => e = .returned (.int .u32 (tl x.w : Nat)) ∧ ∃ m, w' = W4.drewN m)) := fun n => (HTl.out _).mono (fun e w' h => ⟨h.1, n, h.2⟩)
  go_quiet (first | (with_reducible exact (HHq.out _)) | (with_reducible exact (HTq.out _)))
  clear HHq HTq
  obtain ⟨W5, hW5⟩ : ∃ W, W4.drewN nq = W := ⟨_, rfl⟩
  have HZd : Hid (GZ q0 w W5 b x.c x.p 0 x.w x.s gg hh x.t m q0 l cc) := by rw [← hW5]; exact HZ.out.on (below_dN (Below.refl _ _) nq)
  rw [hW5]
  clear hd8 hW5 HZ
  obtain ⟨d0, d1, d2, d3, d4, d5, d6, d7, d8, d9, da, db, dc⟩ := rg_cells HZd.out.gw.get
  have e1 : x = X := congrArg Prod.fst ((gstep0 ha m).symm.trans HXM.out)
  have e2 : m = M := congrArg Prod.snd ((gstep0 ha m).symm.trans HXM.out)
  subst e2
  have HX : Hid (X.c = x.c ∧ X.p = x.p ∧ (X.a : Int) = 0 ∧ (X.w : Int) = x.w ∧ X.s = x.s ∧ X.got = gg ∧ X.h = hh ∧ (X.t : Int) = x.t) := by rw [← e1]; exact ⟨rfl, rfl, hai, rfl, rfl, hgg, hhh, rfl⟩
  have HZ := HZd
  clear HXM hai e1 HZd d0 d1 d2 d3 d4 d5 d6 d7 d8 d9 da db dc
  obtain ⟨d0, d1, d2, d3, d4, d5, d6, d7, d8, d9, da, db, dc⟩ := rg_cells HZ.out.gw.get
  go_upto_region 23 with fail
  clear d0 d1 d2 d3 d4 d5 d6 d7 d8 d9 da db dc
  obtain ⟨d0, d1, d2, d3, d4, d5, d6, d7, d8, d9, da, db, dc⟩ := rg_cells HZ.out.gw.get
  obtain ⟨m0, m1, -, -⟩ := HZ.out.gw.mem.two
  obtain ⟨r0, r1, r2, r3, r4, r5, r6, r7, r8, r9, ra, rb, rc⟩ := rg_cells HZ.out.gw.rget
  obtain ⟨g0, g1, g2, g3, g4, g5, g6, g7, g8, g9, ga, gb, gc⟩ := rg_frozen HZ.out.gw.rget
  obtain ⟨s0, s1, t0, t1⟩ := HZ.out.gw.rmem.two
  simp only [cfg0] at r0 r1 r2 r3 r4 r5
  obtain ⟨W2, W3, hW2, hW3, hrp, hrm, hpost⟩ := HZ.out.fin HX.out
  have HP := Lib.hid hpost.drew
  obtain ⟨e0, e1, e2, e3, e4, e5, e6, e7, e8, e9, ea, eb, ec⟩ := rg_cells hrp
  obtain ⟨n0, n1, -, -⟩ := hrm.two
  have HW := Lib.hid (And.intro hW2 hW3)
  clear hpost hrp hrm hW2 hW3
  go_region
  rw [HW.out.1, HW.out.2]
  clear d0 d1 d2 d3 d4 d5 d6 d7 d8 d9 da db dc m0 m1 r0 r1 r2 r3 r4 r5 r6 r7 r8 r9 ra rb rc g0 g1 g2 g3 g4 g5 g6 g7 g8 g9 ga gb gc s0 s1 t0 t1
  go_wp2_with fail
  refine bodyPost_ret (v := .tuple #[rgV x.c x.p 0 x.w x.s gg hh x.t, .agg #[.slice q0 l cc, .int .u64 m.k.ops]]) (by simp [results, Try.results41, rgV, go_sem, World.cell?_drew, e0, e1, e2, e3, e4, e5, e6, e7, e8, e9, ea, eb, ec, n0, n1]) rfl ?_
  exact HP.out

end Go.Proofs.Ytkhfanhboooilaa
