/- The reference's All (layer 10), walked. -/
import Derived.Test.YtkhfanhboooilaaHf
import Derived.Test.YtkhfanhboooilaaBa
import Derived.WalkSpells
import Derived.WalkLawsBesides
import Derived.LoopTactic
import Derived.Deep.LoopGhost
import Derived.Deep.DeepCutAuto
import Derived.Deep.CutBlock
set_option linter.unusedSimpArgs false
set_option linter.unusedVariables false
namespace Go.Proofs.Ytkhfanhboooilaa
open Go.RowKit Go.Cg Go.Pu Go.Wd Go.Ce

theorem RM.tchRow {w w' : World} {G : Nat} {t : TypeId} {q : Option Addr} {l c : Nat} {cs : List Int} {y : Value} {rest : List Value} (h : RM w q l c cs) (hr : Row G t (y :: rest) w) (hy : ∀ z, y ≠ .int .u64 z) (ht : Tch (fun k => k = G) w w') : RM w' q l c cs := by
  refine ⟨h.len, h.few, h.nl, h.off, ⟨h.lies.len, fun j hj => ?_⟩⟩
  obtain ⟨b, o, hp, hc⟩ := h.lies.cells j hj
  refine ⟨b, o, hp, ht.cell hc (fun e => ?_)⟩
  have e' : b = G := e
  subst e'
  obtain ⟨b', o', hp', hc'⟩ := h.lies.cells 0 (by omega)
  rw [hp] at hp'
  cases hp'
  have h0 := h.off _ _ hp
  subst h0
  have h1 : w.cell? ⟨b, 0, none⟩ = some y := hr.cell 0
  rw [show (0 : Nat) + 0 = 0 from rfl, h1] at hc'
  injection hc' with e
  exact hy _ e
theorem new_neR {B b : Nat} {W : World} {v : Value} {xs : List Int} {t : TypeId} {cs : List Value} (h : NewRow B W v xs) (hr : Row b t cs W) (ht : t ≠ 3) : v.ownBlock ≠ some b := by
  intro e
  rcases h.2 with ⟨hv, _⟩ | ⟨g', cap, cur, hv, _, hg', _⟩
  · rw [hv] at e; cases e
  · rw [hv] at e
    have e2 : g' = b := by simpa [Value.ownBlock] using e
    subst e2
    have hr' : W.heap[g']? = some (.cells cs.toArray t (0, 0)) := hr
    rw [hr'] at hg'
    cases hg'
    exact ht rfl
/-- All's boxes: the config's, the memory's, the result's; its row -/
structure RG (q0 : Option Addr) (c : Cfg) (cb b4 b7 : Nat) (mm : PM) (q : Option Addr) (l cc : Nat) (v : Value) (out : List Int) (w W : World) : Prop where
  box : Row cb 37 (cCells c) W
  mem : Row b4 31 [.slice q l cc, .int .u64 mm.k.ops] W
  ret : Row b7 31 [.slice none 0 0, .int .u64 0] W
  rm : RM W q l cc mm.cs
  fr : Fr q0 q w
  u : U64 mm
  bel : Below w.heap.size w W
  row : NewRow w.heap.size W v out
  ap : mm.cs ≠ [] → ∀ x o, q = some ⟨x, o, none⟩ → v.ownBlock ≠ some x
  ge : w.heap.size ≤ cb ∧ w.heap.size ≤ b4 ∧ w.heap.size ≤ b7 ∧ cb ≠ b4 ∧ cb ≠ b7 ∧ b4 ≠ b7
section
variable {q0 q : Option Addr} {c : Cfg} {cb b4 b7 l cc : Nat} {mm : PM} {v : Value} {out : List Int} {w W W' : World}
theorem RG.on (h : RG q0 c cb b4 b7 mm q l cc v out w W) (hb : Below W.heap.size W W') : RG q0 c cb b4 b7 mm q l cc v out w W' :=
  ⟨h.box.on' hb, h.mem.on' hb, h.ret.on' hb, h.rm.on hb, h.fr, h.u, h.bel.trans (hb.mono h.bel.size), h.row.on hb, h.ap, h.ge⟩
theorem RM.cell0 {q : Option Addr} {l c : Nat} {cs : List Int} {w : World} (h : RM w q l c cs) (hl : cs ≠ []) : ∃ x o, q = some ⟨x, o, none⟩ ∧ x < w.heap.size := by
  have h0 : 0 < cs.length := List.length_pos_iff.2 hl
  obtain ⟨b, o, hp, hc⟩ := h.lies.cells 0 h0
  exact ⟨b, o, hp, block_lt_of_cell hc⟩
/-- other blocks turn than the memory's -/
theorem RM.far {q : Option Addr} {l c : Nat} {cs : List Int} {S : Nat → Prop} {w w' : World} (h : RM w q l c cs) (ht : Tch S w w') (hs : cs ≠ [] → ∀ x o, q = some ⟨x, o, none⟩ → ¬ S x) : RM w' q l c cs := by
  refine ⟨h.len, h.few, h.nl, h.off, ⟨h.lies.len, fun j hj => ?_⟩⟩
  obtain ⟨b, o, hp, hc⟩ := h.lies.cells j hj
  exact ⟨b, o, hp, ht.cell hc (hs (List.length_pos_iff.1 (by omega)) b o hp)⟩
theorem RG.grown {v' : Value} {out' : List Int} (h : RG q0 c cb b4 b7 mm q l cc v out w W) (hn : NewRow w.heap.size W' v' out') (hg : W.grownBy W' v.ownBlock) (hat : v'.ownBlock = v.ownBlock ∨ v'.ownBlock = some W.heap.size) : RG q0 c cb b4 b7 mm q l cc v' out' w W' := by
  have ht := Tch.grown hg
  refine ⟨h.box.tch ht (new_neR h.row h.box (by decide)), h.mem.tch ht (new_neR h.row h.mem (by decide)), h.ret.tch ht (new_neR h.row h.ret (by decide)), h.rm.far ht (fun hl x o e => h.ap hl x o e), h.fr, h.u, h.bel.trans (ht.below h.bel.size (fun k e => (h.row.lt k e).1)), hn, fun hl x o e e2 => ?_, h.ge⟩
  rcases hat with h1 | h1
  · rw [h1] at e2; exact h.ap hl x o e e2
  · rw [h1] at e2
    obtain ⟨x', o', e3, hx⟩ := h.rm.cell0 hl
    rw [e] at e3
    cases e3
    cases e2
    omega
theorem RG.six {n k g m t s : Int} (h : RG q0 ⟨n, k, g, m, t, s⟩ cb b4 b7 mm q l cc v out w W) : W.cell? ⟨cb, 0, none⟩ = some (.int .i64 n) ∧ W.cell? ⟨cb, 1, none⟩ = some (.int .i64 k) ∧ W.cell? ⟨cb, 2, none⟩ = some (.int .i64 g) ∧ W.cell? ⟨cb, 3, none⟩ = some (.int .i64 m) ∧ W.cell? ⟨cb, 4, none⟩ = some (.int .i64 t) ∧ W.cell? ⟨cb, 5, none⟩ = some (.int .i64 s) :=
  ⟨h.box.cell 0, h.box.cell 1, h.box.cell 2, h.box.cell 3, h.box.cell 4, h.box.cell 5⟩
end
/-- beside a get's box -/
structure RX (q0 : Option Addr) (c : Cfg) (cb b4 b7 xb : Nat) (x : GS) (mm : PM) (q : Option Addr) (l cc : Nat) (v : Value) (out : List Int) (w W : World) : Prop where
  hg : RG q0 c cb b4 b7 mm q l cc v out w W
  xr : Row xb 73 (rgC x.c x.p (x.a : Nat) (x.w : Nat) x.s x.got x.h (x.t : Nat)) W
  ok : x.Ok
  ne : w.heap.size ≤ xb ∧ xb ≠ cb ∧ xb ≠ b4 ∧ xb ≠ b7
section
variable {q0 q q2 : Option Addr} {c : Cfg} {cb b4 b7 xb l cc l2 cc2 : Nat} {x X : GS} {mm M : PM} {v : Value} {out : List Int} {w W W' : World}
theorem RX.on (h : RX q0 c cb b4 b7 xb x mm q l cc v out w W) (hb : Below W.heap.size W W') : RX q0 c cb b4 b7 xb x mm q l cc v out w W' := ⟨h.hg.on hb, h.xr.on' hb, h.ok, h.ne⟩
theorem RX.made (h : RG q0 c cb b4 b7 mm q l cc v out w W) (hok : x.Ok) : RX q0 c cb b4 b7 W.heap.size x mm q l cc v out w (W.alloc (.cells (rgC x.c x.p (x.a : Nat) (x.w : Nat) x.s x.got x.h (x.t : Nat)).toArray 73)) := by
  have h1 := h.box.lt
  have h2 := h.mem.lt
  have h3 := h.ret.lt
  exact ⟨h.on ((Below.refl _ _).alloc (Nat.le_refl _) _), Row.new _ _ _, hok, h.bel.size, by omega, by omega, by omega⟩
/-- the get's box and the memory's are stored into -/
theorem RX.put (h : RX q0 c cb b4 b7 xb x mm q l cc v out w W) (hm : RM W q2 l2 cc2 M.cs) (hf : Fr q q2 w) (hu : U64 M) (hl : M.cs.length = mm.cs.length) (hap : M.cs ≠ [] → ∀ x o, q2 = some ⟨x, o, none⟩ → v.ownBlock ≠ some x) (hfr : Fr q0 q2 w) (hok : X.Ok) {W2 : World} (hr : Row xb 73 (rgC X.c X.p (X.a : Nat) (X.w : Nat) X.s X.got X.h (X.t : Nat)) W2) (ht : Tch (fun k => k = xb) W W2) :
    RX q0 c cb b4 b7 xb X M q2 l2 cc2 v out w ((W2.setCell ⟨b4, 0, none⟩ (.slice q2 l2 cc2)).setCell ⟨b4, 1, none⟩ (.int .u64 M.k.ops)) := by
  obtain ⟨g1, g2, g3, g4, g5, g6⟩ := h.hg.ge
  obtain ⟨n1, n2, n3, n4⟩ := h.ne
  have hm2 := h.hg.mem.tch ht (fun e => n3 e.symm)
  have t3 := (rgts b4 0 (.slice q2 l2 cc2) W2).trans (rgts b4 1 (.int .u64 M.k.ops) _)
  have hrow := new_neR h.hg.row h.xr (by decide)
  have hrow4 := new_neR h.hg.row h.hg.mem (by decide)
  have hT : Tch (fun k => k = xb ∨ k = b4) W ((W2.setCell ⟨b4, 0, none⟩ (.slice q2 l2 cc2)).setCell ⟨b4, 1, none⟩ (.int .u64 M.k.ops)) := (ht.wide (fun k e => .inl e)).trans (t3.wide (fun k e => .inr e))
  refine ⟨⟨h.hg.box.tch hT (by omega), hm2.put2 _ _, h.hg.ret.tch hT (by omega), (hm.tchRow h.xr (fun z e => by cases e) ht).tchRow hm2 (fun z e => by cases e) t3, hfr, hu, h.hg.bel.trans (hT.below h.hg.bel.size (fun k e => by omega)), h.hg.row.tch hT (fun k hk e => ?_), hap, h.hg.ge⟩, hr.tch t3 (fun e => n3 e), hok, h.ne⟩
  rcases e with e | e
  · exact hrow (by rw [← e]; exact hk)
  · exact hrow4 (by rw [← e]; exact hk)
end
/-- what All answers -/
def RGAllPost (q0 : Option Addr) (l : List Int) (m' : PM) (w : World) (e : Ending) (w' : World) : Prop :=
  ∃ qs n cs q l' cc, e = .returned (.tuple #[.slice qs n cs, .agg #[.slice q l' cc, .int .u64 m'.k.ops]]) ∧ Hid (NewRow w.heap.size w' (.slice qs n cs) l) ∧ Hid (RM w' q l' cc m'.cs) ∧ Hid (Below w.heap.size w w') ∧ Hid (Fr q0 q w)
theorem RGAllPost.drew {q0 : Option Addr} {l : List Int} {m' : PM} {w W : World} {e : Ending} (H : RGAllPost q0 l m' w e W) : RGAllPost q0 l m' w e W.drew := by
  obtain ⟨qs, n, cs, q, l', cc, he, h1, h2, h3, h4⟩ := H
  have hd := (Below.refl W.heap.size W).drew
  exact ⟨qs, n, cs, q, l', cc, he, h1.out.on hd, h2.out.on hd, h3.out.trans (hd.mono h3.out.size), h4⟩
theorem RG.fin {q0 q pq : Option Addr} {c : Cfg} {cb b4 b7 l cc n k : Nat} {mm : PM} {out : List Int} {w W : World} (h : RG q0 c cb b4 b7 mm q l cc (.slice pq n k) out w W) : ∃ W', (W.setCell ⟨b7, 0, none⟩ (.slice q l cc)).setCell ⟨b7, 1, none⟩ (.int .u64 mm.k.ops) = W' ∧ Row b7 31 [.slice q l cc, .int .u64 mm.k.ops] W' ∧ RGAllPost q0 out mm w (.returned (.tuple #[.slice pq n k, .agg #[.slice q l cc, .int .u64 mm.k.ops]])) W' := by
  have ht := (rgts b7 0 (.slice q l cc) W).trans (rgts b7 1 (.int .u64 mm.k.ops) _)
  obtain ⟨g1, g2, g3, g4, g5, g6⟩ := h.ge
  exact ⟨_, rfl, h.ret.put2 _ _, pq, n, k, q, l, cc, rfl, h.row.tch ht (fun j hj e => new_neR h.row h.ret (by decide) (by rw [← e]; exact hj)), h.rm.tchRow h.ret (fun z e => by cases e) ht, h.bel.trans (ht.below h.bel.size (fun j e => by omega)), h.fr⟩
theorem fr_trans {q0 q1 q2 : Option Addr} {w W : World} (h : Fr q0 q1 w) (k : Fr q1 q2 W) (hs : w.heap.size ≤ W.heap.size) : Fr q0 q2 w := fun x o e => by
  rcases k x o e with ⟨o', e'⟩ | h'
  · exact h x o' e'
  · exact .inr (Nat.le_trans hs h')
/-- a step's result, laid down -/
theorem RX.next {q0 q q2 : Option Addr} {c : Cfg} {cb b4 b7 xb l cc l2 cc2 : Nat} {x X : GS} {mm M : PM} {v : Value} {out : List Int} {w W W5 : World} (h : RX q0 c cb b4 b7 xb x mm q l cc v out w W) (hm : RM W5 q2 l2 cc2 M.cs) (hb : Below W.heap.size W W5) (hf : Fr q q2 W) (hu : U64 M) (hl : M.cs.length = mm.cs.length) (hok : X.Ok) {W2 : World} (hr : Row xb 73 (rgC X.c X.p (X.a : Nat) (X.w : Nat) X.s X.got X.h (X.t : Nat)) W2) (ht : Tch (fun k => k = xb) W5 W2) :
    RX q0 c cb b4 b7 xb X M q2 l2 cc2 v out w ((W2.setCell ⟨b4, 0, none⟩ (.slice q2 l2 cc2)).setCell ⟨b4, 1, none⟩ (.int .u64 M.k.ops)) := by
  refine (h.on hb).put hm (hf.old h.hg.bel.size) hu hl (fun hne x o e e2 => ?_) (fr_trans h.hg.fr hf h.hg.bel.size) hok hr ht
  rcases hf x o e with ⟨o', e'⟩ | h'
  · exact h.hg.ap (fun e0 => hne (List.eq_nil_of_length_eq_zero (by rw [hl, e0]; rfl))) x o' e' e2
  · have := (h.hg.row.lt x e2).2; omega
structure RAR (c : Cfg) (p : Int) (m : PM) (g : Nat) (out : List Int) (mm : PM) : Prop where
  l : out ++ (gotN c p g mm).1 = (gotN c p 65536 m).1
  e : (gotN c p g mm).2 = (gotN c p 65536 m).2
  ops : mm.k.ops + 3 * g ≤ m.k.ops + 196608
  len : out.length + g ≤ 65536
set_option maxRecDepth 100000 in
set_option maxHeartbeats 4000000 in
theorem rgall_any (c : Cfg) (p : Int) {q0 : Option Addr} {l0 cc0 : Nat} {m : PM} {w : World} (hm : RM w q0 l0 cc0 m.cs) (hu : U64 m) (hf : m.k.ops ≤ 10000) : Calls Try.prog 47 #[cVal c, .agg #[.slice q0 l0 cc0, .int .u64 m.k.ops], .int .i64 p] w (RGAllPost q0 (gotN c p 65536 m).1 (gotN c p 65536 m).2 w) := by
  obtain ⟨x0, hx0⟩ : ∃ x0, newG c p = x0 := ⟨_, rfl⟩
  have HNew : Hid (∀ W, Calls Try.prog 39 #[cVal c, .int .i64 p] W (fun e w' => e = .returned (.agg #[.int .i64 x0.c.n, .int .i64 x0.c.q, .int .i64 x0.c.g, .int .i64 x0.c.m, .int .i64 x0.c.t, .int .i64 x0.c.s, .int .i64 x0.p, .int .i64 (x0.a : Nat), .int .u64 (x0.w : Nat), .int .i64 x0.s, .int .i64 x0.got, .bool x0.h, .int .i64 (x0.t : Nat)]) ∧ Below W.heap.size W w')) := by rw [← hx0]; exact fun W => rgnew_any c p W
  have HX0 := Lib.hid hx0
  clear hx0
  obtain ⟨L, hL⟩ : ∃ L, (gotN c p 65536 m).1 = L := ⟨_, rfl⟩
  obtain ⟨ME, hME⟩ : ∃ ME, (gotN c p 65536 m).2 = ME := ⟨_, rfl⟩
  have hA0 : RAR c p m 65536 [] m := ⟨List.nil_append _, rfl, Nat.le_refl _, Nat.le_refl _⟩
  have HA0 := Lib.hid hA0
  have HLM := Lib.hid (And.intro hL hME)
  have HF := Lib.hid hf
  rw [hL, hME]
  have b1 := (Below.refl w.heap.size w).alloc (Nat.le_refl _) (.cells (cCells c).toArray 37)
  have r1 := Row.new w 37 (cCells c)
  obtain ⟨W1, hW1⟩ : ∃ W, w.alloc (.cells (cCells c).toArray 37) = W := ⟨_, rfl⟩
  have s1 : W1.heap.size = w.heap.size + 1 := by rw [← hW1]; simp
  rw [hW1] at r1 b1
  have r2 := Row.new' W1 31 [.slice q0 l0 cc0, .int .u64 m.k.ops] (w.heap.size + 1) s1.symm
  have b2 := (Below.refl W1.heap.size W1).alloc (Nat.le_refl _) (.cells [.slice q0 l0 cc0, .int .u64 m.k.ops].toArray 31)
  obtain ⟨W2, hW2⟩ : ∃ W, W1.alloc (.cells [.slice q0 l0 cc0, .int .u64 m.k.ops].toArray 31) = W := ⟨_, rfl⟩
  have s2 : W2.heap.size = w.heap.size + 1 + 1 := by rw [← hW2]; simp [s1]
  rw [hW2] at r2 b2
  have r3 := Row.new' W2 31 [.slice none 0 0, .int .u64 0] (w.heap.size + 1 + 1) s2.symm
  have b3 := (Below.refl W2.heap.size W2).alloc (Nat.le_refl _) (.cells [.slice none 0 0, .int .u64 0].toArray 31)
  obtain ⟨W3, hW3⟩ : ∃ W, W2.alloc (.cells [.slice none 0 0, .int .u64 0].toArray 31) = W := ⟨_, rfl⟩
  rw [hW3] at r3 b3
  have B2 := b1.trans (b2.mono b1.size)
  have B3 := B2.trans (b3.mono B2.size)
  have HG0 : Hid (RG q0 c w.heap.size (w.heap.size + 1) (w.heap.size + 1 + 1) m q0 l0 cc0 (.slice none 0 0) [] w W3) := ⟨(r1.on' b2).on' b3, r2.on' b3, r3, hm.on B3, Fr.same _ _, hu, B3, NewRow.nil _ _, (fun _ _ _ _ e => by cases e), by omega, by omega, by omega, by omega, by omega, by omega⟩
  have HWs := Lib.hid (And.intro hW1 (And.intro hW2 hW3))
  obtain ⟨N, Q, G, M, T, U⟩ := c
  clear hA0 hL hME hm hu hf b1 r1 s1 r2 b2 s2 r3 b3 B2 B3 hW1 hW2 hW3
  change Hid (∀ W, Calls Try.prog 39 #[.agg #[.int .i64 N, .int .i64 Q, .int .i64 G, .int .i64 M, .int .i64 T, .int .i64 U], .int .i64 p] W _) at HNew
  show Calls _ _ #[.agg #[.int .i64 N, .int .i64 Q, .int .i64 G, .int .i64 M, .int .i64 T, .int .i64 U], _, _] _ _
  go_enter Try.func47, Try.ntmps47
  go_upto_region 1 with fail
  change Code.wp _ _ _ _ (((w.alloc (.cells (cCells ⟨N, Q, G, M, T, U⟩).toArray 37)).alloc (.cells [.slice q0 l0 cc0, .int .u64 m.k.ops].toArray 31)).alloc (.cells [.slice none 0 0, .int .u64 0].toArray 31))
  rw [HWs.out.1, HWs.out.2.1, HWs.out.2.2]
  obtain ⟨b7, hb7⟩ : ∃ z, w.heap.size + 1 + 1 = z := ⟨_, rfl⟩
  rw [hb7] at HG0 ⊢
  obtain ⟨b4, hb4⟩ : ∃ z, w.heap.size + 1 = z := ⟨_, rfl⟩
  rw [hb4] at HG0 ⊢
  obtain ⟨cb, hcb⟩ : ∃ z, w.heap.size = z := ⟨_, rfl⟩
  have HG0' : Hid (RG q0 ⟨N, Q, G, M, T, U⟩ cb b4 b7 m q0 l0 cc0 (.slice none 0 0) [] w W3) := by rw [← hcb]; exact HG0.out
  rw [hcb]
  clear hb7 hb4 hcb HWs HG0
  go_wp2_with fail
  go_loopg [8, 9] 65536 (fun g s8 s9 wx => ∃ (i : Nat) (out : List Int) (mm : PM) (pq : Option Addr) (n k : Nat) (q : Option Addr) (l cc : Nat), i + g = 65536 ∧ s9 = .int .i64 i ∧ s8 = .slice pq n k ∧ Hid (RG q0 ⟨N, Q, G, M, T, U⟩ cb b4 b7 mm q l cc (.slice pq n k) out w wx) ∧ Hid (RAR ⟨N, Q, G, M, T, U⟩ p m g out mm))
  case atStart => exact ⟨0, [], m, none, 0, 0, q0, l0, cc0, rfl, rfl, rfl, HG0', HA0⟩
  case round =>
    clear HG0' HA0
    obtain ⟨i, out, mm, pq, n, k, q, l, cc, hig, rfl, rfl, HG, HA⟩ := hrel
    cases gk with
    | zero =>
      have hi : ¬ ((i : Int) < 65536) := by omega
      have hA := HA.out
      have hE : Hid (out = L ∧ mm = ME) := by
        have h1 := hA.l
        have h2 := hA.e
        rw [HLM.out.1] at h1
        rw [HLM.out.2] at h2
        exact ⟨by rw [← h1]; exact (List.append_nil out).symm, h2⟩
      clear hA HA
      obtain ⟨m0, m1, -, -⟩ := HG.out.mem.two
      obtain ⟨r0, r1, f0, f1⟩ := HG.out.ret.two
      go_upto_region 11 with fail
      obtain ⟨W', hW', hr', hp'⟩ := HG.out.fin
      have HP := Lib.hid hp'.drew
      have HW' := Lib.hid hW'
      obtain ⟨n0, n1, -, -⟩ := hr'.two
      clear hW' hr' hp'
      go_region
      rw [HW'.out]
      clear m0 m1 r0 r1 f0 f1
      go_wp2_with fail
      refine bodyPost_ret (v := .tuple #[.slice pq n k, .agg #[.slice q l cc, .int .u64 mm.k.ops]]) (by simp [results, Try.results47, go_sem, World.cell?_drew, n0, n1]) rfl ?_
      rw [← hE.out.1, ← hE.out.2]
      exact HP.out
    | succ g =>
      have hi : (i : Int) < 65536 := by omega
      obtain ⟨c0, c1, c2, c3, c4, c5⟩ := HG.out.six
      have hok : x0.Ok := by rw [← HX0.out]; exact newG_ok ⟨N, Q, G, M, T, U⟩ p
      go_wp2_with (go_at_call 39; (with_reducible refine (HNew.out _).mono ?_); rintro e w3 ⟨rfl, hb3⟩; have HX := Lib.hid (RX.made (HG.out.on hb3) hok); clear hb3)
      clear c0 c1 c2 c3 c4 c5 hok
      obtain ⟨xb, hxb⟩ : ∃ z, w3.heap.size = z := ⟨_, rfl⟩
      rw [hxb] at HX ⊢
      clear hxb
      have hW0 : Hid (GWay ⟨N, Q, G, M, T, U⟩ p mm 3 x0 mm) := by rw [← HX0.out]; exact GWay.start _ _ HG.out.u
      clear HG
      go_loopg [21] 3 (fun k' s21 wy => ∃ (x : GS) (m1 : PM) (q1 : Option Addr) (l1 cc1 : Nat), Hid (RX q0 ⟨N, Q, G, M, T, U⟩ cb b4 b7 xb x m1 q1 l1 cc1 (.slice pq n k) out w wy) ∧ Hid (GWay ⟨N, Q, G, M, T, U⟩ p mm k' x m1))
      case atStart => exact ⟨x0, mm, q, l, cc, HX, hW0⟩
      case round =>
        clear HX hW0
        obtain ⟨x, m1, q1, l1, cc1, HX, HW⟩ := hrel
        obtain ⟨d0, d1, d2, d3, d4, d5, d6, d7, d8, d9, da, db, dc⟩ := rg_cells HX.out.xr
        obtain ⟨g0, g1, g2, g3, g4, g5, g6, g7, g8, g9, ga, gb, gc⟩ := rg_frozen HX.out.xr
        obtain ⟨m0, m1', k0, k1⟩ := HX.out.hg.mem.two
        have hA := HA.out
        by_cases ha : x.a = 0
        · have hfin := HW.out.fin ha
          rw [ha, Int.natCast_zero] at d7
          obtain ⟨hh, hhh⟩ : ∃ b, x.h = b := ⟨_, rfl⟩
          rw [hhh] at db
          cases hh with
          | true =>
            have hgs : x.got = x.s := by unfold GS.got; rw [if_pos hhh]
            rw [hgs] at da
            have HA2 : Hid (RAR ⟨N, Q, G, M, T, U⟩ p m g (out ++ [x.s]) m1) := by
              have h1 := hA.l
              have h2 := hA.e
              rw [gotN, hfin] at h1 h2
              rw [if_pos hhh] at h1 h2
              refine ⟨by rw [List.append_assoc]; exact h1, h2, ?_, ?_⟩
              · have := hA.ops
                have := HW.out.ops
                omega
              · have := hA.len
                rw [List.length_append, List.length_singleton]
                omega
            have HLn : Hid (out.length ≤ 65536) := by have := hA.len; show _ ≤ _; omega
            clear hA HA hfin ha hhh HW
            go_wp2_with (at_builtin; refine append_new_at (R := fun _ => False) (B := w.heap.size) _ rfl (.tmp 32) (.tmp 35) (by rfl) (.slice (some ⟨_, 0, none⟩) 1 1) (.slice pq n k) out [x.s] (by kernel_rfl) ((HX.out.hg.row).on ((Below.refl _ _).alloc (Nat.le_refl _) _)) (by kernel_rfl) (sl_one x.s _ _ _ rfl id) (by have := HLn.out; rw [List.length_singleton]; omega) (Nat.le_trans HX.out.hg.bel.size (by simp)) ?_; intro v4 z4 r4 g4' a4; obtain ⟨p4, n4, c4, rfl, -⟩ := r4.form; have HG4 := Lib.hid ((HX.out.hg.on ((Below.refl _ _).alloc (Nat.le_refl _) _)).grown r4 g4' a4); clear r4 g4' a4)
            go_roundg g
            case measure => omega
            case rel => exact ⟨i + 1, _, m1, p4, n4, c4, q1, l1, cc1, by omega, by go_num, rfl, HG4, HA2⟩
          | false =>
            have hE : Hid (out = L ∧ m1 = ME) := by
              have h1 := hA.l
              have h2 := hA.e
              rw [gotN, hfin] at h1 h2
              rw [if_neg (show ¬ x.h = true by rw [hhh]; decide)] at h1 h2
              rw [HLM.out.1] at h1
              rw [HLM.out.2] at h2
              exact ⟨by rw [← h1]; exact (List.append_nil out).symm, h2⟩
            clear hA HA hfin ha hhh HW
            obtain ⟨r0, r1, f0, f1⟩ := HX.out.hg.ret.two
            go_upto_region 9 with fail
            obtain ⟨W', hW', hr', hp'⟩ := HX.out.hg.fin
            have HP := Lib.hid hp'.drew
            have HW' := Lib.hid hW'
            obtain ⟨n0, n1, -, -⟩ := hr'.two
            clear hW' hr' hp'
            go_region
            rw [HW'.out]
            clear m0 m1' k0 k1 r0 r1 f0 f1 d0 d1 d2 d3 d4 d5 d6 d7 d8 d9 da db dc g0 g1 g2 g3 g4 g5 g6 g7 g8 g9 ga gb gc
            go_wp2_with fail
            refine bodyPost_ret (v := .tuple #[.slice pq n k, .agg #[.slice q1 l1 cc1, .int .u64 m1.k.ops]]) (by simp [results, Try.results47, go_sem, World.cell?_drew, n0, n1]) rfl ?_
            rw [← hE.out.1, ← hE.out.2]
            exact HP.out
        · obtain ⟨xa, hxa⟩ : ∃ xa : Int, (x.a : Int) = xa := ⟨_, rfl⟩
          have ha0 : (0 : Int) < xa := by omega
          rw [hxa] at d7
          obtain ⟨k', hk', HW2, -⟩ := HW.out.step ha
          obtain ⟨⟨X, M1⟩, hXM⟩ : ∃ P, gStep x m1 = P := ⟨_, rfl⟩
          have hok2 := gstep_ok HX.out.ok HX.out.hg.u
          rw [hXM] at HW2 hok2
          change GWay ⟨N, Q, G, M, T, U⟩ p mm k' X M1 at HW2
          have HW2 := Lib.hid HW2
          have hops : m1.k.ops ≤ 900000 := by have h1 := HW.out.ops; have h2 := hA.ops; have h3 := HF.out; omega
          have htt : x.t + 1 ≤ 1000000000 := by rw [HW.out.t]; decide
          have hst := rgstep_any HX.out.ok htt HX.out.hg.rm HX.out.hg.u hops
          rw [hXM] at hst
          have hst2 := hst
          unfold rgVal rgV at hst2
          rw [hxa] at hst2
          have HSt : Hid (Calls Try.prog 41 #[.agg #[.int .i64 x.c.n, .int .i64 x.c.q, .int .i64 x.c.g, .int .i64 x.c.m, .int .i64 x.c.t, .int .i64 x.c.s, .int .i64 x.p, .int .i64 xa, .int .u64 (x.w : Nat), .int .i64 x.s, .int .i64 x.got, .bool x.h, .int .i64 (x.t : Nat)], .agg #[.slice q1 l1 cc1, .int .u64 m1.k.ops]] _ (fun e w' => ∃ q l cc, e = .returned (.tuple #[.agg #[.int .i64 X.c.n, .int .i64 X.c.q, .int .i64 X.c.g, .int .i64 X.c.m, .int .i64 X.c.t, .int .i64 X.c.s, .int .i64 X.p, .int .i64 (X.a : Nat), .int .u64 (X.w : Nat), .int .i64 X.s, .int .i64 X.got, .bool X.h, .int .i64 (X.t : Nat)], .agg #[.slice q l cc, .int .u64 M1.k.ops]]) ∧ Hid (RM w' q l cc M1.cs) ∧ Hid (Below _ _ w') ∧ Hid (Fr q1 q _))) := hst2
          have HOk2 := Lib.hid hok2
          clear hA hst hst2 hXM hok2 ha HW hops htt
          have HXa := Lib.hid hxa
          clear hxa
          go_upto_region 7 with fail
          clear d7 d8 d9 da db dc ha0
          have hd7 := rg_cells HX.out.xr
          rw [HXa.out] at hd7
          obtain ⟨d0, d1, d2, d3, d4, d5, d6, d7, d8, d9, da, db, dc⟩ := hd7
          go_wp2_with fail
          (with_reducible refine HSt.out.mono ?_)
          rintro e w5 ⟨q2, l2, cc2, rfl, hm5, hb5, hf5⟩
          have HX5 := Lib.hid (HX.out.on hb5.out)
          clear d0 d1 d2 d3 d4 d5 d6 d7 d8 d9 da db dc g0 g1 g2 g3 g4 g5 g6 g7 g8 g9 ga gb gc m0 m1' k0 k1
          obtain ⟨d0, d1, d2, d3, d4, d5, d6, d7, d8, d9, da, db, dc⟩ := rg_cells HX5.out.xr
          obtain ⟨g0, g1, g2, g3, g4, g5, g6, g7, g8, g9, ga, gb, gc⟩ := rg_frozen HX5.out.xr
          obtain ⟨m0, m1', k0, k1⟩ := HX5.out.hg.mem.two
          obtain ⟨W6, hW6, hr6, ht6⟩ := rg_put HX5.out.xr X.c X.p X.a X.w X.s X.got X.h X.t
          have HX6 := Lib.hid (HX.out.next hm5.out hb5.out hf5.out HOk2.out.2.1 HOk2.out.2.2.1 HOk2.out.1 hr6 ht6)
          have hm6 := (HX5.out.hg.mem.tch ht6 (fun e => HX5.out.ne.2.2.1 e.symm)).two
          clear hr6 ht6 m0 m1' k0 k1
          obtain ⟨m0, m1', k0, k1⟩ := hm6
          dsimp only
          repeat (first | (rw [hW6]) | go_values | go_skip | go_guarded | go_step | go_upon | go_back)
          go_wp2_with fail
          go_roundg k'
          case measure => omega
          case rel => exact ⟨X, M1, q2, l2, cc2, HX6, HW2⟩
end Go.Proofs.Ytkhfanhboooilaa
