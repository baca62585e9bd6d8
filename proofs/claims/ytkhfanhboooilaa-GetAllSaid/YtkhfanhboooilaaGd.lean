/- A get and its memory, made since a world; All (layer 10's code). -/
import Derived.Test.YtkhfanhboooilaaGc
import Derived.Test.YtkhfanhboooilaaBa
import Derived.Test.YtkhfanhboooilaaBb
import Derived.LoopTactic
import Derived.Deep.LoopGhost
import Derived.Deep.DeepCutAuto
import Derived.Deep.CutBlock
set_option linter.unusedSimpArgs false
set_option linter.unusedVariables false
namespace Go.Proofs.Ytkhfanhboooilaa
open Go.RowKit Go.Cg Go.Pu Go.Wd Go.Ce

/-- a get and its memory, both made since w0; K: blocks that neither touches -/
structure GX (K : Nat → Prop) (w0 W : World) (b mb mg : Nat) (x : GS) (m : PM) : Prop where
  is : GetIs W b x
  ne : ¬ Own mb mg b
  mem : MemIs W mb mg m
  u : U64 m
  bel : Below w0.heap.size w0 W
  hb : w0.heap.size ≤ mb ∧ w0.heap.size ≤ mg ∧ w0.heap.size ≤ b
  kp : ∀ k, K k → k < W.heap.size ∧ ¬ Own mb mg k ∧ k ≠ b
section
variable {K : Nat → Prop} {w0 W W' : World} {b mb mg : Nat} {x x' : GS} {m m' : PM}
theorem GX.on (h : GX K w0 W b mb mg x m) (hb : Below W.heap.size W W') : GX K w0 W' b mb mg x m :=
  ⟨h.is.on hb, h.ne, h.mem.on hb, h.u, h.bel.trans (hb.mono h.bel.size), h.hb, fun k hk => ⟨Nat.lt_of_lt_of_le (h.kp k hk).1 hb.size, (h.kp k hk).2⟩⟩
/-- the memory is touched by others -/
theorem GX.mem' (h : GX K w0 W b mb mg x m) (hm : MemIs W' mb mg m') (hu : U64 m') (ht : Tch (Own mb mg) W W') : GX K w0 W' b mb mg x m' :=
  ⟨h.is.tch ht h.ne, h.ne, hm, hu, h.bel.trans (ht.below h.bel.size (fun k hk => by rcases hk with hk | hk <;> (have := h.hb; omega))), h.hb, fun k hk => ⟨Nat.lt_of_lt_of_le (h.kp k hk).1 ht.size, (h.kp k hk).2⟩⟩
theorem GX.step {r : Bool} (h : GX K w0 W b mb mg x m) (hf : m.k.ops + 1 ≤ 1000000000) (ht : x.t + 1 ≤ 1000000000) (h1 : (gStep x m).1 = x') (h2 : (gStep x m).2 = m') (h3 : decide (x'.a = 0) = r) :
    Calls Try.prog 42 #[gptr b, gptr mb] W (fun e w' => e = .returned (.bool r) ∧ Hid (GX K w0 w' b mb mg x' m') ∧ Hid (Tch (fun k => ¬ K k) W w')) := by
  refine (gstep_any h.is h.mem h.ne h.u hf ht).mono ?_
  rintro e w' ⟨rfl, j1, j2, j4⟩
  rw [h1] at j1 ⊢
  rw [h2] at j2
  have hu : U64 m' := by rw [← h2]; exact (gstep_ok h.is.ok h.u).2.1
  refine ⟨by rw [h3], ⟨j1.out, h.ne, j2.out, hu, h.bel.trans (j4.out.below h.bel.size (fun k hk => ?_)), h.hb, fun k hk => ⟨Nat.lt_of_lt_of_le (h.kp k hk).1 j4.out.size, (h.kp k hk).2⟩⟩, j4.out.wide (fun k hk e => ?_)⟩
  · have := h.hb
    rcases hk with hk | hk | hk <;> omega
  · have := h.kp k e
    rcases hk with hk | hk
    · exact this.2.2 hk
    · exact this.2.1 hk
theorem GX.made (hm : MemIs W mb mg m) (hu : U64 m) (hb : Below w0.heap.size w0 W) (hg : w0.heap.size ≤ mb ∧ w0.heap.size ≤ mg) (hk : ∀ k, K k → k < W.heap.size ∧ ¬ Own mb mg k) (h1 : GetIs W' b x) (h2 : W.heap.size ≤ b) (h3 : Below W.heap.size W W') : GX K w0 W' b mb mg x m := by
  have hlt := hm.lt
  refine ⟨h1, fun e => ?_, hm.on h3, hu, hb.trans (h3.mono hb.size), ⟨hg.1, hg.2, Nat.le_trans hb.size h2⟩, fun k hk' => ⟨Nat.lt_of_lt_of_le (hk k hk').1 h3.size, (hk k hk').2, ?_⟩⟩
  · rcases e with e | e <;> omega
  · have := (hk k hk').1
    omega
end
theorem Tch.then2 {S R : Nat → Prop} {w W W' : World} (h : Tch R w W) (ht : Tch S W W') (hs : ∀ j, j < w.heap.size → S j → R j) : Tch R w W' :=
  ⟨ht.os.trans h.os, ht.tape.trans h.tape, ht.output.trans h.output, Nat.le_trans h.size ht.size, fun k hk hn => (ht.block k (Nat.lt_of_lt_of_le hk h.size) (fun e => hn (hs k hk e))).trans (h.block k hk hn)⟩
theorem new_tch {S : Nat → Prop} {B : Nat} {w w' : World} {v : Value} {xs : List Int} (h : NewRow B w v xs) (ht : Tch S w w') (hs : ∀ k, v.ownBlock = some k → ¬ S k) : NewRow B w' v xs := by
  refine ⟨h.1, ?_⟩
  rcases h.2 with h2 | ⟨g, cap, cur, hv, hB, hg, r⟩
  · exact .inl h2
  · exact .inr ⟨g, cap, cur, hv, hB, ht.obj hg (hs g (by rw [hv]; rfl)), r⟩
/-- All's memory, its config's box, its row, since the call's world w -/
structure AG (c : Cfg) (cb mb mg : Nat) (mm : PM) (v : Value) (out : List Int) (w W : World) : Prop where
  mem : MemIs W mb mg mm
  u : U64 mm
  tch : Tch (Own mb mg) w W
  lt : mb < w.heap.size ∧ mg < w.heap.size
  box : Row cb 23 (cCells c) W
  cb : w.heap.size ≤ cb
  row : NewRow w.heap.size W v out
theorem AG.on {c : Cfg} {cb mb mg : Nat} {mm : PM} {v : Value} {out : List Int} {w W W' : World} (h : AG c cb mb mg mm v out w W) (hb : Below W.heap.size W W') : AG c cb mb mg mm v out w W' :=
  ⟨h.mem.on hb, h.u, h.tch.then hb, h.lt, h.box.on' hb, h.cb, h.row.on hb⟩
theorem AG.six {n q g m t s : Int} {cb mb mg : Nat} {mm : PM} {v : Value} {out : List Int} {w W : World} (h : AG ⟨n, q, g, m, t, s⟩ cb mb mg mm v out w W) : W.cell? ⟨cb, 0, none⟩ = some (.int .i64 n) ∧ W.cell? ⟨cb, 1, none⟩ = some (.int .i64 q) ∧ W.cell? ⟨cb, 2, none⟩ = some (.int .i64 g) ∧ W.cell? ⟨cb, 3, none⟩ = some (.int .i64 m) ∧ W.cell? ⟨cb, 4, none⟩ = some (.int .i64 t) ∧ W.cell? ⟨cb, 5, none⟩ = some (.int .i64 s) :=
  ⟨h.box.cell 0, h.box.cell 1, h.box.cell 2, h.box.cell 3, h.box.cell 4, h.box.cell 5⟩
/-- beside a get that was made since, apart from all that -/
structure AX (c : Cfg) (cb gb mb mg : Nat) (x : GS) (mm : PM) (v : Value) (out : List Int) (w W : World) : Prop where
  ag : AG c cb mb mg mm v out w W
  is : GetIs W gb x
  gb : w.heap.size ≤ gb ∧ gb ≠ cb ∧ v.ownBlock ≠ some gb
theorem AX.on {c : Cfg} {cb gb mb mg : Nat} {x : GS} {mm : PM} {v : Value} {out : List Int} {w W W' : World} (h : AX c cb gb mb mg x mm v out w W) (hb : Below W.heap.size W W') : AX c cb gb mb mg x mm v out w W' := ⟨h.ag.on hb, h.is.on hb, h.gb⟩
theorem AX.made {c : Cfg} {cb mb mg : Nat} {x : GS} {mm : PM} {v : Value} {out : List Int} {w W W' : World} {gb : Nat} (h : AG c cb mb mg mm v out w W) (h1 : GetIs W' gb x) (h2 : W.heap.size ≤ gb) (h3 : Below W.heap.size W W') : AX c cb gb mb mg x mm v out w W' := by
  refine ⟨h.on h3, h1, Nat.le_trans h.tch.size h2, fun e => ?_, fun e => ?_⟩
  · have := h.box.lt
    omega
  · have := (h.row.lt gb e).2
    omega
theorem AX.step {c : Cfg} {cb gb mb mg : Nat} {x X : GS} {mm M : PM} {v : Value} {out : List Int} {w W : World} {r : Bool} (h : AX c cb gb mb mg x mm v out w W) (hf : mm.k.ops + 1 ≤ 1000000000) (ht : x.t + 1 ≤ 1000000000) (h1 : (gStep x mm).1 = X) (h2 : (gStep x mm).2 = M) (h3 : decide (X.a = 0) = r) :
    Calls Try.prog 42 #[gptr gb, gptr mb] W (fun e w' => e = .returned (.bool r) ∧ Hid (AX c cb gb mb mg X M v out w w')) := by
  have hlt := h.ag.lt
  have hgb := h.gb
  have hcb := h.ag.cb
  have hne : ¬ Own mb mg gb := fun e => by rcases e with e | e <;> omega
  refine (gstep_any h.is h.ag.mem hne h.ag.u hf ht).mono ?_
  rintro e w' ⟨rfl, j1, j2, j4⟩
  rw [h1] at j1 ⊢
  rw [h2] at j2
  have hu : U64 M := by rw [← h2]; exact (gstep_ok h.is.ok h.ag.u).2.1
  refine ⟨by rw [h3], ⟨j2.out, hu, h.ag.tch.then2 j4.out (fun j hj e => ?_), hlt, h.ag.box.tch j4.out (fun e => ?_), hcb, new_tch h.ag.row j4.out (fun k hk e => ?_)⟩, j1.out, hgb⟩
  · rcases e with e | e
    · omega
    · exact e
  · rcases e with e | e | e <;> omega
  · have h5 := (h.ag.row.lt k hk).1
    rcases e with e | e | e
    · exact hgb.2.2 (by rw [← e]; exact hk)
    · omega
    · omega
theorem new_ne {B b : Nat} {W : World} {v : Value} {xs : List Int} {t : TypeId} {cs : List Value} (h : NewRow B W v xs) (hr : Row b t cs W) (ht : t ≠ 3) : v.ownBlock ≠ some b := by
  intro e
  rcases h.2 with ⟨hv, _⟩ | ⟨g', cap, cur, hv, _, hg', _⟩
  · rw [hv] at e; cases e
  · rw [hv] at e
    have e2 : g' = b := by simpa [Value.ownBlock] using e
    subst e2
    have hr' : W.heap[g']? = some (.cells cs.toArray t (0, 0)) := hr
    rw [hr'] at hg'
    cases hg'
    exact ht rfl
theorem AG.grown {c : Cfg} {cb mb mg : Nat} {mm : PM} {v v' : Value} {out out' : List Int} {w W W' : World} (h : AG c cb mb mg mm v out w W) (hn : NewRow w.heap.size W' v' out') (hg : W.grownBy W' v.ownBlock) : AG c cb mb mg mm v' out' w W' := by
  have ht := Tch.grown hg
  have hlt := h.lt
  have hown : ∀ k, v.ownBlock = some k → w.heap.size ≤ k := fun k e => (h.row.lt k e).1
  exact ⟨h.mem.tch ht (fun e => by have := hown _ e; omega) (fun e => by have := hown _ e; omega), h.u, h.tch.then2 ht (fun j hj e => by have := hown _ e; omega), hlt, h.box.tch ht (new_ne h.row h.box (by decide)), h.cb, hn⟩
theorem AX.has {c : Cfg} {cb gb mb mg : Nat} {x : GS} {mm : PM} {v : Value} {out : List Int} {w W : World} (h : AX c cb gb mb mg x mm v out w W) : W.cell? ⟨gb, 9, none⟩ = some (.int .i64 x.s) ∧ W.cell? ⟨gb, 10, none⟩ = some (.bool x.h) := ⟨h.is.row.cell 9, h.is.row.cell 10⟩
/-- what All leaves -/
def GAllPost (mb mg : Nat) (l : List Int) (m' : PM) (w : World) (e : Ending) (w' : World) : Prop := ∃ q n cc, e = .returned (.slice q n cc) ∧ Hid (n = l.length) ∧ Hid (NewRow w.heap.size w' (.slice q n cc) l) ∧ Hid (MemIs w' mb mg m') ∧ Hid (Tch (Own mb mg) w w')
structure AR (c : Cfg) (p : Int) (m : PM) (g : Nat) (out : List Int) (mm : PM) : Prop where
  l : out ++ (gotN c p g mm).1 = (gotN c p 65536 m).1
  e : (gotN c p g mm).2 = (gotN c p 65536 m).2
  ops : mm.k.ops + 3 * g ≤ m.k.ops + 196608
  len : out.length + g ≤ 65536
set_option maxRecDepth 100000 in
set_option maxHeartbeats 2000000 in
theorem gall_any (c : Cfg) (p : Int) {mb mg : Nat} {m : PM} {w : World} (hm : MemIs w mb mg m) (hu : U64 m) (hf : m.k.ops ≤ 1000000) : Calls Try.prog 48 #[cVal c, gptr mb, .int .i64 p] w (GAllPost mb mg (gotN c p 65536 m).1 (gotN c p 65536 m).2 w) := by
  have HNew := Lib.hid (fun W => gnew_any c p W)
  obtain ⟨L, hL⟩ : ∃ L, (gotN c p 65536 m).1 = L := ⟨_, rfl⟩
  obtain ⟨ME, hME⟩ : ∃ ME, (gotN c p 65536 m).2 = ME := ⟨_, rfl⟩
  have hA0 : AR c p m 65536 [] m := ⟨List.nil_append _, rfl, Nat.le_refl _, Nat.le_refl _⟩
  have HA0 := Lib.hid hA0
  have HLM := Lib.hid (And.intro hL hME)
  have HF := Lib.hid hf
  rw [hL, hME]
  have hbx := (Below.refl w.heap.size w).alloc (Nat.le_refl _) (.cells (cCells c).toArray 23)
  have HG0 : Hid (AG c w.heap.size mb mg m (.slice none 0 0) [] w (w.alloc (.cells (cCells c).toArray 23))) := ⟨hm.on hbx, hu, Tch.of _ hbx, hm.lt, Row.new _ _ _, Nat.le_refl _, NewRow.nil _ _⟩
  have HC : Hid (∃ c' : Cfg, c' = c) := ⟨c, rfl⟩
  obtain ⟨N, Q, G, M, T, U⟩ := c
  clear hA0 hL hME hbx hm hu hf
  change Hid (∀ W, Calls Try.prog 38 #[.agg #[.int .i64 N, .int .i64 Q, .int .i64 G, .int .i64 M, .int .i64 T, .int .i64 U], .int .i64 p] W _) at HNew
  show Calls _ _ #[.agg #[.int .i64 N, .int .i64 Q, .int .i64 G, .int .i64 M, .int .i64 T, .int .i64 U], _, _] _ _
  go_enter Try.func48, Try.ntmps48
  go_wp2
  go_step3
  go_wp2
  go_step3
  go_wp2
  change Code.wp _ _ _ _ (w.alloc (.cells (cCells ⟨N, Q, G, M, T, U⟩).toArray 23))
  obtain ⟨W0, hW0⟩ : ∃ W, w.alloc (.cells (cCells ⟨N, Q, G, M, T, U⟩).toArray 23) = W := ⟨_, rfl⟩
  obtain ⟨cb, hcb⟩ : ∃ z, w.heap.size = z := ⟨_, rfl⟩
  rw [hW0] at HG0 ⊢
  rw [hcb] at HG0 ⊢
  clear hW0 hcb
  go_loopg [7, 9] 65536 (fun g s7 s9 wx => ∃ (i : Nat) (out : List Int) (mm : PM) (q : Option Addr) (n cc : Nat), i + g = 65536 ∧ s9 = .int .i64 i ∧ s7 = .slice q n cc ∧ Hid (AG ⟨N, Q, G, M, T, U⟩ cb mb mg mm (.slice q n cc) out w wx) ∧ Hid (AR ⟨N, Q, G, M, T, U⟩ p m g out mm))
  case atStart => exact ⟨0, [], m, none, 0, 0, rfl, rfl, rfl, HG0, HA0⟩
  case round =>
    clear HG0 HA0
    obtain ⟨i, out, mm, q, n, cc, hig, rfl, rfl, HG, HA⟩ := hrel
    cases gk with
    | zero =>
      have hi : ¬ ((i : Int) < 65536) := by omega
      have hA := HA.out
      have hE : Hid (GAllPost mb mg L ME w (.returned (.slice q n cc)) wr) := by
        have h1 := hA.l
        have h2 := hA.e
        rw [HLM.out.1] at h1
        rw [HLM.out.2] at h2
        have h3 : out = L := by rw [← h1]; exact (List.append_nil out).symm
        have h4 : mm = ME := h2
        subst h3
        subst h4
        obtain ⟨_, _, _, e, hn⟩ := HG.out.row.form
        cases e
        exact ⟨q, n, cc, rfl, hn, HG.out.row, HG.out.mem, HG.out.tch⟩
      clear hA HA HG
      go_wp2_with fail
      go_ret
      exact hE.out
    | succ g =>
      have hi : (i : Int) < 65536 := by omega
      obtain ⟨c0, c1, c2, c3, c4, c5⟩ := HG.out.six
      go_wp2_with (go_at_call 38; (with_reducible refine (HNew.out _).mono ?_); rintro e w3 ⟨gb, rfl, hi3, hgb, hb3⟩; have HX := Lib.hid (AX.made HG.out hi3.out hgb.out hb3.out); clear hi3 hgb hb3)
      clear c0 c1 c2 c3 c4 c5
      have hW0 : Hid (GWay ⟨N, Q, G, M, T, U⟩ p mm 3 (newG ⟨N, Q, G, M, T, U⟩ p) mm) := GWay.start _ _ HG.out.u
      clear HG
      go_loopg [28] 3 (fun k s28 wy => ∃ (x : GS) (m1 : PM), Hid (AX ⟨N, Q, G, M, T, U⟩ cb gb mb mg x m1 (.slice q n cc) out w wy) ∧ Hid (GWay ⟨N, Q, G, M, T, U⟩ p mm k x m1))
      case atStart => exact ⟨_, mm, HX, hW0⟩
      case round =>
        clear HX hW0
        obtain ⟨x, m1, HX, HW⟩ := hrel
        obtain ⟨c9, c10⟩ := HX.out.has
        obtain ⟨hh, hhh⟩ : ∃ b, x.h = b := ⟨_, rfl⟩
        rw [hhh] at c10
        cases hh with
        | true =>
          have ha : x.a = 0 := Classical.byContradiction fun e => by rw [HX.out.is.ok.h e] at hhh; cases hhh
          have hfin := HW.out.fin ha
          have hA := HA.out
          have hA2 : Hid (AR ⟨N, Q, G, M, T, U⟩ p m g (out ++ [x.s]) m1) := by
            have h1 := hA.l
            have h2 := hA.e
            rw [gotN, hfin] at h1 h2
            rw [if_pos hhh] at h1 h2
            refine ⟨by rw [List.append_assoc]; exact h1, h2, ?_, ?_⟩
            · have := hA.ops
              have := HW.out.ops
              omega
            · have := hA.len
              rw [List.length_append, List.length_singleton]
              omega
          have HLn : Hid (out.length ≤ 65536) := by have := hA.len; show _ ≤ _; omega
          clear hA HA hfin ha hhh HW
          go_wp2_with (at_builtin; refine append_new (R := fun _ => False) (B := w.heap.size) _ rfl (.tmp 29) (.tmp 34) (by rfl) (.slice (some ⟨_, 0, none⟩) 1 1) (.slice q n cc) out [x.s] (by kernel_rfl) ((HX.out.ag.row).on ((Below.refl _ _).alloc (Nat.le_refl _) _)) (by kernel_rfl) (sl_one x.s _ _ _ rfl id) (by have := HLn.out; rw [List.length_singleton]; omega) (Nat.le_trans HX.out.ag.tch.size (by simp)) ?_; intro v4 z4 r4 g4; obtain ⟨p4, n4, c4, rfl, -⟩ := r4.form; have HG4 := Lib.hid ((HX.out.ag.on ((Below.refl _ _).alloc (Nat.le_refl _) _)).grown r4 g4); clear r4 g4)
          go_roundg g
          case measure => omega
          case rel => exact ⟨i + 1, _, _, p4, n4, c4, by omega, by go_num, rfl, HG4, hA2⟩
        | false =>
          have hA := HA.out
          have hopsw := HW.out.ops
          have hops : m1.k.ops + 1 ≤ 1000000000 := by have := hA.ops; have := HF.out; omega
          have htt : x.t + 1 ≤ 1000000000 := by rw [HW.out.t]; decide
          by_cases ha : x.a = 0
          · have hs := gstep0 ha m1
            have HS := Lib.hid (HX.out.step (X := x) (M := m1) (r := true) hops htt (by rw [hs]) (by rw [hs]) (by rw [ha]; rfl))
            have hfin := HW.out.fin ha
            have hE : Hid (out = L ∧ m1 = ME) := by
              have h1 := hA.l
              have h2 := hA.e
              rw [gotN, hfin] at h1 h2
              rw [if_neg (show ¬ x.h = true by rw [hhh]; decide)] at h1 h2
              rw [HLM.out.1] at h1
              rw [HLM.out.2] at h2
              exact ⟨by rw [← h1]; exact (List.append_nil out).symm, h2⟩
            clear hA HA hfin ha HW hopsw hops htt hs
            go_wp2_with (go_at_call 42; (with_reducible refine HS.out.mono ?_); rintro e z1 ⟨rfl, HX1⟩; obtain ⟨d9, d10⟩ := HX1.out.has; rw [hhh] at d10)
            try rw [Exit.noGoto_ret]
            go_ret
            obtain ⟨_, _, _, e, hn⟩ := HX1.out.ag.row.form
            cases e
            rw [← hE.out.1, ← hE.out.2]
            exact ⟨q, n, cc, rfl, hn, HX1.out.ag.row, HX1.out.ag.mem, HX1.out.ag.tch⟩
          · obtain ⟨k', hk', HW2, -⟩ := HW.out.step ha
            obtain ⟨⟨X, M1⟩, hXM⟩ : ∃ P, gStep x m1 = P := ⟨_, rfl⟩
            rw [hXM] at HW2
            change GWay ⟨N, Q, G, M, T, U⟩ p mm k' X M1 at HW2
            have HW2 := Lib.hid HW2
            obtain ⟨r, hr⟩ : ∃ r, decide (X.a = 0) = r := ⟨_, rfl⟩
            have HS := Lib.hid (HX.out.step (X := X) (M := M1) (r := r) hops htt (by rw [hXM]) (by rw [hXM]) hr)
            obtain ⟨h2, hh2⟩ : ∃ b, X.h = b := ⟨_, rfl⟩
            clear HW hopsw hops htt hXM
            cases r with
            | false =>
              clear hA
              go_wp2_with (go_at_call 42; (with_reducible refine HS.out.mono ?_); rintro e z1 ⟨rfl, HX1⟩; obtain ⟨d9, d10⟩ := HX1.out.has; rw [hh2] at d10)
              go_roundg k'
              case measure => omega
              case rel => exact ⟨X, M1, HX1, HW2⟩
            | true =>
              have hXa : X.a = 0 := of_decide_eq_true hr
              cases h2 with
              | true =>
                clear hA
                go_wp2_with (go_at_call 42; (with_reducible refine HS.out.mono ?_); rintro e z1 ⟨rfl, HX1⟩; obtain ⟨d9, d10⟩ := HX1.out.has; rw [hh2] at d10)
                go_roundg k'
                case measure => omega
                case rel => exact ⟨X, M1, HX1, HW2⟩
              | false =>
                have hfin := HW2.out.fin hXa
                have hE : Hid (out = L ∧ M1 = ME) := by
                  have h1 := hA.l
                  have h2 := hA.e
                  rw [gotN, hfin] at h1 h2
                  rw [if_neg (show ¬ X.h = true by rw [hh2]; decide)] at h1 h2
                  rw [HLM.out.1] at h1
                  rw [HLM.out.2] at h2
                  exact ⟨by rw [← h1]; exact (List.append_nil out).symm, h2⟩
                clear hA HA hfin ha HW2
                go_wp2_with (go_at_call 42; (with_reducible refine HS.out.mono ?_); rintro e z1 ⟨rfl, HX1⟩; obtain ⟨d9, d10⟩ := HX1.out.has; rw [hh2] at d10)
                try rw [Exit.noGoto_ret]
                go_ret
                obtain ⟨_, _, _, e, hn⟩ := HX1.out.ag.row.form
                cases e
                rw [← hE.out.1, ← hE.out.2]
                exact ⟨q, n, cc, rfl, hn, HX1.out.ag.row, HX1.out.ag.mem, HX1.out.ag.tch⟩
end Go.Proofs.Ytkhfanhboooilaa
