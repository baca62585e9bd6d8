/- The laws' works: the chapter's examples. -/
import Derived.Test.YtfigkoknhiabnaaDoorKc
import Derived.Deep.RegionHeld3
import Derived.BigQuiet
import Derived.Deep.QuietTactic
namespace Go.Proofs.YtfigkoknhiabnaaDoor
open Go.RowKit Go.Fm Go.Sm Go.Tx

/-- a quotient, or a product: some float, and at most a draw -/
theorem arith_any (op : BinOp) (hop : op = .mul ∨ op = .quo) (t : TypeId) (a b : Nat) (w : World) : ∃ q n, (binOp op t (.float .f64 a) (.float .f64 b)).run Tryd.prog w = .ok (.float .f64 q) (w.drewN n) ∧ (∀ r, floatBits op .f64 a b = some r → q = r) ∧ (floatBits op .f64 a b = none → INF < rg q) := by
  cases h : floatBits op .f64 a b with
  | some r => exact ⟨r, 0, run_float_arith w op t .f64 a b r h, (fun r' h' => by cases h'; rfl), (fun h => by cases h)⟩
  | none =>
    refine ⟨Question.cut (.nanBits .f64 a b) (w.tape w.drawn (.nanBits .f64 a b)), 1, ?_, (fun r h' => by cases h'), fun _ => cut_nan a b _⟩
    rcases hop with rfl | rfl
    · have h' : FloatKind.f64.format.mul a b = none := h
      simp only [binOp, Op.floatArith]
      simp [h', Question.forced]
      rfl
    · have h' : FloatKind.f64.format.div a b = none := h
      simp only [binOp, Op.floatArith]
      simp [h', Question.forced]
      rfl
theorem zero2_any (w : World) : Calls Tryd.prog 22 #[] w fun e w' => e = .returned (.float .f64 0) ∧ w = w' := by
  go_enter Tryd.func22, Tryd.ntmps22
  go_wp2
  go_ret
  exact ⟨rfl, rfl⟩
theorem ne_nan {q : Nat} (h : INF < rg q) : ne q = 10 := by
  have e : Ieee.double.mul q C6 = none := by unfold Ieee.Format.mul; rw [read_nan h]; rfl
  unfold ne; rw [e]
theorem wk1 : mk [4609434218613702656, 9223372036854775808, 4611686018427387904] = 3 ∧ me [4609434218613702656, 9223372036854775808, 4611686018427387904] = 0 ∧ mt 0 [4609434218613702656, 9223372036854775808, 4611686018427387904] 3 = 3500000 := by decide +kernel
theorem wk2 : ne 4607182418800017408 = 0 ∧ nv 4607182418800017408 = 1000000 := by decide +kernel
theorem wk3' {a q c : Nat} (ha : ne a = 0) (hv : nv a = 1000000) (h : INF < rg q) : mk [a, q, c] = 1 ∧ me [a, q, c] = 10 ∧ mt 0 [a, q, c] 1 = 1000000 := by
  have e : mk [a, q, c] = 1 := by
    show (if ne a = 0 then (if ne q = 0 then _ else 0) + 1 else 0) = 1
    rw [if_pos ha, if_neg (by rw [ne_nan h]; decide)]
  refine ⟨e, ?_, ?_⟩
  · unfold me; rw [e]; rfl
  · show plus 0 (nv a) = _
    rw [hv]; rfl
theorem wk3 {q : Nat} (h : INF < rg q) : mk [4607182418800017408, q, 4611686018427387904] = 1 ∧ me [4607182418800017408, q, 4611686018427387904] = 10 ∧ mt 0 [4607182418800017408, q, 4611686018427387904] 1 = 1000000 := wk3' wk2.1 wk2.2 h
theorem wtx : tx 3500000 = [51, 46, 53, 48, 48, 48, 48, 48] := by decide +kernel
theorem wdiv : floatBits .quo .f64 0 0 = none := by decide +kernel
/-- floats in a literal row -/
theorem liesFN_new (S : Nat → Prop) (fs : List Nat) (w : World) (t : TypeId) (g : Nat) (hg : g = w.heap.size) (hs : ¬ S g) (hl : fs.length ≤ 1000) : LiesFN S (w.alloc (.cells (fs.map (Value.float .f64)).toArray t)) (some ⟨g, 0, none⟩) fs := by
  subst hg
  refine ⟨hl, fun j hj => ⟨_, _, rfl, hs, ?_⟩⟩
  rw [World.cell?_alloc_new]
  simp [List.getD, hj]
theorem Clk.new' (w : World) (g : Nat) (hg : g = w.heap.size) : Clk g 0 [] (w.alloc (.cells Tryd.zeroCells29 29)) := by rw [zeroClk]; exact .new w g hg
/-- the three clocks of works -/
structure Three (w : World) (ta tb tc : Int) (w' : World) : Prop where
  a : Clk w.heap.size ta [] w'
  b : Clk (w.heap.size + 1) tb [] w'
  c : Clk (w.heap.size + 1 + 1) tc [] w'
  bel : Below w.heap.size w w'
theorem Three.on {w w1 w2 : World} {ta tb tc : Int} (h : Three w ta tb tc w1) (hb : Below w1.heap.size w1 w2) : Three w ta tb tc w2 := ⟨h.a.on' hb, h.b.on' hb, h.c.on' hb, h.bel.trans (hb.mono h.bel.size)⟩
theorem Three.goA {w w1 w2 : World} {ta tb tc u : Int} (h : Three w ta tb tc w1) (hc : Clk w.heap.size u [] w2) (ht : Tch (· = w.heap.size) w1 w2) : Three w u tb tc w2 :=
  ⟨hc, h.b.tch ht (by omega), h.c.tch ht (by omega), h.bel.trans (ht.below h.bel.size (fun k hk => by omega))⟩
theorem Three.goB {w w1 w2 : World} {ta tb tc u : Int} (h : Three w ta tb tc w1) (hc : Clk (w.heap.size + 1) u [] w2) (ht : Tch (· = w.heap.size + 1) w1 w2) : Three w ta u tc w2 :=
  ⟨h.a.tch ht (by omega), hc, h.c.tch ht (by omega), h.bel.trans (ht.below h.bel.size (fun k hk => by omega))⟩
theorem Three.goC {w w1 w2 : World} {ta tb tc u : Int} (h : Three w ta tb tc w1) (hc : Clk (w.heap.size + 1 + 1) u [] w2) (ht : Tch (· = w.heap.size + 1 + 1) w1 w2) : Three w ta tb u w2 :=
  ⟨h.a.tch ht (by omega), h.b.tch ht (by omega), hc, h.bel.trans (ht.below h.bel.size (fun k hk => by omega))⟩
theorem Three.new (w : World) : Three w 0 0 0 (((w.alloc (.cells Tryd.zeroCells29 29)).alloc (.cells Tryd.zeroCells29 29)).alloc (.cells Tryd.zeroCells29 29)) where
  a := ((Clk.new' w w.heap.size rfl).on' ((Below.refl _ _).alloc (Nat.le_refl _) _)).on' ((Below.refl _ _).alloc (Nat.le_refl _) _)
  b := (Clk.new' (w.alloc _) (w.heap.size + 1) (by simp)).on' ((Below.refl _ _).alloc (Nat.le_refl _) _)
  c := Clk.new' ((w.alloc _).alloc _) (w.heap.size + 1 + 1) (by simp)
  bel := (((Below.refl _ _).alloc (Nat.le_refl _) _).alloc (by simp) _).alloc (by simp; omega) _
theorem millis3 {g x y z : Nat} (k : Nat) (u e : Int) (W : World) (b : Nat) (T : TypeId) (hb : b = W.heap.size) (hc : Clk g 0 [] W) (hk : mk [x, y, z] = k ∧ me [x, y, z] = e ∧ mt 0 [x, y, z] k = u) :
    Calls Tryd.prog 19 #[.pointer (some ⟨g, 0, none⟩), .slice (some ⟨b, 0, none⟩) 3 3] (W.alloc (.cells #[.float .f64 x, .float .f64 y, .float .f64 z] T)) (GoPost g u [] (.tuple #[.int .i64 k, .int .i64 e]) (W.alloc (.cells #[.float .f64 x, .float .f64 y, .float .f64 z] T))) := by
  have h := millis_any (g := g) (t := 0) (laps := []) [x, y, z] (some ⟨b, 0, none⟩) 3 3 rfl (by omega) _ (hc.on' ((Below.refl _ _).alloc (Nat.le_refl _) (.cells #[.float .f64 x, .float .f64 y, .float .f64 z] T))) (liesFN_new (· = g) [x, y, z] W T b hb (by have := hc.lt; omega) (by simp))
  unfold CMilV at h
  rw [hk.1, hk.2.1, hk.2.2] at h
  exact h
theorem add_at {g : Nat} {t u z : Int} {laps : List Int} (n : Int) (w : World) (h : Clk g t laps w) (hu : plus t n = u) (hz : (if n < 0 then (2 : Int) else 0) = z) : Calls Tryd.prog 13 #[.pointer (some ⟨g, 0, none⟩), .int .i64 n] w (GoPost g u laps (.int .i64 z) w) := by
  have := add_any n w h
  rw [hu, hz] at this; exact this
theorem three_drew {w w1 : World} {ta tb tc : Int} (h : Three w ta tb tc w1) (n : Nat) : Three w ta tb tc (w1.drewN n) := h.on ⟨rfl, rfl, rfl, Nat.le_refl _, fun _ _ => rfl⟩
set_option maxHeartbeats 4000000 in
theorem works_any {B : Nat} (w : World) (henv : Env B w) : Calls Tryd.prog 8 #[] w (Ans (.bool true) w) := by
  have hneg : ∀ w, (Op.unary .neg (.float .f64 0)).run Tryd.prog w = .ok (.float .f64 9223372036854775808) w := fun _ => by kernel_rfl
  have HT0 := Lib.hid (Three.new w)
  have HE := Lib.hid henv
  clear henv
  go_enter Tryd.func8, Tryd.ntmps8
  go_wp2_with fail
  obtain ⟨W, hW⟩ : ∃ W, ((w.alloc (.cells Tryd.zeroCells29 29)).alloc (.cells Tryd.zeroCells29 29)).alloc (.cells Tryd.zeroCells29 29) = W := ⟨_, rfl⟩
  have hsz : W.heap.size = w.heap.size + 1 + 1 + 1 := by rw [← hW]; simp
  rw [hW] at HT0 ⊢
  clear hW
  refine (zero2_any _).mono ?_
  rintro e w' ⟨rfl, rfl⟩
  go_wp2_with fail
  refine (millis3 3 3500000 0 W _ _ hsz.symm HT0.out.a wk1).mono ?_
  rintro e w1 ⟨rfl, hc1, ht1⟩
  have HT1 := Lib.hid ((HT0.out.on ((Below.refl _ _).alloc (Nat.le_refl _) _)).goA hc1 ht1)
  clear hc1 ht1 HT0 hsz
  obtain ⟨q, nq, hop, -, hq⟩ := arith_any .quo (.inr rfl) 52 0 0 w1
  have HQ := Lib.hid (hq wdiv)
  clear hq
  go_wp2_with (simp only [hop])
  refine (millis3 1 1000000 10 (w1.drewN nq) _ _ (by simp) (three_drew HT1.out nq).b (wk3 HQ.out)).mono ?_
  rintro e w2 ⟨rfl, hc2, ht2⟩
  have HT2 := Lib.hid (((three_drew HT1.out nq).on ((Below.refl _ _).alloc (Nat.le_refl _) _)).goB hc2 ht2)
  clear hc2 ht2 HT1 hop HQ
  go_wp2_with fail
  refine (now_any _ HT2.out.a).mono ?_
  rintro e w' ⟨rfl, rfl⟩
  go_wp2_with fail
  have HE2 := Lib.hid (HE.out.on' HT2.out.bel)
  refine (ctext_any _ HE2.out HT2.out.a).mono ?_
  rintro e w3 ⟨l, hl, rfl, hb3⟩
  have hl2 := hl.trans wtx
  subst hl2
  have HT3 := Lib.hid (HT2.out.on hb3)
  clear hb3 HT2 HE2 hl
  go_wp2_with fail
  refine (now_any _ HT3.out.b).mono ?_
  rintro e w' ⟨rfl, rfl⟩
  go_wp2_with fail
  refine (add_at (-1) _ HT3.out.c rfl rfl).mono ?_
  rintro e w4 ⟨rfl, hc4, ht4⟩
  have HT4 := Lib.hid (HT3.out.goC hc4 ht4)
  clear hc4 ht4 HT3
  go_wp2_with fail
  refine (add_at 4611686018427387904 _ HT4.out.c rfl rfl).mono ?_
  rintro e w5 ⟨rfl, hc5, ht5⟩
  have HT5 := Lib.hid (HT4.out.goC hc5 ht5)
  clear hc5 ht5 HT4
  go_wp2_with fail
  refine (add_at 9 _ HT5.out.c rfl rfl).mono ?_
  rintro e w6 ⟨rfl, hc6, ht6⟩
  have HT6 := Lib.hid (HT5.out.goC hc6 ht6)
  clear hc6 ht6 HT5
  go_wp2_with fail
  refine (now_any _ HT6.out.c).mono ?_
  rintro e w' ⟨rfl, rfl⟩
  go_wp2_with fail
  refine (full_any _ HT6.out.c).mono ?_
  rintro e w' ⟨rfl, rfl⟩
  go_wp2
  go_ret
  exact ⟨rfl, HT6.out.bel⟩
end Go.Proofs.YtfigkoknhiabnaaDoor
