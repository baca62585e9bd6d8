/- The documents' Filled (from layer 9 on), walked. -/
import Derived.Test.YtkhfanhboooilaaBc
set_option linter.unusedSimpArgs false
set_option linter.unusedVariables false
namespace Go.Proofs.Ytkhfanhboooilaa
open Go.RowKit Go.Cg Go.Pu Go.Wd

theorem infoU9 : (Try.prog.info? 29).map (fun i => (i.zero, i.size, i.bytes)) = some (some (.int .u64 0), 1, 8) := by kernel_rfl
/-- the cells as far as they are filled: the config in the box b, the row in the block g -/
structure FI (w0 W : World) (c : Cfg) (b g : Nat) : Prop where
  row : ∃ zs, FOk c zs ∧ Row g 29 (zs.map (Value.int .u64)) W
  box : Row b 23 (cCells c) W
  bel : Below w0.heap.size w0 W
  hb : w0.heap.size ≤ b
  hg : w0.heap.size ≤ g
  ne : b ≠ g
theorem FI.on {w0 W W' : World} {c : Cfg} {b g : Nat} (h : FI w0 W c b g) (hb : Below W.heap.size W W') : FI w0 W' c b g := by
  obtain ⟨zs, h1, h2⟩ := h.row
  exact ⟨⟨zs, h1, h2.on' hb⟩, h.box.on' hb, h.bel.trans (hb.mono h.bel.size), h.hb, h.hg, h.ne⟩
theorem FI.at {w0 W : World} {c : Cfg} {b g : Nat} (h : FI w0 W c b g) {a : Nat} (ha : a < ccN c) : (∃ z, W.cell? ⟨g, a, none⟩ = some (.int .u64 z)) ∧ W.frozen? ⟨g, a, none⟩ = false := by
  obtain ⟨zs, h1, h2⟩ := h.row
  have hl := h1.len
  refine ⟨⟨zs[a]'(by omega), ?_⟩, h2.frozen a⟩
  rw [h2.cell a, List.getElem?_map, List.getElem?_eq_getElem (by omega)]
  rfl
theorem FI.set {w0 W : World} {c : Cfg} {b g : Nat} (h : FI w0 W c b g) (a : Nat) (v : Int) (hv : 0 ≤ v ∧ v < 18446744073709551616) (hw : ∀ p : Int, Right c ∧ 0 ≤ p ∧ p < c.n → (aW c p).toNat = a → ln v.toNat ≤ c.q.toNat) : FI w0 (W.setCell ⟨g, a, none⟩ (.int .u64 v)) c b g := by
  obtain ⟨zs, h1, h2⟩ := h.row
  refine ⟨⟨zs.set a v, h1.set a v hv hw, ?_⟩, h.box.far (p := ⟨g, a, none⟩) h.ne _, h.bel.setCell (p := ⟨g, a, none⟩) h.hg _, h.hb, h.hg, h.ne⟩
  have := h2.set a (.int .u64 v)
  rw [List.map_set]
  exact this
theorem FI.six {w0 W : World} {n q g m t s : Int} {b gb : Nat} (h : FI w0 W ⟨n, q, g, m, t, s⟩ b gb) : W.cell? ⟨b, 0, none⟩ = some (.int .i64 n) ∧ W.cell? ⟨b, 1, none⟩ = some (.int .i64 q) ∧ W.cell? ⟨b, 2, none⟩ = some (.int .i64 g) ∧ W.cell? ⟨b, 3, none⟩ = some (.int .i64 m) ∧ W.cell? ⟨b, 4, none⟩ = some (.int .i64 t) ∧ W.cell? ⟨b, 5, none⟩ = some (.int .i64 s) :=
  ⟨h.box.cell 0, h.box.cell 1, h.box.cell 2, h.box.cell 3, h.box.cell 4, h.box.cell 5⟩
def FilledPost (c : Cfg) (w : World) (e : Ending) (w' : World) : Prop := ∃ zs g, e = .returned (.slice (some ⟨g, 0, none⟩) zs.length zs.length) ∧ FOk c zs ∧ Lies .u64 w' (some ⟨g, 0, none⟩) zs ∧ Below w.heap.size w w'
theorem FI.post {w0 W : World} {c : Cfg} {b g : Nat} (h : FI w0 W c b g) {n : Nat} (hn : n = ccN c) : FilledPost c w0 (.returned (.slice (some ⟨g, 0, none⟩) n n)) W := by
  obtain ⟨zs, h1, h2⟩ := h.row
  have hl := h1.len
  have hc := ccN_le c
  refine ⟨zs, g, by rw [hn, hl], h1, ⟨by omega, fun j hj => ⟨g, 0, rfl, ?_⟩⟩, h.bel⟩
  rw [Nat.zero_add, h2.cell j, List.getElem?_map, List.getElem?_eq_getElem hj]
  simp [List.getD, hj]
theorem made_row {w : World} {B g n : Nat} {E : TypeId} {xs : List Value} (h : w.ownsRow B E 1 (.slice (some ⟨g, 0, none⟩) n n) n xs) : Row g E xs w ∧ B ≤ g := by
  have hx := h.1
  rcases h.2 with ⟨hv, _⟩ | ⟨g', cap, cur, hv, hB, hg, h1, h2, h3, h4⟩
  · cases hv
  · cases hv
    refine ⟨?_, hB⟩
    have e : cur.toList = xs := by
      rw [← h4, List.take_of_length_le]
      have : cur.toList.length = cur.size := by simp
      omega
    unfold Row
    rw [hg, ← e]
theorem fi_new {w w1 w2 : World} {c : Cfg} {n : Nat} (hbx : Row w.heap.size 23 (cCells c) w1) (hb : Below w.heap.size w w1) (hn : n = ccN c) (hown : w2.ownsRow w1.heap.size 29 1 (.slice (some ⟨w1.heap.size, 0, none⟩) n n) n (madeCells #[.int .u64 0] (n * 1)).toList) (hgrow : w1.grownBy w2 none) : FI w w2 c w.heap.size w1.heap.size := by
  have hb2 := (Below.refl w1.heap.size w1).grown hgrow (Nat.le_refl _) (fun k hk => by cases hk)
  obtain ⟨h1, h2⟩ := made_row hown
  have e : (madeCells #[Value.int .u64 0] (n * 1)).toList = (List.replicate (ccN c) (0 : Int)).map (Value.int .u64) := by
    rw [Nat.mul_one, toList_madeCells_one, hn]; simp
  rw [e] at h1
  have hs := hb.size
  have hl := hbx.lt
  exact ⟨⟨_, FOk.zero c, h1⟩, hbx.on' hb2, hb.trans (hb2.mono hs), Nat.le_refl _, hs, by omega⟩
set_option maxRecDepth 20000 in
set_option maxHeartbeats 4000000 in
theorem filled_wrong (c : Cfg) (hR : ¬ Right c) (v : Value) (hv : ∃ p n k, v = .slice p n k) (w : World) : Calls Try.prog 13 #[cVal c, v] w (FilledPost c w) := by
  obtain ⟨pb, nb, cb, rfl⟩ := hv
  have HN0 := Lib.hid (ccN_no hR)
  have HRt := Lib.hid (rt_no hR)
  obtain ⟨i0, hi, hz0, hz1, hz2⟩ := info_parts infoU9
  obtain ⟨n, q, g, m, t, s⟩ := c
  clear hR
  show Calls _ _ #[.agg #[.int .i64 n, .int .i64 q, .int .i64 g, .int .i64 m, .int .i64 t, .int .i64 s], _] _ _
  have HBx := Lib.hid (Row.new w 23 (cCells ⟨n, q, g, m, t, s⟩))
  have HB0 : Hid (Below w.heap.size w (w.alloc (.cells #[.int .i64 n, .int .i64 q, .int .i64 g, .int .i64 m, .int .i64 t, .int .i64 s] 23))) := (Below.refl _ _).alloc (Nat.le_refl _) _
  go_enter Try.func13, Try.ntmps13
  go_wp2_with (first
    | (go_at_call 57; refine (ccells_any ⟨n, q, g, m, t, s⟩ _).mono ?_; rintro e w1 ⟨rfl, hb1⟩; rw [HN0.out]; have HB1 := Lib.hid hb1; clear hb1)
    | (at_make; refine wpList_make_full _ rfl _ _ 28 rfl w1.heap.size 29 i0 (.int .u64 0) 1 Try.underlying28 hi hz0 hz1 _ _ _ _ 0 rfl rfl (by simp) (by simp) ?b2 ?b3 ?b4 ?_))
  case b2 => rw [hz2]; omega
  case b3 => unfold maxLen; omega
  case b4 => exact Nat.le_refl _
  intro w2 hown hgrow
  have HF : Hid (FI w w2 ⟨n, q, g, m, t, s⟩ w.heap.size w1.heap.size) := fi_new (HBx.out.on' HB1.out) (HB0.out.trans (HB1.out.mono HB0.out.size)) HN0.out.symm hown hgrow
  obtain ⟨gb, hgb⟩ : ∃ x, w1.heap.size = x := ⟨_, rfl⟩
  obtain ⟨bb, hbb⟩ : ∃ x, w.heap.size = x := ⟨_, rfl⟩
  rw [hgb, hbb] at HF
  rw [hgb, hbb]
  clear hown hgrow hgb hbb HBx HB0 HB1 hi hz0 hz1 hz2
  go_wp2_with fail
  go_loopw [6] (fun v6 wr => v6 = .int .i64 0 ∧ Hid (FI w wr ⟨n, q, g, m, t, s⟩ bb gb)) (fun _ _ => 0)
  case atStart => exact ⟨rfl, HF⟩
  case round =>
    clear HF
    obtain ⟨rfl, HF⟩ := hrel
    obtain ⟨c0, c1, c2, c3, c4, c5⟩ := HF.out.six
    by_cases hn0 : 0 < n
    · go_wp2_with (go_at_call 58; refine (cright_any ⟨n, q, g, m, t, s⟩ _).mono ?_; rintro e w3 ⟨rfl, hb3⟩; rw [HRt.out]; have HF3 := Lib.hid (HF.out.on hb3); clear hb3)
      go_ret
      exact HF3.out.post HN0.out.symm
    · go_wp2_with fail
      go_ret
      exact HF.out.post HN0.out.symm
theorem u64_small {n : Nat} (h : n < 18446744073709551616) : 0 ≤ (n : Int) ∧ (n : Int) < 18446744073709551616 := by omega
set_option maxRecDepth 400000 in
set_option maxHeartbeats 4000000 in
theorem filled_right (N Q G M T S : Nat) (hR : Right ⟨N, Q, G, M, T, S⟩) (pb : Option Addr) (cb : Nat) (bs : List Int) (hbs : bs.length ≤ 1000000) (w : World) (hby : Byts w pb bs) : Calls Try.prog 13 #[cVal ⟨N, Q, G, M, T, S⟩, .slice pb bs.length cb] w (FilledPost ⟨N, Q, G, M, T, S⟩ w) := by
  obtain ⟨CN, hCN⟩ : ∃ x, ccN ⟨N, Q, G, M, T, S⟩ = x := ⟨_, rfl⟩
  have hCN2 : CN = 4 + N * (6 + Q) := by rw [← hCN, ccN_yes hR]; rfl
  have hCle : CN ≤ 564 := by rw [← hCN]; exact ccN_le _
  have hN8 : N ≤ 8 := by have := hR.n.2; simp only at this; omega
  have hQ64 : 2 ≤ Q ∧ Q ≤ 64 := by have := hR.q; simp only at this; omega
  have HCN := Lib.hid hCN
  have HRt := Lib.hid (rt_yes hR)
  have HR := Lib.hid hR
  have HBY : Hid (∀ W, Below w.heap.size w W → Byts W pb bs) := fun W hb => hby.on hb
  obtain ⟨nb, hnb⟩ : ∃ x, bs.length = x := ⟨_, rfl⟩
  have HNB := Lib.hid hnb
  rw [hnb]
  obtain ⟨i0, hi, hz0, hz1, hz2⟩ := info_parts infoU9
  have HC2 := Lib.hid hCN2
  clear hR hby hCN hCN2 hnb hbs
  show Calls _ _ #[.agg #[.int .i64 N, .int .i64 Q, .int .i64 G, .int .i64 M, .int .i64 T, .int .i64 S], _] _ _
  have HBx := Lib.hid (Row.new w 23 (cCells ⟨N, Q, G, M, T, S⟩))
  have HB0 : Hid (Below w.heap.size w (w.alloc (.cells #[.int .i64 N, .int .i64 Q, .int .i64 G, .int .i64 M, .int .i64 T, .int .i64 S] 23))) := (Below.refl _ _).alloc (Nat.le_refl _) _
  go_enter Try.func13, Try.ntmps13
  go_wp2_with (first
    | (go_at_call 57; refine (ccells_any ⟨N, Q, G, M, T, S⟩ _).mono ?_; rintro e w1 ⟨rfl, hb1⟩; rw [HCN.out]; have HB1 := Lib.hid hb1; clear hb1)
    | (at_make; refine wpList_make_full _ rfl _ _ 28 rfl w1.heap.size 29 i0 (.int .u64 0) 1 Try.underlying28 hi hz0 hz1 _ _ _ _ CN rfl rfl (by omega) (by omega) ?b2 ?b3 ?b4 ?_))
  case b2 => rw [hz2]; omega
  case b3 => unfold maxLen; omega
  case b4 => exact Nat.le_refl _
  intro w2 hown hgrow
  have HF : Hid (FI w w2 ⟨N, Q, G, M, T, S⟩ w.heap.size w1.heap.size) := fi_new (HBx.out.on' HB1.out) (HB0.out.trans (HB1.out.mono HB0.out.size)) HCN.out.symm (by rw [Nat.mul_one]; exact hown) hgrow
  obtain ⟨gb, hgb⟩ : ∃ x, w1.heap.size = x := ⟨_, rfl⟩
  obtain ⟨bb, hbb⟩ : ∃ x, w.heap.size = x := ⟨_, rfl⟩
  rw [hgb, hbb] at HF
  rw [hgb, hbb]
  clear hown hgrow hgb hbb HBx HB0 HB1 hi hz0 hz1 hz2
  go_wp2_with fail
  go_loopw [6] (fun v6 wr => ∃ k : Nat, k ≤ N ∧ v6 = .int .i64 k ∧ Hid (FI w wr ⟨N, Q, G, M, T, S⟩ bb gb)) (fun v6 _ => N - (intOf v6).toNat)
  case atStart => exact ⟨0, Nat.zero_le _, rfl, HF⟩
  case round =>
    clear HF
    obtain ⟨k, hk, rfl, HF⟩ := hrel
    obtain ⟨c0, c1, c2, c3, c4, c5⟩ := HF.out.six
    by_cases hlt : k < N
    · have hki : (k : Int) < (N : Int) := by omega
      have hval : Right ⟨N, Q, G, M, T, S⟩ ∧ 0 ≤ (k : Int) ∧ (k : Int) < ((N : Nat) : Int) := ⟨HR.out, by omega, hki⟩
      obtain ⟨A, hA⟩ : ∃ A, 4 + k * (6 + Q) = A := ⟨_, rfl⟩
      have hAC : A + 6 + Q ≤ CN := by
        have := HC2.out
        have := Nat.mul_le_mul_right (6 + Q) (show k + 1 ≤ N from hlt)
        rw [Nat.succ_mul] at this
        omega
      have hAi : (4 : Int) + (k : Int) * (6 + (Q : Int)) = (A : Int) := by rw [← hA]; push_cast; rfl
      have HP : Hid (∀ j : Nat, plV ⟨N, Q, G, M, T, S⟩ k j = ((A + j : Nat) : Int)) := fun j => by rw [plV_yes hval, hAi]; push_cast; rfl
      have HS : Hid (∀ i : Nat, slP ⟨N, Q, G, M, T, S⟩ k i = ((A + 6 + i % Q : Nat) : Int)) := fun i => by rw [slP_yes hval, hAi]; push_cast; rfl
      have HNW : Hid (∀ j : Nat, 1 ≤ j → j < 6 + Q → ∀ p : Int, Right ⟨N, Q, G, M, T, S⟩ ∧ 0 ≤ p ∧ p < ((N : Nat) : Int) → (aW ⟨N, Q, G, M, T, S⟩ p).toNat = A + j → False) := fun j h1 h2 p hp e => by
        have := not_word (k := (j : Int)) hval (by omega) (by show (j : Int) < 6 + (Q : Int); omega) p hp
        apply this
        rw [e]
        show A + j = (4 + (k : Int) * (6 + (Q : Int)) + (j : Int)).toNat
        rw [hAi]; omega
      have HWc : Hid (∀ (j : Nat) (W : World), Calls Try.prog 33 #[.agg #[.int .i64 N, .int .i64 Q, .int .i64 G, .int .i64 M, .int .i64 T, .int .i64 S], .int .i64 k] W (Ans (.int .i64 A) W)) := fun j W => by
        have := word_any ⟨N, Q, G, M, T, S⟩ k W
        rw [HP.out 0] at this
        exact this
      have hw4 : IntKind.i64.wrap (4 * (k : Int)) = 4 * (k : Int) := IntWalk.i64_in _ (by omega)
      have hw41 : IntKind.i64.wrap (4 * (k : Int) + 1) = 4 * (k : Int) + 1 := IntWalk.i64_in _ (by omega)
      have hw42 : IntKind.i64.wrap (4 * (k : Int) + 2) = 4 * (k : Int) + 2 := IntWalk.i64_in _ (by omega)
      have hw43 : IntKind.i64.wrap (4 * (k : Int) + 3) = 4 * (k : Int) + 3 := IntWalk.i64_in _ (by omega)
      have HBt : Hid (∀ (i : Nat) (W : World), Below w.heap.size w W → Calls Try.prog 59 #[.slice pb nb cb, .int .i64 (i : Int)] W (fun e w' => e = .returned (.int .i64 (bV bs i)) ∧ W = w')) := fun i W hb => by
        have := byteat_any pb cb bs i W (HBY.out _ hb)
        rw [HNB.out] at this
        exact this
      have HB0 : Hid (∀ W, Below w.heap.size w W → Calls Try.prog 59 #[.slice pb nb cb, .int .i64 (4 * (k : Int))] W (fun e w' => e = .returned (.int .i64 (bV bs (4 * k))) ∧ W = w')) := fun W hb => by
        have := HBt.out (4 * k) W hb
        rw [show ((4 * k : Nat) : Int) = 4 * (k : Int) by push_cast; rfl] at this
        exact this
      obtain ⟨z0, hz0⟩ : ∃ z, bV bs (4 * k) = z := ⟨_, rfl⟩
      rw [hz0] at HB0
      obtain ⟨h7, e7, e7b, e7w⟩ : ∃ h : Nat, (z0 : Int).tmod 7 = h ∧ h < 7 ∧ IntKind.u32.wrap (h : Int) = h := ⟨z0 % 7, rfl, by omega, by rw [w32y]; omega⟩
      obtain ⟨z1, hz1⟩ : ∃ z, bV bs (4 * k + 1) = z := ⟨_, rfl⟩
      have HB1 : Hid (∀ W, Below w.heap.size w W → Calls Try.prog 59 #[.slice pb nb cb, .int .i64 (4 * (k : Int) + 1)] W (fun e w' => e = .returned (.int .i64 z1) ∧ W = w')) := fun W hb => by
        have := HBt.out (4 * k + 1) W hb
        rw [hz1, show ((4 * k + 1 : Nat) : Int) = 4 * (k : Int) + 1 by push_cast; rfl] at this
        exact this
      obtain ⟨z2, hz2⟩ : ∃ z, bV bs (4 * k + 2) = z := ⟨_, rfl⟩
      have HB2 : Hid (∀ W, Below w.heap.size w W → Calls Try.prog 59 #[.slice pb nb cb, .int .i64 (4 * (k : Int) + 2)] W (fun e w' => e = .returned (.int .i64 z2) ∧ W = w')) := fun W hb => by
        have := HBt.out (4 * k + 2) W hb
        rw [hz2, show ((4 * k + 2 : Nat) : Int) = 4 * (k : Int) + 2 by push_cast; rfl] at this
        exact this
      obtain ⟨z3, hz3⟩ : ∃ z, bV bs (4 * k + 3) = z := ⟨_, rfl⟩
      have HB3 : Hid (∀ W, Below w.heap.size w W → Calls Try.prog 59 #[.slice pb nb cb, .int .i64 (4 * (k : Int) + 3)] W (fun e w' => e = .returned (.int .i64 z3) ∧ W = w')) := fun W hb => by
        have := HBt.out (4 * k + 3) W hb
        rw [hz3, show ((4 * k + 3 : Nat) : Int) = 4 * (k : Int) + 3 by push_cast; rfl] at this
        exact this
      have HZs : Hid (z2 ≤ 255 ∧ z3 ≤ 255) := ⟨by rw [← hz2]; exact (HBY.out _ (Below.refl _ _)).le _, by rw [← hz3]; exact (HBY.out _ (Below.refl _ _)).le _⟩
      clear hz2 hz3
      have HAC := Lib.hid hAC
      have HLT := Lib.hid hlt
      have HQ := Lib.hid hQ64
      have HN8 := Lib.hid hN8
      have HCle := Lib.hid hCle
      clear hA hval hz0 hz1 hAC hAi
      go_upto_region 5 with (go_at_call 58; refine (cright_any ⟨N, Q, G, M, T, S⟩ _).mono ?_; rintro e w3 ⟨rfl, hb3⟩; rw [HRt.out]; have HF3 := Lib.hid (HF.out.on hb3); clear hb3)
      obtain ⟨c0, c1, c2, c3, c4, c5⟩ := HF3.out.six
      go_upto_if 34 with (go_at_call 59; refine (HB0.out _ HF3.out.bel).mono ?_; rintro e w4 ⟨rfl, rfl⟩)
      have HF4 := HF3
      go_cut [7] (fun v7 wc => ∃ h : Int, v7 = .int .u32 h ∧ 0 ≤ h ∧ h < 4294967296 ∧ wc = w3)
      case first =>
        by_cases h5 : (z0 : Int) % 5 = 0
        · go_wp2_with fail
          go_meet
          exact ⟨_, rfl, by omega, by omega, rfl⟩
        · go_wp2_with fail
          go_meet
          exact ⟨_, rfl, by omega, by omega, rfl⟩
      case rest =>
        obtain ⟨hI, rfl, h0, hh, hwc⟩ := hcut
        obtain rfl : w3 = wc := hwc.symm
        obtain ⟨h, rfl⟩ : ∃ h : Nat, hI = h := ⟨hI.toNat, by omega⟩
        clear h0 hwc
        have HB8 : Hid (∀ n, Calls Try.prog 59 #[.slice pb nb cb, .int .i64 (4 * (k : Int) + 1)] (w3.drewN n) fun e w' => e = .returned (.int .i64 z1) ∧ ∃ m, w' = w3.drewN m) := fun n => by
          refine (HB1.out _ (below_drewN HF3.out.bel n)).mono ?_
          rintro e w' ⟨rfl, rfl⟩
          exact ⟨rfl, n, rfl⟩
        obtain ⟨Q1, hQ1, hQ2⟩ : ∃ Q1 : Nat, (Q : Int) + 1 = Q1 ∧ Q1 = Q + 1 := ⟨Q + 1, by push_cast; rfl, rfl⟩
        obtain ⟨n, en, hn, hnw, hnw2⟩ : ∃ n : Nat, (z1 : Int).tmod (Q1 : Int) = n ∧ n ≤ Q ∧ IntKind.u32.wrap (n : Int) = n ∧ IntKind.i64.wrap (n : Int) = n := ⟨z1 % Q1, rfl, by have := Nat.mod_lt z1 (show 0 < Q1 by omega); omega, by have := Nat.mod_lt z1 (show 0 < Q1 by omega); rw [w32y]; omega, by have := Nat.mod_lt z1 (show 0 < Q1 by omega); exact IntWalk.i64_in _ (by omega)⟩
        have hq1 : IntKind.i64.wrap ((Q : Int) + 1) = (Q1 : Int) := by rw [hQ1]; exact IntWalk.i64_in _ (by omega)
        have hq2 : ¬ ((Q1 : Int) = 0) := by omega
        have hq3 : ¬ (Q1 = 0) := by omega
        have HN := Lib.hid hn
        have HQ2 := Lib.hid hQ2
        clear hQ1 hQ2 hn hlt hk e7 e7b e7w hQ64 hN8 hCle
        go_wp2_with fail
        go_quiet (with_reducible exact HB8.out _)
        have HF5 := Lib.hid (HF3.out.on (below_drewN (.refl _ _) nq))
        obtain ⟨w5, hw5⟩ : ∃ x, w3.drewN nq = x := ⟨_, rfl⟩
        rw [hw5] at HF5
        rw [hw5]
        clear hw5 HB8 HF3 c0 c1 c2 c3 c4 c5
        obtain ⟨c0, c1, c2, c3, c4, c5⟩ := HF5.out.six
        have hh2 : h < 4294967296 := by omega
        obtain ⟨t, ht1, ht2, ht3⟩ : ∃ t : Nat, IntKind.u32.wrap ((h : Int) + (n : Int)) = t ∧ ((h : Int) + (n : Int)) % 4294967296 = t ∧ t = (h + n) % 4294967296 := ⟨(h + n) % 4294967296, by rw [w32y]; omega, by omega, rfl⟩
        obtain ⟨V, hV⟩ : ∃ V : Nat, pk h t = V := ⟨_, rfl⟩
        have hor : bits BinOp.or IntKind.u64 ((h : Int) * 4294967296) (t : Int) = (V : Int) := by rw [← hV]; exact or64y h t hh2 (by omega)
        have HV : Hid (ln V ≤ Q ∧ V < 18446744073709551616) := by
          show _ ∧ _
          rw [← hV, ht3]
          exact ln_pack hh2 HN.out (by have := HQ.out; omega)
        have hac : A < CN := by have := HAC.out; have := HQ.out; omega
        have haci : (A : Int) < (CN : Int) := by omega
        clear ht3 hV
        go_upto_region 10 with (go_at_call 33; refine (HWc.out 0 _).mono ?_; rintro e w6 ⟨rfl, hb6⟩; have HF6 := Lib.hid (HF5.out.on hb6); obtain ⟨⟨zc, hzc⟩, hfz⟩ := HF6.out.at (a := A) (by rw [HCN.out]; exact hac); clear hb6)
        have HF7 : Hid (FI w (w6.setCell ⟨gb, A, none⟩ (.int .u64 V)) ⟨N, Q, G, M, T, S⟩ bb gb) := HF6.out.set A V (u64_small HV.out.2) (fun _ _ _ => by
          show ln (V : Int).toNat ≤ ((Q : Nat) : Int).toNat
          rw [Int.toNat_natCast, Int.toNat_natCast]; exact HV.out.1)
        obtain ⟨w7, hw7⟩ : ∃ x, w6.setCell ⟨gb, A, none⟩ (.int .u64 V) = x := ⟨_, rfl⟩
        rw [hw7] at HF7
        rw [hw7]
        clear hw7 HF6 HF5 hzc hfz hor ht1 ht2 c0 c1 c2 c3 c4 c5 hac haci
        go_wp2_with fail
        go_loopw [9] (fun v9 wr => ∃ i : Nat, i ≤ n ∧ v9 = .int .u32 i ∧ Hid (FI w wr ⟨N, Q, G, M, T, S⟩ bb gb)) (fun v9 _ => n - (intOf v9).toNat)
        case atStart => exact ⟨0, Nat.zero_le _, rfl, HF7⟩
        case round =>
          clear HF7
          obtain ⟨i, hi, rfl, HF8⟩ := hrel
          obtain ⟨c0, c1, c2, c3, c4, c5⟩ := HF8.out.six
          by_cases hin : i < n
          · have hini : (i : Int) < (n : Int) := by omega
            obtain ⟨P, hP1, hP2, hP3⟩ : ∃ P : Nat, IntKind.u32.wrap ((h : Int) + (i : Int)) = P ∧ ((h : Int) + (i : Int)) % 4294967296 = P ∧ P < 4294967296 := ⟨(h + i) % 4294967296, by rw [w32y]; omega, by omega, by omega⟩
            obtain ⟨a, ha⟩ : ∃ a, A + 6 + P % Q = a := ⟨_, rfl⟩
            have hal : a < CN ∧ a = A + (6 + P % Q) ∧ P % Q < Q := by
              have := Nat.mod_lt P (show 0 < Q by have := HQ.out; omega)
              have := HAC.out
              omega
            have hac : a < CN := hal.1
            have haci : (a : Int) < (CN : Int) := by omega
            have HSl : Hid (∀ W, Calls Try.prog 60 #[.agg #[.int .i64 N, .int .i64 Q, .int .i64 G, .int .i64 M, .int .i64 T, .int .i64 S], .int .i64 k, .int .u32 P] W (Ans (.int .i64 a) W)) := fun W => by
              have := cslot_any ⟨N, Q, G, M, T, S⟩ k P hP3 W
              rw [HS.out P, ha] at this
              exact this
            have HAL := Lib.hid hal
            have HIN := Lib.hid hin
            have hk8 := HLT.out
            have hN88 := HN8.out
            have w1a : IntKind.i64.wrap ((k : Int) * 100) = (k : Int) * 100 := IntWalk.i64_in _ (by omega)
            have w1b : IntKind.u64.wrap ((k : Int) * 100) = (k : Int) * 100 := IntWalk.u64_in _ (by omega)
            have hn64 : n ≤ 64 := by have := HN.out; have := HQ.out; omega
            have w1c : IntKind.u64.wrap ((k : Int) * 100 + (i : Int)) = (k : Int) * 100 + (i : Int) := IntWalk.u64_in _ (by omega)
            have hi1 : IntKind.u32.wrap ((i : Int) + 1) = (i : Int) + 1 := by rw [w32y]; omega
            have HU : Hid (0 ≤ (k : Int) * 100 + (i : Int) ∧ (k : Int) * 100 + (i : Int) < 18446744073709551616) := ⟨by omega, by omega⟩
            clear ha hal hin hk8 hN88 hn64
            go_wp2_with (go_at_call 60; (with_reducible refine (HSl.out _).mono ?_); rintro e w8 ⟨rfl, hb8⟩; have HF9 := Lib.hid (HF8.out.on hb8); obtain ⟨⟨zc, hzc⟩, hfz⟩ := HF9.out.at (a := a) (by rw [HCN.out]; exact hac); clear hb8)
            go_roundw
            case rel =>
              refine ⟨i + 1, HIN.out, by go_num, ?_⟩
              refine HF9.out.set a _ ?_ (fun p hp e => (HNW.out _ (by omega) (by have := HAL.out; omega) p hp (e.trans HAL.out.2.1)).elim)
              first | exact HU.out | exact u64_rng _
            case measure =>
              show _ < _
              have := HIN.out
              simp only [intOf]; omega
          · have hini : ¬ ((i : Int) < (n : Int)) := by omega
            obtain ⟨b3, hb3⟩ : ∃ b : Bool, ((z2 : Int) % 3 == 0) = b := ⟨_, rfl⟩
            go_upto_if 86 with (go_at_call 59; (with_reducible refine (HB2.out _ HF8.out.bel).mono ?_); rintro e w4 ⟨rfl, rfl⟩)
            have hk8 := HLT.out
            have hN88 := HN8.out
            have w1a : IntKind.i64.wrap ((k : Int) * 100) = (k : Int) * 100 := IntWalk.i64_in _ (by omega)
            have w1b : IntKind.u64.wrap ((k : Int) * 100) = (k : Int) * 100 := IntWalk.u64_in _ (by omega)
            have HU1 : Hid (0 ≤ (k : Int) * 100 + 91 ∧ (k : Int) * 100 + 91 < 18446744073709551616) := ⟨by omega, by omega⟩
            clear hk8 hN88
            obtain ⟨a1, ha1, hA1⟩ : ∃ a, A + 1 = a ∧ a < CN := ⟨_, rfl, by have := HAC.out; have := HQ.out; omega⟩
            have hA1i : (a1 : Int) < (CN : Int) := by omega
            have HNx : Hid (∀ W, Calls Try.prog 61 #[.agg #[.int .i64 N, .int .i64 Q, .int .i64 G, .int .i64 M, .int .i64 T, .int .i64 S], .int .i64 k] W (Ans (.int .i64 a1) W)) := fun W => by
              have := next_any ⟨N, Q, G, M, T, S⟩ k W
              rw [HP.out 1, ha1] at this
              exact this
            have HA1 := Lib.hid ha1
            clear ha1
            go_cut [9, 84, 85, 86] (fun _ _ _ _ wc => Hid (FI w wc ⟨N, Q, G, M, T, S⟩ bb gb))
            case first =>
              clear hini hi hin
              cases b3 with
              | true =>
                go_wp2_with (go_at_call 61; (with_reducible refine (HNx.out _).mono ?_); rintro e w8 ⟨rfl, hb8⟩; have HF9 := Lib.hid (HF8.out.on hb8); obtain ⟨⟨zc, hzc⟩, hfz⟩ := HF9.out.at (a := a1) (by rw [HCN.out]; exact hA1); clear hb8)
                go_meet
                refine HF9.out.set a1 _ ?_ (fun p hp e => (HNW.out 1 (by omega) (by have := HQ.out; omega) p hp (e.trans HA1.out.symm)).elim)
                first | exact HU1.out | exact u64_rng _
              | false =>
                go_wp2_with fail
                go_meet
                exact HF8
            case rest =>
              clear HF8 c0 c1 c2 c3 c4 c5 w1a w1b hA1 hA1i
              obtain ⟨c0, c1, c2, c3, c4, c5⟩ := hcut.out.six
              have HFa := hcut
              clear hcut
              obtain ⟨a2, ha2, hA2⟩ : ∃ a, A + 2 = a ∧ a < CN := ⟨_, rfl, by have := HAC.out; have := HQ.out; omega⟩
              have hA2i : (a2 : Int) < (CN : Int) := by omega
              have HN2 : Hid (∀ W, Calls Try.prog 62 #[.agg #[.int .i64 N, .int .i64 Q, .int .i64 G, .int .i64 M, .int .i64 T, .int .i64 S], .int .i64 k] W (Ans (.int .i64 a2) W)) := fun W => by
                have := stat_any ⟨N, Q, G, M, T, S⟩ k W
                rw [HP.out 2, ha2] at this
                exact this
              have HA2 := Lib.hid ha2
              clear ha2
              go_upto_region 16 with (fail)
              go_cut [] (fun wc => Hid (FI w wc ⟨N, Q, G, M, T, S⟩ bb gb))
              case first =>
                go_wp2_with (first
                  | (go_at_call 62; (with_reducible refine (HN2.out _).mono ?_); rintro e wb ⟨rfl, hb8⟩; have HFb := Lib.hid (HFa.out.on hb8); obtain ⟨⟨zc, hzc⟩, hfz⟩ := HFb.out.at (a := a2) (by rw [HCN.out]; exact hA2); clear hb8)
                  | (go_at_call 59; (with_reducible refine (HB2.out _ HFb.out.bel).mono ?_); rintro e w4 ⟨rfl, rfl⟩))
                go_meet
                refine HFb.out.set a2 _ ?_ (fun p hp e => (HNW.out 2 (by omega) (by have := HQ.out; omega) p hp (e.trans HA2.out.symm)).elim)
                first
                  | exact u64_rng _
                  | (have := HZs.out; constructor <;> omega)
              case rest =>
                clear HFa c0 c1 c2 c3 c4 c5 hA2 hA2i HN2 HA2
                obtain ⟨c0, c1, c2, c3, c4, c5⟩ := hcut.out.six
                have HFa := hcut
                clear hcut
                obtain ⟨a3, ha3, hA3⟩ : ∃ a, A + 3 = a ∧ a < CN := ⟨_, rfl, by have := HAC.out; have := HQ.out; omega⟩
                have hA3i : (a3 : Int) < (CN : Int) := by omega
                have HN3 : Hid (∀ W, Calls Try.prog 63 #[.agg #[.int .i64 N, .int .i64 Q, .int .i64 G, .int .i64 M, .int .i64 T, .int .i64 S], .int .i64 k] W (Ans (.int .i64 a3) W)) := fun W => by
                  have := tick_any ⟨N, Q, G, M, T, S⟩ k W
                  rw [HP.out 3, ha3] at this
                  exact this
                have HA3 := Lib.hid ha3
                clear ha3
                go_upto_region 17 with (fail)
                go_cut [] (fun wc => Hid (FI w wc ⟨N, Q, G, M, T, S⟩ bb gb))
                case first =>
                  go_wp2_with (first
                    | (go_at_call 63; (with_reducible refine (HN3.out _).mono ?_); rintro e wb ⟨rfl, hb8⟩; have HFb := Lib.hid (HFa.out.on hb8); obtain ⟨⟨zc, hzc⟩, hfz⟩ := HFb.out.at (a := a3) (by rw [HCN.out]; exact hA3); clear hb8)
                    | (go_at_call 59; (with_reducible refine (HB3.out _ HFb.out.bel).mono ?_); rintro e w4 ⟨rfl, rfl⟩))
                  go_meet
                  refine HFb.out.set a3 _ ?_ (fun p hp e => (HNW.out 3 (by omega) (by have := HQ.out; omega) p hp (e.trans HA3.out.symm)).elim)
                  first
                    | exact u64_rng _
                    | (have := HZs.out; constructor <;> omega)
                case rest =>
                  clear HFa c0 c1 c2 c3 c4 c5 hA3 hA3i HN3 HA3
                  obtain ⟨c0, c1, c2, c3, c4, c5⟩ := hcut.out.six
                  have HFa := hcut
                  clear hcut
                  obtain ⟨a4, ha4, hA4⟩ : ∃ a, A + 4 = a ∧ a < CN := ⟨_, rfl, by have := HAC.out; have := HQ.out; omega⟩
                  have hA4i : (a4 : Int) < (CN : Int) := by omega
                  have HN4 : Hid (∀ W, Calls Try.prog 64 #[.agg #[.int .i64 N, .int .i64 Q, .int .i64 G, .int .i64 M, .int .i64 T, .int .i64 S], .int .i64 k] W (Ans (.int .i64 a4) W)) := fun W => by
                    have := sys_any ⟨N, Q, G, M, T, S⟩ k W
                    rw [HP.out 4, ha4] at this
                    exact this
                  have HA4 := Lib.hid ha4
                  clear ha4
                  go_upto_region 18 with (fail)
                  go_cut [] (fun wc => Hid (FI w wc ⟨N, Q, G, M, T, S⟩ bb gb))
                  case first =>
                    go_wp2_with (first
                      | (go_at_call 64; (with_reducible refine (HN4.out _).mono ?_); rintro e wb ⟨rfl, hb8⟩; have HFb := Lib.hid (HFa.out.on hb8); obtain ⟨⟨zc, hzc⟩, hfz⟩ := HFb.out.at (a := a4) (by rw [HCN.out]; exact hA4); clear hb8)
                      | (go_at_call 59; (with_reducible refine (HB3.out _ HFb.out.bel).mono ?_); rintro e w4 ⟨rfl, rfl⟩))
                    go_meet
                    refine HFb.out.set a4 _ ?_ (fun p hp e => (HNW.out 4 (by omega) (by have := HQ.out; omega) p hp (e.trans HA4.out.symm)).elim)
                    first
                      | exact u64_rng _
                      | (have := HZs.out; constructor <;> omega)
                  case rest =>
                    clear HFa c0 c1 c2 c3 c4 c5 hA4 hA4i HN4 HA4
                    obtain ⟨c0, c1, c2, c3, c4, c5⟩ := hcut.out.six
                    have HFa := hcut
                    clear hcut
                    obtain ⟨a5, ha5, hA5⟩ : ∃ a, A + 5 = a ∧ a < CN := ⟨_, rfl, by have := HAC.out; have := HQ.out; omega⟩
                    have hA5i : (a5 : Int) < (CN : Int) := by omega
                    have HN5 : Hid (∀ W, Calls Try.prog 65 #[.agg #[.int .i64 N, .int .i64 Q, .int .i64 G, .int .i64 M, .int .i64 T, .int .i64 S], .int .i64 k] W (Ans (.int .i64 a5) W)) := fun W => by
                      have := flag_any ⟨N, Q, G, M, T, S⟩ k W
                      rw [HP.out 5, ha5] at this
                      exact this
                    have HA5 := Lib.hid ha5
                    clear ha5
                    have hwk : IntKind.i64.wrap ((k : Int) + 1) = (k : Int) + 1 := IntWalk.i64_in _ (by have := HLT.out; have := HN8.out; omega)
                    go_wp2_with (first
                        | (go_at_call 65; (with_reducible refine (HN5.out _).mono ?_); rintro e wb ⟨rfl, hb8⟩; have HFb := Lib.hid (HFa.out.on hb8); obtain ⟨⟨zc, hzc⟩, hfz⟩ := HFb.out.at (a := a5) (by rw [HCN.out]; exact hA5); clear hb8)
                        | (go_at_call 59; (with_reducible refine (HB3.out _ HFb.out.bel).mono ?_); rintro e w4 ⟨rfl, rfl⟩))
                    go_roundw
                    case rel =>
                      refine ⟨k + 1, HLT.out, by go_num, ?_⟩
                      refine HFb.out.set a5 _ ?_ (fun p hp e => (HNW.out 5 (by omega) (by have := HQ.out; omega) p hp (e.trans HA5.out.symm)).elim)
                      first
                        | exact u64_rng _
                        | (have := HZs.out; constructor <;> omega)
                    case measure =>
                      show _ < _
                      have := HLT.out
                      simp only [intOf]; omega
    · go_wp2_with fail
      go_ret
      exact HF.out.post HCN.out.symm
end Go.Proofs.Ytkhfanhboooilaa
