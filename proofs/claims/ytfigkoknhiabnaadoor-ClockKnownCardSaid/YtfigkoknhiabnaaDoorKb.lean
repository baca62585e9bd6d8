/- The clock goes on: goOn, Add, Millis. -/
import Derived.Test.YtfigkoknhiabnaaDoorKa
namespace Go.Proofs.YtfigkoknhiabnaaDoor
open Go.RowKit Go.Fm Go.Sm Go.Tx

/-- behind a store of the time -/
theorem Clk.goes {g : Nat} {t u : Int} {laps : List Int} {w : World} (h : Clk g t laps w) (h1 : 0 ≤ u) (h2 : u ≤ 4611686018427387904) : Clk g u laps (w.setCell ⟨g, 0, none⟩ (.int .i64 u)) := by
  obtain ⟨rest, hl, hr⟩ := h.row
  exact ⟨h1, h2, rest, hl, hr.set 0 _⟩
theorem S_two' {t n : Int} (h1 : 0 ≤ t) (h2 : t ≤ 4611686018427387904) : S [t, n] = plus t n := by
  show sstep (sstep 0 t) n = _
  have e : sstep 0 t = t := by unfold sstep clampI; (repeat' split) <;> omega
  rw [e]; unfold sstep plus clampI; (repeat' split) <;> omega
theorem sum_two (a b s : Int) (g : Nat) (w : World) (t : TypeId) (hg : g = w.heap.size) (hs : S [a, b] = s) :
    Calls Tryd.prog 34 #[.slice (some ⟨g, 0, none⟩) 2 2] (w.alloc (.cells #[.int .i64 a, .int .i64 b] t)) fun e w' => e = .returned (.int .i64 s) ∧ w.alloc (.cells #[.int .i64 a, .int .i64 b] t) = w' := by
  subst hs; exact sum_any (some ⟨g, 0, none⟩) 2 [a, b] _ (lies_new .i64 [a, b] w t g hg (by simp))

theorem tch_one (w : World) (g i : Nat) (v : Value) : Tch (· = g) w (w.setCell ⟨g, i, none⟩ v) := (Tch.refl (· = g) w).setCell (p := ⟨g, i, none⟩) (.inl rfl) v
/-- a call that goes on by n -/
def GoPost (g : Nat) (t : Int) (laps : List Int) (v : Value) (w : World) (e : Ending) (w' : World) : Prop := e = .returned v ∧ Clk g t laps w' ∧ Tch (· = g) w w'
set_option maxHeartbeats 400000 in
theorem goOn_any {g : Nat} {t : Int} {laps : List Int} (n : Int) (w : World) (h : Clk g t laps w) : Calls Tryd.prog 28 #[.pointer (some ⟨g, 0, none⟩), .int .i64 n] w (GoPost g (plus t n) laps (.tuple #[]) w) := by
  have hb := plus_bd (n := n) h.lo h.hi
  have hlt := h.lt
  have c0 := h.c0
  have f0 := h.f0 0
  obtain ⟨s, hs⟩ : ∃ s, plus t n = s := ⟨_, rfl⟩
  have e := S_two' (n := n) h.lo h.hi
  rw [hs] at e hb ⊢
  clear hs
  have E := Lib.hid e
  have H := Lib.hid h
  clear e h
  go_enter Tryd.func28, Tryd.ntmps28
  go_wp2_with fail
  refine (sum_two t n s _ _ _ (by simp) E.out).mono ?_
  rintro e w' ⟨rfl, rfl⟩
  go_wp2
  go_end0
  exact ⟨rfl, (H.out.goes hb.1 hb.2.1).on' ((Below.refl _ _).alloc (Nat.le_refl _) _), (tch_one _ g 0 _).alloc _⟩
theorem add_any {g : Nat} {t : Int} {laps : List Int} (n : Int) (w : World) (h : Clk g t laps w) : Calls Tryd.prog 13 #[.pointer (some ⟨g, 0, none⟩), .int .i64 n] w (GoPost g (plus t n) laps (.int .i64 (if n < 0 then 2 else 0)) w) := by
  by_cases hn : n < 0
  · rw [if_pos hn, plus_neg hn]
    have H := Lib.hid h
    clear h
    go_enter Tryd.func13, Tryd.ntmps13
    go_wp2
    go_ret
    exact ⟨rfl, H.out, .refl _ _⟩
  · rw [if_neg hn]
    have c := goOn_any n w h
    generalize plus t n = u at c ⊢
    have H := Lib.hid h
    clear h
    go_enter Tryd.func13, Tryd.ntmps13
    go_wp2_with fail
    refine c.mono ?_
    rintro e w' ⟨rfl, hc, ht⟩
    go_wp2
    go_ret
    exact ⟨rfl, hc, ht⟩
theorem add_nil (n : Int) (w : World) : Calls Tryd.prog 13 #[.pointer none, .int .i64 n] w fun e w' => e = .returned (.int .i64 1) ∧ w = w' := by
  go_enter Tryd.func13, Tryd.ntmps13
  go_wp2
  go_ret
  exact ⟨rfl, rfl⟩

def NanosAt (v e : Int) (w : World) (x : Ending) (w' : World) : Prop := x = .returned (.tuple #[.int .i64 v, .int .i64 e]) ∧ Below w.heap.size w w'
theorem nanos_at (b : Nat) (w : World) : Calls Tryd.prog 30 #[.float .f64 b] w (NanosAt (nv b) (ne b) w) := by
  refine (nanos_any b w).mono ?_
  rintro e w' ⟨p, hp, rfl, hb⟩
  rw [(nv_eq hp).1, (nv_eq hp).2]
  exact ⟨rfl, hb⟩
/-- floats, as they lie, in blocks that are none of S -/
structure LiesFN (S : Nat → Prop) (w : World) (p : Option Addr) (fs : List Nat) : Prop where
  len : fs.length ≤ 1000
  cells : ∀ j, j < fs.length → ∃ b o, p = some ⟨b, o, none⟩ ∧ ¬ S b ∧ w.cell? ⟨b, o + j, none⟩ = some (.float .f64 (fs.getD j 0))
theorem LiesFN.tch {S : Nat → Prop} {w w' : World} {p : Option Addr} {fs : List Nat} (h : LiesFN S w p fs) (ht : Tch S w w') : LiesFN S w' p fs :=
  ⟨h.len, fun j hj => by obtain ⟨b, o, hp, hs, hc⟩ := h.cells j hj; exact ⟨b, o, hp, hs, ht.cell hc hs⟩⟩
def CMilV (fs : List Nat) : Value := .tuple #[.int .i64 (mk fs : Nat), .int .i64 (me fs)]
set_option maxHeartbeats 1000000 in
theorem millis_any {g : Nat} {t : Int} {laps : List Int} (fs : List Nat) (q : Option Addr) (m cq : Nat) (hm : Hid (m = fs.length)) (hm2 : m ≤ 1000) (w : World) (h : Clk g t laps w) (hL : LiesFN (· = g) w q fs) :
    Calls Tryd.prog 19 #[.pointer (some ⟨g, 0, none⟩), .slice q m cq] w (GoPost g (mt t fs (mk fs)) laps (CMilV fs) w) := by
  have HL := Lib.hid hL
  have h1 := h.lo
  have h2 := h.hi
  have H := Lib.hid h
  have hgl := h.lt
  clear hL h
  go_enter Tryd.func19, Tryd.ntmps19
  go_wp2_with fail
  go_step3
  go_wp2_with fail
  go_step3
  go_wp2_with fail
  go_loopw [6, 7, 16] (fun va vf vi wr => ∃ k : Nat, k ≤ m ∧ va = .int .i64 k ∧ vf = .int .i64 0 ∧ vi = .int .i64 k ∧ Hid (∀ j, j < k → ne (fs.getD j 0) = 0) ∧ Hid (Clk g (mt t fs k) laps wr) ∧ Hid (Tch (· = g) w wr)) (fun _ _ vi _ => m - (intOf vi).toNat)
  case atStart => exact ⟨0, by omega, rfl, rfl, rfl, fun j hj => absurd hj (Nat.not_lt_zero _), H, Lib.hid (.refl _ _)⟩
  case round =>
    obtain ⟨k, hk, rfl, rfl, rfl, HG, HC, HT⟩ := hrel
    clear H
    have hTb := mt_bd h1 h2 fs k
    by_cases hlt : k < m
    · obtain ⟨b, o, rfl, hs, hc⟩ := (HL.out.tch HT.out).cells k (by rw [← hm.out]; exact hlt)
      obtain ⟨x, hx⟩ : ∃ x, fs.getD k 0 = x := ⟨_, rfl⟩
      rw [hx] at hc
      have HXX := Lib.hid hx
      clear hx
      by_cases hbad : ne x = 0
      · go_wp2_with fail
        refine (nanos_at x _).mono ?_
        rintro e w1 ⟨rfl, hb1⟩
        have hC1 := HC.out.on' hb1
        have HT1 := Lib.hid (HT.out.then hb1)
        have c := goOn_any (nv x) w1 hC1
        have hmore := mt_more (t := t) (fs := fs) (k := k) (by rw [← hm.out]; exact hlt)
        rw [HXX.out] at hmore
        rw [← hmore] at c
        have hgood : Hid (∀ j, j < k + 1 → ne (fs.getD j 0) = 0) := fun j hj => by
          by_cases h : j = k
          · rw [h, HXX.out]; exact hbad
          · exact HG.out j (by omega)
        clear hmore hc hC1 hb1
        generalize nv x = v at c
        go_wp2_with fail
        refine c.mono ?_
        rintro e w2 ⟨rfl, hC2, ht2⟩
        have HC2 := Lib.hid hC2
        have HT2 := Lib.hid (HT1.out.trans ht2)
        clear c hC2 ht2
        go_wp2_with fail
        go_roundw
        case rel => exact ⟨k + 1, by omega, by go_num, rfl, by go_num, hgood, HC2, HT2⟩
        case measure =>
          show _ < _
          simp only [intOf]; omega
      · go_wp2_with fail
        refine (nanos_at x _).mono ?_
        rintro e w1 ⟨rfl, hb1⟩
        have HC1 := Lib.hid (HC.out.on' hb1)
        have HT1 := Lib.hid (HT.out.then hb1)
        clear hb1
        go_wp2_with fail
        have hk1 := mk_at (fs := fs) (k := k) (by rw [← hm.out]; exact hlt) HG.out (by rw [HXX.out]; exact hbad)
        have hk2 := me_at (fs := fs) (k := k) (by rw [← hm.out]; exact hlt) HG.out (by rw [HXX.out]; exact hbad)
        rw [HXX.out] at hk2
        go_ret2
        refine ⟨by unfold CMilV; rw [hk1, hk2]; rfl, ?_, HT1.out⟩
        rw [hk1]; exact HC1.out
    · obtain rfl : k = m := by omega
      go_wp2_with fail
      have hk1 := mk_all (fs := fs) (fun j hj => HG.out j (by rw [hm.out]; exact hj))
      have hk2 := me_all (fs := fs) (fun j hj => HG.out j (by rw [hm.out]; exact hj))
      go_ret2
      refine ⟨by unfold CMilV; rw [hk1, hk2, ← hm.out]; rfl, ?_, HT.out⟩
      rw [hk1, ← hm.out]; exact HC.out
theorem millis_nil (q : Option Addr) (m cq : Nat) (w : World) : Calls Tryd.prog 19 #[.pointer none, .slice q m cq] w fun e w' => e = .returned (.tuple #[.int .i64 0, .int .i64 1]) ∧ w = w' := by
  go_enter Tryd.func19, Tryd.ntmps19
  go_wp2
  go_step3
  go_wp2
  try rw [Exit.noGoto_ret]
  go_ret2
  exact ⟨rfl, rfl⟩
end Go.Proofs.YtfigkoknhiabnaaDoor
