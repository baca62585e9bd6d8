/- The laws' does: Millis, Mark, none; all together. -/
import Derived.Test.YtfigkoknhiabnaaDoorKd
namespace Go.Proofs.YtfigkoknhiabnaaDoor
open Go.RowKit Go.Fm Go.Sm Go.Tx

theorem LiesFN.lies {S : Nat → Prop} {w : World} {p : Option Addr} {fs : List Nat} (h : LiesFN S w p fs) : LiesF w p fs :=
  ⟨h.len, fun j hj => by obtain ⟨b, o, hp, _, hc⟩ := h.cells j hj; exact ⟨b, o, hp, hc⟩⟩
theorem LiesFN.on {S : Nat → Prop} {w w' : World} {p : Option Addr} {fs : List Nat} (h : LiesFN S w p fs) (hb : Below w.heap.size w w') : LiesFN S w' p fs := h.tch (.of S hb)
/-- the three boxes of does: what is known behind their making -/
structure Boxes (g : Nat) (t d n : Int) (p q : Option Addr) (l c m cq : Nat) (laps : List Int) (w w' : World) : Prop where
  act : Row (w.heap.size + 1) 39 [.int .i64 d, .int .i64 n, .slice q m cq] w'
  res : Row (w.heap.size + 1 + 1) 32 [.int .i64 0, .slice none 0 0] w'
  tch : Tch (· = g) w w'
  clk : Clk g t laps w'
theorem Boxes.make {g : Nat} {t d n : Int} {p q : Option Addr} {l c m cq : Nat} {laps : List Int} {w : World} (h : Clk g t laps w) :
    Boxes g t d n p q l c m cq laps w (((w.alloc (.cells #[.int .i64 t, .slice p l c] 32)).alloc (.cells #[.int .i64 d, .int .i64 n, .slice q m cq] 39)).alloc (.cells #[.int .i64 0, .slice none 0 0] 32)) where
  res := Row.new' ((w.alloc (.cells #[.int .i64 t, .slice p l c] 32)).alloc (.cells #[.int .i64 d, .int .i64 n, .slice q m cq] 39)) 32 [.int .i64 0, .slice none 0 0] (w.heap.size + 1 + 1) (by simp)
  act := (Row.new' (w.alloc (.cells #[.int .i64 t, .slice p l c] 32)) 39 [.int .i64 d, .int .i64 n, .slice q m cq] (w.heap.size + 1) (by simp)).on' ((Below.refl _ _).alloc (Nat.le_refl _) (.cells #[.int .i64 0, .slice none 0 0] 32))
  tch := ((Tch.refl (· = g) w).alloc (.cells #[.int .i64 t, .slice p l c] 32)).alloc (.cells #[.int .i64 d, .int .i64 n, .slice q m cq] 39) |>.alloc (.cells #[.int .i64 0, .slice none 0 0] 32)
  clk := (((h.on' ((Below.refl _ _).alloc (Nat.le_refl _) (.cells #[.int .i64 t, .slice p l c] 32))).on' ((Below.refl _ _).alloc (Nat.le_refl _) (.cells #[.int .i64 d, .int .i64 n, .slice q m cq] 39))).on' ((Below.refl _ _).alloc (Nat.le_refl _) (.cells #[.int .i64 0, .slice none 0 0] 32)))
theorem Boxes.on {g : Nat} {t d n : Int} {p q : Option Addr} {l c m cq : Nat} {laps : List Int} {w w1 w2 : World} (h : Boxes g t d n p q l c m cq laps w w1) (hb : Below w1.heap.size w1 w2) : Boxes g t d n p q l c m cq laps w w2 := ⟨h.act.on' hb, h.res.on' hb, h.tch.then hb, h.clk.on' hb⟩
theorem grow3 {w : World} (a b c : Obj) : Below w.heap.size w (((w.alloc a).alloc b).alloc c) := (((Below.refl _ _).alloc (Nat.le_refl _) a).alloc (by simp) b).alloc (by simp; omega) c

set_option maxHeartbeats 1000000 in
theorem does_millis {g : Nat} {t n : Int} {laps : List Int} {p q : Option Addr} {l c m cq : Nat} (fs : List Nat) (w : World) (h : Clk g t laps w) (hm : Hid (m = fs.length)) (hm2 : m ≤ 1000) (hF : LiesFN (· = g) w q fs) :
    Calls Tryd.prog 10 #[.pointer (some ⟨g, 0, none⟩), .agg #[.int .i64 t, .slice p l c], .agg #[.int .i64 2, .int .i64 n, .slice q m cq]] w (fun e w' => e = .returned (.tuple #[.agg #[.int .i64 (mt t fs (mk fs)), .slice p l c], .bool true]) ∧ Clk g (mt t fs (mk fs)) laps w' ∧ Tch (· = g) w w') := by
  have h1 := h.lo
  have h2 := h.hi
  have hgl := h.lt
  have HB := Lib.hid (Boxes.make (d := 2) (n := n) (p := p) (q := q) (l := l) (c := c) (m := m) (cq := cq) h)
  have HF := Lib.hid (hF.on (grow3 (.cells #[.int .i64 t, .slice p l c] 32) (.cells #[.int .i64 2, .int .i64 n, .slice q m cq] 39) (.cells #[.int .i64 0, .slice none 0 0] 32)))
  clear h hF
  have c1 := fun w hF => rmillis_any t fs p q l c m cq h1 h2 hm hm2 w hF
  have c2 := fun w (h : Clk g t laps w) hF => millis_any fs q m cq hm hm2 w h hF
  unfold MilV at c1
  unfold CMilV at c2
  obtain ⟨u, hu⟩ : ∃ u, mt t fs (mk fs) = u := ⟨_, rfl⟩
  obtain ⟨z, hz⟩ : ∃ z, me fs = z := ⟨_, rfl⟩
  obtain ⟨k, hk⟩ : ∃ k : Int, ((mk fs : Nat) : Int) = k := ⟨_, rfl⟩
  rw [hu] at c1 c2 ⊢
  rw [hz, hk] at c1 c2
  clear hu hz hk h1 h2
  go_enter Tryd.func10, Tryd.ntmps10
  go_wp2_with fail
  refine (c1 _ HF.out.lies).mono ?_
  rintro e w1 ⟨rfl, hb1⟩
  have ba := (Below.refl w1.heap.size w1).alloc (Nat.le_refl _) (.cells #[.int .i64 u, .slice p l c] 32)
  have R8 := Row.new w1 32 [.int .i64 u, .slice p l c]
  have HB1 := Lib.hid ((HB.out.on hb1).on ba)
  have HF1 := Lib.hid ((HF.out.on hb1).on ba)
  have hs1 := (HB.out.on hb1).res.lt
  have ka := HB1.out.act.cell 2
  clear hb1 HB HF
  go_wp2_with fail
  refine (c2 _ HB1.out.clk HF1.out).mono ?_
  rintro e w3 ⟨rfl, hC3, hT3⟩
  have e8 : ¬ w1.heap.size = g := by omega
  have e2 : ¬ w.heap.size + 1 + 1 = g := by omega
  obtain ⟨a80, a81, -, -⟩ := (Row.tch R8 hT3 e8).two
  obtain ⟨a20, a21, b20, b21⟩ := (HB1.out.res.tch hT3 e2).two
  have HT3 := Lib.hid (HB1.out.tch.trans hT3)
  have HC3 := Lib.hid hC3
  clear R8 ba hT3 hC3 HB1 HF1
  go_wp2
  refine bodyPost_ret (v := .tuple #[.agg #[.int .i64 u, .slice p l c], .bool true]) (by simp [results, Tryd.results10, go_sem, *]) rfl ⟨rfl, (HC3.out.far (p := ⟨w.heap.size + 1 + 1, 0, none⟩) (fun h => e2 h.symm) _).far (p := ⟨w.heap.size + 1 + 1, 1, none⟩) (fun h => e2 h.symm) _, ?_⟩
  exact (HT3.out.setCell (p := ⟨w.heap.size + 1 + 1, 0, none⟩) (.inr (by show _ ≤ _ + 1 + 1; omega)) _).setCell (p := ⟨w.heap.size + 1 + 1, 1, none⟩) (.inr (by show _ ≤ _ + 1 + 1; omega)) _

def DMarkPost (R : Nat → Prop) (g : Nat) (t : Int) (laps : List Int) (w : World) (e : Ending) (w' : World) : Prop :=
  ∃ p l c, e = .returned (.tuple #[.agg #[.int .i64 t, .slice p l c], .bool true]) ∧ Both R g t (mark laps t) p l c w' ∧ Tch (· = g) w w'
set_option maxHeartbeats 1000000 in
theorem does_mark {R : Nat → Prop} {g : Nat} {t n : Int} {laps : List Int} {p q : Option Addr} {l c m cq : Nat} (w : World) (h : Both R g t laps p l c w) :
    Calls Tryd.prog 10 #[.pointer (some ⟨g, 0, none⟩), .agg #[.int .i64 t, .slice p l c], .agg #[.int .i64 3, .int .i64 n, .slice q m cq]] w (DMarkPost R g t laps w) := by
  have h64 : l ≤ 64 := by rw [h.len]; exact h.clk.le
  have hgl := h.clk.lt
  have HRg := Lib.hid h.rg
  have HRlt := Lib.hid h.rlt
  have HB := Lib.hid (Boxes.make (d := 3) (n := n) (p := p) (q := q) (l := l) (c := c) (m := m) (cq := cq) h.clk)
  have c1 := fun w (hL : Lies .i64 w p laps) => rmark_any t laps p l c h.len h64 h.nl w hL
  have HL := Lib.hid (h.lies.on (grow3 (.cells #[.int .i64 t, .slice p l c] 32) (.cells #[.int .i64 3, .int .i64 n, .slice q m cq] 39) (.cells #[.int .i64 0, .slice none 0 0] 32)))
  have c2 := fun w (h : Clk g t laps w) => mark_any w h
  clear h
  obtain ⟨N, hN⟩ : ∃ N, (mark laps t).length = N := ⟨_, rfl⟩
  rw [hN] at c2
  have HN := Lib.hid hN
  clear hN
  go_enter Tryd.func10, Tryd.ntmps10
  go_wp2_with fail
  refine (c1 _ HL.out.lies).mono ?_
  rintro e w1 ⟨p1, l1, cc1, rfl, hl1, hp1, hlies1, hge1, hb1⟩
  obtain rfl : l1 = N := by rw [hl1, HN.out]
  have hs0 : w.heap.size + 1 + 1 + 1 ≤ w1.heap.size := by have := hb1.size; simpa using this
  have HLies : Hid (LiesN (fun b => R b ∨ b = w.heap.size + 1 + 1) .i64 w1 p1 (mark laps t)) := LiesN.made hlies1 (fun b o hb hbg => by have := hge1 b o hb; simp at this; rcases hbg with hbg | hbg; (have := HRlt.out b hbg; omega); omega)
  have ba := (Below.refl w1.heap.size w1).alloc (Nat.le_refl _) (.cells #[.int .i64 t, .slice p1 l1 cc1] 32)
  have R8 := Row.new w1 32 [.int .i64 t, .slice p1 l1 cc1]
  have HB1 := Lib.hid ((HB.out.on hb1).on ba)
  have HL1 := Lib.hid (HLies.out.on ba)
  have hs1 := (HB.out.on hb1).res.lt
  clear hb1 HB HLies hlies1 hge1 hl1 c1 HL
  go_wp2_with fail
  obtain ⟨B, hB⟩ : ∃ B, w1.heap.size = B := ⟨_, rfl⟩
  obtain ⟨W, hW⟩ : ∃ W, w1.alloc (.cells #[.int .i64 t, .slice p1 l1 cc1] 32) = W := ⟨_, rfl⟩
  rw [show w1.alloc (.cells [.int .i64 t, .slice p1 l1 cc1].toArray 32) = W from hW] at R8
  rw [hB] at R8 hs0 hs1 ⊢
  rw [hW] at HB1 HL1 ⊢
  clear ba hW hB
  have e8 : ¬ B = g := by omega
  have e2 : ¬ w.heap.size + 1 + 1 = g := by omega
  obtain ⟨k80, k81, -, -⟩ := R8.two
  go_region_with (go_at_call 14; refine (c2 _ (HB1.out.clk.drew)).mono ?_; rintro e w3 ⟨rfl, hC3, hT3⟩; obtain ⟨a80, a81, -, -⟩ := (R8.drew.tch hT3 e8).two; obtain ⟨a20, a21, b20, b21⟩ := (HB1.out.res.drew.tch hT3 e2).two)
  all_goals
    go_wp2
    refine bodyPost_ret (v := .tuple #[.agg #[.int .i64 t, .slice p1 l1 cc1], .bool true]) (by simp [results, Tryd.results10, go_sem, *]) rfl ⟨p1, l1, cc1, rfl, ⟨(hC3.far (p := ⟨w.heap.size + 1 + 1, 0, none⟩) (fun h => e2 h.symm) _).far (p := ⟨w.heap.size + 1 + 1, 1, none⟩) (fun h => e2 h.symm) _, HN.out.symm, fun h => absurd h hp1, ?_, HRg.out, ?_⟩, ?_⟩
    · have hx := (HL1.out.on (Below.refl _ _).drew).tch (hT3.wide fun _ h => .inl (by rw [h]; exact HRg.out))
      exact (hx.tch (((Tch.refl (fun b => R b ∨ b = w.heap.size + 1 + 1) w3).setCell (p := ⟨w.heap.size + 1 + 1, 0, none⟩) (.inl (.inr rfl)) _).setCell (p := ⟨w.heap.size + 1 + 1, 1, none⟩) (.inl (.inr rfl)) _)).less fun _ h => .inl h
    · intro k hk
      have h1 := HRlt.out k hk
      have h2 := hT3.size
      have h3 : w.heap.size ≤ W.heap.size := HB1.out.tch.size
      have h4 : W.heap.size ≤ w3.heap.size := h2
      simp only [World.setCell, Array.size_modify]
      omega
    · exact (((HB1.out.tch.then (Below.refl _ _).drew).trans hT3).setCell (p := ⟨w.heap.size + 1 + 1, 0, none⟩) (.inr (by show _ ≤ _ + 1 + 1; omega)) _).setCell (p := ⟨w.heap.size + 1 + 1, 1, none⟩) (.inr (by show _ ≤ _ + 1 + 1; omega)) _
end Go.Proofs.YtfigkoknhiabnaaDoor
