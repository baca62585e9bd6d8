/- The laws' does, whatever the act. -/
import Derived.Test.YtfigkoknhiabnaaDoorKe
namespace Go.Proofs.YtfigkoknhiabnaaDoor
open Go.RowKit Go.Fm Go.Sm Go.Tx

set_option maxHeartbeats 400000 in
theorem does_none {g : Nat} {t d n : Int} {laps : List Int} {p q : Option Addr} {l c m cq : Nat} (w : World) (h : Clk g t laps w) (hd : ¬ (d = 0) ∧ ¬ (d = 1) ∧ ¬ (d = 2) ∧ ¬ (d = 3)) :
    Calls Tryd.prog 10 #[.pointer (some ⟨g, 0, none⟩), .agg #[.int .i64 t, .slice p l c], .agg #[.int .i64 d, .int .i64 n, .slice q m cq]] w (fun e w' => e = .returned (.tuple #[.agg #[.int .i64 t, .slice p l c], .bool true]) ∧ Clk g t laps w' ∧ Tch (· = g) w w') := by
  obtain ⟨d0, d1, d2, d3⟩ := hd
  have hgl := h.lt
  have HB := Lib.hid h
  clear h
  have e1 : ¬ w.heap.size = w.heap.size + 1 + 1 := by omega
  go_enter Tryd.func10, Tryd.ntmps10
  go_wp2
  refine bodyPost_ret (v := .tuple #[.agg #[.int .i64 t, .slice p l c], .bool true]) (by simp [results, Tryd.results10, go_sem, *]) rfl ⟨rfl, ?_, ?_⟩
  · exact HB.out.on' (grow3 _ _ _)
  · exact .of _ (grow3 _ _ _)

theorem does_any {R : Nat → Prop} {g : Nat} {t : Int} {laps : List Int} {p : Option Addr} {l c : Nat} (x : ActV) (w : World) (h : Both R g t laps p l c w) (h20 : x.l ≤ 20) (hl : x.l = x.fs.length) (hF : LiesFN (· = g) w x.p x.fs) :
    Calls Tryd.prog 10 #[.pointer (some ⟨g, 0, none⟩), .agg #[.int .i64 t, .slice p l c], .agg #[.int .i64 x.d, .int .i64 x.n, .slice x.p x.l x.c]] w (DoesPost R g t laps x w) := by
  obtain ⟨d, n, q, m, cq, fs⟩ := x
  simp only at h20 hl hF ⊢
  by_cases h01 : d = 0 ∨ d = 1
  · refine (does_add d w h h01).mono ?_
    rintro e w' ⟨rfl, hc, ht⟩
    have et : dt t ⟨d, n, q, m, cq, fs⟩ = plus t n := by unfold dt; rw [if_pos h01]
    have el : dl t laps ⟨d, n, q, m, cq, fs⟩ = laps := by unfold dl; rw [if_neg (by show ¬ d = 3; omega)]
    exact ⟨p, l, c, by rw [et], by rw [et, el]; exact ⟨hc, h.len, h.nl, h.lies.tch (ht.wide fun _ e => by rw [e]; exact h.rg), h.rg, fun k hk => Nat.lt_of_lt_of_le (h.rlt k hk) ht.size⟩, ht⟩
  · by_cases h2 : d = 2
    · subst h2
      refine (does_millis fs w h.clk hl (by omega) hF).mono ?_
      rintro e w' ⟨rfl, hc, ht⟩
      have et : dt t ⟨2, n, q, m, cq, fs⟩ = mt t fs (mk fs) := by unfold dt; rw [if_neg h01, if_pos rfl]
      have el : dl t laps ⟨2, n, q, m, cq, fs⟩ = laps := by unfold dl; rw [if_neg (by show ¬ (2 : Int) = 3; decide)]
      exact ⟨p, l, c, by rw [et], by rw [et, el]; exact ⟨hc, h.len, h.nl, h.lies.tch (ht.wide fun _ e => by rw [e]; exact h.rg), h.rg, fun k hk => Nat.lt_of_lt_of_le (h.rlt k hk) ht.size⟩, ht⟩
    · have et : dt t ⟨d, n, q, m, cq, fs⟩ = t := by unfold dt; rw [if_neg h01, if_neg h2]
      by_cases h3 : d = 3
      · subst h3
        refine (does_mark w h).mono ?_
        rintro e w' ⟨p1, l1, c1, rfl, hb, ht⟩
        have el : dl t laps ⟨3, n, q, m, cq, fs⟩ = mark laps t := by unfold dl; rw [if_pos rfl]
        exact ⟨p1, l1, c1, by rw [et], by rw [et, el]; exact hb, ht⟩
      · refine (does_none w h.clk ⟨by omega, by omega, h2, h3⟩).mono ?_
        rintro e w' ⟨rfl, hc, ht⟩
        have el : dl t laps ⟨d, n, q, m, cq, fs⟩ = laps := by unfold dl; rw [if_neg h3]
        exact ⟨p, l, c, by rw [et], by rw [et, el]; exact ⟨hc, h.len, h.nl, h.lies.tch (ht.wide fun _ e => by rw [e]; exact h.rg), h.rg, fun k hk => Nat.lt_of_lt_of_le (h.rlt k hk) ht.size⟩, ht⟩
end Go.Proofs.YtfigkoknhiabnaaDoor
