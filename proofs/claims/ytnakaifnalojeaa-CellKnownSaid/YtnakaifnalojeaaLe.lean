/- The law CellRedoes, walked. -/
import Derived.Test.YtnakaifnalojeaaLd
import Derived.Test.YtnakaifnalojeaaLf
namespace Go.Proofs.Ytnakaifnalojeaa
open Go.RowKit Go.Ce

/-- behind the reference's Redo -/
structure Rg (w0 W : World) (b g tb : Nat) (m : PM) (N : Nat) (q : Option Addr) (l2 c2 : Nat) (ys : List Acc) : Prop where
  mem : MemIs W b g m
  bk : BookIs W q l2 c2 ys
  res : Row tb 29 [.int .i64 N, .slice q l2 c2] W
  bel : Below w0.heap.size w0 W
theorem rg_after {w0 wr w4 : World} {b g : Nat} {m : PM} {N : Nat} {q : Option Addr} {l2 c2 : Nat} {ys : List Acc} (hm : MemIs wr b g m) (h0 : Below w0.heap.size w0 wr) (hb : Below wr.heap.size wr w4) (hk : BookIs w4 q l2 c2 ys) : Rg w0 (w4.alloc (.cells #[.int .i64 N, .slice q l2 c2] 29)) b g w4.heap.size m N q l2 c2 ys := by
  have b1 := (Below.refl w4.heap.size w4).alloc (Nat.le_refl _) (.cells #[.int .i64 N, .slice q l2 c2] 29)
  exact ⟨(hm.on hb).on b1, hk.on b1, Row.new w4 _ [.int .i64 N, .slice q l2 c2], (h0.trans (hb.mono h0.size)).trans (b1.mono (by have := h0.size; have := hb.size; omega))⟩
theorem rg_ahead {w0 wr w4 : World} {b g tb : Nat} {m : PM} {N : Nat} {q : Option Addr} {l2 c2 : Nat} {ys : List Acc} {u v : Value} (hm : MemIs wr b g m) (h0 : Below w0.heap.size w0 wr) (hb : Below wr.heap.size wr w4) (hk : BookIs w4 q l2 c2 ys) (htb : Row tb 29 [u, v] w4) (hge : wr.heap.size ≤ tb) : Rg w0 ((w4.setCell ⟨tb, 0, none⟩ (.int .i64 N)).setCell ⟨tb, 1, none⟩ (.slice q l2 c2)) b g tb m N q l2 c2 ys := by
  have hlt := hm.lt
  have t1 : Tch (fun j => j = tb) w4 ((w4.setCell ⟨tb, 0, none⟩ (.int .i64 N)).setCell ⟨tb, 1, none⟩ (.slice q l2 c2)) := ((Tch.refl (fun j => j = tb) w4).setCell (p := ⟨tb, 0, none⟩) (.inl rfl) _).setCell (p := ⟨tb, 1, none⟩) (.inl rfl) _
  refine ⟨(hm.on hb).tch t1 (by omega) (by omega), (hk.put htb (by simp) _).put (htb.set 0 (.int .i64 N)) (by simp) _, htb.put2 _ _, ?_⟩
  have h00 := h0.size
  exact ((h0.trans (hb.mono h00)).setCell (p := ⟨tb, 0, none⟩) (by show _ ≤ tb; omega) _).setCell (p := ⟨tb, 1, none⟩) (by show _ ≤ tb; omega) _
theorem Rg.ne {w0 W : World} {b g tb : Nat} {m : PM} {N : Nat} {q : Option Addr} {l2 c2 : Nat} {ys : List Acc} (h : Rg w0 W b g tb m N q l2 c2 ys) : ¬ Own b g tb := by
  obtain ⟨c1, hr, _⟩ := h.mem.blk
  obtain ⟨r, hg⟩ := h.mem.cel
  have hb := h.res
  unfold Row at hr hg hb
  rintro (e | e)
  · subst e; rw [hb] at hr; simp at hr
  · subst e; rw [hb] at hg; simp at hg
theorem b_al {W w : World} {h : Nat} {x y : Value} {t : TypeId} (hr : Row h t [x, y] W) (hb : Below W.heap.size W w) (o : Obj) : ((w.alloc o).cell? ⟨h, 0, none⟩ = some x ∧ (w.alloc o).cell? ⟨h, 1, none⟩ = some y) ∧ Below W.heap.size W (w.alloc o) := b_cells (w' := W) hr (hb.alloc hb.size o)
theorem b_set {W w : World} {h tb : Nat} {x y : Value} {t : TypeId} (hr : Row h t [x, y] W) (hb : Below W.heap.size W w) (hge : W.heap.size ≤ tb) (u v : Value) : (((w.setCell ⟨tb, 0, none⟩ u).setCell ⟨tb, 1, none⟩ v).cell? ⟨h, 0, none⟩ = some x ∧ ((w.setCell ⟨tb, 0, none⟩ u).setCell ⟨tb, 1, none⟩ v).cell? ⟨h, 1, none⟩ = some y) ∧ Below W.heap.size W ((w.setCell ⟨tb, 0, none⟩ u).setCell ⟨tb, 1, none⟩ v) :=
  b_cells (w' := W) hr ((hb.setCell (p := ⟨tb, 0, none⟩) hge u).setCell (p := ⟨tb, 1, none⟩) hge v)
def RAcc (pa : Nat) (again : List Acc) (w1 : World) (e : Ending) (w' : World) : Prop := ∃ pq cq, e = .returned (.slice pq pa cq) ∧ BookIs w' pq pa cq again ∧ Below w1.heap.size w1 w'
def RRed (N : Nat) (xs again : List Acc) (w1 : World) (e : Ending) (w' : World) : Prop := ∃ q l2 c2, e = .returned (.tuple #[.agg #[.int .i64 N, .slice q l2 c2], .int .i64 (redoV N xs again).2]) ∧ BookIs w' q l2 c2 (redoV N xs again).1 ∧ Below w1.heap.size w1 w'

set_option maxRecDepth 20000 in
set_option maxHeartbeats 4000000 in
theorem redoes_short (n : Int) (N : Nat) (hN : nN n = N) (h40 : n ≤ 40) (pa pb : Option Addr) (ca cb : Nat) (l0 again : List Acc) (w : World) (hl : LiesA w pa l0) (hll : l0.length ≤ 40) (ha : LiesA w pb again) (hal : again.length ≤ 40) :
    Calls Try.prog 4 #[.int .i64 n, .slice pa l0.length ca, .slice pb again.length cb] w (Ans (.bool true) w) := by
  have HL := Lib.hid hl
  have HA := Lib.hid ha
  obtain ⟨la, hla⟩ : ∃ k, l0.length = k := ⟨_, rfl⟩
  obtain ⟨lb, hlb⟩ : ∃ k, again.length = k := ⟨_, rfl⟩
  have HLA := Lib.hid (And.intro hla (by rw [hla] at hll; exact hll))
  have HLB := Lib.hid (And.intro hlb (by rw [hlb] at hal; exact hal))
  rw [hla] at hll ⊢
  rw [hlb] at hal ⊢
  have z1 : ¬ (40 < (la : Int)) := by omega
  have z2 : ¬ (40 < (lb : Int)) := by omega
  have z3 : ¬ (40 < n) := by omega
  have y1 : decide (40 < (la : Int)) = false := decide_eq_false z1
  have y2 : decide (40 < (lb : Int)) = false := decide_eq_false z2
  have y3 : decide (40 < n) = false := decide_eq_false z3
  have y4 : decide (40 < la) = false := decide_eq_false (by omega)
  have y5 : decide (40 < lb) = false := decide_eq_false (by omega)
  have HNN := Lib.hid hN
  have HN40 : Hid (N ≤ 40) := by show _ ≤ _; unfold nN at hN; omega
  clear hl ha hla hlb hll hal hN h40 z1 z2 z3
  go_enter Try.func4, Try.ntmps4
  go_wp2_with fail
  refine (new_any n N HNN.out w).mono ?_
  rintro e w1 ⟨b, g, rfl, hm1, hb1, hg1, hbe1⟩
  have HM1 := Lib.hid hm1
  have HB1 := Lib.hid hbe1
  have HBG := Lib.hid (And.intro hb1 hg1)
  clear hm1 hb1 hg1 hbe1
  go_wp2_with fail
  have hbook := book_any n w1
  rw [HNN.out] at hbook
  refine hbook.mono ?_
  rintro e w2 ⟨rfl, hb2⟩
  have HRd : Hid (Rd w (w2.alloc (.cells #[.int .i64 N, .slice none 0 0] 29)) b g w2.heap.size (PM.new N) N none 0 0 []) := by
    have c1 := (Below.refl w2.heap.size w2).alloc (Nat.le_refl _) (.cells #[.int .i64 N, .slice none 0 0] 29)
    have c2 := hb2.trans (c1.mono hb2.size)
    exact ⟨⟨HM1.out.on c2, Tied.new N, .nil _⟩, Row.new w2 _ [.int .i64 N, .slice none 0 0], HB1.out.trans (c2.mono HB1.out.size), HBG.out.1, HBG.out.2, by have := HB1.out.size; have := hb2.size; omega⟩
  clear hb2 hbook
  go_upto_region 4 with (fail)
  obtain ⟨W, hW⟩ : ∃ W, w2.alloc (.cells #[.int .i64 N, .slice none 0 0] 29) = W := ⟨_, rfl⟩
  obtain ⟨br, hbr⟩ : ∃ br, w2.heap.size = br := ⟨_, rfl⟩
  rw [hW, hbr] at HRd
  rw [hW, hbr]
  clear hW hbr
  go_wp2_with fail
  go_loopw [9] (fun vi wr => ∃ i : Nat, i ≤ la ∧ vi = .int .i64 i ∧ ∃ p l c, Hid (Rd w wr b g br (runM (PM.new N) (l0.take i)) N p l c (runX N [] (l0.take i)))) (fun vi _ => la - (intOf vi).toNat)
  case atStart => exact ⟨0, by omega, rfl, none, 0, 0, HRd⟩
  case round =>
    clear HRd HM1 HB1
    obtain ⟨i, hi, rfl, p, l, c, HR⟩ := hrel
    by_cases hlt : i < la
    · have hil : i < l0.length := by rw [HLA.out.1]; exact hlt
      obtain ⟨ab, ao, rfl, e0, e1, e2, e3⟩ := HL.out.at hil
      have hab : ab < w.heap.size := block_lt_of_cell e0
      obtain ⟨x, hx⟩ : ∃ x, l0.getD i default = x := ⟨_, rfl⟩
      rw [hx] at e0 e1 e2 e3
      have hbel := HR.out.bel
      obtain ⟨m, hm⟩ : ∃ m, runM (PM.new N) (l0.take i) = m := ⟨_, rfl⟩
      obtain ⟨xs, hxs⟩ : ∃ xs, runX N [] (l0.take i) = xs := ⟨_, rfl⟩
      have hm2 := run_take (PM.new N) l0 i hil
      have hx2 := runX_take N [] l0 i hil
      rw [hm, hx] at hm2
      rw [hxs, hx] at hx2
      have hxl : xs.length ≤ i := by have := runX_len N [] (l0.take i); rw [hxs, List.length_take] at this; simp at this; omega
      rw [hm, hxs] at HR
      have HK0 : Hid (K6 br ab (ao + i * 4) N p l c x wr) := ⟨HR.out.box.cell 0, HR.out.box.cell 1, by rw [hbel.cell hab]; exact e0, by rw [hbel.cell hab]; exact e1, by rw [hbel.cell hab]; exact e2, by rw [hbel.cell hab]; exact e3⟩
      have hlen : l = xs.length := HR.out.pr.bk.len
      have HDoes := Lib.hid (does_round HR.out HK0.out hab (by have := HLA.out.2; omega) (by rw [HR.out.pr.tie.ops]; have := HLA.out.2; omega))
      have HX2 := Lib.hid (And.intro hm2 hx2)
      have hblt : br < wr.heap.size := HR.out.box.lt
      have HKd := Lib.hid HK0.out.drew
      have HGe := Lib.hid (show w.heap.size ≤ b ∧ w.heap.size ≤ g ∧ w.heap.size ≤ br ∧ ¬ Own b g br from ⟨HR.out.hb, HR.out.hg, HR.out.hr, HR.out.ne⟩)
      have HWl := Lib.hid (And.intro HR.out.pr.mem.lt hbel.size)
      have habr : ab ≠ wr.heap.size := by have := hbel.size; omega
      have hbrr : br ≠ wr.heap.size := by omega
      have i2 : (i : Int) < (la : Int) := by omega
      have hwi : IntKind.i64.wrap ((i : Int) + 1) = (i : Int) + 1 := IntWalk.i64_in _ (by have := HLA.out.2; omega)
      have HK := Lib.hid hlt
      have HTbd : Hid (Row wr.heap.size 29 [.int .i64 0, .slice none 0 0] (wr.drew.alloc (.cells #[.int .i64 0, .slice none 0 0] 29))) := Row.new wr.drew 29 [.int .i64 0, .slice none 0 0]
      have HOwnT : Hid (wr.heap.size ≠ br ∧ ¬ Own b g wr.heap.size) := ⟨by omega, fun e => by have := HWl.out.1; rcases e with e | e <;> omega⟩
      have HNE := Lib.hid (And.intro habr hbrr)
      clear hm2 hx2 hm hxs e0 e1 e2 e3 hx hlt hil hab hlen hxl hbel hi
      go_wp2_with fail
      go_region_held3 (fun w' => w'.cell? ⟨br, 0, none⟩ = some (.int .i64 N) ∧ w'.cell? ⟨br, 1, none⟩ = some (.slice p l c) ∧ w'.cell? ⟨ab, ao + i * 4, none⟩ = some (.int .i64 x.k) ∧ w'.cell? ⟨ab, ao + i * 4 + 1, none⟩ = some (.int .i64 x.a) ∧ w'.cell? ⟨ab, ao + i * 4 + 2, none⟩ = some (.int .u64 x.o) ∧ w'.cell? ⟨ab, ao + i * 4 + 3, none⟩ = some (.int .u64 x.n))
        (first | exact HKd.out | exact HK2.out | exact (HKd.out.alloc _) | exact (HK2.out.alloc _) | exact (HK2.out.set2 HNE.out.2 HNE.out.1 _ _))
        (first
          | (go_at_call 13; (first | refine (HDoes.out _ (Below.refl _ _).drew).mono ?_ | refine (HDoes.out _ (((Below.refl _ _).drew).alloc (Nat.le_refl _) _)).mono ?_); rintro e w3 ⟨q, l2, c2, rfl, hk3, ht3, hp3, hr3, hbe3⟩; have HK2 := Lib.hid hk3; have HT3 := Lib.hid ht3; have HP3 := Lib.hid hp3; have HR3 := Lib.hid hr3; have HBE3 := Lib.hid hbe3; (first | (have htb := HTbd.out.tch ht3 HOwnT.out.2; have HTB3 := Lib.hid htb; have d0 := htb.cell 0; have d1 := htb.cell 1; have f0 := htb.frozen 0; have f1 := htb.frozen 1; simp only [List.getElem?_cons_zero, List.getElem?_cons_succ] at d0 d1; clear htb) | skip); clear hk3 ht3 hp3 hr3 hbe3))
      all_goals
        first
          | (obtain ⟨W5, hW5⟩ : ∃ W5, w3.alloc (.cells #[.int .i64 N, .slice q l2 c2] 29) = W5 := ⟨_, rfl⟩
             obtain ⟨tb, htb⟩ : ∃ tb, w3.heap.size = tb := ⟨_, rfl⟩
             have HF := Lib.hid (rf_after (wr := wr) (w2 := wr) HP3.out HR3.out HBE3.out HGe.out)
             rw [hW5, htb] at HF
             rw [hW5, htb]
             clear hW5 htb)
          | (obtain ⟨W5, hW5⟩ : ∃ W5, (w3.setCell ⟨wr.heap.size, 0, none⟩ (.int .i64 N)).setCell ⟨wr.heap.size, 1, none⟩ (.slice q l2 c2) = W5 := ⟨_, rfl⟩
             obtain ⟨tb, htb⟩ : ∃ tb, wr.heap.size = tb := ⟨_, rfl⟩
             have HF := Lib.hid (rf_ahead (wr := wr) HP3.out HR3.out HBE3.out HGe.out HTB3.out HOwnT.out HWl.out.2)
             rw [hW5, htb] at HF
             rw [hW5, htb]
             clear hW5 htb)
        have t0 := HF.out.res.cell 0
        have t1 := HF.out.res.cell 1
        have k0 := HF.out.box.cell 0
        have k1 := HF.out.box.cell 1
        have j0 := HF.out.box.frozen 0
        have j1 := HF.out.box.frozen 1
        simp only [List.getElem?_cons_zero, List.getElem?_cons_succ] at t0 t1 k0 k1
        have htr : ¬ tb = br := HF.out.tr
        have HRd2 := Lib.hid HF.out.put
        clear HF
        go_wp2_with fail
        go_roundw
        case rel => exact ⟨i + 1, HK.out, by go_num, q, l2, c2, by show Rd _ _ _ _ _ _ _ _ _ _ _; rw [HX2.out.1, HX2.out.2]; exact HRd2.out⟩
        case measure =>
          show _ < _
          have := HK.out
          simp only [intOf]; omega
    · obtain rfl : i = la := by omega
      have hfull : l0.take i = l0 := List.take_of_length_le (by have := HLA.out; omega)
      rw [hfull] at HR
      obtain ⟨m, hm⟩ : ∃ m, runM (PM.new N) l0 = m := ⟨_, rfl⟩
      obtain ⟨xs, hxs⟩ : ∃ xs, runX N [] l0 = xs := ⟨_, rfl⟩
      have hxl : xs.length ≤ 40 := by have := runX_len N [] l0; rw [hxs] at this; simp at this; have := HLA.out; omega
      rw [hm, hxs] at HR
      have HXl := Lib.hid hxl
      have hlen : l = xs.length := HR.out.pr.bk.len
      have HLn := Lib.hid hlen
      have HSz := Lib.hid HR.out.bel.size
      clear hfull hm hxs hxl hlen
      have hlb : ¬ ((i : Int) < (i : Int)) := by omega
      have HBox := Lib.hid HR.out.box
      have HAcc : Hid (∀ (P : Prop) (w1 : World), P ∧ Below wr.heap.size wr w1 → Calls Try.prog 22 #[.slice pb lb cb] w1 (RAcc lb again w1)) := fun P w1 hs => by
        have h1 := accesses_any pb cb again w1 ((HA.out.on HR.out.bel).on hs.2) (by have := HLB.out; omega)
        rw [HLB.out.1] at h1
        refine h1.mono ?_
        rintro e w' ⟨v, rfl, ho, hb⟩
        obtain ⟨pq, cq, rfl, hk⟩ := book_own ho (by have := HLB.out; omega)
        rw [HLB.out.1] at hk ⊢
        exact ⟨pq, cq, rfl, hk, hb⟩
      have HRed : Hid (∀ (P : Prop) (w1 : World) pq cq, P ∧ Below wr.heap.size wr w1 → BookIs w1 pq lb cq again → Calls Try.prog 21 #[.agg #[.int .i64 N, .slice p l c], .slice pq lb cq] w1 (RRed N xs again w1)) := fun P w1 pq cq hs hk =>
        redo_any N p l c xs pq lb cq again w1 (HR.out.pr.bk.on hs.2) hk (by have := HLn.out; have := HXl.out; have := HLB.out; omega)
      have hBs : Below wr.heap.size wr wr.drew := (Below.refl _ _).drew
      have HTb : Hid (Row wr.heap.size 29 [.int .i64 0, .slice none 0 0] (wr.drew.alloc (.cells #[.int .i64 0, .slice none 0 0] 29))) := Row.new wr.drew 29 [.int .i64 0, .slice none 0 0]
      have HBox2 := Lib.hid (b_size (w := wr.drew) (W := wr) (P := True) ⟨trivial, hBs⟩ (.refl _ _))
      go_wp2_with fail
      go_region_held3 (fun w' => (w'.cell? ⟨br, 0, none⟩ = some (.int .i64 N) ∧ w'.cell? ⟨br, 1, none⟩ = some (.slice p l c)) ∧ Below wr.heap.size wr w')
        (first | exact b_cells (w' := wr) HBox.out (by assumption) | exact b_al HBox.out (by assumption) _ | exact b_set HBox.out (by assumption) (Nat.le_refl _) _ _ | exact b_set HBox.out (by assumption) hz3 _ _)
        (first
          | (go_at_call 22; refine (HAcc.out _ _ (by assumption)).mono ?_; rintro e w3 ⟨pq, cq, rfl, hk3, hb3⟩; have hB3 : Below wr.heap.size wr w3 := b_trans (by assumption) hb3; have hz3 : wr.heap.size ≤ w3.heap.size := hB3.size; (first | have htb3 := HTb.out.on' hb3 | skip))
          | (go_at_call 21; (first | refine (HRed.out _ _ pq cq (by assumption) hk3).mono ?_ | refine (HRed.out _ _ pq cq (by assumption) (hk3.on ((Below.refl _ _).alloc (Nat.le_refl _) _))).mono ?_); rintro e w4 ⟨q, l2, c2, rfl, hk4, hb4⟩; have hB4 : Below wr.heap.size wr w4 := b_trans (by assumption) hb4; (first | (have htb4 := htb3.on' hb4; have d0 := htb4.cell 0; have d1 := htb4.cell 1; have f0 := htb4.frozen 0; have f1 := htb4.frozen 1; simp only [List.getElem?_cons_zero, List.getElem?_cons_succ] at d0 d1) | (have htb4 := (Row.new w3 29 [.int .i64 0, .slice none 0 0]).on' hb4; have d0 := htb4.cell 0; have d1 := htb4.cell 1; have f0 := htb4.frozen 0; have f1 := htb4.frozen 1; simp only [List.getElem?_cons_zero, List.getElem?_cons_succ] at d0 d1) | skip)))
      all_goals
        first
          | (obtain ⟨W5, hW5⟩ : ∃ W5, w4.alloc (.cells #[.int .i64 N, .slice q l2 c2] 29) = W5 := ⟨_, rfl⟩
             obtain ⟨tb, htb⟩ : ∃ tb, w4.heap.size = tb := ⟨_, rfl⟩
             have HF := Lib.hid (rg_after (N := N) HR.out.pr.mem HR.out.bel hB4 hk4)
             rw [hW5, htb] at HF
             rw [hW5, htb]
             clear hW5 htb)
          | (obtain ⟨W5, hW5⟩ : ∃ W5, (w4.setCell ⟨wr.heap.size, 0, none⟩ (.int .i64 N)).setCell ⟨wr.heap.size, 1, none⟩ (.slice q l2 c2) = W5 := ⟨_, rfl⟩
             obtain ⟨tb, htb⟩ : ∃ tb, wr.heap.size = tb := ⟨_, rfl⟩
             have HF := Lib.hid (rg_ahead (N := N) HR.out.pr.mem HR.out.bel hB4 hk4 htb4 (Nat.le_refl _))
             rw [hW5, htb] at HF
             rw [hW5, htb]
             clear hW5 htb)
          | (obtain ⟨W5, hW5⟩ : ∃ W5, (w4.setCell ⟨w3.heap.size, 0, none⟩ (.int .i64 N)).setCell ⟨w3.heap.size, 1, none⟩ (.slice q l2 c2) = W5 := ⟨_, rfl⟩
             obtain ⟨tb, htb⟩ : ∃ tb, w3.heap.size = tb := ⟨_, rfl⟩
             have HF := Lib.hid (rg_ahead (N := N) HR.out.pr.mem HR.out.bel hB4 hk4 htb4 hz3)
             rw [hW5, htb] at HF
             rw [hW5, htb]
             clear hW5 htb)
        have htie := redoP_tied again HR.out.pr.tie
        have hred := redo_code pb cb again W5 HF.out.mem (HA.out.on HF.out.bel) (by have := HLB.out; omega) (by rw [HR.out.pr.tie.ops]; have := HXl.out; have := HLB.out; omega) (fun hne x o e => by
          obtain ⟨b', o', e', hc'⟩ := HA.out.cells 0 hne
          rw [e] at e'
          cases e'
          have hbx : x < w.heap.size := block_lt_of_cell (v := .int .i64 (again.getD 0 default).k) (hc' 0 (by decide))
          have := HBG.out
          rintro (h | h) <;> omega)
        rw [HLB.out.1] at hred
        have HTie := Lib.hid htie
        obtain ⟨k2, hk2⟩ : ∃ k2, (redoV (N : Int) xs again).2 = k2 := ⟨_, rfl⟩
        rw [hk2]
        have hred2 : Calls Try.prog 23 #[.pointer (some ⟨b, 0, none⟩), .slice pb lb cb] W5 (fun e w' => e = .returned (.int .i64 k2) ∧ MemIs w' b g (redoP m again).1 ∧ Tch (Own b g) W5 w') := hred.mono fun e w' ⟨h1, h2, h3⟩ => ⟨by rw [h1, htie.2, hk2], h2, h3⟩
        clear hred htie hk2 hb3 hb4 hk3 hk4 hB3 hB4 hz3 hBs
        go_wp2_with fail
        refine hred2.mono ?_
        rintro e w6 ⟨rfl, hm6, ht6⟩
        have hres := HF.out.res.tch ht6 HF.out.ne
        have t0 := hres.cell 0
        have t1 := hres.cell 1
        simp only [List.getElem?_cons_zero, List.getElem?_cons_succ] at t0 t1
        have HP6 := Lib.hid (show Pair w6 b g (redoP m again).1 N q l2 c2 (redoV (N : Int) xs again).1 from ⟨hm6, HTie.out.1, HF.out.bk.tch ht6 (HF.out.bk.far HF.out.mem)⟩)
        have HB6 := Lib.hid (HF.out.bel.trans (ht6.below HF.out.bel.size (fun k hk => by have := HBG.out; rcases hk with hk | hk <;> omega)))
        clear hm6 ht6 hres hred2
        go_wp2_with fail
        refine (samebook_any w6 HP6.out).mono ?_
        rintro e w7 ⟨rfl, hb7⟩
        have HB7 := Lib.hid (HB6.out.trans (hb7.mono HB6.out.size))
        clear hb7
        go_wp2_with fail
        refine (works_any w7).mono ?_
        rintro e w8 ⟨rfl, hb8⟩
        have HB8 := Lib.hid (HB7.out.trans (hb8.mono HB7.out.size))
        clear hb8
        go_wp2
        go_ret
        exact ⟨rfl, HB8.out⟩
/-- too much came in -/
theorem redoes_long (n : Int) (pa pb : Option Addr) (la ca lb cb : Nat) (w : World) (h : 40 < la ∨ 40 < lb ∨ 40 < n) :
    Calls Try.prog 4 #[.int .i64 n, .slice pa la ca, .slice pb lb cb] w (Ans (.bool true) w) := by
  by_cases h1 : 40 < la
  · have y1 : decide (40 < la) = true := decide_eq_true h1
    have y2 : (40 : Int) < (la : Int) := by omega
    clear h
    go_enter Try.func4, Try.ntmps4
    go_wp2_with fail
    refine (works_any w).mono ?_
    rintro e w1 ⟨rfl, hb⟩
    go_wp2
    go_ret
    exact ⟨rfl, hb⟩
  by_cases h2 : 40 < lb
  · have y1 : decide (40 < la) = false := decide_eq_false h1
    have y2 : decide (40 < lb) = true := decide_eq_true h2
    have y3 : decide (40 < (la : Int)) = false := decide_eq_false (by omega)
    have y4 : (40 : Int) < (lb : Int) := by omega
    clear h
    go_enter Try.func4, Try.ntmps4
    go_wp2_with fail
    refine (works_any w).mono ?_
    rintro e w1 ⟨rfl, hb⟩
    go_wp2
    go_ret
    exact ⟨rfl, hb⟩
  have h3 : 40 < n := by omega
  have y1 : decide (40 < la) = false := decide_eq_false h1
  have y2 : decide (40 < lb) = false := decide_eq_false h2
  have y3 : decide (40 < (la : Int)) = false := decide_eq_false (by omega)
  have y4 : decide (40 < (lb : Int)) = false := decide_eq_false (by omega)
  clear h
  go_enter Try.func4, Try.ntmps4
  go_wp2_with fail
  refine (works_any w).mono ?_
  rintro e w1 ⟨rfl, hb⟩
  go_wp2
  go_ret
  exact ⟨rfl, hb⟩
theorem redoes_any (n : Int) (pa pb : Option Addr) (ca cb : Nat) (l0 again : List Acc) (w : World) (hl : LiesA w pa l0) (ha : LiesA w pb again) :
    Calls Try.prog 4 #[.int .i64 n, .slice pa l0.length ca, .slice pb again.length cb] w (Ans (.bool true) w) := by
  by_cases h : 40 < l0.length ∨ 40 < again.length ∨ 40 < n
  · exact redoes_long n pa pb _ ca _ cb w h
  · have hb := nN_bd n
    exact redoes_short n (nN n).toNat (by omega) (by omega) pa pb ca cb l0 again w hl (by omega) ha (by omega)
end Go.Proofs.Ytnakaifnalojeaa
