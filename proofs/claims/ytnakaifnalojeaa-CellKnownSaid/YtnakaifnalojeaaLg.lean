/- The law CellLogs, walked. -/
import Derived.Test.YtnakaifnalojeaaLe
import Derived.Test.YtnakaifnalojeaaMr
namespace Go.Proofs.Ytnakaifnalojeaa
open Go.RowKit Go.Ce

/-- two memories made since the log was told -/
structure Lg (wl w : World) (ba ga : Nat) (ma : PM) (bb gb : Nat) (mb : PM) : Prop where
  a : MemIs w ba ga ma
  b : MemIs w bb gb mb
  bel : Below wl.heap.size wl w
  ha : wl.heap.size ≤ ba ∧ wl.heap.size ≤ ga
  hb : wl.heap.size ≤ bb ∧ wl.heap.size ≤ gb
  ne : ¬ Own ba ga bb ∧ ¬ Own ba ga gb ∧ ¬ Own bb gb ba ∧ ¬ Own bb gb ga
section
variable {wl w w' : World} {ba ga : Nat} {ma ma' : PM} {bb gb : Nat} {mb mb' : PM}
theorem Lg.on (h : Lg wl w ba ga ma bb gb mb) (hb : Below w.heap.size w w') : Lg wl w' ba ga ma bb gb mb := ⟨h.a.on hb, h.b.on hb, h.bel.trans (hb.mono h.bel.size), h.ha, h.hb, h.ne⟩
theorem Lg.stepA (h : Lg wl w ba ga ma bb gb mb) (hm : MemIs w' ba ga ma') (ht : Tch (Own ba ga) w w') : Lg wl w' ba ga ma' bb gb mb :=
  ⟨hm, h.b.tch ht h.ne.1 h.ne.2.1, h.bel.trans (ht.below h.bel.size (fun k hk => by have := h.ha; rcases hk with hk | hk <;> omega)), h.ha, h.hb, h.ne⟩
theorem Lg.stepB (h : Lg wl w ba ga ma bb gb mb) (hm : MemIs w' bb gb mb') (ht : Tch (Own bb gb) w w') : Lg wl w' ba ga ma bb gb mb' :=
  ⟨h.a.tch ht h.ne.2.2.1 h.ne.2.2.2, hm, h.bel.trans (ht.below h.bel.size (fun k hk => by have := h.hb; rcases hk with hk | hk <;> omega)), h.ha, h.hb, h.ne⟩
end
theorem lg_new {wl wa wb : World} {ba ga bb gb : Nat} {ma mb : PM} (ha : MemIs wa ba ga ma) (hg : wl.heap.size ≤ ba ∧ wl.heap.size ≤ ga) (hbe : Below wl.heap.size wl wa) (hb : MemIs wb bb gb mb) (hg2 : wa.heap.size ≤ bb ∧ wa.heap.size ≤ gb) (hbe2 : Below wa.heap.size wa wb) : Lg wl wb ba ga ma bb gb mb := by
  have := ha.lt
  have := hbe.size
  refine ⟨ha.on hbe2, hb, hbe.trans (hbe2.mono hbe.size), hg, by omega, ?_⟩
  unfold Own
  omega
/-- a log of one's own, as it lies -/
theorem own_lies4 {w : World} {B n c : Nat} {p : Option Addr} {xs : List Acc} {E : TypeId} (h : w.ownsRow B E 4 (.slice p n c) n (xs.flatMap accC)) (hn : n = xs.length) : LiesA w p xs ∧ n ≤ c ∧ c ≤ maxLen ∧ (p = none ∨ ∃ g, p = some ⟨g, 0, none⟩) ∧ ∀ x o, p = some ⟨x, o, none⟩ → o = 0 ∧ B ≤ x ∧ x < w.heap.size := by
  rcases h.2 with ⟨hv, hz⟩ | ⟨g, cap, cur, hv, hB, hg, hc, hc2, hsz, ht⟩
  · cases hv
    exact ⟨⟨fun i hi => by omega⟩, by omega, Nat.zero_le _, Or.inl rfl, fun x o e => by cases e⟩
  · cases hv
    refine ⟨⟨fun i hi => ⟨g, 0, rfl, fun j hj => ?_⟩⟩, hc, hc2, Or.inr ⟨g, rfl⟩, fun x o e => by cases e; exact ⟨rfl, hB, lt_of_block hg⟩⟩
    rw [Nat.zero_add, h.cellAt (i * 4 + j) (by omega), accs_at xs i j hi hj]
theorem LiesA.take {w : World} {p : Option Addr} {xs : List Acc} (h : LiesA w p xs) (k : Nat) : LiesA w p (xs.take k) := ⟨fun i hi => by
  rw [List.length_take] at hi
  obtain ⟨b, o, hp, hc⟩ := h.cells i (by omega)
  refine ⟨b, o, hp, fun j hj => ?_⟩
  rw [hc j hj]
  have : (xs.take k).getD i default = xs.getD i default := by simp [List.getD, List.getElem?_take, show i < k by omega]
  rw [this]⟩
/-- a log that happened, done again: all of it; a part of it, and then the rest -/
theorem redo_all {N : Nat} {xs : List Acc} (hg : Took N [] xs) : Tied (redoP (PM.new N) xs).1 N xs ∧ (redoP (PM.new N) xs).2 = xs.length := by
  have h := redoP_tied xs (Tied.new N)
  rw [redo_good xs [] hg] at h
  simpa using h
theorem redo_rest {N : Nat} {m : PM} {ys zs : List Acc} (ht : Tied m N ys) (hg : Took N ys zs) : Tied (redoP m zs).1 N (ys ++ zs) ∧ (redoP m zs).2 = zs.length := by
  have h := redoP_tied zs ht
  rw [redo_good zs ys hg] at h
  exact h
theorem tied_same {m1 m2 : PM} {N : Nat} {xs : List Acc} (h1 : Tied m1 N xs) (h2 : Tied m2 N xs) : m1.cs = m2.cs :=
  eq_prefix (h1.len.trans h2.len.symm) (fun j hj => by have := h1.len; rw [h1.cs j (by omega), h2.cs j (by omega)])
/-- a log from its k-th row on -/
theorem add_at (g o k : Nat) : (⟨g, o, none⟩ : Addr).add k = ⟨g, o + k, none⟩ := by
  unfold Addr.add
  split
  · rename_i h; subst h; rfl
  · rfl
theorem LiesA.cutq {w : World} {p q : Option Addr} {xs : List Acc} (h : LiesA w p xs) (k : Nat) (hp : p = none ∨ ∃ g, p = some ⟨g, 0, none⟩) (hq : (q = p ∧ xs.length ≤ k) ∨ q = p.map (fun x => x.add (k * 4))) : LiesA w q (xs.drop k) ∧ ∀ x o, q = some ⟨x, o, none⟩ → ∃ o', p = some ⟨x, o', none⟩ := by
  rcases hq with ⟨rfl, hk⟩ | rfl
  · exact ⟨by rw [List.drop_eq_nil_of_le hk]; exact LiesA.nil w _, fun x o e => ⟨o, e⟩⟩
  · rcases hp with rfl | ⟨g, rfl⟩
    · refine ⟨?_, fun x o e => by cases e⟩
      by_cases hk : k < xs.length
      · obtain ⟨b, o, e, -⟩ := h.cells k hk
        cases e
      · rw [List.drop_eq_nil_of_le (by omega)]; exact LiesA.nil w _
    · rw [Option.map_some, add_at]
      exact ⟨h.drop k, fun x o e => by cases e; exact ⟨0, rfl⟩⟩
/-- one more in a cell: another memory -/
theorem add_other {m : PM} {at' : Nat} (h : at' < m.cs.length) : (m.add at' 1).cs ≠ m.cs ∧ (m.add at' 1).cs.length = m.cs.length := by
  have hh : m.Has (at' : Int) := ⟨by omega, by omega⟩
  rw [add_yes hh]
  refine ⟨fun e => ?_, (acc_len m _ _ _ _).1⟩
  have e2 := congrArg (fun z => z.getD at' 0) e
  have e3 : (m.acc 4 (at' : Int) (IntKind.u64.wrap (m.at at' + 1)) { m.k with a := m.k.a + 1 }).cs.getD at' 0 = IntKind.u64.wrap (m.at at' + 1) := by
    unfold PM.acc
    simp [List.getD, h]
  have e4 : m.at (at' : Int) = m.cs.getD at' 0 := by unfold PM.at; rw [Int.toNat_natCast]
  simp only at e2
  rw [e3, ← e4] at e2
  exact wrap_more _ e2
/-- what a call on a memory of cells does -/
theorem redo_at {b g : Nat} {m m' : PM} {k : Nat} {p : Option Addr} {c n : Nat} {l : List Acc} {w : World} (h : MemIs w b g m) (hl : LiesA w p l) (hn : l.length = n) (hlen : n ≤ 1000) (hf : m.k.ops ≤ 1000) (hp : ∀ x o, p = some ⟨x, o, none⟩ → ¬ Own b g x) (hr1 : (redoP m l).1 = m') (hr2 : (redoP m l).2 = k) :
    Calls Try.prog 23 #[.pointer (some ⟨b, 0, none⟩), .slice p n c] w (fun e w' => e = .returned (.int .i64 k) ∧ MemIs w' b g m' ∧ Tch (Own b g) w w') := by
  subst hn hr1 hr2
  exact (redo_code p c l w h hl (by omega) (by omega) (fun _ => hp)).mono fun e w' ⟨h1, h2, h3⟩ => ⟨h1, h2, h3⟩

set_option maxRecDepth 20000 in
set_option maxHeartbeats 4000000 in
theorem logs_short (n : Int) (N : Nat) (hN : nN n = N) (h40 : n ≤ 40) (cut : Int) (hcut : 0 ≤ cut ∧ cut ≤ 255) (pa : Option Addr) (ca : Nat) (l0 : List Acc) (w : World) (hl : LiesA w pa l0) (hll : l0.length ≤ 200) :
    Calls Try.prog 5 #[.int .i64 n, .slice pa l0.length ca, .int .u8 cut] w (Ans (.bool true) w) := by
  have HL := Lib.hid hl
  obtain ⟨la, hla⟩ : ∃ k, l0.length = k := ⟨_, rfl⟩
  have HLA := Lib.hid (And.intro hla (by rw [hla] at hll; exact hll))
  rw [hla] at hll ⊢
  have z1 : ¬ (200 < (la : Int)) := by omega
  have z3 : ¬ (40 < n) := by omega
  have y1 : decide (200 < (la : Int)) = false := decide_eq_false z1
  have y3 : decide (40 < n) = false := decide_eq_false z3
  have y4 : decide (200 < la) = false := decide_eq_false (by omega)
  have HNN := Lib.hid hN
  have HN40 : Hid (N ≤ 40) := by show _ ≤ _; unfold nN at hN; omega
  have HCut := Lib.hid hcut
  have HN41 := Lib.hid h40
  clear hl hla hll hN h40 z1 z3 hcut
  go_enter Try.func5, Try.ntmps5
  go_wp2_with fail
  refine (new_any n N HNN.out w).mono ?_
  rintro e w1 ⟨b, g, rfl, hm1, hb1, hg1, hbe1⟩
  have HM1 := Lib.hid hm1
  have HB1 := Lib.hid hbe1
  have HBG := Lib.hid (And.intro hb1 hg1)
  clear hm1 hb1 hg1 hbe1
  go_wp2_with fail
  have hbook := book_any n w1
  rw [HNN.out] at hbook
  refine hbook.mono ?_
  rintro e w2 ⟨rfl, hb2⟩
  have HRd : Hid (Rd w (w2.alloc (.cells #[.int .i64 N, .slice none 0 0] 29)) b g w2.heap.size (PM.new N) N none 0 0 []) := by
    have c1 := (Below.refl w2.heap.size w2).alloc (Nat.le_refl _) (.cells #[.int .i64 N, .slice none 0 0] 29)
    have c2 := hb2.trans (c1.mono hb2.size)
    exact ⟨⟨HM1.out.on c2, Tied.new N, .nil _⟩, Row.new w2 _ [.int .i64 N, .slice none 0 0], HB1.out.trans (c2.mono HB1.out.size), HBG.out.1, HBG.out.2, by have := HB1.out.size; have := hb2.size; omega⟩
  clear hb2 hbook
  go_upto_region 5 with (fail)
  obtain ⟨W, hW⟩ : ∃ W, w2.alloc (.cells #[.int .i64 N, .slice none 0 0] 29) = W := ⟨_, rfl⟩
  obtain ⟨br, hbr⟩ : ∃ br, w2.heap.size = br := ⟨_, rfl⟩
  rw [hW, hbr] at HRd
  rw [hW, hbr]
  clear hW hbr
  go_wp2_with fail
  go_loopw [9] (fun vi wr => ∃ i : Nat, i ≤ la ∧ vi = .int .i64 i ∧ ∃ p l c, Hid (Rd w wr b g br (runM (PM.new N) (l0.take i)) N p l c (runX N [] (l0.take i)))) (fun vi _ => la - (intOf vi).toNat)
  case atStart => exact ⟨0, by omega, rfl, none, 0, 0, HRd⟩
  case round =>
    clear HRd HM1 HB1
    obtain ⟨i, hi, rfl, p, l, c, HR⟩ := hrel
    by_cases hlt : i < la
    · have hil : i < l0.length := by rw [HLA.out.1]; exact hlt
      obtain ⟨ab, ao, rfl, e0, e1, e2, e3⟩ := HL.out.at hil
      have hab : ab < w.heap.size := block_lt_of_cell e0
      obtain ⟨x, hx⟩ : ∃ x, l0.getD i default = x := ⟨_, rfl⟩
      rw [hx] at e0 e1 e2 e3
      have hbel := HR.out.bel
      obtain ⟨m, hm⟩ : ∃ m, runM (PM.new N) (l0.take i) = m := ⟨_, rfl⟩
      obtain ⟨xs, hxs⟩ : ∃ xs, runX N [] (l0.take i) = xs := ⟨_, rfl⟩
      have hm2 := run_take (PM.new N) l0 i hil
      have hx2 := runX_take N [] l0 i hil
      rw [hm, hx] at hm2
      rw [hxs, hx] at hx2
      have hxl : xs.length ≤ i := by have := runX_len N [] (l0.take i); rw [hxs, List.length_take] at this; simp at this; omega
      rw [hm, hxs] at HR
      have HK0 : Hid (K6 br ab (ao + i * 4) N p l c x wr) := ⟨HR.out.box.cell 0, HR.out.box.cell 1, by rw [hbel.cell hab]; exact e0, by rw [hbel.cell hab]; exact e1, by rw [hbel.cell hab]; exact e2, by rw [hbel.cell hab]; exact e3⟩
      have hlen : l = xs.length := HR.out.pr.bk.len
      have HDoes := Lib.hid (does_round HR.out HK0.out hab (by have := HLA.out.2; omega) (by rw [HR.out.pr.tie.ops]; have := HLA.out.2; omega))
      have HX2 := Lib.hid (And.intro hm2 hx2)
      have hblt : br < wr.heap.size := HR.out.box.lt
      have HKd := Lib.hid HK0.out.drew
      have HGe := Lib.hid (show w.heap.size ≤ b ∧ w.heap.size ≤ g ∧ w.heap.size ≤ br ∧ ¬ Own b g br from ⟨HR.out.hb, HR.out.hg, HR.out.hr, HR.out.ne⟩)
      have HWl := Lib.hid (And.intro HR.out.pr.mem.lt hbel.size)
      have habr : ab ≠ wr.heap.size := by have := hbel.size; omega
      have hbrr : br ≠ wr.heap.size := by omega
      have i2 : (i : Int) < (la : Int) := by omega
      have hwi : IntKind.i64.wrap ((i : Int) + 1) = (i : Int) + 1 := IntWalk.i64_in _ (by have := HLA.out.2; omega)
      have HK := Lib.hid hlt
      have HTbd : Hid (Row wr.heap.size 29 [.int .i64 0, .slice none 0 0] (wr.drew.alloc (.cells #[.int .i64 0, .slice none 0 0] 29))) := Row.new wr.drew 29 [.int .i64 0, .slice none 0 0]
      have HOwnT : Hid (wr.heap.size ≠ br ∧ ¬ Own b g wr.heap.size) := ⟨by omega, fun e => by have := HWl.out.1; rcases e with e | e <;> omega⟩
      have HNE := Lib.hid (And.intro habr hbrr)
      clear hm2 hx2 hm hxs e0 e1 e2 e3 hx hlt hil hab hlen hxl hbel hi
      go_wp2_with fail
      go_region_held3 (fun w' => w'.cell? ⟨br, 0, none⟩ = some (.int .i64 N) ∧ w'.cell? ⟨br, 1, none⟩ = some (.slice p l c) ∧ w'.cell? ⟨ab, ao + i * 4, none⟩ = some (.int .i64 x.k) ∧ w'.cell? ⟨ab, ao + i * 4 + 1, none⟩ = some (.int .i64 x.a) ∧ w'.cell? ⟨ab, ao + i * 4 + 2, none⟩ = some (.int .u64 x.o) ∧ w'.cell? ⟨ab, ao + i * 4 + 3, none⟩ = some (.int .u64 x.n))
        (first | exact HKd.out | exact HK2.out | exact (HKd.out.alloc _) | exact (HK2.out.alloc _) | exact (HK2.out.set2 HNE.out.2 HNE.out.1 _ _))
        (first
          | (go_at_call 13; (first | refine (HDoes.out _ (Below.refl _ _).drew).mono ?_ | refine (HDoes.out _ (((Below.refl _ _).drew).alloc (Nat.le_refl _) _)).mono ?_); rintro e w3 ⟨q, l2, c2, rfl, hk3, ht3, hp3, hr3, hbe3⟩; have HK2 := Lib.hid hk3; have HT3 := Lib.hid ht3; have HP3 := Lib.hid hp3; have HR3 := Lib.hid hr3; have HBE3 := Lib.hid hbe3; (first | (have htb := HTbd.out.tch ht3 HOwnT.out.2; have HTB3 := Lib.hid htb; have d0 := htb.cell 0; have d1 := htb.cell 1; have f0 := htb.frozen 0; have f1 := htb.frozen 1; simp only [List.getElem?_cons_zero, List.getElem?_cons_succ] at d0 d1; clear htb) | skip); clear hk3 ht3 hp3 hr3 hbe3))
      all_goals
        first
          | (obtain ⟨W5, hW5⟩ : ∃ W5, w3.alloc (.cells #[.int .i64 N, .slice q l2 c2] 29) = W5 := ⟨_, rfl⟩
             obtain ⟨tb, htb⟩ : ∃ tb, w3.heap.size = tb := ⟨_, rfl⟩
             have HF := Lib.hid (rf_after (wr := wr) (w2 := wr) HP3.out HR3.out HBE3.out HGe.out)
             rw [hW5, htb] at HF
             rw [hW5, htb]
             clear hW5 htb)
          | (obtain ⟨W5, hW5⟩ : ∃ W5, (w3.setCell ⟨wr.heap.size, 0, none⟩ (.int .i64 N)).setCell ⟨wr.heap.size, 1, none⟩ (.slice q l2 c2) = W5 := ⟨_, rfl⟩
             obtain ⟨tb, htb⟩ : ∃ tb, wr.heap.size = tb := ⟨_, rfl⟩
             have HF := Lib.hid (rf_ahead (wr := wr) HP3.out HR3.out HBE3.out HGe.out HTB3.out HOwnT.out HWl.out.2)
             rw [hW5, htb] at HF
             rw [hW5, htb]
             clear hW5 htb)
        have t0 := HF.out.res.cell 0
        have t1 := HF.out.res.cell 1
        have k0 := HF.out.box.cell 0
        have k1 := HF.out.box.cell 1
        have j0 := HF.out.box.frozen 0
        have j1 := HF.out.box.frozen 1
        simp only [List.getElem?_cons_zero, List.getElem?_cons_succ] at t0 t1 k0 k1
        have htr : ¬ tb = br := HF.out.tr
        have HRd2 := Lib.hid HF.out.put
        clear HF
        go_wp2_with fail
        go_roundw
        case rel => exact ⟨i + 1, HK.out, by go_num, q, l2, c2, by show Rd _ _ _ _ _ _ _ _ _ _ _; rw [HX2.out.1, HX2.out.2]; exact HRd2.out⟩
        case measure =>
          show _ < _
          have := HK.out
          simp only [intOf]; omega
    · obtain rfl : i = la := by omega
      have hfull : l0.take i = l0 := List.take_of_length_le (by have := HLA.out; omega)
      rw [hfull] at HR
      obtain ⟨m, hm⟩ : ∃ m, runM (PM.new N) l0 = m := ⟨_, rfl⟩
      obtain ⟨xs, hxs⟩ : ∃ xs, runX N [] l0 = xs := ⟨_, rfl⟩
      have hxl : xs.length ≤ 200 := by have := runX_len N [] l0; rw [hxs] at this; simp at this; have := HLA.out; omega
      have htook : Took N [] xs := by
        obtain ⟨zs, h1, h2⟩ := calls_good (N := N) l0 []
        have : xs = zs := by rw [← hxs]; unfold runX; rw [h1]; simp
        rw [this]; exact h2
      rw [hm, hxs] at HR
      have HXl := Lib.hid hxl
      have HTook := Lib.hid htook
      have hlog := log_pair HR.out.pr
      rw [show xs.length - 256 = 0 by omega, List.drop_zero] at hlog
      clear hfull hm hxs htook
      go_wp2_with fail
      refine hlog.mono ?_
      rintro e wl ⟨v, rfl, ho, hbl⟩
      obtain ⟨pv, cv, rfl⟩ := own4_form ho
      obtain ⟨lg1, lg2, lg3, lg4, lg5⟩ := own_lies4 ho rfl
      obtain ⟨nx, hnx⟩ : ∃ k, xs.length = k := ⟨_, rfl⟩
      rw [hnx] at lg2 hxl ⊢
      have HLg := Lib.hid lg1
      have HLg5 := Lib.hid lg5
      have HLg4p := Lib.hid lg4
      have HNx := Lib.hid hnx
      have HRl := Lib.hid (HR.out.on hbl)
      clear hlog ho hbl lg1 lg4 lg5 hnx HR
      -- where the log is cut
      obtain ⟨k, hk⟩ : ∃ k : Nat, cut % ((nx : Int) + 1) = (k : Int) := ⟨(cut % ((nx : Int) + 1)).toNat, by have := Int.emod_nonneg cut (show (nx : Int) + 1 ≠ 0 by omega); omega⟩
      have hkn : k ≤ nx := by have := Int.emod_lt_of_pos cut (show (0 : Int) < (nx : Int) + 1 by omega); omega
      have zc : IntKind.i64.wrap cut = cut := IntWalk.i64_in _ (by have := HCut.out; omega)
      have zn : IntKind.i64.wrap ((nx : Int) + 1) = (nx : Int) + 1 := IntWalk.i64_in _ (by omega)
      have zk : cut.tmod ((nx : Int) + 1) = (k : Int) := by rw [IntWalk.rem_in _ _ HCut.out.1]; exact hk
      have zz : ¬ ((nx : Int) + 1 = 0) := by omega
      have zs : IntKind.i64.wrap ((nx : Int) - k) = ((nx - k : Nat) : Int) := by rw [IntWalk.i64_in _ (by omega)]; omega
      have HKN := Lib.hid (And.intro hkn hxl)
      clear hk
      go_upto_region 14 with (fail)
      go_wp2_with fail
      refine (new_any n N HNN.out _).mono ?_
      rintro e wa ⟨ba, ga, rfl, hma, hba, hga, hbea⟩
      have HMa := Lib.hid hma
      have HBEa := Lib.hid hbea
      have HBa := Lib.hid (And.intro hba hga)
      clear hma hba hga hbea
      go_wp2_with fail
      refine (new_any n N HNN.out _).mono ?_
      rintro e wb ⟨bb, gb, rfl, hmb, hbb, hgb, hbeb⟩
      have HLg2 := Lib.hid (lg_new HMa.out HBa.out HBEa.out hmb ⟨hbb, hgb⟩ hbeb)
      have HL0 := Lib.hid (HLg.out.on (HBEa.out.trans (hbeb.mono HBEa.out.size)))
      clear hmb hbb hgb hbeb HMa HBa HBEa
      go_wp2_with fail
      obtain ⟨ma, hma⟩ : ∃ ma, (redoP (PM.new N) xs).1 = ma := ⟨_, rfl⟩
      have hra := redo_all HTook.out
      rw [hma, HNx.out] at hra
      have HTa := Lib.hid hra.1
      have hr := redo_at (c := cv) HLg2.out.a HL0.out HNx.out (by omega) (show (0 : Nat) ≤ 1000 by omega) (fun x o e => by have := HLg5.out x o e; have := HLg2.out.ha; rintro (h | h) <;> omega) hma hra.2
      clear hma hra HL0
      refine hr.mono ?_
      rintro e wc ⟨rfl, hmc, htc⟩
      have HLg3 := Lib.hid (HLg2.out.stepA hmc htc)
      clear hmc htc hr HLg2
      go_wp2_with fail
      obtain ⟨mb, hmb⟩ : ∃ mb, (redoP (PM.new N) (xs.take k)).1 = mb := ⟨_, rfl⟩
      have htk := HTook.out
      rw [← List.take_append_drop k xs, took_append] at htk
      have hrb := redo_all htk.1
      have hlk : (xs.take k).length = k := by rw [List.length_take]; have := HNx.out; omega
      rw [hmb, hlk] at hrb
      have HTb := Lib.hid hrb.1
      have HTk2 := Lib.hid htk.2
      have hr := redo_at (c := cv) HLg3.out.b ((HLg.out.on HLg3.out.bel).take k) hlk (by omega) (show (0 : Nat) ≤ 1000 by omega) (fun x o e => by have := HLg5.out x o e; have := HLg3.out.hb; rintro (h | h) <;> omega) hmb hrb.2
      clear hmb htk hrb hlk
      refine hr.mono ?_
      rintro e wd ⟨rfl, hmd, htd⟩
      have HLg4 := Lib.hid (HLg3.out.stepB hmd htd)
      clear hmd htd hr HLg3
      go_wp2_with fail
      all_goals
        first
          | (have hcq := (HLg.out.on HLg4.out.bel).cutq k HLg4p.out (q := pv) (.inl ⟨rfl, by have := HNx.out; omega⟩)
             have hr := redo_at (c := 0) HLg4.out.b hcq.1 (show (xs.drop k).length = nx - k by rw [List.length_drop, HNx.out]) (by omega) (by rw [HTb.out.ops, List.length_take]; omega) (fun x o e => by obtain ⟨o', e'⟩ := hcq.2 x o e; have := HLg5.out x o' e'; have := HLg4.out.hb; rintro (h | h) <;> omega) rfl rfl
             clear hcq
             have hrc := redo_rest HTb.out HTk2.out
             rw [List.take_append_drop, List.length_drop, HNx.out] at hrc
             rw [hrc.2] at hr
             have HTc := Lib.hid hrc.1
             clear hrc
             refine hr.mono ?_
             clear hr)
          | (have hcq := (HLg.out.on HLg4.out.bel).cutq k HLg4p.out (q := pv.map (fun x => x.add (k * 4))) (.inr rfl)
             have hr := redo_at (c := cv - k) HLg4.out.b hcq.1 (show (xs.drop k).length = nx - k by rw [List.length_drop, HNx.out]) (by omega) (by rw [HTb.out.ops, List.length_take]; omega) (fun x o e => by obtain ⟨o', e'⟩ := hcq.2 x o e; have := HLg5.out x o' e'; have := HLg4.out.hb; rintro (h | h) <;> omega) rfl rfl
             clear hcq
             have hrc := redo_rest HTb.out HTk2.out
             rw [List.take_append_drop, List.length_drop, HNx.out] at hrc
             rw [hrc.2] at hr
             have HTc := Lib.hid hrc.1
             clear hrc
             refine hr.mono ?_
             clear hr)
        rintro e we ⟨rfl, hme, hte⟩
        have HLg5b := Lib.hid (HLg4.out.stepB hme hte)
        clear hme hte HLg4
        obtain ⟨mc, hmc⟩ : ∃ mc, (redoP mb (xs.drop k)).1 = mc := ⟨_, rfl⟩
        rw [hmc] at HLg5b HTc
        clear hmc
        have hlog2 := clog_any HLg5b.out.a
        rw [logP_tied HTa.out, show xs.length - 256 = 0 by have := HXl.out; omega, List.drop_zero] at hlog2
        go_wp2_with fail
        refine hlog2.mono ?_
        rintro e wf ⟨v2, rfl, ho2, hbf⟩
        obtain ⟨p2, c2, rfl⟩ := own4_form ho2
        obtain ⟨ll1, ll2, ll3, ll4, ll5⟩ := own_lies4 ho2 rfl
        rw [HNx.out] at ll2 ⊢
        have HLl := Lib.hid ll1
        have HLg6 := Lib.hid (HLg5b.out.on hbf)
        clear hlog2 ho2 hbf ll1 ll2 ll3 ll4 ll5 HLg5b
        go_upto_region 21 with (fail)
        go_wp2_with fail
        go_loopw [17] (fun vi wr => ∃ j : Nat, j ≤ nx ∧ vi = .int .i64 j ∧ Hid (Below wf.heap.size wf wr)) (fun vi _ => nx - (intOf vi).toNat)
        case atStart => exact ⟨0, by omega, rfl, Lib.hid (.refl _ _)⟩
        case round =>
          obtain ⟨j, hj, rfl, HBj⟩ := hrel
          have HLg7 := Lib.hid (HLg6.out.on HBj.out)
          by_cases hlt : j < nx
          · have j1 : (0 : Int) ≤ (j : Int) := by omega
            have j2 : (j : Int) < (nx : Int) := by omega
            obtain ⟨b1, o1, rfl, e10, e11, e12, e13⟩ := (HLg.out.on HLg7.out.bel).at (i := j) (by have := HNx.out; omega)
            obtain ⟨b2, o2, rfl, e20, e21, e22, e23⟩ := (HLl.out.on HBj.out).at (i := j) (by have := HNx.out; omega)
            obtain ⟨x, hx⟩ : ∃ x, xs.getD j default = x := ⟨_, rfl⟩
            rw [hx] at e10 e11 e12 e13 e20 e21 e22 e23
            have hwj : IntKind.i64.wrap ((j : Int) + 1) = (j : Int) + 1 := IntWalk.i64_in _ (by omega)
            clear hx
            go_wp2_with fail
            go_quiet (fail)
            have HB2 := Lib.hid (below_dN HBj.out nq)
            go_wp2_with fail
            go_roundw
            case rel => exact ⟨j + 1, by omega, by go_num, HB2⟩
            case measure =>
              show _ < _
              simp only [intOf]; omega
          · obtain rfl : j = nx := by omega
            go_wp2_with fail
            refine (same_any (.some HLg7.out.a) (.some (HRl.out.on HLg7.out.bel).pr.mem)).mono ?_
            rintro e wg ⟨rfl, hbg⟩
            have HLg8 := Lib.hid (HLg7.out.on hbg)
            clear hbg
            rw [decide_eq_true (tied_same HTa.out HRl.out.pr.tie)]
            go_wp2_with fail
            refine (same_any (.some HLg8.out.b) (.some (HRl.out.on HLg8.out.bel).pr.mem)).mono ?_
            rintro e wh ⟨rfl, hbh⟩
            have HLg9 := Lib.hid (HLg8.out.on hbh)
            clear hbh
            rw [decide_eq_true (tied_same HTc.out HRl.out.pr.tie)]
            go_wp2_with fail
            refine (len_any (HRl.out.on HLg9.out.bel).pr.mem).mono ?_
            rintro e wi ⟨rfl, hbi⟩
            have HLga := Lib.hid (HLg9.out.on hbi)
            rw [HRl.out.pr.tie.len]
            clear hbi
            by_cases h0 : N = 0
            · have y0 : ((N : Int) == 0) = true := by rw [h0]; rfl
              go_wp2_with fail
              refine (len_any (HRl.out.on HLga.out.bel).pr.mem).mono ?_
              rintro e wj ⟨rfl, hbj⟩
              have HLgb := Lib.hid (HLga.out.on hbj)
              clear hbj
              rw [HRl.out.pr.tie.len, show ((N : Nat) : Int) = 0 by rw [h0]; rfl]
              go_wp2_with fail
              refine (same_any (.some HLgb.out.a) (.some (HRl.out.on HLgb.out.bel).pr.mem)).mono ?_
              rintro e wk ⟨rfl, hbk⟩
              have HLgc := Lib.hid (HLgb.out.on hbk)
              clear hbk
              rw [decide_eq_true (tied_same HTa.out HRl.out.pr.tie)]
              go_wp2_with fail
              refine (same_any (.none _) (.some (HRl.out.on HLgc.out.bel).pr.mem)).mono ?_
              rintro e wm ⟨rfl, hbm⟩
              have HLgd := Lib.hid (HLgc.out.on hbm)
              clear hbm
              rw [decide_eq_true (show [] = m.cs from (List.eq_nil_of_length_eq_zero (by rw [HRl.out.pr.tie.len]; exact h0)).symm)]
              go_wp2_with fail
              refine (works_any _).mono ?_
              rintro e wn ⟨rfl, hbn⟩
              have HB := Lib.hid (HRl.out.on (HLgd.out.on hbn).bel).bel
              clear hbn
              go_wp2
              go_ret
              exact ⟨rfl, HB.out⟩
            · have y0 : ((N : Int) == 0) = false := by rw [beq_eq_false_iff_ne]; omega
              have y5 : ¬ ((N : Int) = 0) := by omega
              obtain ⟨at', hat⟩ : ∃ z : Nat, k % N = z := ⟨_, rfl⟩
              have y6 : (k : Int).tmod (N : Int) = (at' : Int) := by rw [IntWalk.rem_in _ _ (by omega)]; rw [← hat]; omega
              have HAt : Hid (at' < N) := by show _ < _; rw [← hat]; exact Nat.mod_lt _ (by omega)
              have y7 : IntKind.i64.wrap (n + 1) = n + 1 := IntWalk.i64_in _ (by have := HN41.out; have := HNN.out; unfold nN at this; omega)
              have HN1 : Hid (nN (n + 1) = ((N + 1 : Nat) : Int)) := by show _ = _; have := HN41.out; have h := HNN.out; unfold nN at h ⊢; omega
              clear hat
              go_wp2_with fail
              refine (len_any (HRl.out.on HLga.out.bel).pr.mem).mono ?_
              rintro e wj ⟨rfl, hbj⟩
              have HLgb := Lib.hid (HLga.out.on hbj)
              clear hbj
              rw [HRl.out.pr.tie.len]
              go_wp2_with fail
              refine (add_any (at' : Int) 1 wj HLgb.out.a (by rw [HTa.out.ops]; have := HXl.out; omega)).mono ?_
              rintro e wk ⟨rfl, hmk, htk⟩
              have HLgc := Lib.hid (HLgb.out.stepA hmk htk)
              clear hmk htk
              go_wp2_with fail
              refine (same_any (.some HLgc.out.a) (.some (HRl.out.on HLgc.out.bel).pr.mem)).mono ?_
              rintro e wm ⟨rfl, hbm⟩
              have HLgd := Lib.hid (HLgc.out.on hbm)
              clear hbm
              rw [decide_eq_false (show ¬ (ma.add (at' : Int) 1).cs = m.cs by rw [← tied_same HTa.out HRl.out.pr.tie]; exact (add_other (by rw [HTa.out.len]; exact HAt.out)).1)]
              go_wp2_with fail
              refine (new_any (n + 1) (N + 1) HN1.out _).mono ?_
              rintro e wn ⟨bn, gn, rfl, hmn, hbn, hgn, hben⟩
              have HMn := Lib.hid hmn
              have HLge := Lib.hid (HLgd.out.on hben)
              clear hmn hbn hgn hben
              go_wp2_with fail
              refine (same_any (.some (HRl.out.on HLge.out.bel).pr.mem) (.some HMn.out)).mono ?_
              rintro e wo ⟨rfl, hbo⟩
              have HLgf := Lib.hid (HLge.out.on hbo)
              clear hbo
              rw [decide_eq_false (show ¬ m.cs = (PM.new (N + 1)).cs from fun e => by have e2 := congrArg List.length e; rw [HRl.out.pr.tie.len, (Tied.new (N + 1)).len] at e2; omega)]
              go_wp2_with fail
              refine (works_any _).mono ?_
              rintro e wp ⟨rfl, hbp⟩
              have HB := Lib.hid (HRl.out.on (HLgf.out.on hbp).bel).bel
              clear hbp
              go_wp2
              go_ret
              exact ⟨rfl, HB.out⟩
/-- too much came in -/
theorem logs_long (n cut : Int) (pa : Option Addr) (la ca : Nat) (w : World) (h : 200 < la ∨ 40 < n) :
    Calls Try.prog 5 #[.int .i64 n, .slice pa la ca, .int .u8 cut] w (Ans (.bool true) w) := by
  by_cases h1 : 200 < la
  · have y1 : decide (200 < la) = true := decide_eq_true h1
    have y2 : (200 : Int) < (la : Int) := by omega
    clear h
    go_enter Try.func5, Try.ntmps5
    go_wp2_with fail
    refine (works_any w).mono ?_
    rintro e w1 ⟨rfl, hb⟩
    go_wp2
    go_ret
    exact ⟨rfl, hb⟩
  have h3 : 40 < n := by omega
  have y1 : decide (200 < la) = false := decide_eq_false h1
  have y3 : decide (200 < (la : Int)) = false := decide_eq_false (by omega)
  clear h
  go_enter Try.func5, Try.ntmps5
  go_wp2_with fail
  refine (works_any w).mono ?_
  rintro e w1 ⟨rfl, hb⟩
  go_wp2
  go_ret
  exact ⟨rfl, hb⟩
theorem logs_any (n cut : Int) (hcut : 0 ≤ cut ∧ cut ≤ 255) (pa : Option Addr) (ca : Nat) (l0 : List Acc) (w : World) (hl : LiesA w pa l0) :
    Calls Try.prog 5 #[.int .i64 n, .slice pa l0.length ca, .int .u8 cut] w (Ans (.bool true) w) := by
  by_cases h : 200 < l0.length ∨ 40 < n
  · exact logs_long n cut pa _ ca w h
  · have hb := nN_bd n
    exact logs_short n (nN n).toNat (by omega) (by omega) cut hcut pa ca l0 w hl (by omega)
end Go.Proofs.Ytnakaifnalojeaa
