/- The law CellPlays, walked. -/
import Derived.Test.YtnakaifnalojeaaLj
import Derived.Test.YtnakaifnalojeaaLg
import Derived.Test.YtnakaifnalojeaaLk
import Derived.Deep.DeepCutAuto
import Derived.Deep.Cut
import Derived.Lib.QuietBelow
import Derived.BigQuiet
set_option linter.unusedSimpArgs false
set_option linter.unusedVariables false
namespace Go.Proofs.Ytnakaifnalojeaa
open Go.RowKit Go.Ce

/-- behind the copy: it, and the row as it was -/
structure Pc (w0 W : World) (b g br b2 g2 tb : Nat) (m : PM) (N : Nat) (p : Option Addr) (l c : Nat) (xs : List Acc) : Prop where
  rd : Rd w0 W b g br m N p l c xs
  cp : MemIs W b2 g2 m
  was : Row tb 29 [.int .i64 N, .slice p l c] W
  ne : ¬ Own b g b2 ∧ ¬ Own b g g2 ∧ ¬ Own b g tb ∧ b2 ≠ br ∧ g2 ≠ br ∧ tb ≠ br
theorem pc_ne {w0 wr : World} {b g br b2 g2 tb : Nat} {m : PM} {N : Nat} {p : Option Addr} {l c : Nat} {xs : List Acc} (h : Rd w0 wr b g br m N p l c xs) (hb : wr.heap.size ≤ b2) (hg : wr.heap.size ≤ g2) (ht : wr.heap.size ≤ tb) : ¬ Own b g b2 ∧ ¬ Own b g g2 ∧ ¬ Own b g tb ∧ b2 ≠ br ∧ g2 ≠ br ∧ tb ≠ br := by
  have h1 := h.pr.mem.lt
  have h2 := h.box.lt
  unfold Own
  omega
theorem pc_after {w0 wr w3 : World} {b g br b2 g2 : Nat} {m : PM} {N : Nat} {p : Option Addr} {l c : Nat} {xs : List Acc} (h : Rd w0 wr b g br m N p l c xs) (hc : MemIs w3 b2 g2 m) (hb2 : wr.heap.size ≤ b2) (hg2 : wr.heap.size ≤ g2) (hb : Below wr.heap.size wr w3) : Pc w0 (w3.alloc (.cells #[.int .i64 N, .slice p l c] 29)) b g br b2 g2 w3.heap.size m N p l c xs := by
  have b1 := (Below.refl w3.heap.size w3).alloc (Nat.le_refl _) (.cells #[.int .i64 N, .slice p l c] 29)
  exact ⟨(h.on hb).on b1, hc.on b1, Row.new w3 _ [.int .i64 N, .slice p l c], pc_ne h hb2 hg2 hb.size⟩
theorem pc_ahead {w0 wr w3 : World} {b g br b2 g2 tb : Nat} {m : PM} {N : Nat} {p : Option Addr} {l c : Nat} {xs : List Acc} {u v : Value} (h : Rd w0 wr b g br m N p l c xs) (hc : MemIs w3 b2 g2 m) (hb2 : tb < b2) (hg2 : tb < g2) (hb : Below wr.heap.size wr w3) (htb : wr.heap.size ≤ tb) (hr : Row tb 29 [u, v] w3) : Pc w0 ((w3.setCell ⟨tb, 0, none⟩ (.int .i64 N)).setCell ⟨tb, 1, none⟩ (.slice p l c)) b g br b2 g2 tb m N p l c xs := by
  have t1 : Tch (fun j => j = tb) w3 ((w3.setCell ⟨tb, 0, none⟩ (.int .i64 N)).setCell ⟨tb, 1, none⟩ (.slice p l c)) := ((Tch.refl (fun j => j = tb) w3).setCell (p := ⟨tb, 0, none⟩) (.inl rfl) _).setCell (p := ⟨tb, 1, none⟩) (.inl rfl) _
  have hbe : Below wr.heap.size wr ((w3.setCell ⟨tb, 0, none⟩ (.int .i64 N)).setCell ⟨tb, 1, none⟩ (.slice p l c)) := (hb.setCell (p := ⟨tb, 0, none⟩) htb _).setCell (p := ⟨tb, 1, none⟩) htb _
  exact ⟨h.on hbe, hc.tch t1 (by omega) (by omega), hr.put2 _ _, pc_ne h (by omega) (by omega) htb⟩
/-- behind does: the new row in its box, the copy and the row as it was -/
structure Pd (w0 W : World) (b g br b2 g2 tb t2 : Nat) (m m2 : PM) (N : Nat) (p q : Option Addr) (l c l2 c2 : Nat) (xs ys : List Acc) : Prop where
  rf : Rf w0 W b g br t2 m2 N p q l c l2 c2 ys
  old : Pair W b2 g2 m N p l c xs
  was : Row tb 29 [.int .i64 N, .slice p l c] W
  ne : b2 ≠ br ∧ g2 ≠ br ∧ tb ≠ br
/-- behind the memory's call alone -/
structure Po (w3 : World) (b2 g2 tb : Nat) (m : PM) (N : Nat) (p : Option Addr) (l c : Nat) (xs : List Acc) : Prop where
  old : Pair w3 b2 g2 m N p l c xs
  was : Row tb 29 [.int .i64 N, .slice p l c] w3
theorem Pc.does {w0 wc w2 w3 : World} {b g br b2 g2 tb : Nat} {m : PM} {N : Nat} {p : Option Addr} {l c : Nat} {xs : List Acc} (h : Pc w0 wc b g br b2 g2 tb m N p l c xs) (hb : Below wc.heap.size wc w2) (ht : Tch (Own b g) w2 w3) : Po w3 b2 g2 tb m N p l c xs := by
  have h2 := h.rd.on hb
  exact ⟨⟨(h.cp.on hb).tch ht h.ne.1 h.ne.2.1, h.rd.pr.tie, h2.pr.bk.tch ht (h2.pr.bk.far h2.pr.mem)⟩, (h.was.on' hb).tch ht h.ne.2.2.1⟩
theorem Po.alloc {w3 : World} {b2 g2 tb : Nat} {m : PM} {N : Nat} {p : Option Addr} {l c : Nat} {xs : List Acc} (h : Po w3 b2 g2 tb m N p l c xs) (o : Obj) : Po (w3.alloc o) b2 g2 tb m N p l c xs := by
  have b1 := (Below.refl w3.heap.size w3).alloc (Nat.le_refl _) o
  exact ⟨h.old.on b1, h.was.on' b1⟩
theorem Po.set2 {w3 : World} {b2 g2 tb t2 : Nat} {m : PM} {N : Nat} {p : Option Addr} {l c : Nat} {xs : List Acc} {x y : Value} (h : Po w3 b2 g2 tb m N p l c xs) (hr : Row t2 29 [x, y] w3) (hne : b2 ≠ t2 ∧ g2 ≠ t2 ∧ tb ≠ t2) (u v : Value) : Po ((w3.setCell ⟨t2, 0, none⟩ u).setCell ⟨t2, 1, none⟩ v) b2 g2 tb m N p l c xs := by
  have t1 : Tch (fun j => j = t2) w3 ((w3.setCell ⟨t2, 0, none⟩ u).setCell ⟨t2, 1, none⟩ v) := ((Tch.refl (fun j => j = t2) w3).setCell (p := ⟨t2, 0, none⟩) (.inl rfl) _).setCell (p := ⟨t2, 1, none⟩) (.inl rfl) _
  exact ⟨⟨h.old.mem.tch t1 hne.1 hne.2.1, h.old.tie, (h.old.bk.put hr (by simp) _).put (hr.set 0 u) (by simp) _⟩, h.was.tch t1 hne.2.2⟩
/-- behind the store: all that is compared -/
structure Pe (w0 W : World) (b g br b2 g2 tb : Nat) (m m2 : PM) (N : Nat) (p q : Option Addr) (l c l2 c2 : Nat) (xs ys : List Acc) : Prop where
  rd : Rd w0 W b g br m2 N q l2 c2 ys
  po : Po W b2 g2 tb m N p l c xs
theorem Pd.put {w0 W : World} {b g br b2 g2 tb t2 : Nat} {m m2 : PM} {N : Nat} {p q : Option Addr} {l c l2 c2 : Nat} {xs ys : List Acc} (h : Pd w0 W b g br b2 g2 tb t2 m m2 N p q l c l2 c2 xs ys) : Pe w0 ((W.setCell ⟨br, 0, none⟩ (.int .i64 N)).setCell ⟨br, 1, none⟩ (.slice q l2 c2)) b g br b2 g2 tb m m2 N p q l c l2 c2 xs ys :=
  ⟨h.rf.put, Po.set2 ⟨h.old, h.was⟩ h.rf.box h.ne _ _⟩
theorem Pe.on {w0 W W' : World} {b g br b2 g2 tb : Nat} {m m2 : PM} {N : Nat} {p q : Option Addr} {l c l2 c2 : Nat} {xs ys : List Acc} (h : Pe w0 W b g br b2 g2 tb m m2 N p q l c l2 c2 xs ys) (hb : Below W.heap.size W W') : Pe w0 W' b g br b2 g2 tb m m2 N p q l c l2 c2 xs ys :=
  ⟨h.rd.on hb, ⟨h.po.old.on hb, h.po.was.on' hb⟩⟩

theorem pd_after {w0 w3 : World} {b g br b2 g2 tb : Nat} {m m2 : PM} {N : Nat} {p q : Option Addr} {l c l2 c2 : Nat} {xs ys : List Acc} (hp : Pair w3 b g m2 N q l2 c2 ys) (hr : Row br 29 [.int .i64 N, .slice p l c] w3) (hb : Below w0.heap.size w0 w3) (h : w0.heap.size ≤ b ∧ w0.heap.size ≤ g ∧ w0.heap.size ≤ br ∧ ¬ Own b g br) (ho : Po w3 b2 g2 tb m N p l c xs) (hne : ¬ Own b g b2 ∧ ¬ Own b g g2 ∧ ¬ Own b g tb ∧ b2 ≠ br ∧ g2 ≠ br ∧ tb ≠ br) :
    Pd w0 (w3.alloc (.cells #[.int .i64 N, .slice q l2 c2] 29)) b g br b2 g2 tb w3.heap.size m m2 N p q l c l2 c2 xs ys :=
  ⟨rf_after (wr := w3) (w2 := w3) hp hr hb h, (ho.alloc _).old, (ho.alloc _).was, hne.2.2.2⟩
theorem pd_ahead {w0 w3 : World} {b g br b2 g2 tb t2 : Nat} {m m2 : PM} {N : Nat} {p q : Option Addr} {l c l2 c2 : Nat} {xs ys : List Acc} {u v : Value} (hp : Pair w3 b g m2 N q l2 c2 ys) (hr : Row br 29 [.int .i64 N, .slice p l c] w3) (hb : Below w0.heap.size w0 w3) (h : w0.heap.size ≤ b ∧ w0.heap.size ≤ g ∧ w0.heap.size ≤ br ∧ ¬ Own b g br) (htb : Row t2 29 [u, v] w3) (hn : t2 ≠ br ∧ ¬ Own b g t2) (hge : w0.heap.size ≤ t2) (ho : Po w3 b2 g2 tb m N p l c xs) (hne : ¬ Own b g b2 ∧ ¬ Own b g g2 ∧ ¬ Own b g tb ∧ b2 ≠ br ∧ g2 ≠ br ∧ tb ≠ br) (h2 : b2 ≠ t2 ∧ g2 ≠ t2 ∧ tb ≠ t2) :
    Pd w0 ((w3.setCell ⟨t2, 0, none⟩ (.int .i64 N)).setCell ⟨t2, 1, none⟩ (.slice q l2 c2)) b g br b2 g2 tb t2 m m2 N p q l c l2 c2 xs ys :=
  ⟨rf_ahead (wr := w3) hp hr hb h htb hn hge, (ho.set2 htb h2 _ _).old, (ho.set2 htb h2 _ _).was, hne.2.2.2⟩
/-- the last access, or none -/
theorem last_any {b g : Nat} {m : PM} {N : Nat} {xs : List Acc} {w : World} (h : MemIs w b g m) (ht : Tied m N xs) : Calls Try.prog 14 #[.pointer (some ⟨b, 0, none⟩)] w (fun e w' => ∃ ek ea eo en, e = .returned (.tuple #[.agg #[.int .i64 ek, .int .i64 ea, .int .u64 eo, .int .u64 en], .bool (decide (0 < xs.length))]) ∧ (0 < xs.length → xs.getD (xs.length - 1) default = ⟨ek, ea, eo, en⟩) ∧ Below w.heap.size w w') := by
  rcases Nat.eq_zero_or_pos xs.length with h0 | h0
  · refine (last_none h (by rw [ht.ops]; exact h0)).mono ?_
    rintro e w' ⟨rfl, hb⟩
    exact ⟨0, 0, 0, 0, by rw [h0]; rfl, by omega, hb⟩
  · obtain ⟨x, hx⟩ : ∃ x, m.L.getD ((m.k.ops - 1) % 256) default = x := ⟨_, rfl⟩
    refine (last_some h (by rw [ht.ops]; exact h0) hx).mono ?_
    rintro e w' ⟨rfl, hb⟩
    obtain ⟨ek, ea, eo, en⟩ := x
    refine ⟨ek, ea, eo, en, by rw [decide_eq_true h0]; rfl, fun _ => ?_, hb⟩
    rw [← hx, ht.ops]
    exact (ht.log _ (by omega) (by omega)).symm

set_option maxRecDepth 20000 in
set_option maxHeartbeats 8000000 in
theorem plays_short (n : Int) (N : Nat) (hN : nN n = N) (h40 : n ≤ 40) (pa : Option Addr) (ca : Nat) (l0 : List Acc) (w : World) (hl : LiesA w pa l0) (hll : l0.length ≤ 60) (hcap : l0.length ≤ ca) :
    Calls Try.prog 3 #[.int .i64 n, .slice pa l0.length ca] w (Ans (.bool true) w) := by
  have HL := Lib.hid hl
  obtain ⟨la, hla⟩ : ∃ k, l0.length = k := ⟨_, rfl⟩
  have HLA := Lib.hid (And.intro hla (by rw [hla] at hll; exact hll))
  rw [hla] at hll hcap ⊢
  have z1 : ¬ (60 < (la : Int)) := by omega
  have z3 : ¬ (40 < n) := by omega
  have y1 : decide (60 < (la : Int)) = false := decide_eq_false z1
  have y3 : decide (40 < n) = false := decide_eq_false z3
  have y4 : decide (60 < la) = false := decide_eq_false (by omega)
  have HNN := Lib.hid hN
  have HN40 : Hid (N ≤ 40) := by show _ ≤ _; unfold nN at hN; omega
  have HCap := Lib.hid hcap
  clear hl hla hll hN h40 z1 z3 hcap
  go_enter Try.func3, Try.ntmps3
  go_wp2_with fail
  refine (new_any n N HNN.out w).mono ?_
  rintro e w1 ⟨b, g, rfl, hm1, hb1, hg1, hbe1⟩
  have HM1 := Lib.hid hm1
  have HB1 := Lib.hid hbe1
  have HBG := Lib.hid (And.intro hb1 hg1)
  clear hm1 hb1 hg1 hbe1
  go_wp2_with fail
  have hbook := book_any n w1
  rw [HNN.out] at hbook
  refine hbook.mono ?_
  rintro e w2 ⟨rfl, hb2⟩
  have HRd : Hid (Rd w (w2.alloc (.cells #[.int .i64 N, .slice none 0 0] 29)) b g w2.heap.size (PM.new N) N none 0 0 []) := by
    have c1 := (Below.refl w2.heap.size w2).alloc (Nat.le_refl _) (.cells #[.int .i64 N, .slice none 0 0] 29)
    have c2 := hb2.trans (c1.mono hb2.size)
    exact ⟨⟨HM1.out.on c2, Tied.new N, .nil _⟩, Row.new w2 _ [.int .i64 N, .slice none 0 0], HB1.out.trans (c2.mono HB1.out.size), HBG.out.1, HBG.out.2, by have := HB1.out.size; have := hb2.size; omega⟩
  clear hb2 hbook
  go_upto_region 6 with (fail)
  obtain ⟨W, hW⟩ : ∃ W, w2.alloc (.cells #[.int .i64 N, .slice none 0 0] 29) = W := ⟨_, rfl⟩
  obtain ⟨br, hbr⟩ : ∃ br, w2.heap.size = br := ⟨_, rfl⟩
  rw [hW, hbr] at HRd
  rw [hW, hbr]
  clear hW hbr
  go_wp2_with fail
  go_loopw [7] (fun vi wr => ∃ i : Nat, i ≤ la ∧ vi = .int .i64 i ∧ ∃ p l c, Hid (Rd w wr b g br (runM (PM.new N) (l0.take i)) N p l c (runX N [] (l0.take i)))) (fun vi _ => la - (intOf vi).toNat)
  case atStart => exact ⟨0, by omega, rfl, none, 0, 0, HRd⟩
  case round =>
    clear HRd HM1 HB1
    obtain ⟨i, hi, rfl, p, l, c, HR⟩ := hrel
    by_cases hlt : i < la
    · have hil : i < l0.length := by rw [HLA.out.1]; exact hlt
      obtain ⟨m, hm⟩ : ∃ m, runM (PM.new N) (l0.take i) = m := ⟨_, rfl⟩
      obtain ⟨xs, hxs⟩ : ∃ xs, runX N [] (l0.take i) = xs := ⟨_, rfl⟩
      have hxl : xs.length ≤ i := by have := runX_len N [] (l0.take i); rw [hxs, List.length_take] at this; simp at this; omega
      have HMX := Lib.hid (And.intro hm hxs)
      rw [hm, hxs] at HR
      have HXl := Lib.hid hxl
      clear hm hxs hxl
      have r0 := HR.out.box.cell 0
      have r1 := HR.out.box.cell 1
      simp only [List.getElem?_cons_zero, List.getElem?_cons_succ] at r0 r1
      go_wp2_with fail
      go_cut [8, 9] (fun v8 v9 wx => ∃ b2 g2 tb, v8 = .pointer (some ⟨b2, 0, none⟩) ∧ v9 = .pointer (some ⟨tb, 0, none⟩) ∧ Hid (Pc w wx b g br b2 g2 tb m N p l c xs))
      case first =>
        have HCp : Hid (∀ w2, Below wr.heap.size wr w2 → Calls Try.prog 12 #[.pointer (some ⟨b, 0, none⟩)] w2 (CopyPost m w2)) := fun w2 hb => copy_any (HR.out.pr.mem.on hb)
        have HTbd : Hid (Row wr.heap.size 29 [.int .i64 0, .slice none 0 0] (wr.alloc (.cells #[.int .i64 0, .slice none 0 0] 29)).drew) := Row.new wr 29 [.int .i64 0, .slice none 0 0]
        have HBd : Hid (Below wr.heap.size wr wr.drew) := (Below.refl _ _).drew
        have HBa : Hid (Below wr.heap.size wr (wr.alloc (.cells #[.int .i64 0, .slice none 0 0] 29)).drew) := ((Below.refl _ _).alloc (Nat.le_refl _) _).drew
        have HCell : Hid (∀ w2, Below wr.heap.size wr w2 → w2.cell? ⟨br, 0, none⟩ = some (.int .i64 N) ∧ w2.cell? ⟨br, 1, none⟩ = some (.slice p l c)) := fun w2 hb => ⟨(HR.out.box.on' hb).cell 0, (HR.out.box.on' hb).cell 1⟩
        have HSz : Hid (∀ o, ((wr.alloc o).drew).heap.size = wr.heap.size + 1) := fun o => by simp
        clear r0 r1
        go_region_held3 (fun w' => w'.cell? ⟨br, 0, none⟩ = some (.int .i64 N) ∧ w'.cell? ⟨br, 1, none⟩ = some (.slice p l c))
          (first | (with_reducible exact HCell.out _ HBd.out) | (with_reducible exact HCell.out _ HBa.out) | (with_reducible exact HCell.out _ HB3.out) | (with_reducible exact HCell.out _ (HB3.out.alloc HB3.out.size _)) | (with_reducible exact HCell.out _ ((HB3.out.setCell (p := ⟨wr.heap.size, 0, none⟩) (Nat.le_refl _) _).setCell (p := ⟨wr.heap.size, 1, none⟩) (Nat.le_refl _) _)))
          (first | (go_at_call 12; first
            | ((with_reducible refine (HCp.out _ HBd.out).mono ?_); rintro e w3 ⟨b2, g2, rfl, hm3, hb3, hg3, hbe3⟩; have HB3 := Lib.hid (HBd.out.trans (hbe3.mono HBd.out.size)); have HC3 := Lib.hid (show MemIs w3 b2 g2 m ∧ wr.heap.size ≤ b2 ∧ wr.heap.size ≤ g2 from ⟨hm3, hb3, hg3⟩); clear hm3 hb3 hg3 hbe3)
            | ((with_reducible refine (HCp.out _ HBa.out).mono ?_); rintro e w3 ⟨b2, g2, rfl, hm3, hb3, hg3, hbe3⟩; have HB3 := Lib.hid (HBa.out.trans (hbe3.mono HBa.out.size)); have htb := HTbd.out.on' hbe3; have d0 := htb.cell 0; have d1 := htb.cell 1; have f0 := htb.frozen 0; have f1 := htb.frozen 1; simp only [List.getElem?_cons_zero, List.getElem?_cons_succ] at d0 d1; have HTB3 := Lib.hid htb; rw [HSz.out] at hb3 hg3; have HC3 := Lib.hid (show MemIs w3 b2 g2 m ∧ wr.heap.size < b2 ∧ wr.heap.size < g2 from ⟨hm3, hb3, hg3⟩); clear hm3 hb3 hg3 hbe3 htb)))
        all_goals
          go_wp2_with fail
          go_meet
          first
            | with_reducible exact ⟨b2, g2, _, rfl, rfl, Lib.hid (pc_after HR.out HC3.out.1 HC3.out.2.1 HC3.out.2.2 HB3.out)⟩
            | with_reducible exact ⟨b2, g2, _, rfl, rfl, Lib.hid (pc_ahead HR.out HC3.out.1 HC3.out.2.1 HC3.out.2.2 HB3.out (Nat.le_refl _) HTB3.out)⟩
      case rest =>
        clear HR r0 r1
        obtain ⟨b2, g2, tb, rfl, rfl, HP⟩ := hcut
        obtain ⟨ab, ao, rfl, e0, e1, e2, e3⟩ := HL.out.at hil
        have hab : ab < w.heap.size := block_lt_of_cell e0
        obtain ⟨x, hx⟩ : ∃ x, l0.getD i default = x := ⟨_, rfl⟩
        rw [hx] at e0 e1 e2 e3
        have hm2 := run_take (PM.new N) l0 i hil
        have hx2 := runX_take N [] l0 i hil
        rw [HMX.out.1, hx] at hm2
        rw [HMX.out.2, hx] at hx2
        have hbel := HP.out.rd.bel
        have HK0 : Hid (K6 br ab (ao + i * 4) N p l c x wc) := ⟨HP.out.rd.box.cell 0, HP.out.rd.box.cell 1, by rw [hbel.cell hab]; exact e0, by rw [hbel.cell hab]; exact e1, by rw [hbel.cell hab]; exact e2, by rw [hbel.cell hab]; exact e3⟩
        have hlen : l = xs.length := HP.out.rd.pr.bk.len
        have hxl := HXl.out
        have HDoes := Lib.hid (does_round HP.out.rd HK0.out hab (by have := HLA.out.2; omega) (by rw [HP.out.rd.pr.tie.ops]; have := HLA.out.2; omega))
        obtain ⟨m2, hm2'⟩ : ∃ m2, m.go x.k x.a x.o x.n = m2 := ⟨_, rfl⟩
        obtain ⟨ys, hys⟩ : ∃ ys, doL N xs x.k x.a x.o x.n = ys := ⟨_, rfl⟩
        have hyl : ys.length ≤ i + 1 := by have := doL_len N xs x.k x.a x.o x.n; rw [hys] at this; omega
        rw [hm2'] at hm2
        rw [hys] at hx2
        have HMY := Lib.hid (And.intro hm2' hys)
        have HX2 := Lib.hid (And.intro hm2 hx2)
        have HYl := Lib.hid hyl
        have i2 : (i : Int) < (la : Int) := by omega
        have hwi : IntKind.i64.wrap ((i : Int) + 1) = (i : Int) + 1 := IntWalk.i64_in _ (by have := HLA.out.2; omega)
        have HK := Lib.hid hlt
        have HAb := Lib.hid hab
        have HNot := Lib.hid (show ab < wc.heap.size ∧ br < wc.heap.size ∧ b < wc.heap.size ∧ g < wc.heap.size ∧ b2 < wc.heap.size ∧ g2 < wc.heap.size ∧ tb < wc.heap.size ∧ w.heap.size ≤ wc.heap.size from by
          have h1 := hbel.size
          have h2 := HP.out.rd.box.lt
          have h3 := HP.out.rd.pr.mem.lt
          have h4 := HP.out.cp.lt
          have h5 := HP.out.was.lt
          omega)
        have HGe := Lib.hid (show w.heap.size ≤ b ∧ w.heap.size ≤ g ∧ w.heap.size ≤ br ∧ ¬ Own b g br from ⟨HP.out.rd.hb, HP.out.rd.hg, HP.out.rd.hr, HP.out.rd.ne⟩)
        clear hm2 hx2 hm2' hys hyl hlen hxl hbel hab hx e0 e1 e2 e3 hlt hil hi
        go_upto_region 10 with (fail)
        go_cut [10, 11] (fun v10 v11 wx => ∃ t2 q l2 c2, v10 = .pointer (some ⟨t2, 0, none⟩) ∧ v11 = .bool true ∧ Hid (Pd w wx b g br b2 g2 tb t2 m m2 N p q l c l2 c2 xs ys))
        case first =>
          have HBd : Hid (Below wc.heap.size wc wc.drew) := (Below.refl _ _).drew
          have HBa : Hid (Below wc.heap.size wc (wc.alloc (.cells #[.int .i64 0, .slice none 0 0] 29)).drew) := ((Below.refl _ _).alloc (Nat.le_refl _) _).drew
          have HTbd : Hid (Row wc.heap.size 29 [.int .i64 0, .slice none 0 0] (wc.alloc (.cells #[.int .i64 0, .slice none 0 0] 29)).drew) := Row.new wc 29 [.int .i64 0, .slice none 0 0]
          have HKon : Hid (∀ W, Below wc.heap.size wc W → (W).cell? ⟨br, 0, none⟩ = some (.int .i64 N) ∧ (W).cell? ⟨br, 1, none⟩ = some (.slice p l c) ∧ (W).cell? ⟨ab, ao + i * 4, none⟩ = some (.int .i64 x.k) ∧ (W).cell? ⟨ab, ao + i * 4 + 1, none⟩ = some (.int .i64 x.a) ∧ (W).cell? ⟨ab, ao + i * 4 + 2, none⟩ = some (.int .u64 x.o) ∧ (W).cell? ⟨ab, ao + i * 4 + 3, none⟩ = some (.int .u64 x.n)) := fun W hb => HK0.out.on hb
          have HOwnT : Hid (wc.heap.size ≠ br ∧ ¬ Own b g wc.heap.size) := ⟨by have := HNot.out; omega, fun e => by have := HNot.out; rcases e with e | e <;> omega⟩
          go_region_held3 (fun w' => w'.cell? ⟨br, 0, none⟩ = some (.int .i64 N) ∧ w'.cell? ⟨br, 1, none⟩ = some (.slice p l c) ∧ w'.cell? ⟨ab, ao + i * 4, none⟩ = some (.int .i64 x.k) ∧ w'.cell? ⟨ab, ao + i * 4 + 1, none⟩ = some (.int .i64 x.a) ∧ w'.cell? ⟨ab, ao + i * 4 + 2, none⟩ = some (.int .u64 x.o) ∧ w'.cell? ⟨ab, ao + i * 4 + 3, none⟩ = some (.int .u64 x.n))
            (first | (with_reducible exact HKon.out _ HBd.out) | (with_reducible exact HKon.out _ HBa.out) | (with_reducible exact HK2.out _ (Below.refl _ _)) | (with_reducible exact HK2.out _ ((Below.refl _ _).alloc (Nat.le_refl _) _)) | (with_reducible exact HS2.out _ _))
            (first | (go_at_call 13; first
              | ((with_reducible refine (HDoes.out _ HBd.out).mono ?_); rintro e w3 ⟨q, l2, c2, rfl, hk3, ht3, hp3, hr3, hbe3⟩; rw [HMY.out.1, HMY.out.2] at hp3; have HPo := Lib.hid (HP.out.does HBd.out ht3); have HP3 := Lib.hid hp3; have HR3 := Lib.hid hr3; have HBE3 := Lib.hid hbe3; have HK2 : Hid (∀ W, Below w3.heap.size w3 W → (W).cell? ⟨br, 0, none⟩ = some (.int .i64 N) ∧ (W).cell? ⟨br, 1, none⟩ = some (.slice p l c) ∧ (W).cell? ⟨ab, ao + i * 4, none⟩ = some (.int .i64 x.k) ∧ (W).cell? ⟨ab, ao + i * 4 + 1, none⟩ = some (.int .i64 x.a) ∧ (W).cell? ⟨ab, ao + i * 4 + 2, none⟩ = some (.int .u64 x.o) ∧ (W).cell? ⟨ab, ao + i * 4 + 3, none⟩ = some (.int .u64 x.n)) := (fun W hb => hk3.on hb); clear hk3 ht3 hp3 hr3 hbe3)
              | ((with_reducible refine (HDoes.out _ HBa.out).mono ?_); rintro e w3 ⟨q, l2, c2, rfl, hk3, ht3, hp3, hr3, hbe3⟩; rw [HMY.out.1, HMY.out.2] at hp3; have HPo := Lib.hid (HP.out.does HBa.out ht3); have HP3 := Lib.hid hp3; have HR3 := Lib.hid hr3; have HBE3 := Lib.hid hbe3; have HK2 : Hid (∀ W, Below w3.heap.size w3 W → (W).cell? ⟨br, 0, none⟩ = some (.int .i64 N) ∧ (W).cell? ⟨br, 1, none⟩ = some (.slice p l c) ∧ (W).cell? ⟨ab, ao + i * 4, none⟩ = some (.int .i64 x.k) ∧ (W).cell? ⟨ab, ao + i * 4 + 1, none⟩ = some (.int .i64 x.a) ∧ (W).cell? ⟨ab, ao + i * 4 + 2, none⟩ = some (.int .u64 x.o) ∧ (W).cell? ⟨ab, ao + i * 4 + 3, none⟩ = some (.int .u64 x.n)) := (fun W hb => hk3.on hb); have HS2 : Hid (∀ u v, ((w3.setCell ⟨wc.heap.size, 0, none⟩ u).setCell ⟨wc.heap.size, 1, none⟩ v).cell? ⟨br, 0, none⟩ = some (.int .i64 N) ∧ ((w3.setCell ⟨wc.heap.size, 0, none⟩ u).setCell ⟨wc.heap.size, 1, none⟩ v).cell? ⟨br, 1, none⟩ = some (.slice p l c) ∧ ((w3.setCell ⟨wc.heap.size, 0, none⟩ u).setCell ⟨wc.heap.size, 1, none⟩ v).cell? ⟨ab, ao + i * 4, none⟩ = some (.int .i64 x.k) ∧ ((w3.setCell ⟨wc.heap.size, 0, none⟩ u).setCell ⟨wc.heap.size, 1, none⟩ v).cell? ⟨ab, ao + i * 4 + 1, none⟩ = some (.int .i64 x.a) ∧ ((w3.setCell ⟨wc.heap.size, 0, none⟩ u).setCell ⟨wc.heap.size, 1, none⟩ v).cell? ⟨ab, ao + i * 4 + 2, none⟩ = some (.int .u64 x.o) ∧ ((w3.setCell ⟨wc.heap.size, 0, none⟩ u).setCell ⟨wc.heap.size, 1, none⟩ v).cell? ⟨ab, ao + i * 4 + 3, none⟩ = some (.int .u64 x.n)) := (fun u v => hk3.set2 (by have := HNot.out; omega) (by have := HNot.out; omega) u v); have htb := HTbd.out.tch ht3 HOwnT.out.2; have d0 := htb.cell 0; have d1 := htb.cell 1; have f0 := htb.frozen 0; have f1 := htb.frozen 1; simp only [List.getElem?_cons_zero, List.getElem?_cons_succ] at d0 d1; have HTB3 := Lib.hid htb; clear hk3 ht3 hp3 hr3 hbe3 htb)))
          all_goals
            go_wp2_with fail
            go_meet
            first
              | with_reducible exact ⟨_, q, l2, c2, rfl, rfl, Lib.hid (pd_after HP3.out HR3.out HBE3.out HGe.out HPo.out HP.out.ne)⟩
              | with_reducible exact ⟨_, q, l2, c2, rfl, rfl, Lib.hid (pd_ahead HP3.out HR3.out HBE3.out HGe.out HTB3.out HOwnT.out HNot.out.2.2.2.2.2.2.2 HPo.out HP.out.ne (by have := HNot.out; omega))⟩
        case rest =>
          clear HP HDoes HK0 HNot
          obtain ⟨t2, q, l2, c2, rfl, rfl, HD⟩ := hcut
          have HPe := Lib.hid HD.out.put
          have s0 := HD.out.rf.res.cell 0
          have s1 := HD.out.rf.res.cell 1
          have k0 := HD.out.rf.box.cell 0
          have k1 := HD.out.rf.box.cell 1
          have j0 := HD.out.rf.box.frozen 0
          have j1 := HD.out.rf.box.frozen 1
          simp only [List.getElem?_cons_zero, List.getElem?_cons_succ] at s0 s1 k0 k1
          go_upto_region 12 with (fail)
          obtain ⟨W2, hW2⟩ : ∃ W2, (wc.setCell ⟨br, 0, none⟩ (.int .i64 N)).setCell ⟨br, 1, none⟩ (.slice q l2 c2) = W2 := ⟨_, rfl⟩
          rw [hW2] at HPe
          rw [hW2]
          clear hW2 s0 s1 k0 k1 j0 j1 HD
          go_wp2_with fail
          refine (last_any HPe.out.rd.pr.mem HPe.out.rd.pr.tie).mono ?_
          rintro e w4 ⟨ek, ea, eo, en, rfl, hX, hb4⟩
          have HX := Lib.hid hX
          obtain ⟨sm, hsm⟩ : ∃ sm, decide (0 < ys.length) = sm := ⟨_, rfl⟩
          rw [hsm]
          have HSm := Lib.hid hsm
          have hb5 := (Below.refl w4.heap.size w4).alloc (Nat.le_refl _) (.cells #[.int .i64 ek, .int .i64 ea, .int .u64 eo, .int .u64 en] 38)
          have HPe5 := Lib.hid ((HPe.out.on hb4).on hb5)
          have HLs := Lib.hid (Row.new w4 38 [.int .i64 ek, .int .i64 ea, .int .u64 eo, .int .u64 en])
          clear HPe hX hsm hb4 hb5
          go_upto_region 13 with (fail)
          obtain ⟨W5, hW5⟩ : ∃ W5, w4.alloc (.cells #[.int .i64 ek, .int .i64 ea, .int .u64 eo, .int .u64 en] 38) = W5 := ⟨_, rfl⟩
          obtain ⟨lb, hlb⟩ : ∃ lb, w4.heap.size = lb := ⟨_, rfl⟩
          rw [hW5] at HPe5 HLs
          rw [hlb] at HLs
          rw [hW5, hlb]
          clear hW5 hlb
          have HMs : Hid (Calls Try.prog 15 #[.pointer (some ⟨b, 0, none⟩), .int .i64 n, .slice (some ⟨ab, ao, none⟩) (i + 1) ca] W5 (Ans (.bool true) W5)) := by
            have hlen : (l0.take (i + 1)).length = i + 1 := by rw [List.length_take]; have := HLA.out.1; have := HK.out; omega
            have := mems_any n N HNN.out (by have := HN40.out; omega) (some ⟨ab, ao, none⟩) ca (l0.take (i + 1)) W5 (((HL.out.on HPe5.out.rd.bel)).take (i + 1)) (by rw [hlen]; have := HLA.out.2; have := HK.out; omega) (b := b) (g := g) (by rw [HX2.out.1]; exact HPe5.out.rd.pr.mem)
            rw [hlen] at this
            exact this
          have zz5 : (i : Int) + 1 ≤ (ca : Int) := by have := HK.out; have := HCap.out; omega
          have zz6 : i + 1 ≤ ca := by omega
          have zz7 : (0 : Int) ≤ (i : Int) + 1 := by omega
          go_wp2_with fail
          refine HMs.out.mono ?_
          rintro e w6 ⟨rfl, hb6⟩
          have HPe6 := Lib.hid (HPe5.out.on hb6)
          have HLs6 := Lib.hid (HLs.out.on' hb6)
          clear HPe5 HLs HMs zz5 zz6 zz7 hb6
          have k0 := HPe6.out.rd.box.cell 0
          have k1 := HPe6.out.rd.box.cell 1
          have t0 := HPe6.out.po.was.cell 0
          have t1 := HPe6.out.po.was.cell 1
          have s0 := HLs6.out.cell 0
          have s1 := HLs6.out.cell 1
          have s2 := HLs6.out.cell 2
          have s3 := HLs6.out.cell 3
          simp only [List.getElem?_cons_zero, List.getElem?_cons_succ] at k0 k1 t0 t1 s0 s1 s2 s3
          have x0 := cell_regrown k0
          have x1 := cell_regrown k1
          have x2 := cell_regrown t0
          have x3 := cell_regrown t1
          have x4 := cell_regrown s0
          have x5 := cell_regrown s1
          have x6 := cell_regrown s2
          have x7 := cell_regrown s3
          have cB1 : Hid (∀ d os, Calls Try.prog 16 #[.pointer (some ⟨b, 0, none⟩), .agg #[.int .i64 N, .slice q l2 c2]] (Sort.grow (redrawn w6 d) os) fun e w' => e = .returned (.bool true) ∧ ∃ p : Regrown, w' = Sort.grow (redrawn w6 p.d) p.os) := fun d os => Calls.regrown_of (samebook_any _ (HPe6.out.rd.pr.on (below_regrown w6 d os)))
          have cB2 : Hid (∀ d os, Calls Try.prog 16 #[.pointer (some ⟨b2, 0, none⟩), .agg #[.int .i64 N, .slice p l c]] (Sort.grow (redrawn w6 d) os) fun e w' => e = .returned (.bool true) ∧ ∃ p : Regrown, w' = Sort.grow (redrawn w6 p.d) p.os) := fun d os => Calls.regrown_of (samebook_any _ (HPe6.out.po.old.on (below_regrown w6 d os)))
          have cAc : Hid (∀ d os, Calls Try.prog 17 #[.agg #[.int .i64 ek, .int .i64 ea, .int .u64 eo, .int .u64 en]] (Sort.grow (redrawn w6 d) os) fun e w' => e = .returned (.agg #[.int .i64 ek, .int .i64 ea, .int .u64 eo, .int .u64 en]) ∧ ∃ p : Regrown, w' = Sort.grow (redrawn w6 p.d) p.os) := fun d os => Calls.regrown_of (dacc_any ⟨ek, ea, eo, en⟩ _)
          have hlen : l2 = ys.length := HPe6.out.rd.pr.bk.len
          cases sm with
          | false =>
            have hz : l2 = 0 := by have := HSm.out; simp at this; rw [hlen, this]; rfl
            subst hz
            clear hlen k0 k1 t0 t1 s0 s1 s2 s3 HX HSm
            go_upto_region 15 with (fail)
            refine wp_region_quiet_below (by kernel_rfl) (by kernel_rfl) ?_
            repeat (go_big_quiet_step (first | (with_reducible exact cB1.out _ _) | (with_reducible exact cB2.out _ _) | (with_reducible exact cAc.out _ _)))
            refine wpQuiet_nil ?_
            intro W7 hw'
            obtain ⟨⟨dq, osq⟩, hw2⟩ := hw'
            have HR7 := Lib.hid (show Rd w W7 b g br m2 N q 0 c2 ys by rw [hw2]; exact HPe6.out.rd.on (below_regrown w6 dq osq))
            clear hw2 x0 x1 x2 x3 x4 x5 x6 x7 HPe6 HLs6 cB1 cB2 cAc
            go_wp2_with fail
            go_roundw
            case rel => exact ⟨i + 1, HK.out, by go_num, q, 0, c2, by show Rd _ _ _ _ _ _ _ _ _ _ _; rw [HX2.out.1, HX2.out.2]; exact HR7.out⟩
            case measure =>
              show _ < _
              have := HK.out
              simp only [intOf]; omega
          | true =>
            have hpos : 0 < ys.length := of_decide_eq_true HSm.out
            obtain ⟨lm, hlm⟩ : ∃ lm, l2 - 1 = lm := ⟨_, rfl⟩
            have hlm2 : ys.length - 1 = lm := by omega
            obtain ⟨qb, qo, rfl, d0, d1, d2, d3⟩ := HPe6.out.rd.pr.bk.lies.at (i := lm) (by omega)
            have hgx := HX.out hpos
            rw [hlm2] at hgx
            rw [hgx] at d0 d1 d2 d3
            have hw1 : IntKind.i64.wrap ((l2 : Int) - 1) = (lm : Int) := by rw [IntWalk.i64_in _ (by have := HPe6.out.rd.pr.bk.lm; omega)]; omega
            have hl1 : lm < l2 := by omega
            have hl2 : (lm : Int) < (l2 : Int) := by omega
            have hl3 : (0 : Int) < (l2 : Int) := by omega
            have hl4 : decide ((0 : Int) < (l2 : Int)) = true := decide_eq_true hl3
            have hl5 : 0 < l2 := by omega
            have hl6 : decide (0 < l2) = true := decide_eq_true hl5
            have x8 := cell_regrown d0
            have x9 := cell_regrown d1
            have x10 := cell_regrown d2
            have x11 := cell_regrown d3
            clear hlen k0 k1 t0 t1 s0 s1 s2 s3 HX HSm hpos hlm hlm2 hgx d0 d1 d2 d3
            go_upto_region 15 with (fail)
            refine wp_region_quiet_below (by kernel_rfl) (by kernel_rfl) ?_
            repeat (go_big_quiet_step (first | (with_reducible exact cB1.out _ _) | (with_reducible exact cB2.out _ _) | (with_reducible exact cAc.out _ _)))
            refine wpQuiet_nil ?_
            intro W7 hw'
            obtain ⟨⟨dq, osq⟩, hw2⟩ := hw'
            have HR7 := Lib.hid (show Rd w W7 b g br m2 N (some ⟨qb, qo, none⟩) l2 c2 ys by rw [hw2]; exact HPe6.out.rd.on (below_regrown w6 dq osq))
            clear hw2 x0 x1 x2 x3 x4 x5 x6 x7 x8 x9 x10 x11 HPe6 HLs6 cB1 cB2 cAc
            go_wp2_with fail
            go_roundw
            case rel => exact ⟨i + 1, HK.out, by go_num, some ⟨qb, qo, none⟩, l2, c2, by show Rd _ _ _ _ _ _ _ _ _ _ _; rw [HX2.out.1, HX2.out.2]; exact HR7.out⟩
            case measure =>
              show _ < _
              have := HK.out
              simp only [intOf]; omega
    · obtain rfl : i = la := by omega
      have hfull : l0.take i = l0 := List.take_of_length_le (by have := HLA.out; omega)
      rw [hfull] at HR
      obtain ⟨m, hm⟩ : ∃ m, runM (PM.new N) l0 = m := ⟨_, rfl⟩
      obtain ⟨xs, hxs⟩ : ∃ xs, runX N [] l0 = xs := ⟨_, rfl⟩
      rw [hm, hxs] at HR
      have HM := Lib.hid hm
      have hlb : ¬ ((i : Int) < (i : Int)) := by omega
      clear hfull hm hxs
      go_wp2_with fail
      refine (count_any HR.out.pr.mem).mono ?_
      rintro e wa ⟨rfl, hba⟩
      have HRa := Lib.hid (HR.out.on hba)
      clear hba
      go_wp2_with fail
      have hcn := lcount_any n N HNN.out pa ca l0 wa (HL.out.on HRa.out.bel) (by have := HLA.out; omega) m.k (by rw [HM.out])
      rw [HLA.out.1] at hcn
      refine hcn.mono ?_
      rintro e wb ⟨rfl, hbb⟩
      have HRb := Lib.hid (HRa.out.on hbb)
      clear hbb hcn HRa HR
      go_wp2_with fail
      refine (copy_any HRb.out.pr.mem).mono ?_
      rintro e wc ⟨b2, g2, rfl, hm2, -, -, hbc⟩
      have HRc := Lib.hid (HRb.out.on hbc)
      have HMc := Lib.hid hm2
      clear hbc hm2 HRb
      go_wp2_with fail
      refine (same_any (.some HRc.out.pr.mem) (.some HMc.out)).mono ?_
      rintro e wd ⟨rfl, hbd⟩
      rw [decide_eq_true (rfl : m.cs = m.cs)]
      have HRd := Lib.hid (HRc.out.on hbd)
      clear hbd HMc HRc
      have k0 := HRd.out.box.cell 0
      have k1 := HRd.out.box.cell 1
      simp only [List.getElem?_cons_zero, List.getElem?_cons_succ] at k0 k1
      go_wp2_with fail
      refine (samebook_any _ HRd.out.pr).mono ?_
      rintro e we ⟨rfl, hbe⟩
      have HRe := Lib.hid (HRd.out.on hbe)
      clear hbe k0 k1 HRd
      go_wp2_with fail
      refine (works_any _).mono ?_
      rintro e wf ⟨rfl, hbf⟩
      have HB := Lib.hid (HRe.out.on hbf).bel
      clear hbf
      go_wp2
      go_ret
      exact ⟨rfl, HB.out⟩
/-- too much came in, or too many cells -/
theorem plays_long (n : Int) (pa : Option Addr) (la ca : Nat) (w : World) (h : 60 < la ∨ 40 < n) :
    Calls Try.prog 3 #[.int .i64 n, .slice pa la ca] w (Ans (.bool true) w) := by
  by_cases h1 : 60 < la
  · have y1 : decide (60 < la) = true := decide_eq_true h1
    have y2 : (60 : Int) < (la : Int) := by omega
    clear h
    go_enter Try.func3, Try.ntmps3
    go_wp2_with fail
    refine (works_any w).mono ?_
    rintro e w1 ⟨rfl, hb⟩
    go_wp2
    go_ret
    exact ⟨rfl, hb⟩
  have h3 : 40 < n := by omega
  have y1 : decide (60 < la) = false := decide_eq_false h1
  have y3 : decide (60 < (la : Int)) = false := decide_eq_false (by omega)
  by_cases h4 : n ≤ 65536
  · have y4 : decide (n ≤ 65536) = true := decide_eq_true h4
    clear h
    go_enter Try.func3, Try.ntmps3
    go_wp2_with fail
    refine (works_any w).mono ?_
    rintro e w1 ⟨rfl, hb⟩
    go_wp2
    go_ret
    exact ⟨rfl, hb⟩
  · have y4 : decide (n ≤ 65536) = false := decide_eq_false h4
    have hN : nN n = ((65536 : Nat) : Int) := by unfold nN; omega
    clear h
    obtain ⟨K, hK⟩ : ∃ K : Nat, K = 65536 := ⟨_, rfl⟩
    rw [← hK] at hN
    have HK := Lib.hid hK
    have hKi : (K : Int) = 65536 := by omega
    go_enter Try.func3, Try.ntmps3
    go_wp2_with fail
    refine (new_any n K hN w).mono ?_
    rintro e w1 ⟨b, g, rfl, hm1, hb1, hg1, hbe1⟩
    have HB1 := Lib.hid hbe1
    have hlen := len_any hm1
    rw [(Tied.new K).len, hKi] at hlen
    clear hm1 hb1 hg1 hbe1 hK hKi hN
    go_wp2_with fail
    refine hlen.mono ?_
    rintro e w2 ⟨rfl, hb2⟩
    have HB2 := Lib.hid (HB1.out.trans (hb2.mono HB1.out.size))
    clear hb2 hlen
    go_wp2_with fail
    refine (works_any _).mono ?_
    rintro e w3 ⟨rfl, hb3⟩
    have HB3 := Lib.hid (HB2.out.trans (hb3.mono HB2.out.size))
    clear hb3
    go_wp2
    go_ret
    exact ⟨rfl, HB3.out⟩
theorem plays_any (n : Int) (pa : Option Addr) (ca : Nat) (l0 : List Acc) (w : World) (hl : LiesA w pa l0) (hcap : l0.length ≤ ca) :
    Calls Try.prog 3 #[.int .i64 n, .slice pa l0.length ca] w (Ans (.bool true) w) := by
  by_cases h : 60 < l0.length ∨ 40 < n
  · exact plays_long n pa _ ca w h
  · have hb := nN_bd n
    exact plays_short n (nN n).toNat (by omega) (by omega) pa ca l0 w hl (by omega) hcap
end Go.Proofs.Ytnakaifnalojeaa
