/- A memory's accesses: the closures, access, Load, Store, CAS, Add (layer 6). -/
import Derived.Test.YtnakaifnalojeaaNa
import Derived.Test.YtnakaifnalojeaaCn
import Derived.Deep.RegionWith
import Derived.BigRegion
namespace Go.Proofs.Ytnakaifnalojeaa
open Go.RowKit Go.Ce

/-- the closures -/
theorem cload_any {b mb : Nat} {k0 : Nat} (old : Int) (w : World) (hm : w.cell? ⟨mb, 0, none⟩ = some (.pointer (some ⟨b, 0, none⟩))) (hc : w.cell? ⟨b, 0, none⟩ = some (.int .u64 k0)) (hf : w.frozen? ⟨b, 0, none⟩ = false) (hk : k0 ≤ 1000000000000) :
    Calls Try.prog 52 #[.int .u64 old, .pointer (some ⟨mb, 0, none⟩)] w (fun e w' => e = .returned (.int .u64 old) ∧ w' = w.setCell ⟨b, 0, none⟩ (.int .u64 ((k0 : Int) + 1))) := by
  have hw1 : IntKind.u64.wrap ((k0 : Int) + 1) = (k0 : Int) + 1 := IntWalk.u64_in _ (by omega)
  clear hk
  go_enter Try.func52, Try.ntmps52
  go_wp2
  go_ret
  exact ⟨rfl, rfl⟩
theorem cstore_any {b mb vb : Nat} {k0 : Nat} (old v : Int) (w : World) (hm : w.cell? ⟨mb, 0, none⟩ = some (.pointer (some ⟨b, 0, none⟩))) (hv : w.cell? ⟨vb, 0, none⟩ = some (.int .u64 v)) (hc : w.cell? ⟨b, 1, none⟩ = some (.int .u64 k0)) (hf : w.frozen? ⟨b, 1, none⟩ = false) (hne : vb ≠ b) (hk : k0 ≤ 1000000000000) :
    Calls Try.prog 50 #[.int .u64 old, .pointer (some ⟨mb, 0, none⟩), .pointer (some ⟨vb, 0, none⟩)] w (fun e w' => e = .returned (.int .u64 v) ∧ w' = w.setCell ⟨b, 1, none⟩ (.int .u64 ((k0 : Int) + 1))) := by
  have hw1 : IntKind.u64.wrap ((k0 : Int) + 1) = (k0 : Int) + 1 := IntWalk.u64_in _ (by omega)
  have hv2 : ∀ x, (w.setCell ⟨b, 1, none⟩ x).cell? ⟨vb, 0, none⟩ = some (.int .u64 v) := fun x => by rw [World.cell?_setCell_far _ _ _ _ (by simpa using fun e => hne e.symm)]; exact hv
  clear hk hv
  go_enter Try.func50, Try.ntmps50
  go_wp2
  go_ret
  exact ⟨rfl, rfl⟩
theorem cadd_any {b mb vb : Nat} {k0 : Nat} (old v : Int) (w : World) (hm : w.cell? ⟨mb, 0, none⟩ = some (.pointer (some ⟨b, 0, none⟩))) (hv : w.cell? ⟨vb, 0, none⟩ = some (.int .u64 v)) (hc : w.cell? ⟨b, 4, none⟩ = some (.int .u64 k0)) (hf : w.frozen? ⟨b, 4, none⟩ = false) (hne : vb ≠ b) (hk : k0 ≤ 1000000000000) :
    Calls Try.prog 49 #[.int .u64 old, .pointer (some ⟨mb, 0, none⟩), .pointer (some ⟨vb, 0, none⟩)] w (fun e w' => e = .returned (.int .u64 (IntKind.u64.wrap (old + v))) ∧ w' = w.setCell ⟨b, 4, none⟩ (.int .u64 ((k0 : Int) + 1))) := by
  have hw1 : IntKind.u64.wrap ((k0 : Int) + 1) = (k0 : Int) + 1 := IntWalk.u64_in _ (by omega)
  have hv2 : ∀ x, (w.setCell ⟨b, 4, none⟩ x).cell? ⟨vb, 0, none⟩ = some (.int .u64 v) := fun x => by rw [World.cell?_setCell_far _ _ _ _ (by simpa using fun e => hne e.symm)]; exact hv
  clear hk hv
  go_enter Try.func49, Try.ntmps49
  go_wp2
  go_ret
  exact ⟨rfl, rfl⟩
theorem ccas_hit {b ob mb sb vb : Nat} {k0 : Nat} (old v : Int) (x : Value) (w : World) (hm : w.cell? ⟨mb, 0, none⟩ = some (.pointer (some ⟨b, 0, none⟩))) (ho : w.cell? ⟨ob, 0, none⟩ = some (.int .u64 old)) (hs : w.cell? ⟨sb, 0, none⟩ = some x) (hs2 : w.frozen? ⟨sb, 0, none⟩ = false) (hv : w.cell? ⟨vb, 0, none⟩ = some (.int .u64 v)) (hc : w.cell? ⟨b, 2, none⟩ = some (.int .u64 k0)) (hf : w.frozen? ⟨b, 2, none⟩ = false) (hne : vb ≠ b) (hne2 : vb ≠ sb) (hne3 : sb ≠ b) (hk : k0 ≤ 1000000000000) :
    Calls Try.prog 51 #[.int .u64 old, .pointer (some ⟨ob, 0, none⟩), .pointer (some ⟨mb, 0, none⟩), .pointer (some ⟨sb, 0, none⟩), .pointer (some ⟨vb, 0, none⟩)] w (fun e w' => e = .returned (.int .u64 v) ∧ w' = (w.setCell ⟨b, 2, none⟩ (.int .u64 ((k0 : Int) + 1))).setCell ⟨sb, 0, none⟩ (.bool true)) := by
  have hw1 : IntKind.u64.wrap ((k0 : Int) + 1) = (k0 : Int) + 1 := IntWalk.u64_in _ (by omega)
  have hs3 : ∀ y, (w.setCell ⟨b, 2, none⟩ y).cell? ⟨sb, 0, none⟩ = some x := fun y => by rw [World.cell?_setCell_far _ _ _ _ (by simpa using fun e => hne3 e.symm)]; exact hs
  have hv2 : ∀ y z, ((w.setCell ⟨b, 2, none⟩ y).setCell ⟨sb, 0, none⟩ z).cell? ⟨vb, 0, none⟩ = some (.int .u64 v) := fun y z => by rw [World.cell?_setCell_far _ _ _ _ (by simpa using fun e => hne2 e.symm), World.cell?_setCell_far _ _ _ _ (by simpa using fun e => hne e.symm)]; exact hv
  clear hk hv hs hne hne2 hne3
  go_enter Try.func51, Try.ntmps51
  go_wp2
  go_ret
  exact ⟨rfl, rfl⟩
theorem ccas_miss {b ob mb sb vb : Nat} {k0 : Nat} (stood old : Int) (w : World) (hm : w.cell? ⟨mb, 0, none⟩ = some (.pointer (some ⟨b, 0, none⟩))) (ho : w.cell? ⟨ob, 0, none⟩ = some (.int .u64 old)) (hc : w.cell? ⟨b, 3, none⟩ = some (.int .u64 k0)) (hf : w.frozen? ⟨b, 3, none⟩ = false) (hk : k0 ≤ 1000000000000) (hno : stood ≠ old) :
    Calls Try.prog 51 #[.int .u64 stood, .pointer (some ⟨ob, 0, none⟩), .pointer (some ⟨mb, 0, none⟩), .pointer (some ⟨sb, 0, none⟩), .pointer (some ⟨vb, 0, none⟩)] w (fun e w' => e = .returned (.int .u64 stood) ∧ w' = w.setCell ⟨b, 3, none⟩ (.int .u64 ((k0 : Int) + 1))) := by
  have hw1 : IntKind.u64.wrap ((k0 : Int) + 1) = (k0 : Int) + 1 := IntWalk.u64_in _ (by omega)
  have hno2 : (stood == old) = false := by simpa using hno
  have hno3 : (stood != old) = true := by simpa using hno
  clear hk
  go_enter Try.func51, Try.ntmps51
  go_wp2
  go_ret
  exact ⟨rfl, rfl⟩

/-- what a closure does: it answers v, and the counts are k2 -/
def CloPost (b g n c : Nat) (k2 : Cnt) (L : List Acc) (S : Nat → Prop) (R : World → Prop) (v : Int) (w : World) (e : Ending) (w' : World) : Prop :=
  e = .returned (.int .u64 v) ∧ Row b 71 (memV k2 g n c L) w' ∧ Tch S w w' ∧ R w'
/-- what access does -/
def AccPost (b g : Nat) (m : PM) (S : Nat → Prop) (R : World → Prop) (old : Int) (w : World) (e : Ending) (w' : World) : Prop :=
  e = .returned (.int .u64 old) ∧ MemIs w' b g m ∧ Tch S w w' ∧ R w'
/-- the blocks of a memory -/
def Own (b g : Nat) : Nat → Prop := fun j => j = b ∨ j = g

theorem flat_set (L : List Acc) (q : Nat) (x : Acc) (hq : q < L.length) :
    ((((L.flatMap accC).set (q * 4) (.int .i64 x.k)).set (q * 4 + 1) (.int .i64 x.a)).set (q * 4 + 2) (.int .u64 x.o)).set (q * 4 + 3) (.int .u64 x.n) = (L.set q x).flatMap accC := by
  induction L generalizing q with
  | nil => simp at hq
  | cons y r ih =>
    cases q with
    | zero => rfl
    | succ q =>
      have e := ih q (by simpa using hq)
      rw [List.set_cons_succ, List.flatMap_cons, List.flatMap_cons, ← e]
      have e1 : (q + 1) * 4 = q * 4 + 1 + 1 + 1 + 1 := by omega
      rw [e1]
      rfl
theorem mem_set {k : Cnt} {g n c : Nat} {L : List Acc} (q : Nat) (x : Acc) (hq : q < L.length) :
    ((((memV k g n c L).set (6 + q * 4) (.int .i64 x.k)).set (6 + q * 4 + 1) (.int .i64 x.a)).set (6 + q * 4 + 2) (.int .u64 x.o)).set (6 + q * 4 + 3) (.int .u64 x.n) = memV k g n c (L.set q x) := by
  have e : memV k g n c (L.set q x) = .int .u64 k.l :: .int .u64 k.s :: .int .u64 k.w :: .int .u64 k.f :: .int .u64 k.a :: .slice (some ⟨g, 0, none⟩) n c :: (L.set q x).flatMap accC := rfl
  rw [e, ← flat_set L q x hq, show 6 + q * 4 = q * 4 + 1 + 1 + 1 + 1 + 1 + 1 by omega]
  rfl
theorem map_set (cs : List Int) (i : Nat) (v : Int) (rest : List Value) (hi : i < cs.length) : (cs.map (Value.int .u64) ++ rest).set i (.int .u64 v) = (cs.set i v).map (Value.int .u64) ++ rest := by
  rw [List.set_append_left _ _ (by simpa using hi), List.map_set]

theorem acc_fin {b g c i q : Nat} {m : PM} {S : Nat → Prop} {kind v old : Int} {k2 : Cnt} {rest : List Value} {w W : World} (hr : Row b 71 (memV k2 g m.cs.length c m.L) W) (hg : Row g 34 ((m.cs.set i v).map (Value.int .u64) ++ rest) W) (ht : Tch S w W) (hS : S b) (hne : b ≠ g) (hM : m.cs.length ≤ 65536) (hll : m.L.length = 256) (hq : m.k.ops % 256 = q) (hold : m.at i = old) (hc : m.cs.length ≤ c) (hc2 : c ≤ maxLen) (hk2 : k2.ops ≤ 1000000000000) :
    MemIs ((((W.setCell ⟨b, 6 + q * 4, none⟩ (.int .i64 kind)).setCell ⟨b, 6 + q * 4 + 1, none⟩ (.int .i64 i)).setCell ⟨b, 6 + q * 4 + 2, none⟩ (.int .u64 old)).setCell ⟨b, 6 + q * 4 + 3, none⟩ (.int .u64 v)).drew b g (m.acc kind i v k2) ∧
    Tch S w ((((W.setCell ⟨b, 6 + q * 4, none⟩ (.int .i64 kind)).setCell ⟨b, 6 + q * 4 + 1, none⟩ (.int .i64 i)).setCell ⟨b, 6 + q * 4 + 2, none⟩ (.int .u64 old)).setCell ⟨b, 6 + q * 4 + 3, none⟩ (.int .u64 v)).drew := by
  have hset := mem_set (k := k2) (g := g) (n := m.cs.length) (c := c) (L := m.L) q ⟨kind, i, old, v⟩ (by rw [hll]; omega)
  have r1 := (((hr.set (6 + q * 4) (.int .i64 kind)).set (6 + q * 4 + 1) (.int .i64 i)).set (6 + q * 4 + 2) (.int .u64 old)).set (6 + q * 4 + 3) (.int .u64 v)
  rw [hset] at r1
  have g1 := (((hg.far (p := ⟨b, 6 + q * 4, none⟩) hne.symm (.int .i64 kind)).far (p := ⟨b, 6 + q * 4 + 1, none⟩) hne.symm (.int .i64 i)).far (p := ⟨b, 6 + q * 4 + 2, none⟩) hne.symm (.int .u64 old)).far (p := ⟨b, 6 + q * 4 + 3, none⟩) hne.symm (.int .u64 v)
  have t1 := (((ht.setCell (p := ⟨b, 6 + q * 4, none⟩) (.inl hS) (.int .i64 kind)).setCell (p := ⟨b, 6 + q * 4 + 1, none⟩) (.inl hS) (.int .i64 i)).setCell (p := ⟨b, 6 + q * 4 + 2, none⟩) (.inl hS) (.int .u64 old)).setCell (p := ⟨b, 6 + q * 4 + 3, none⟩) (.inl hS) (.int .u64 v)
  have hlen : (m.acc kind i v k2).cs.length = m.cs.length := (acc_len ..).1
  have hL2 : (m.acc kind i v k2).L = m.L.set q ⟨kind, i, old, v⟩ := by show m.L.set (m.k.ops % 256) ⟨kind, i, m.at i, v⟩ = _; rw [hq, hold]
  refine ⟨⟨⟨c, ?_, by rw [hlen]; exact hc, hc2⟩, ⟨rest, g1⟩, hne, by rw [(acc_len ..).2, hll], hk2, by rw [hlen]; exact hM⟩, ⟨t1.os, t1.tape, t1.output, t1.size, t1.block⟩⟩
  rw [hlen, hL2]
  exact r1.drew

set_option maxRecDepth 20000 in
set_option maxHeartbeats 1000000 in
theorem access_yes {b g F : Nat} {m : PM} {S : Nat → Prop} {R : World → Prop} {caps : Array Value} (kind a v : Int) (k2 : Cnt) (w : World) (h : MemIs w b g m) (ha : m.Has a) (hS : S b ∧ S g) (hk2 : k2.ops ≤ 1000000000000) (hstay : ∀ W W', R W → Tch (Own b g) W W' → R W') (hcf : ∀ (args : Array Value) (w : World), (callFunc F args).run Try.prog w = .ok (.enter F args) w)
    (hF : ∀ c w1, Below w.heap.size w w1 → Row b 71 (memV m.k g m.cs.length c m.L) w1 → Calls Try.prog F (#[.int .u64 (m.at a)] ++ caps) w1 (CloPost b g m.cs.length c k2 m.L (fun j => S j ∧ j ≠ g) R v w1)) :
    Calls Try.prog 48 #[.pointer (some ⟨b, 0, none⟩), .int .i64 kind, .int .i64 a, .func (.func F) #[] caps] w (AccPost b g (m.acc kind a v k2) S R (m.at a) w) := by
  have hhas := has_any h a
  rw [decide_eq_true ha] at hhas
  obtain ⟨c, hr, hc, hc2⟩ := h.blk
  have HC2 := Lib.hid hc2
  obtain ⟨rest, hg⟩ := h.cel
  have HF := Lib.hid (hF c)
  clear hF
  obtain ⟨i, rfl⟩ : ∃ i : Nat, a = i := ⟨a.toNat, by have := ha.1; omega⟩
  have hi : i < m.cs.length := by have := ha.2; omega
  obtain ⟨old, hold⟩ : ∃ x, m.at (i : Int) = x := ⟨_, rfl⟩
  have hg0 : w.cell? ⟨g, i, none⟩ = some (.int .u64 old) := by
    rw [hg.cell, List.getElem?_append_left (by simpa using hi), List.getElem?_map]
    unfold PM.at at hold
    simp only [Int.toNat_natCast, List.getD, List.getElem?_eq_getElem hi, Option.getD_some] at hold
    rw [List.getElem?_eq_getElem hi, ← hold]; rfl
  rw [hold] at HF ⊢
  obtain ⟨q, hq⟩ : ∃ q, m.k.ops % 256 = q := ⟨_, rfl⟩
  have hq2 : q < 256 := by omega
  have z2 : ((m.k.ops : Nat) : Int).tmod 256 = (q : Int) := by rw [IntWalk.rem_in _ _ (by omega)]; omega
  obtain ⟨ops, hops⟩ : ∃ o, m.k.ops = o := ⟨_, rfl⟩
  have hcops := fun w1 (hb : Below w.heap.size w w1) => cops_any (hr.on' hb) h.few
  rw [hops] at z2 hcops
  have HM := Lib.hid h
  have HQ := Lib.hid hq
  have HO := Lib.hid hold
  have HOps := Lib.hid hops
  have HC := Lib.hid hcops
  have HG := Lib.hid hg
  have HR := Lib.hid hr
  have HA := Lib.hid ha
  have HK2 := Lib.hid hk2
  have HS := Lib.hid hS
  have HSt := Lib.hid hstay
  have hne := h.ne
  have hll := h.ll
  have HN : Hid (b ≠ g) := hne
  have hz5 : (q : Int) < 256 := by omega
  have hi' : (i : Int) < (m.cs.length : Int) := by omega
  have c5 : w.cell? ⟨b, 5, none⟩ = some (.slice (some ⟨g, 0, none⟩) m.cs.length c) := hr.cell 5
  have HLL := Lib.hid hll
  clear h hq hold hops hcops hg hr ha hc2 hk2 hS hne hll hstay
  go_enter Try.func48, Try.ntmps48
  go_wp2_with fail
  refine hhas.mono ?_
  rintro e w1 ⟨rfl, hb1⟩
  have c5' : w1.cell? ⟨b, 5, none⟩ = some (.slice (some ⟨g, 0, none⟩) m.cs.length c) := by rw [hb1.cell (block_lt_of_cell c5)]; exact c5
  have g0' : w1.cell? ⟨g, i, none⟩ = some (.int .u64 old) := by rw [hb1.cell (block_lt_of_cell hg0)]; exact hg0
  have HB1 := Lib.hid hb1
  clear hb1 c5 hg0
  go_wp2_with fail
  refine (HC.out _ HB1.out).mono ?_
  rintro e w2 ⟨rfl, hb2⟩
  have c5'' : w2.cell? ⟨b, 5, none⟩ = some (.slice (some ⟨g, 0, none⟩) m.cs.length c) := by rw [hb2.cell (block_lt_of_cell c5')]; exact c5'
  have g0'' : w2.cell? ⟨g, i, none⟩ = some (.int .u64 old) := by rw [hb2.cell (block_lt_of_cell g0')]; exact g0'
  have HB2 := Lib.hid (HB1.out.trans (hb2.mono HB1.out.size))
  clear hb2 c5' g0'
  go_wp2_with fail
  have HW2 : Hid (Row b 71 (memV m.k g m.cs.length c m.L) w2) := HR.out.on' HB2.out
  have HG2 : Hid (Row g 34 (m.cs.map (Value.int .u64) ++ rest) w2) := HG.out.on' HB2.out
  have hcall := HF.out w2.drew HB2.out.drew HW2.out.drew
  go_region_with ((with_reducible refine hcall.mono ?_); rintro e w3 ⟨rfl, hr3, ht3, hR3⟩; have c53 : w3.cell? ⟨b, 5, none⟩ = some (.slice (some ⟨g, 0, none⟩) m.cs.length c) := hr3.cell 5; have g03 : w3.cell? ⟨g, i, none⟩ = some (.int .u64 old) := ht3.cell (w := w2.drew) g0'' (by simp); have f03 : w3.frozen? ⟨g, i, none⟩ = false := Row.frozen (HG2.out.drew.tch ht3 (by simp)) i)
  all_goals
    have hr5 : Row b 71 (memV k2 g m.cs.length c m.L) (w3.setCell ⟨g, i, none⟩ (.int .u64 v)) := hr3.far HN.out _
    have hg5 : Row g 34 ((m.cs.set i v).map (Value.int .u64) ++ rest) (w3.setCell ⟨g, i, none⟩ (.int .u64 v)) := by
      rw [← map_set _ _ _ _ hi]
      exact Row.set (HG2.out.drew.tch ht3 (by simp)) i _
    have ht5 : Tch S w (w3.setCell ⟨g, i, none⟩ (.int .u64 v)) := (((Tch.of S HB2.out.drew).trans (ht3.wide (fun _ hk => hk.1))).setCell (p := ⟨g, i, none⟩) (.inl HS.out.2) _)
    have ht6 : Tch (Own b g) w3 (w3.setCell ⟨g, i, none⟩ (.int .u64 v)) := (Tch.refl _ _).setCell (p := ⟨g, i, none⟩) (.inl (.inr rfl)) _
    have HR3 := Lib.hid hR3
    generalize w3.setCell ⟨g, i, none⟩ (.int .u64 v) = W5 at hr5 hg5 ht5 ht6 ⊢
    have c55 : W5.cell? ⟨b, 5, none⟩ = some (.slice (some ⟨g, 0, none⟩) m.cs.length c) := hr5.cell 5
    have g05 : W5.cell? ⟨g, i, none⟩ = some (.int .u64 v) := by
      rw [hg5.cell, List.getElem?_append_left (by simpa using hi), List.getElem?_map, List.getElem?_set_self hi]; rfl
    have m0 := mem_log (k := k2) (g := g) (n := m.cs.length) (c := c) (L := m.L) q 0 (by rw [HLL.out]; exact hq2) (by decide)
    have m1 := mem_log (k := k2) (g := g) (n := m.cs.length) (c := c) (L := m.L) q 1 (by rw [HLL.out]; exact hq2) (by decide)
    have m2 := mem_log (k := k2) (g := g) (n := m.cs.length) (c := c) (L := m.L) q 2 (by rw [HLL.out]; exact hq2) (by decide)
    have m3 := mem_log (k := k2) (g := g) (n := m.cs.length) (c := c) (L := m.L) q 3 (by rw [HLL.out]; exact hq2) (by decide)
    rw [← hr5.cell] at m0 m1 m2 m3
    simp only [accC, List.getElem?_cons_zero, List.getElem?_cons_succ, Nat.add_zero] at m0 m1 m2 m3
    have f0 := hr5.frozen (6 + q * 4)
    have f1 := hr5.frozen (6 + q * 4 + 1)
    have f2 := hr5.frozen (6 + q * 4 + 2)
    have f3 := hr5.frozen (6 + q * 4 + 3)
    have HR5 := Lib.hid hr5
    have HG5 := Lib.hid hg5
    have HT5 := Lib.hid ht5
    have HT6 := Lib.hid ht6
    clear hr5 hg5 ht5 ht6 hR3 hr3 ht3 c53 g03 f03 c5'' g0'' hcall hhas hcf
    go_wp2_with fail
    go_region
    go_wp2
    go_ret
    have hf := acc_fin (kind := kind) HR5.out HG5.out HT5.out HS.out.1 HN.out HM.out.short HLL.out HQ.out HO.out hc HC2.out HK2.out
    have hf2 := (acc_fin (kind := kind) HR5.out HG5.out HT6.out (.inl rfl) HN.out HM.out.short HLL.out HQ.out HO.out hc HC2.out HK2.out).2
    exact ⟨rfl, hf.1, hf.2, HSt.out _ _ HR3.out hf2⟩
theorem access_no {b g F : Nat} {m : PM} {caps : Array Value} (kind a : Int) (w : World) (h : MemIs w b g m) (ha : ¬ m.Has a) :
    Calls Try.prog 48 #[.pointer (some ⟨b, 0, none⟩), .int .i64 kind, .int .i64 a, .func (.func F) #[] caps] w (Ans (.int .u64 0) w) := by
  have hhas := has_any h a
  rw [decide_eq_false ha] at hhas
  clear h ha
  go_enter Try.func48, Try.ntmps48
  go_wp2_with fail
  refine hhas.mono ?_
  rintro e w1 ⟨rfl, hb1⟩
  go_wp2
  go_ret
  exact ⟨rfl, hb1⟩
theorem access_nil {F : Nat} {caps : Array Value} (kind a : Int) (w : World) :
    Calls Try.prog 48 #[.pointer none, .int .i64 kind, .int .i64 a, .func (.func F) #[] caps] w (Ans (.int .u64 0) w) := by
  go_enter Try.func48, Try.ntmps48
  go_wp2_with fail
  refine (has_nil w a).mono ?_
  rintro e w1 ⟨rfl, hb1⟩
  go_wp2
  go_ret
  exact ⟨rfl, hb1⟩

/-- what an access of a memory does: it answers v, the memory is m -/
def MemPost (b g : Nat) (m : PM) (v : Value) (w : World) (e : Ending) (w' : World) : Prop := e = .returned v ∧ MemIs w' b g m ∧ Tch (Own b g) w w'
theorem Tch.trim {S R : Nat → Prop} {w W w' : World} (hb : Below w.heap.size w W) (ht : Tch S W w') (hs : ∀ j, j < w.heap.size → S j → R j) : Tch R w w' :=
  ⟨ht.os.trans hb.os, ht.tape.trans hb.tape, ht.output.trans hb.output, Nat.le_trans hb.size ht.size, fun k hk hn => (ht.block k (Nat.lt_of_lt_of_le hk hb.size) (fun e => hn (hs k hk e))).trans (hb.block k hk)⟩

theorem load_any {b g : Nat} {m : PM} (a : Int) (w : World) (h : MemIs w b g m) (hk : m.k.ops + 1 ≤ 1000000000000) :
    Calls Try.prog 28 #[.pointer (some ⟨b, 0, none⟩), .int .i64 a] w (MemPost b g (m.load a) (.int .u64 (m.ans a)) w) := by
  have hb := (Below.refl w.heap.size w).alloc (Nat.le_refl _) (.cells #[.pointer (some ⟨b, 0, none⟩)] 24)
  have hm := h.on hb
  have hlt := h.lt
  have hrow := Row.new w 24 [.pointer (some ⟨b, 0, none⟩)]
  by_cases ha : m.Has a
  · have hacc := access_yes (F := 52) (caps := #[.pointer (some ⟨w.heap.size, 0, none⟩)]) (S := Own b g) (R := fun _ => True) 1 a (m.at a) { m.k with l := m.k.l + 1 } _ hm ha ⟨.inl rfl, .inr rfl⟩ (by simp only [Cnt.ops] at hk ⊢; omega) (fun _ _ _ _ => trivial) (fun _ _ => by go_simp) (fun c w1 hb1 hr1 => by
      have hp : w1.cell? ⟨w.heap.size, 0, none⟩ = some (.pointer (some ⟨b, 0, none⟩)) := (hrow.on' hb1).cell 0
      refine (cload_any (m.at a) w1 hp (hr1.cell 0) (hr1.frozen 0) (by simp only [Cnt.ops] at hk; omega)).mono ?_
      rintro e w2 ⟨rfl, rfl⟩
      exact ⟨rfl, hr1.set 0 _, (Tch.refl _ _).setCell (.inl ⟨.inl rfl, h.ne⟩) _, trivial⟩)
    have hv : m.ans a = m.at a := by unfold PM.ans; rw [if_pos ha]
    rw [hv, load_yes ha]
    have HB := Lib.hid hb
    clear hb hm hrow hv ha h hk
    go_enter Try.func28, Try.ntmps28
    go_wp2_with fail
    refine hacc.mono ?_
    rintro e w1 ⟨rfl, hm1, ht1, -⟩
    have HM1 := Lib.hid hm1
    have HT1 := Lib.hid (Tch.trim HB.out ht1 (fun _ _ h => h))
    clear hm1 ht1
    go_wp2
    go_ret
    exact ⟨rfl, HM1.out, HT1.out⟩
  · have hacc := access_no (F := 52) (caps := #[.pointer (some ⟨w.heap.size, 0, none⟩)]) 1 a _ hm ha
    have hv : m.ans a = 0 := by unfold PM.ans; rw [if_neg ha]
    rw [hv, load_no ha]
    have HB := Lib.hid hb
    have HM := Lib.hid h
    clear hb hm hrow hv ha h hk
    go_enter Try.func28, Try.ntmps28
    go_wp2_with fail
    refine hacc.mono ?_
    rintro e w1 ⟨rfl, hb1⟩
    have HB1 := Lib.hid (HB.out.trans (hb1.mono HB.out.size))
    clear hb1
    go_wp2
    go_ret
    exact ⟨rfl, HM.out.on HB1.out, .of _ HB1.out⟩
theorem load_nil (a : Int) (w : World) : Calls Try.prog 28 #[.pointer none, .int .i64 a] w (Ans (.int .u64 0) w) := by
  go_enter Try.func28, Try.ntmps28
  go_wp2_with fail
  refine (access_nil 1 a _).mono ?_
  rintro e w1 ⟨rfl, hb1⟩
  go_wp2
  go_ret
  exact ⟨rfl, ((Below.refl _ _).alloc (Nat.le_refl _) _).trans (hb1.mono (by simp))⟩
end Go.Proofs.Ytnakaifnalojeaa
