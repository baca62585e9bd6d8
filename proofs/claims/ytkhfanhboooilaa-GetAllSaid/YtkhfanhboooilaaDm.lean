/- The code's memory beside the reference's, in blocks of their own; the documents' Mem (layer 7), walked. -/
import Derived.Test.YtkhfanhboooilaaBf
import Derived.Deep.RegionHeld
namespace Go.Proofs.Ytkhfanhboooilaa
open Go.RowKit Go.Ce

theorem RM.tch {S : Nat → Prop} {w w' : World} {p : Option Addr} {l c : Nat} {cs : List Int} (h : RM w p l c cs) (ht : Tch S w w') (hs : ∀ x o, p = some ⟨x, o, none⟩ → ¬ S x) : RM w' p l c cs :=
  ⟨h.len, h.few, h.nl, h.off, ⟨h.lies.len, fun j hj => by
    obtain ⟨b, o, hp, hc⟩ := h.lies.cells j hj
    exact ⟨b, o, hp, ht.cell hc (hs b o hp)⟩⟩⟩
/-- the reference's row lies in none of the memory's blocks -/
def Ap (b g : Nat) (q : Option Addr) : Prop := ∀ x o, q = some ⟨x, o, none⟩ → ¬ Own b g x
theorem Ap.fr {b g : Nat} {q q2 : Option Addr} {w : World} (h : Ap b g q) (hf : Fr q q2 w) (hb : b < w.heap.size) (hg : g < w.heap.size) : Ap b g q2 := fun x o e => by
  rcases hf x o e with ⟨o', e'⟩ | hx
  · exact h x o' e'
  · rintro (h | h) <;> omega
/-- both memories, the same in plain -/
structure MR (w0 W : World) (b g : Nat) (m : PM) (q : Option Addr) (l c : Nat) : Prop where
  so : Sofar w0 W b g m
  rm : RM W q l c m.cs
  ap : Ap b g q
theorem MR.on {w0 W W' : World} {b g : Nat} {m : PM} {q : Option Addr} {l c : Nat} (h : MR w0 W b g m q l c) (hb : Below W.heap.size W W') : MR w0 W' b g m q l c := ⟨h.so.ans hb, h.rm.on hb, h.ap⟩
/-- what Mem answers -/
def DMPost (zs : List Int) (w : World) (e : Ending) (w' : World) : Prop := ∃ b g q l c m, e = .returned (.tuple #[.pointer (some ⟨b, 0, none⟩), .agg #[.slice q l c, .int .u64 m.k.ops]]) ∧ MR w w' b g m q l c ∧ m.k.ops ≤ zs.length ∧ m.cs = zs
/-- its variables: the reference's memory in the box b5, the result's box b3 -/
structure DMs (w0 W : World) (b g b5 b3 : Nat) (m : PM) (q : Option Addr) (l c : Nat) : Prop where
  mr : MR w0 W b g m q l c
  box : Row b5 31 [.slice q l c, .int .u64 m.k.ops] W
  res : Row b3 31 [.slice none 0 0, .int .u64 0] W
  h5 : w0.heap.size ≤ b5
  h3 : w0.heap.size ≤ b3
  n5 : ¬ Own b g b5 ∧ ¬ Own b g b3 ∧ b5 ≠ b3
/-- the code's memory is written: the reference's stays -/
theorem DMs.own {w0 W W' : World} {b g b5 b3 : Nat} {m : PM} {q : Option Addr} {l c : Nat} (h : DMs w0 W b g b5 b3 m q l c) (ht : Tch (Own b g) W W') : RM W' q l c m.cs ∧ Row b5 31 [.slice q l c, .int .u64 m.k.ops] W' ∧ Row b3 31 [.slice none 0 0, .int .u64 0] W' :=
  ⟨h.mr.rm.tch ht h.mr.ap, h.box.tch ht h.n5.1, h.res.tch ht h.n5.2.1⟩
theorem DMs.next {w0 W w3 w4 : World} {b g b5 b3 : Nat} {m m2 : PM} {q q3 : Option Addr} {l c l3 c3 : Nat} (h : DMs w0 W b g b5 b3 m q l c) (hm : MemIs w3 b g m2) (hk : RM w3 q l c m.cs ∧ Row b5 31 [.slice q l c, .int .u64 m.k.ops] w3 ∧ Row b3 31 [.slice none 0 0, .int .u64 0] w3) (h3 : Below w0.heap.size w0 w3) (hr : RM w4 q3 l3 c3 m2.cs) (hb : Below w3.heap.size w3 w4) (hf : Fr q q3 w3.drew) :
    DMs w0 ((w4.setCell ⟨b5, 0, none⟩ (.slice q3 l3 c3)).setCell ⟨b5, 1, none⟩ (.int .u64 m2.k.ops)) b g b5 b3 m2 q3 l3 c3 := by
  have t1 : Tch (fun j => j = b5) w4 ((w4.setCell ⟨b5, 0, none⟩ (.slice q3 l3 c3)).setCell ⟨b5, 1, none⟩ (.int .u64 m2.k.ops)) := ((Tch.refl (fun j => j = b5) w4).setCell (p := ⟨b5, 0, none⟩) (.inl rfl) _).setCell (p := ⟨b5, 1, none⟩) (.inl rfl) _
  have hbx := hk.2.1.on' hb
  have n5b : b ≠ b5 ∧ g ≠ b5 := ⟨fun e => h.n5.1 (.inl e.symm), fun e => h.n5.1 (.inr e.symm)⟩
  have hlt := hm.lt
  refine ⟨⟨⟨(hm.on hb).tch t1 n5b.1 n5b.2, ?_, h.mr.so.b, h.mr.so.g⟩, (hr.put hbx _).put (hbx.set 0 (.slice q3 l3 c3)) _, h.mr.ap.fr hf hlt.1 hlt.2⟩, hbx.put2 _ _, (hk.2.2.on' hb).tch t1 (fun e => h.n5.2.2 e.symm), h.h5, h.h3, h.n5⟩
  exact ((h3.trans (hb.mono h3.size)).setCell (p := ⟨b5, 0, none⟩) h.h5 _).setCell (p := ⟨b5, 1, none⟩) h.h5 _
theorem DMs.done {w0 W : World} {b g b5 b3 : Nat} {m : PM} {q : Option Addr} {l c : Nat} (h : DMs w0 W b g b5 b3 m q l c) : MR w0 ((W.setCell ⟨b3, 0, none⟩ (.slice q l c)).setCell ⟨b3, 1, none⟩ (.int .u64 m.k.ops)) b g m q l c := by
  have t1 : Tch (fun j => j = b3) W ((W.setCell ⟨b3, 0, none⟩ (.slice q l c)).setCell ⟨b3, 1, none⟩ (.int .u64 m.k.ops)) := ((Tch.refl (fun j => j = b3) W).setCell (p := ⟨b3, 0, none⟩) (.inl rfl) _).setCell (p := ⟨b3, 1, none⟩) (.inl rfl) _
  have n3b : b ≠ b3 ∧ g ≠ b3 := ⟨fun e => h.n5.2.1 (.inl e.symm), fun e => h.n5.2.1 (.inr e.symm)⟩
  exact ⟨⟨h.mr.so.mem.tch t1 n3b.1 n3b.2, (h.mr.so.bel.setCell (p := ⟨b3, 0, none⟩) h.h3 _).setCell (p := ⟨b3, 1, none⟩) h.h3 _, h.mr.so.b, h.mr.so.g⟩, (h.mr.rm.put h.res _).put (h.res.set 0 (.slice q l c)) _, h.mr.ap⟩
theorem store_opsT (m : PM) (a v : Int) : (m.store a v).k.ops ≤ m.k.ops + 1 := by
  unfold PM.store PM.acc
  split
  · simp only [Cnt.ops]; omega
  · omega
theorem store_len (m : PM) (a v : Int) : (m.store a v).cs.length = m.cs.length := by
  unfold PM.store
  split
  · exact (acc_len ..).1
  · rfl
theorem store_get (m : PM) {i : Nat} (x : Int) (hi : i < m.cs.length) (j : Nat) : (m.store (i : Int) x).cs.getD j 0 = if j = i then x else m.cs.getD j 0 := by
  have ha : m.Has (i : Int) := ⟨by omega, by omega⟩
  rw [store_yes ha]
  show (m.cs.set ((i : Int)).toNat x).getD j 0 = _
  rw [Int.toNat_natCast]
  by_cases e : j = i
  · subst e; rw [if_pos rfl]; simp [List.getD, hi]
  · rw [if_neg e]
    have e' : i ≠ j := fun h => e h.symm
    simp [List.getD, e']
set_option maxHeartbeats 4000000 in
theorem dm_any (p : Option Addr) (c : Nat) (zs : List Int) (w : World) (h : Lies .u64 w p zs) (h40 : zs.length ≤ 1000) :
    Calls Try.prog 12 #[.slice p zs.length c] w (DMPost zs w) := by
  have HL := Lib.hid h
  obtain ⟨n, hn⟩ : ∃ n, zs.length = n := ⟨_, rfl⟩
  have HN := Lib.hid (And.intro hn (by rw [hn] at h40; exact h40))
  show Calls _ _ _ _ (DMPost zs w)
  rw [show (Value.slice p zs.length c) = .slice p n c by rw [hn]]
  have hnn : nN (n : Int) = (n : Int) := by unfold nN; have := HN.out.2; omega
  have hb0 := (Below.refl w.heap.size w).alloc (Nat.le_refl _) (.cells #[.slice none 0 0, .int .u64 0] 31)
  have hr0 := Row.new w 31 [.slice none 0 0, .int .u64 0]
  have HB0 := Lib.hid hb0
  have HR0 := Lib.hid hr0
  have hnew := new_any (n : Int) n hnn (w.alloc (.cells #[.slice none 0 0, .int .u64 0] 31))
  have HNn := Lib.hid hnn
  clear h hn h40 hnn hb0 hr0
  go_enter Try.func12, Try.ntmps12
  go_wp2_with fail
  refine hnew.mono ?_
  rintro e w1 ⟨b, g, rfl, hm1, hb1, hg1, hbe1⟩
  have hR1 := HR0.out.on' hbe1
  have hB1 := HB0.out.trans (hbe1.mono HB0.out.size)
  have hs0 := HB0.out.size
  have HS1 : Hid (Sofar w w1 b g (PM.new n)) := ⟨hm1, hB1, Nat.le_trans hs0 hb1, Nat.le_trans hs0 hg1⟩
  have HR1 := Lib.hid hR1
  have HA1 : Hid (w.heap.size < b ∧ w.heap.size < g) := by
    have h1 : w.heap.size + 1 = (w.alloc (.cells #[.slice none 0 0, .int .u64 0] 31)).heap.size := by simp
    show _ ∧ _; omega
  clear hm1 hb1 hg1 hbe1 hR1 hB1 hs0 hnew
  go_wp2_with fail
  refine (rnew_any (n : Int) n HNn.out HN.out.2 w1).mono ?_
  rintro e w2 ⟨q, l2, c2, rfl, hm2, hb2, hf2⟩
  have HD : Hid (DMs w (w2.alloc (.cells #[.slice q l2 c2, .int .u64 0] 31)) b g w2.heap.size w.heap.size (PM.new n) q l2 c2) := by
    have b3 := (Below.refl w2.heap.size w2).alloc (Nat.le_refl _) (.cells #[.slice q l2 c2, .int .u64 0] 31)
    have b23 := hb2.trans (b3.mono hb2.size)
    have hmr : MR w w2 b g (PM.new n) q l2 c2 := ⟨HS1.out.ans hb2, hm2, fun x o e => by
      rcases hf2 x o e with ⟨o', e'⟩ | hx
      · cases e'
      · have := HS1.out.mem.lt; rintro (h | h) <;> omega⟩
    have hlt := HS1.out.mem.lt
    have hr0 := HR1.out.lt
    have hsz := hb2.size
    exact ⟨hmr.on b3, Row.new w2 _ [.slice q l2 c2, .int .u64 0], (HR1.out.on' hb2).on' b3, by omega, Nat.le_refl _, ⟨fun e => by rcases e with e | e <;> omega, fun e => by have := HA1.out; rcases e with e | e <;> omega, by omega⟩⟩
  clear hm2 hb2 hf2 HS1 HR1 HR0 HB0
  go_upto_region 2 with (fail)
  obtain ⟨W, hW⟩ : ∃ W, w2.alloc (.cells #[.slice q l2 c2, .int .u64 0] 31) = W := ⟨_, rfl⟩
  obtain ⟨b5, hb5⟩ : ∃ x, w2.heap.size = x := ⟨_, rfl⟩
  obtain ⟨b3, hb3⟩ : ∃ x, w.heap.size = x := ⟨_, rfl⟩
  rw [hW, hb5, hb3] at HD
  rw [hW, hb5, hb3]
  clear hW hb5 hb3
  go_wp2_with fail
  go_loopw [6] (fun vi wr => ∃ i : Nat, i ≤ n ∧ vi = .int .i64 i ∧ ∃ m q l2 c2, Hid (DMs w wr b g b5 b3 m q l2 c2) ∧ Hid (m.cs.length = n ∧ m.k.ops ≤ i ∧ ∀ j, j < i → m.cs.getD j 0 = zs.getD j 0)) (fun vi _ => n - (intOf vi).toNat)
  case atStart => exact ⟨0, by omega, rfl, PM.new n, q, l2, c2, HD, Lib.hid ⟨List.length_replicate .., Nat.le_refl _, fun j hj => absurd hj (Nat.not_lt_zero _)⟩⟩
  case round =>
    clear HD
    obtain ⟨i, hi, rfl, m, q, l2, c2, HR, HO⟩ := hrel
    have hl2 : l2 = n := by have := HR.out.mr.rm.len; rw [HO.out.1] at this; exact this
    subst hl2
    have t0 := HR.out.box.cell 0
    have t1 := HR.out.box.cell 1
    simp only [List.getElem?_cons_zero, List.getElem?_cons_succ] at t0 t1
    by_cases hlt : i < l2
    · have hil : i < zs.length := by rw [HN.out.1]; exact hlt
      obtain ⟨pb, po, rfl, hc⟩ := HL.out.cells i hil
      obtain ⟨x, hx⟩ : ∃ x, zs.getD i 0 = x := ⟨_, rfl⟩
      rw [hx] at hc
      have HXx := Lib.hid hx
      have HC := Lib.hid hc
      have c0 : wr.cell? ⟨pb, po + i, none⟩ = some (.int .u64 x) := by rw [HR.out.mr.so.bel.cell (block_lt_of_cell hc)]; exact hc
      have i2 : (i : Int) < (l2 : Int) := by omega
      have hwi : IntKind.i64.wrap ((i : Int) + 1) = (i : Int) + 1 := IntWalk.i64_in _ (by have := HN.out.2; omega)
      have HK := Lib.hid hlt
      have hst := store_any (i : Int) x wr HR.out.mr.so.mem (by have := HO.out.2.1; have := HN.out.2; omega)
      clear hil hx hc hlt
      go_wp2_with fail
      refine hst.mono ?_
      rintro e w3 ⟨rfl, hm3, ht3⟩
      have HD3 := Lib.hid (DMs.own HR.out ht3)
      have HM3 := Lib.hid hm3
      have HB3 := Lib.hid (HR.out.mr.so.step hm3 ht3).bel
      clear hm3 ht3 hst t0 t1 c0
      have t0 := HD3.out.2.1.cell 0
      have t1 := HD3.out.2.1.cell 1
      have t2 := HD3.out.2.1.frozen 0
      have t3 := HD3.out.2.1.frozen 1
      simp only [List.getElem?_cons_zero, List.getElem?_cons_succ] at t0 t1
      have hHeld0 : w3.drew.cell? ⟨pb, po + i, none⟩ = some (.int .u64 x) := by rw [World.cell?_drew, HB3.out.cell (block_lt_of_cell HC.out)]; exact HC.out
      have HSt := Lib.hid (m_store (i : Int) x (HD3.out.1.on (Below.refl _ _).drew) (by have := HO.out.2.1; have := HN.out.2; omega))
      go_wp2_with fail
      refine wp_region_held_drew (S := fun w' => w'.cell? ⟨pb, po + i, none⟩ = some (.int .u64 x)) (by kernel_rfl) hHeld0 (fun hHeld => ?_)
      refine wpAnyH_take (i := 1) (v := .int .i64 (i : Int)) rfl (by kernel_rfl) (by kernel_rfl) (by kernel_rfl) (fun _ _ _ h => h) (Or.inl ⟨by rfl, fun w hSw => by go_simp⟩) hHeld ?_
      (try simp only [Act.put, List.setIfInBounds_toArray, List.set_cons_zero, List.set_cons_succ])
      refine wpAnyH_take (i := 2) (v := .slice (some ⟨pb, po, none⟩) l2 c) rfl (by kernel_rfl) (by kernel_rfl) (by kernel_rfl) (fun _ _ _ h => h) (Or.inl ⟨by rfl, fun w hSw => by go_simp⟩) hHeld ?_
      (try simp only [Act.put, List.setIfInBounds_toArray, List.set_cons_zero, List.set_cons_succ])
      refine wpAnyH_take (i := 3) (v := .int .i64 (i : Int)) rfl (by kernel_rfl) (by kernel_rfl) (by kernel_rfl) (fun _ _ _ h => h) (Or.inl ⟨by rfl, fun w hSw => by go_simp⟩) hHeld ?_
      (try simp only [Act.put, List.setIfInBounds_toArray, List.set_cons_zero, List.set_cons_succ])
      refine wpAnyH_take (i := 4) (v := .pointer (some ⟨pb, po + i, none⟩)) rfl (by kernel_rfl) (by kernel_rfl) (by kernel_rfl) (fun _ _ _ h => h) (Or.inl ⟨by rfl, fun w hSw => by go_simp⟩) hHeld ?_
      (try simp only [Act.put, List.setIfInBounds_toArray, List.set_cons_zero, List.set_cons_succ])
      refine wpAnyH_take (i := 5) (v := .int .u64 x) rfl (by kernel_rfl) (by kernel_rfl) (by kernel_rfl) (fun _ _ _ h => h) (Or.inl ⟨by rfl, fun w hSw => by go_simp⟩) hHeld ?_
      (try simp only [Act.put, List.setIfInBounds_toArray, List.set_cons_zero, List.set_cons_succ])
      refine wpAnyH_ready (rs := [0]) (by kernel_rfl) (by simp) ?_
      refine AllReadyH.cons rfl (fun K hK => ?_) AllReadyH.nil
      go_simp
      refine hK.out _ _ hHeld (fun hHeld2 => ?_)
      clear hK K hHeld
      (try simp only [Act.put, List.setIfInBounds_toArray, List.set_cons_zero, List.set_cons_succ])
      refine wpAnyH_ready (rs := [6]) (by kernel_rfl) (by simp) ?_
      refine AllReadyH.cons rfl (fun K hK => ?_) AllReadyH.nil
      go_simp
      refine HSt.out.mono ?_
      rintro e w4 ⟨q3, l3, c3, rfl, hm4, hb4, hf4⟩
      have hb34 : Below w3.heap.size w3 w4 := ((Below.refl w3.heap.size w3).drew).trans hb4
      have HDn := Lib.hid (DMs.next HR.out HM3.out HD3.out HB3.out hm4 hb34 hf4)
      have hbx := HD3.out.2.1.on' hb34
      have d0 := hbx.cell 0
      have d1 := hbx.cell 1
      have f0 := hbx.frozen 0
      have f1 := hbx.frozen 1
      simp only [List.getElem?_cons_zero, List.getElem?_cons_succ] at d0 d1
      have hc4 : w4.cell? ⟨pb, po + i, none⟩ = some (.int .u64 x) := by rw [(HB3.out.trans (hb34.mono HB3.out.size)).cell (block_lt_of_cell HC.out)]; exact HC.out
      have hc5 := HDn.out.mr.so.bel.cell (p := ⟨pb, po + i, none⟩) (block_lt_of_cell HC.out)
      rw [HC.out] at hc5
      clear hm4 hb4 hf4 hHeld2 hbx hb34
      go_simp
      refine hK.out _ _ hc4 (fun hHeld => ?_)
      clear hK K
      (try simp only [Act.put, List.setIfInBounds_toArray, List.set_cons_zero, List.set_cons_succ])
      refine wpAnyH_ready (rs := [7]) (by kernel_rfl) (by simp) ?_
      refine AllReadyH.cons rfl (fun K hK => ?_) AllReadyH.nil
      go_simp
      refine hK.out _ _ hc5 (fun hHeld2 => ?_)
      clear hK K hHeld
      refine wpAnyH_done (by kernel_rfl) ?_ _
      go_wp2_with fail
      go_roundw
      case rel => exact ⟨i + 1, HK.out, by go_num, _, q3, l3, c3, HDn, Lib.hid ⟨by have := store_len m i x; rw [this]; exact HO.out.1, by have := store_opsT m i x; have := HO.out.2.1; omega, fun j hj => by rw [store_get m x (by rw [HO.out.1]; exact HK.out)]; split; (rename_i e; rw [e]; exact HXx.out.symm); exact HO.out.2.2 j (by omega)⟩⟩
      case measure =>
        show _ < _
        have := HK.out
        simp only [intOf]; omega
    · have hlt2 : ¬ ((i : Int) < (l2 : Int)) := by omega
      have z0 := HR.out.res.cell 0
      have z1 := HR.out.res.cell 1
      have f0 := HR.out.res.frozen 0
      have f1 := HR.out.res.frozen 1
      simp only [List.getElem?_cons_zero, List.getElem?_cons_succ] at z0 z1
      have HF := Lib.hid (DMs.done HR.out)
      have HOps := Lib.hid (show m.k.ops ≤ l2 by have := HO.out.2.1; omega)
      have HCs : Hid (m.cs = zs ∧ l2 = zs.length) := ⟨List.ext_getElem (by rw [HO.out.1, HN.out.1]) (fun j h1 h2 => by have := HO.out.2.2 j (by rw [HO.out.1] at h1; omega); simpa [List.getD, h1, h2] using this), HN.out.1.symm⟩
      have hne := HR.out.n5.2.2
      have hne' : b3 ≠ b5 := fun e => hne e.symm
      have HK : Hid ((wr).cell? ⟨b5, 0, none⟩ = some (.slice q l2 c2) ∧ (wr).cell? ⟨b5, 1, none⟩ = some (.int .u64 m.k.ops)) := ⟨t0, t1⟩
      have HKd : Hid ((wr.drew).cell? ⟨b5, 0, none⟩ = some (.slice q l2 c2) ∧ (wr.drew).cell? ⟨b5, 1, none⟩ = some (.int .u64 m.k.ops)) := by simp only [World.cell?_drew]; exact HK
      have HK2 : Hid (∀ u v, ((wr.setCell ⟨b3, 0, none⟩ u).setCell ⟨b3, 1, none⟩ v).cell? ⟨b5, 0, none⟩ = some (.slice q l2 c2) ∧ ((wr.setCell ⟨b3, 0, none⟩ u).setCell ⟨b3, 1, none⟩ v).cell? ⟨b5, 1, none⟩ = some (.int .u64 m.k.ops)) := fun u v => by
        have hr := (HR.out.box.far (p := ⟨b3, 0, none⟩) hne u).far (p := ⟨b3, 1, none⟩) hne v
        exact ⟨hr.cell 0, hr.cell 1⟩
      have HK2d : Hid (∀ u v, (((wr.setCell ⟨b3, 0, none⟩ u).setCell ⟨b3, 1, none⟩ v).drew).cell? ⟨b5, 0, none⟩ = some (.slice q l2 c2) ∧ (((wr.setCell ⟨b3, 0, none⟩ u).setCell ⟨b3, 1, none⟩ v).drew).cell? ⟨b5, 1, none⟩ = some (.int .u64 m.k.ops)) := fun u v => by simp only [World.cell?_drew]; exact HK2.out u v
      go_wp2_with fail
      go_region_held3 (fun w' => w'.cell? ⟨b5, 0, none⟩ = some (.slice q l2 c2) ∧ w'.cell? ⟨b5, 1, none⟩ = some (.int .u64 m.k.ops)) (first | (with_reducible exact HK.out) | (with_reducible exact HKd.out) | (with_reducible exact HK2.out _ _) | (with_reducible exact HK2d.out _ _)) (fail)
      go_wp2
      exact bodyPost_ret (v := .tuple #[.pointer (some ⟨b, 0, none⟩), .agg #[.slice q l2 c2, .int .u64 m.k.ops]]) (by simp [results, Try.results12, go_sem, *]) rfl ⟨b, g, q, l2, c2, m, rfl, HF.out.on (Below.refl _ _).drew, by rw [← HCs.out.2]; exact HOps.out, HCs.out.1⟩
end Go.Proofs.Ytkhfanhboooilaa
