/- The law GetAll (layer 10), walked. -/
import Derived.Test.YtkhfanhboooilaaHh
set_option linter.unusedSimpArgs false
set_option linter.unusedVariables false
namespace Go.Proofs.Ytkhfanhboooilaa
open Go.RowKit Go.Cg Go.Pu Go.Wd Go.Ce

/-- behind the reference's All: its row, and its memory in a box -/
structure AllF (w0 W : World) (b11 : Nat) (pw : Option Addr) (nw kw : Nat) (L : List Int) (ME : PM) (q : Option Addr) (l cc : Nat) : Prop where
  row : NewRow w0.heap.size W (.slice pw nw kw) L
  box : Row b11 31 [.slice q l cc, .int .u64 ME.k.ops] W
  rm : RM W q l cc ME.cs
  bel : Below w0.heap.size w0 W
  ge : w0.heap.size ≤ b11
theorem AllF.on {w0 W W' : World} {b11 nw kw l cc : Nat} {pw q : Option Addr} {L : List Int} {ME : PM} (h : AllF w0 W b11 pw nw kw L ME q l cc) (hb : Below W.heap.size W W') : AllF w0 W' b11 pw nw kw L ME q l cc := ⟨h.row.on hb, h.box.on' hb, h.rm.on hb, h.bel.trans (hb.mono h.bel.size), h.ge⟩
theorem AllF.set {w0 W6 W : World} {b9 nw kw l cc : Nat} {pw q : Option Addr} {L : List Int} {ME : PM} (h9 : w0.heap.size ≤ b9) (hb : Below w0.heap.size w0 W) (hr : Row b9 31 [.slice none 0 0, .int .u64 0] W) (hn : NewRow W6.heap.size W (.slice pw nw kw) L) (hs : w0.heap.size ≤ W6.heap.size) (hm : RM W q l cc ME.cs) : AllF w0 ((W.setCell ⟨b9, 0, none⟩ (.slice q l cc)).setCell ⟨b9, 1, none⟩ (.int .u64 ME.k.ops)) b9 pw nw kw L ME q l cc := by
  have ht := (rgts b9 0 (.slice q l cc) W).trans (rgts b9 1 (.int .u64 ME.k.ops) _)
  exact ⟨(hn.tch ht (fun k hk e => new_neR hn hr (by decide) (by rw [← e]; exact hk))).base hs, hr.put2 _ _, hm.tchRow hr (fun z e => by cases e) ht, hb.trans (ht.below hb.size (fun k e => by omega)), h9⟩
theorem AllF.new {w0 W6 W : World} {nw kw l cc : Nat} {pw q : Option Addr} {L : List Int} {ME : PM} (hb : Below w0.heap.size w0 W) (hn : NewRow W6.heap.size W (.slice pw nw kw) L) (hs : w0.heap.size ≤ W6.heap.size) (hm : RM W q l cc ME.cs) : AllF w0 (W.alloc (.cells #[.slice q l cc, .int .u64 ME.k.ops] 31)) W.heap.size pw nw kw L ME q l cc := by
  have ha := (Below.refl W.heap.size W).alloc (Nat.le_refl _) (.cells #[.slice q l cc, .int .u64 ME.k.ops] 31)
  exact ⟨(hn.on ha).base hs, Row.new W 31 [.slice q l cc, .int .u64 ME.k.ops], hm.on ha, hb.trans (ha.mono hb.size), hb.size⟩
set_option maxRecDepth 100000 in
set_option maxHeartbeats 4000000 in
theorem getall_any (c : Cfg) (p : Int) (vb : Value) (bs : List Int) (w : World) (hb : InBy w vb bs) :
    Calls Try.prog 7 #[cVal c, .int .i64 p, vb] w (Ans (.bool true) w) := by
  obtain ⟨pb, nb, kb, rfl, hnb, hnb2, hby⟩ := hb
  have HWk := Lib.hid (fun W => gworks_any W)
  obtain ⟨C, hC⟩ : ∃ C : Cfg, C = c := ⟨c, rfl⟩
  have HC := Lib.hid hC
  have hbx := (Below.refl w.heap.size w).alloc (Nat.le_refl _) (.cells (cCells c).toArray 23)
  have hrx := Row.new w 23 (cCells c)
  obtain ⟨W1, hW1⟩ : ∃ W1, w.alloc (.cells (cCells c).toArray 23) = W1 := ⟨_, rfl⟩
  rw [hW1] at hbx hrx
  obtain ⟨cb, hcb⟩ : ∃ cb, w.heap.size = cb := ⟨_, rfl⟩
  rw [hcb] at hrx
  rw [← hC] at hrx
  have HB1 := Lib.hid hbx
  have HR1 := Lib.hid hrx
  have HCB := Lib.hid hcb
  have HW1 := Lib.hid hW1
  have HBy := Lib.hid hby
  have HNb := Lib.hid hnb
  have HFil : 40 < nb ∨ Hid (∀ W, Below w.heap.size w W → Calls Try.prog 13 #[cVal c, .slice pb nb kb] W (FilledPost C W)) := by
    by_cases h : 40 < nb
    · exact .inl h
    · refine .inr (fun W hW => ?_)
      rw [hC, hnb]
      exact filled_any c pb kb bs (by omega) W ((hby (by omega)).on hW)
  have HRg : Hid (∀ (m : PM) (W : World) (b g : Nat), m.cs.length = ccN C → U64 m → (Right C ∧ 0 ≤ p ∧ p < C.n → ln (wdN C p m) ≤ C.q.toNat) → MemIs W b g m → Calls Try.prog 46 #[cVal c, .pointer (some ⟨b, 0, none⟩), .int .i64 p] W (RowPost8 (gotN C p 65536 m).1 W)) := fun m W b g h1 h2 h3 h4 => by rw [hC] at h1 h3 ⊢; exact ring_got c p h1 h2 h3 h4
  have HDc : Hid (∀ W, Calls Try.prog 16 #[cVal c] W (Ans (cVal c) W)) := fun W => docs_any c W
  have HRA : Hid (∀ (m : PM) (W : World) (q : Option Addr) (l cc : Nat), RM W q l cc m.cs → U64 m → m.k.ops ≤ 10000 → Calls Try.prog 47 #[cVal c, .agg #[.slice q l cc, .int .u64 m.k.ops], .int .i64 p] W (RGAllPost q (gotN C p 65536 m).1 (gotN C p 65536 m).2 W)) := fun m W q l cc h1 h2 h3 => by rw [hC]; exact rgall_any c p h1 h2 h3
  have HCA : Hid (∀ (m : PM) (W : World) (b g : Nat), MemIs W b g m → U64 m → m.k.ops ≤ 1000000 → Calls Try.prog 48 #[cVal c, gptr b, .int .i64 p] W (GAllPost b g (gotN C p 65536 m).1 (gotN C p 65536 m).2 W)) := fun m W b g h1 h2 h3 => by rw [hC]; exact gall_any c p h1 h2 h3
  clear hbx hrx hby hcb hW1 hnb hC
  obtain ⟨N, Q, G, M, T, U⟩ := c
  change 40 < nb ∨ Hid (∀ W, _ → Calls Try.prog 13 #[.agg #[.int .i64 N, .int .i64 Q, .int .i64 G, .int .i64 M, .int .i64 T, .int .i64 U], .slice pb nb kb] W _) at HFil
  change Hid (∀ (m : PM) (W : World) (b g : Nat), _ → _ → _ → _ → Calls Try.prog 46 #[.agg #[.int .i64 N, .int .i64 Q, .int .i64 G, .int .i64 M, .int .i64 T, .int .i64 U], _, _] W _) at HRg
  change Hid (∀ W, Calls Try.prog 16 #[.agg #[.int .i64 N, .int .i64 Q, .int .i64 G, .int .i64 M, .int .i64 T, .int .i64 U]] W (Ans (.agg #[.int .i64 N, .int .i64 Q, .int .i64 G, .int .i64 M, .int .i64 T, .int .i64 U]) W)) at HDc
  change Hid (∀ (m : PM) (W : World) (q : Option Addr) (l cc : Nat), _ → _ → _ → Calls Try.prog 47 #[.agg #[.int .i64 N, .int .i64 Q, .int .i64 G, .int .i64 M, .int .i64 T, .int .i64 U], _, _] W _) at HRA
  change Hid (∀ (m : PM) (W : World) (b g : Nat), _ → _ → _ → Calls Try.prog 48 #[.agg #[.int .i64 N, .int .i64 Q, .int .i64 G, .int .i64 M, .int .i64 T, .int .i64 U], _, _] W _) at HCA
  have hCe : C = ⟨N, Q, G, M, T, U⟩ := HC.out
  have HCells : Hid (∀ W, Row cb 23 (cCells C) W → (W.cell? ⟨cb, 0, none⟩ = some (.int .i64 N) ∧ W.cell? ⟨cb, 1, none⟩ = some (.int .i64 Q) ∧ W.cell? ⟨cb, 2, none⟩ = some (.int .i64 G) ∧ W.cell? ⟨cb, 3, none⟩ = some (.int .i64 M) ∧ W.cell? ⟨cb, 4, none⟩ = some (.int .i64 T) ∧ W.cell? ⟨cb, 5, none⟩ = some (.int .i64 U))) := fun W h => by
    rw [hCe] at h
    exact cf_cells h
  clear hCe
  show Calls _ _ #[.agg #[.int .i64 N, .int .i64 Q, .int .i64 G, .int .i64 M, .int .i64 T, .int .i64 U], .int .i64 p, .slice pb nb kb] _ _
  rcases HFil with hb40 | HFil
  · have hb40' : (40 : Int) < nb := by omega
    go_enter Try.func7, Try.ntmps7
    go_wp2_with (go_at_call 37; (with_reducible refine (HWk.out _).mono ?_); rintro e w1 ⟨rfl, hb⟩)
    go_ret
    exact ⟨rfl, ((Below.refl w.heap.size w).alloc (Nat.le_refl _) _).trans (hb.mono (by simp))⟩
  by_cases hb40 : 40 < nb
  · have hb40' : (40 : Int) < nb := by omega
    go_enter Try.func7, Try.ntmps7
    go_wp2_with (go_at_call 37; (with_reducible refine (HWk.out _).mono ?_); rintro e w1 ⟨rfl, hb⟩)
    go_ret
    exact ⟨rfl, ((Below.refl w.heap.size w).alloc (Nat.le_refl _) _).trans (hb.mono (by simp))⟩
  have hb40' : ¬ (40 : Int) < nb := by omega
  go_enter Try.func7, Try.ntmps7
  go_upto_region 3 with (fail)
  change Code.wp _ _ _ _ (w.alloc (.cells (cCells ⟨N, Q, G, M, T, U⟩).toArray 23))
  rw [HW1.out, HCB.out]
  obtain ⟨c0, c1, c2, c3, c4, c5⟩ := HCells.out _ HR1.out
  go_wp2_with fail
  (with_reducible refine (HFil.out _ HB1.out).mono ?_)
  rintro e w6 ⟨zs, zg, rfl, hf, hz, hb6⟩
  have hzl : zs.length ≤ 564 := by rw [hf.len]; exact ccN_le _
  have HDm := Lib.hid (dm_any (some ⟨zg, 0, none⟩) zs.length zs w6 hz (by omega))
  have HFo := Lib.hid hf
  have HR6 := Lib.hid (HR1.out.on' hb6)
  have HB6 := Lib.hid (HB1.out.trans (hb6.mono HB1.out.size))
  have HZl := Lib.hid hzl
  clear hf hz hb6 hzl c0 c1 c2 c3 c4 c5
  go_wp2_with fail
  (with_reducible refine HDm.out.mono ?_)
  rintro e w7 ⟨mb, mg, rq, rl, rc, m0, rfl, hmr, hops, hcs⟩
  have HR7 := Lib.hid (HR6.out.on' hmr.so.bel)
  have hu0 : U64 m0 := fun z hz => HFo.out.u z (by rw [← hcs]; exact hz)
  have hl0 : m0.cs.length = ccN C := by rw [hcs]; exact HFo.out.len
  have hsz : Right C ∧ 0 ≤ p ∧ p < C.n → ln (wdN C p m0) ≤ C.q.toNat := fun h => by
    have := HFo.out.w p h
    unfold wdN PM.at
    rw [hcs]
    exact this
  have HM0 : Hid (U64 m0 ∧ m0.cs.length = ccN C ∧ (Right C ∧ 0 ≤ p ∧ p < C.n → ln (wdN C p m0) ≤ C.q.toNat) ∧ m0.k.ops ≤ 564) := ⟨hu0, hl0, hsz, Nat.le_trans hops HZl.out⟩
  have HFew : Hid ((gotN C p 65536 m0).1.length ≤ 64) := got_few C p hl0 hu0 hsz
  have HMm := Lib.hid hmr
  have HB7 := Lib.hid (HB6.out.trans (hmr.so.bel.mono HB6.out.size))
  have HGe : Hid (w.heap.size ≤ mb ∧ w.heap.size ≤ mg) := ⟨Nat.le_trans HB6.out.size hmr.so.b, Nat.le_trans HB6.out.size hmr.so.g⟩
  have HNeq : Hid (¬ Own mb mg cb) := fun e => by
    have h1 := HR6.out.lt
    have h2 := hmr.so.b
    have h3 := hmr.so.g
    rcases e with e | e <;> omega
  clear hmr hops hcs hu0 hl0 hsz HDm HR6 HB6 HFo HZl
  obtain ⟨c0, c1, c2, c3, c4, c5⟩ := HCells.out _ HR7.out
  go_upto_region 4 with (fail)
  have hba := (Below.refl w7.heap.size w7).alloc (Nat.le_refl _) (.cells #[.slice rq rl rc, .int .u64 (m0.k.ops : Nat)] 31)
  have hr8 := Row.new w7 31 [.slice rq rl rc, .int .u64 (m0.k.ops : Nat)]
  obtain ⟨W8, hW8⟩ : ∃ W8, w7.alloc (.cells #[.slice rq rl rc, .int .u64 (m0.k.ops : Nat)] 31) = W8 := ⟨_, rfl⟩
  change Row w7.heap.size _ _ (w7.alloc (.cells #[.slice rq rl rc, .int .u64 (m0.k.ops : Nat)] 31)) at hr8
  rw [hW8] at hba hr8 ⊢
  obtain ⟨b8, hb8⟩ : ∃ z, w7.heap.size = z := ⟨_, rfl⟩
  rw [hb8] at hr8 ⊢
  have HR8 := Lib.hid (HR7.out.on' hba)
  have HX8 := Lib.hid hr8
  have HM8 := Lib.hid (HMm.out.on hba)
  have HB8 := Lib.hid (HB7.out.trans (hba.mono HB7.out.size))
  clear hW8 hba HR7 HMm HB7 hr8 hb8 c0 c1 c2 c3 c4 c5
  obtain ⟨c0, c1, c2, c3, c4, c5⟩ := HCells.out _ HR8.out
  go_wp2_with fail
  (with_reducible refine (HRg.out _ _ _ _ HM0.out.2.1 HM0.out.1 HM0.out.2.2.1 HM8.out.so.mem).mono ?_)
  rintro e w9 ⟨pw, nw, kw, rfl, hnw, hOw, hb9⟩
  have HR9 := Lib.hid (HR8.out.on' hb9)
  have HX9 := Lib.hid (HX8.out.on' hb9)
  have HM9 := Lib.hid (HM8.out.on hb9)
  have HB9 := Lib.hid (HB8.out.trans (hb9.mono HB8.out.size))
  have HOw := Lib.hid hOw
  have HOn : Hid (∀ k, (Value.slice pw nw kw).ownBlock = some k → ¬ Own mb mg k) := fun k hk e => by
    have h1 := (hOw.lt k hk).1
    have h2 := HM8.out.so.mem.lt
    rcases e with e | e <;> omega
  clear hnw hOw hb9 HR8 HX8 HM8 HB8 c0 c1 c2 c3 c4 c5
  obtain ⟨L, hL⟩ : ∃ L, (gotN C p 65536 m0).1 = L := ⟨_, rfl⟩
  obtain ⟨ME, hME⟩ : ∃ ME, (gotN C p 65536 m0).2 = ME := ⟨_, rfl⟩
  have HRA2 := HRA.out m0
  have HCA2 := HCA.out m0
  rw [hL, hME] at HRA2 HCA2
  rw [hL] at HOw HFew
  have HRA2 := Lib.hid HRA2
  have HCA2 := Lib.hid HCA2
  clear hL hME HRA HCA
  go_upto_region 5 with fail
  have HO9 : Hid (Below w9.drew.heap.size w9.drew (w9.drew.alloc (.cells #[.slice none 0 0, .int .u64 0] 31))) := Lib.hid ((Below.refl _ _).alloc (Nat.le_refl _) _)
  have HR9a : Hid (Row w9.heap.size 31 [.slice none 0 0, .int .u64 0] (w9.drew.alloc (.cells #[.slice none 0 0, .int .u64 0] 31))) := Lib.hid (Row.new w9.drew 31 [.slice none 0 0, .int .u64 0])
  have HK : Hid (∀ W, Below w9.drew.heap.size w9.drew W → ((W.cell? ⟨cb, 0, none⟩ = some (.int .i64 N) ∧ W.cell? ⟨cb, 1, none⟩ = some (.int .i64 Q) ∧ W.cell? ⟨cb, 2, none⟩ = some (.int .i64 G) ∧ W.cell? ⟨cb, 3, none⟩ = some (.int .i64 M) ∧ W.cell? ⟨cb, 4, none⟩ = some (.int .i64 T) ∧ W.cell? ⟨cb, 5, none⟩ = some (.int .i64 U)) ∧ W.cell? ⟨b8, 0, none⟩ = some (.slice rq rl rc) ∧ W.cell? ⟨b8, 1, none⟩ = some (.int .u64 (m0.k.ops : Nat)))) := fun W hb => ⟨HCells.out _ (HR9.out.drew.on' hb), (HX9.out.drew.on' hb).cell 0, (HX9.out.drew.on' hb).cell 1⟩
  go_cut [10, 11] from 12 (fun v10 v11 wc => ∃ p2 n2 k2 b11 q2 l2 cc2, v10 = .slice p2 n2 k2 ∧ v11 = .pointer (some ⟨b11, 0, none⟩) ∧ Hid (AllF w9.drew wc b11 p2 n2 k2 L ME q2 l2 cc2) ∧ Hid (Fr rq q2 w9.drew))
  case first =>
    go_region_held3 (fun W => (W.cell? ⟨cb, 0, none⟩ = some (.int .i64 N) ∧ W.cell? ⟨cb, 1, none⟩ = some (.int .i64 Q) ∧ W.cell? ⟨cb, 2, none⟩ = some (.int .i64 G) ∧ W.cell? ⟨cb, 3, none⟩ = some (.int .i64 M) ∧ W.cell? ⟨cb, 4, none⟩ = some (.int .i64 T) ∧ W.cell? ⟨cb, 5, none⟩ = some (.int .i64 U)) ∧ W.cell? ⟨b8, 0, none⟩ = some (.slice rq rl rc) ∧ W.cell? ⟨b8, 1, none⟩ = some (.int .u64 (m0.k.ops : Nat)))
      (first | exact HK.out _ (Below.refl _ _) | exact HK.out _ HO9.out | exact HK.out _ HB5.out | exact HK.out _ HB5a.out | exact HK.out _ HB6.out | exact HK.out _ HB6a.out | exact HK.out _ HAF.out.bel)
      (first
        | (go_at_call 16; (with_reducible refine (HDc.out _).mono ?_); rintro e w5 ⟨rfl, hb5⟩; first | (have HB5 : Hid (Below w9.drew.heap.size w9.drew w5) := Lib.hid hb5; have HB5a := Lib.hid (HB5.out.alloc HB5.out.size (.cells #[.slice none 0 0, .int .u64 0] 31)); have HR5a := Lib.hid (Row.new w5 31 [.slice none 0 0, .int .u64 0])) | (have HB5 : Hid (Below w9.drew.heap.size w9.drew w5) := Lib.hid (HO9.out.trans (hb5.mono HO9.out.size)); have HR5 := Lib.hid (HR9a.out.on' hb5)))
        | (go_at_call 47; first
          | ((with_reducible refine (HRA2.out _ _ _ _ (HM9.out.rm.on ((Below.refl _ _).drew.trans (HB5.out.mono (Nat.le_refl _)))) HM0.out.1 (by have := HM0.out.2.2.2; omega)).mono ?_); rintro e w6 ⟨p2, n2, k2, q2, l2, cc2, rfl, hn6, hm6, hb6, hf6⟩; have HB6 := Lib.hid (HB5.out.trans (hb6.out.mono HB5.out.size)); have HFr := Lib.hid (hf6.out.old HB5.out.size); first | (have HR6 := Lib.hid (HR5.out.on' hb6.out); have HAF := Lib.hid (AllF.set (by first | exact Nat.le_refl _ | exact HB5.out.size) HB6.out HR6.out hn6.out HB5.out.size hm6.out); obtain ⟨e0, e1, f0, f1⟩ := HR6.out.two) | (have HB6a := Lib.hid (HB6.out.alloc HB6.out.size (.cells #[.slice none 0 0, .int .u64 0] 31)); have HR6 := Lib.hid (Row.new w6 31 [.slice none 0 0, .int .u64 0]); have HAF := Lib.hid (AllF.new HB6.out hn6.out HB5.out.size hm6.out); obtain ⟨e0, e1, f0, f1⟩ := HR6.out.two))
          | ((with_reducible refine (HRA2.out _ _ _ _ (HM9.out.rm.on ((Below.refl _ _).drew.trans (HB5a.out.mono (Nat.le_refl _)))) HM0.out.1 (by have := HM0.out.2.2.2; omega)).mono ?_); rintro e w6 ⟨p2, n2, k2, q2, l2, cc2, rfl, hn6, hm6, hb6, hf6⟩; have HB6 := Lib.hid (HB5a.out.trans (hb6.out.mono HB5a.out.size)); have HFr := Lib.hid (hf6.out.old HB5a.out.size); have HR6 := Lib.hid (HR5a.out.on' hb6.out); have HAF := Lib.hid (AllF.set HB5.out.size HB6.out HR6.out hn6.out HB5a.out.size hm6.out); obtain ⟨e0, e1, f0, f1⟩ := HR6.out.two)))
    all_goals (go_wp2_with fail; go_meet; exact ⟨_, _, _, _, _, _, _, rfl, rfl, HAF, HFr⟩)
  case rest =>
    obtain ⟨p2, n2, k2, b11, q2, l2, cc2, rfl, rfl, HAF, HFr⟩ := hcut
    have hs9 : w9.drew.heap.size = w9.heap.size := rfl
    have hbd : Below w9.heap.size w9 wc := (Below.refl _ _).drew.trans (HAF.out.bel.mono (Nat.le_refl _))
    have HRc := Lib.hid (HR9.out.on' hbd)
    have HMc := Lib.hid (HM9.out.so.mem.on hbd)
    have HOc := Lib.hid (HOw.out.on hbd)
    have HBc := Lib.hid (HB9.out.trans (hbd.mono HB9.out.size))
    have hmlt := HM9.out.so.mem.lt
    have HAp : Hid (Ap mb mg q2) := HM9.out.ap.fr HFr.out (by rw [hs9]; exact hmlt.1) (by rw [hs9]; exact hmlt.2)
    have HN2 : Hid ((∀ k, (Value.slice p2 n2 k2).ownBlock = some k → ¬ Own mb mg k) ∧ ¬ Own mb mg b11) := by
      refine ⟨fun k hk e => ?_, fun e => ?_⟩
      · have h1 := (HAF.out.row.lt k hk).1
        rw [hs9] at h1
        rcases e with e | e <;> omega
      · have h1 := HAF.out.ge
        rw [hs9] at h1
        rcases e with e | e <;> omega
    clear HK HO9 HR9a HR9 HX9 HM9 HB9 HOw hbd hs9 hmlt
    obtain ⟨c0, c1, c2, c3, c4, c5⟩ := HCells.out _ HRc.out
    obtain ⟨e0, e1, -, -⟩ := HAF.out.box.two
    go_wp2_with (first
      | (go_at_call 48; (with_reducible refine (HCA2.out _ _ _ HMc.out HM0.out.1 (by have := HM0.out.2.2.2; omega)).mono ?_); rintro e y1 ⟨p3, n3, k3, rfl, hn3, hr3, hm3, ht3⟩; have HR3 := Lib.hid hr3.out; have HM3 := Lib.hid hm3.out; have HO3 := Lib.hid (HOc.out.tch ht3.out (fun k hk => HOn.out k hk)); have HL3 := Lib.hid (HAF.out.row.tch ht3.out (fun k hk => HN2.out.1 k hk)); have HX3 := Lib.hid (HAF.out.box.tch ht3.out HN2.out.2); have HQ3 := Lib.hid (HAF.out.rm.tch ht3.out HAp.out); have HB3 := Lib.hid (HBc.out.trans (ht3.out.below HBc.out.size (fun k hk => by have := HGe.out; rcases hk with hk | hk <;> omega))); clear hn3 hr3 hm3 ht3)
      | (go_at_call 19; (with_reducible refine (same_rows rfl (by have := HFew.out; omega) HR3.out HL3.out).mono ?_); rintro e y2 ⟨rfl, hb4⟩; have HO4 := Lib.hid (HO3.out.on hb4); have HL4 := Lib.hid (HL3.out.on hb4); have HX4 := Lib.hid (HX3.out.on' hb4); have HQ4 := Lib.hid (HQ3.out.on hb4); have HM4 := Lib.hid (HM3.out.on hb4); have HB4 := Lib.hid (HB3.out.trans (hb4.mono HB3.out.size)); clear hb4)
      | (go_at_call 19; (with_reducible refine (same_rows rfl (by have := HFew.out; omega) HO4.out HL4.out).mono ?_); rintro e y3 ⟨rfl, hb5⟩; have HX5 := Lib.hid (HX4.out.on' hb5); have HQ5 := Lib.hid (HQ4.out.on hb5); have HM5 := Lib.hid (HM4.out.on hb5); have HB5 := Lib.hid (HB4.out.trans (hb5.mono HB4.out.size)); clear hb5 e0 e1; obtain ⟨e0, e1, -, -⟩ := HX5.out.two)
      | (go_at_call 21; (with_reducible refine (samemem_any _ HM5.out HQ5.out rfl).mono ?_); rintro e y4 ⟨rfl, hb6⟩; have HB6 := Lib.hid (HB5.out.trans (hb6.mono HB5.out.size)); clear hb6)
      | (go_at_call 37; (with_reducible refine (HWk.out _).mono ?_); rintro e y5 ⟨rfl, hb7⟩; have HB7 := Lib.hid (HB6.out.trans (hb7.mono HB6.out.size)); clear hb7))
    go_ret
    exact ⟨rfl, HB7.out⟩
end Go.Proofs.Ytkhfanhboooilaa
