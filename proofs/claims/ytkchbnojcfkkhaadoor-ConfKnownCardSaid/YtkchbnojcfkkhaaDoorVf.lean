/- The reference's Read (layer 5), walked. -/
import Derived.Test.YtkchbnojcfkkhaaDoorVe
namespace Go.Proofs.YtkchbnojcfkkhaaDoor
open Go.RowKit Go.Tx Go.Cg

/-- what Read returns -/
def RdPost (s : List UInt8) (w : World) (e : Ending) (w' : World) : Prop := e = .returned (.tuple #[cVal (rdA s).1, .int .i64 (rdA s).2]) ∧ Below w.heap.size w w'
/-- the numbers so far: a row of its own -/
structure RI (W : World) (zs : List Int) (v : Value) (w : World) : Prop where
  own : w.ownsRow W.heap.size 3 1 v zs.length (zs.map (Value.int .i64))
  bel : Below W.heap.size W w
theorem RI.nil (W : World) : RI W [] (.slice none 0 0) W := ⟨World.ownsRow_nil _ _ _ _, .refl _ _⟩
theorem RI.push {W w w' : World} {zs : List Int} {v v' : Value} {z : Int} (h : RI W zs v w) (ho : w'.ownsRow W.heap.size 3 1 v' (zs.length + 1) (zs.map (Value.int .i64) ++ [.int .i64 z])) (hg : (w.alloc (.cells #[.int .i64 z] 3)).grownBy w' v.ownBlock) : RI W (zs ++ [z]) v' w' := by
  refine ⟨?_, (h.bel.trans ((Below.refl _ _).alloc h.bel.size _)).trans ((Tch.grown hg).below (Nat.le_trans h.bel.size (by simp)) (fun j e => (h.own.lt j e).1))⟩
  rw [List.length_append, List.map_append]; exact ho
theorem infoInt5 : (Tryd.prog.info? 3).map (fun i => (i.zero, i.size, i.bytes)) = some (some (.int .i64 0), 1, 8) := by kernel_rfl
theorem int_new (z : Int) (w : World) (t : TypeId) : ∀ j u, [Value.int .i64 z][j]? = some u → (w.alloc (.cells #[.int .i64 z] t)).cell? ((⟨w.heap.size, 0, none⟩ : Addr).add j) = some u := by
  intro j u hu
  rcases j with _ | j <;> simp at hu
  subst hu
  simp [World.cell?_alloc_new, Addr.add]
theorem int_one (z : Int) : ∀ u ∈ [Value.int .i64 z], u.oneCell' = true := by
  intro u hu; simp at hu; subst hu; rfl
theorem six_zero (w w' : World) (hb : Below w.heap.size w w') (x0 x1 x2 x3 x4 x5 : Value) : Below w.heap.size w ((((((w'.setCell ⟨w.heap.size, 0, none⟩ x0).setCell ⟨w.heap.size, 1, none⟩ x1).setCell ⟨w.heap.size, 2, none⟩ x2).setCell ⟨w.heap.size, 3, none⟩ x3).setCell ⟨w.heap.size, 4, none⟩ x4).setCell ⟨w.heap.size, 5, none⟩ x5) :=
  (((((hb.setCell (p := ⟨w.heap.size, 0, none⟩) (Nat.le_refl _) _).setCell (p := ⟨w.heap.size, 1, none⟩) (Nat.le_refl _) _).setCell (p := ⟨w.heap.size, 2, none⟩) (Nat.le_refl _) _).setCell (p := ⟨w.heap.size, 3, none⟩) (Nat.le_refl _) _).setCell (p := ⟨w.heap.size, 4, none⟩) (Nat.le_refl _) _).setCell (p := ⟨w.heap.size, 5, none⟩) (Nat.le_refl _) _

theorem list_six {zs : List Int} (h : zs.length = 6) : ∃ a b c d e f, zs = [a, b, c, d, e, f] := by
  match zs, h with
  | [a, b, c, d, e, f], _ => exact ⟨a, b, c, d, e, f, rfl⟩

set_option maxRecDepth 10000 in
set_option maxHeartbeats 1000000 in
theorem rcread_long (s : ByteArray) (h : 100 ≤ s.size) (hs : s.size ≤ 9223372036854775807) (w : World) : Calls Tryd.prog 28 #[.string s] w (RdPost s.data.toList w) := by
  have hi1 : ¬ ((s.size : Int) < 100) := by omega
  have hi2 : (0 : Int) ≤ (s.size : Int) := by omega
  have HA := Lib.hid (rdA_none (rdC_long (s := s.data.toList) (by rw [← Lib.size_eq]; exact h)))
  go_enter Tryd.func28, Tryd.ntmps28
  go_wp2_with fail
  go_loopw [4, 6] (fun vl vi wr => vl = .slice none 0 0 ∧ vi = .int .i64 0 ∧ wr = w.alloc (.cells #[.int .i64 0, .int .i64 0, .int .i64 0, .int .i64 0, .int .i64 0, .int .i64 0] 25)) (fun _ _ _ => 0)
  case atStart => exact ⟨rfl, rfl, rfl⟩
  case round =>
    obtain ⟨rfl, rfl, rfl⟩ := hrel
    go_wp2_with fail
    refine bodyPost_ret (v := .tuple #[.agg #[.int .i64 0, .int .i64 0, .int .i64 0, .int .i64 0, .int .i64 0, .int .i64 0], .int .i64 2]) (by simp [results, Tryd.results28, go_sem, *]) rfl ?_
    exact ⟨by rw [HA.out]; rfl, (Below.refl _ _).alloc (Nat.le_refl _) _⟩

set_option maxRecDepth 10000 in
set_option maxHeartbeats 4000000 in
theorem rcread_short (s : ByteArray) (h : s.size < 100) (w : World) : Calls Tryd.prog 28 #[.string s] w (RdPost s.data.toList w) := by
  obtain ⟨i0, hi, hz0, hz1, hz2⟩ := info_parts infoInt5
  have hi1 : ((s.size : Int) < 100) := by omega
  go_enter Tryd.func28, Tryd.ntmps28
  go_wp2_with fail
  have HB := Lib.hid ((Below.refl w.heap.size w).alloc (Nat.le_refl _) (.cells #[.int .i64 0, .int .i64 0, .int .i64 0, .int .i64 0, .int .i64 0, .int .i64 0] 25))
  have HR0 := Lib.hid (Row.new w 25 [.int .i64 0, .int .i64 0, .int .i64 0, .int .i64 0, .int .i64 0, .int .i64 0])
  change Hid (Row w.heap.size 25 [.int .i64 0, .int .i64 0, .int .i64 0, .int .i64 0, .int .i64 0, .int .i64 0] (w.alloc (.cells #[.int .i64 0, .int .i64 0, .int .i64 0, .int .i64 0, .int .i64 0, .int .i64 0] 25))) at HR0
  obtain ⟨W, hW⟩ : ∃ W, w.alloc (.cells #[.int .i64 0, .int .i64 0, .int .i64 0, .int .i64 0, .int .i64 0, .int .i64 0] 25) = W := ⟨_, rfl⟩
  rw [hW] at HB HR0 ⊢
  clear hW
  go_loopw [4, 5, 6] (fun vl vn vi wr => ∃ i : Nat, i ≤ s.size + 1 ∧ vi = .int .i64 i ∧ ∃ zs nn, Hid (rs s.data.toList i = (zs, nn)) ∧ vn = .int .i64 nn ∧ Hid (RI W zs vl wr)) (fun _ _ vi _ => s.size + 2 - (intOf vi).toNat)
  case atStart => exact ⟨0, by omega, rfl, [], -1, rs_zero _, rfl, RI.nil W⟩
  case round =>
    obtain ⟨i, hi7, rfl, zs, nn, HS, rfl, HI⟩ := hrel
    obtain ⟨vl, rfl⟩ : ∃ v, v = u4 := ⟨_, rfl⟩
    obtain ⟨hn1, hn2, hzl⟩ := rs_bd s.data.toList i (by rw [← Lib.size_eq]; exact hi7)
    rw [HS.out] at hn1 hn2 hzl
    simp only at hn1 hn2 hzl
    have HX := Lib.hid (And.intro (show zs.length + 1 ≤ maxLen by unfold maxLen; omega) (And.intro (show (zs.length + 1) * 8 ≤ 140737488355328 by omega) HI.out.bel.size))
    by_cases hlt : i < s.size
    · obtain ⟨b, hb⟩ : ∃ b, s[i] = b := ⟨_, rfl⟩
      have HST := rs_step (s := s.data.toList) (i := i) (by rw [← Lib.size_eq]; exact hlt)
      rw [show s.data.toList[i]'(by rw [← Lib.size_eq]; exact hlt) = b from hb, HS.out] at HST
      have HST := Lib.hid HST
      have i1 : (0 : Int) ≤ i := by omega
      have i2 : (i : Int) < s.size := by omega
      have i3 : (i : Int) ≤ s.size := by omega
      by_cases hd : 48 ≤ b.toNat ∧ b.toNat ≤ 57
      · have d1 : (48 : Int) ≤ (b.toNat : Int) := by omega
        have d2 : (b.toNat : Int) ≤ 57 := by omega
        have e : ((if (1000000 : Int) < (if nn < 0 then 0 else nn) * 10 + ((b.toNat : Int) - 48) then (1000000 : Int) else (if nn < 0 then 0 else nn) * 10 + ((b.toNat : Int) - 48)) = min (max nn 0 * 10 + ((b.toNat : Int) - 48)) 1000000) := by
          have e0 : (if nn < 0 then (0 : Int) else nn) = max nn 0 := by split <;> omega
          rw [e0]
          split <;> omega
        have HE := Lib.hid e
        have HN : Hid (rs s.data.toList (i + 1) = (zs, min (max nn 0 * 10 + ((b.toNat : Int) - 48)) 1000000)) := by
          have := HST.out
          unfold stp at this
          rw [if_pos hd] at this
          exact this
        clear e
        go_wp2_with fail
        refine ⟨⟨i + 1, by omega, by go_num, zs, _, HN, by rw [HE.out], HI⟩, ?_⟩
        show _ < _
        simp only [intOf]; omega
      · have hd' : b.toNat < 48 ∨ 57 < b.toNat := by omega
        have HN : Hid (rs s.data.toList (i + 1) = (if 0 ≤ nn then zs ++ [nn] else zs, -1)) := by
          have := HST.out
          unfold stp at this
          rw [if_neg hd] at this
          exact this
        by_cases hnn : 0 ≤ nn
        · have HN : Hid (rs s.data.toList (i + 1) = (zs ++ [nn], -1)) := by have := HN.out; rw [if_pos hnn] at this; exact this
          rcases hd' with hd' | hd'
          · have d1 : (b.toNat : Int) < 48 := by omega
            go_wp2_with (at_builtin; refine wpList_append_lies _ rfl (.tmp 47) (.tmp 49) 33 rfl W.heap.size 3 i0 (.int .i64 0) 1 8 Tryd.underlying33 hi hz0 hz1 hz2 rfl (by decide) vl zs.length (zs.map (Value.int .i64)) rfl (HI.out.own.alloc _) ⟨wr.heap.size, 0, none⟩ 1 1 [.int .i64 _] rfl rfl (int_new _ wr _) (int_one _) (by decide) HX.out.1 HX.out.2.1 (Nat.le_trans HX.out.2.2 (by simp)) (wr.heap.size + 1) (by simp) ?_; intro g5 cap5 w5 hown5 hgrow5 hat5 hlt5)
            have HR := Lib.hid (HI.out.push hown5 hgrow5)
            clear hown5 hgrow5 hat5 hlt5
            go_wp2_with fail
            refine ⟨⟨i + 1, by omega, by go_num, _, -1, HN, rfl, HR⟩, ?_⟩
            show _ < _
            simp only [intOf]; omega
          · have d1 : (57 : Int) < (b.toNat : Int) := by omega
            have d2 : (48 : Int) ≤ (b.toNat : Int) := by omega
            go_wp2_with (at_builtin; refine wpList_append_lies _ rfl (.tmp 47) (.tmp 49) 33 rfl W.heap.size 3 i0 (.int .i64 0) 1 8 Tryd.underlying33 hi hz0 hz1 hz2 rfl (by decide) vl zs.length (zs.map (Value.int .i64)) rfl (HI.out.own.alloc _) ⟨wr.heap.size, 0, none⟩ 1 1 [.int .i64 _] rfl rfl (int_new _ wr _) (int_one _) (by decide) HX.out.1 HX.out.2.1 (Nat.le_trans HX.out.2.2 (by simp)) (wr.heap.size + 1) (by simp) ?_; intro g5 cap5 w5 hown5 hgrow5 hat5 hlt5)
            have HR := Lib.hid (HI.out.push hown5 hgrow5)
            clear hown5 hgrow5 hat5 hlt5
            go_wp2_with fail
            refine ⟨⟨i + 1, by omega, by go_num, _, -1, HN, rfl, HR⟩, ?_⟩
            show _ < _
            simp only [intOf]; omega
        · have HN : Hid (rs s.data.toList (i + 1) = (zs, -1)) := by have := HN.out; rw [if_neg hnn] at this; exact this
          rcases hd' with hd' | hd'
          · have d1 : (b.toNat : Int) < 48 := by omega
            go_wp2_with fail
            refine ⟨⟨i + 1, by omega, by go_num, zs, -1, HN, rfl, HI⟩, ?_⟩
            show _ < _
            simp only [intOf]; omega
          · have d1 : (57 : Int) < (b.toNat : Int) := by omega
            have d2 : (48 : Int) ≤ (b.toNat : Int) := by omega
            go_wp2_with fail
            refine ⟨⟨i + 1, by omega, by go_num, zs, -1, HN, rfl, HI⟩, ?_⟩
            show _ < _
            simp only [intOf]; omega
    · by_cases hend : i = s.size
      · have HST := rs_last s.data.toList
        rw [show s.data.toList.length = i by rw [hend, ← Lib.size_eq], HS.out] at HST
        have i3 : (i : Int) ≤ s.size := by omega
        have i4 : ¬ ((i : Int) < s.size) := by omega
        by_cases hnn : 0 ≤ nn
        · have HN : Hid (rs s.data.toList (i + 1) = (zs ++ [nn], -1)) := by
            show _ = _
            rw [HST]; unfold stp; rw [if_neg (by decide), if_pos hnn]
          clear HST
          go_wp2_with (at_builtin; refine wpList_append_lies _ rfl (.tmp 47) (.tmp 49) 33 rfl W.heap.size 3 i0 (.int .i64 0) 1 8 Tryd.underlying33 hi hz0 hz1 hz2 rfl (by decide) vl zs.length (zs.map (Value.int .i64)) rfl (HI.out.own.alloc _) ⟨wr.heap.size, 0, none⟩ 1 1 [.int .i64 _] rfl rfl (int_new _ wr _) (int_one _) (by decide) HX.out.1 HX.out.2.1 (Nat.le_trans HX.out.2.2 (by simp)) (wr.heap.size + 1) (by simp) ?_; intro g5 cap5 w5 hown5 hgrow5 hat5 hlt5)
          have HR := Lib.hid (HI.out.push hown5 hgrow5)
          clear hown5 hgrow5 hat5 hlt5
          go_wp2_with fail
          refine ⟨⟨i + 1, by omega, by go_num, _, -1, HN, rfl, HR⟩, ?_⟩
          show _ < _
          simp only [intOf]; omega
        · have HN : Hid (rs s.data.toList (i + 1) = (zs, -1)) := by
            show _ = _
            rw [HST]; unfold stp; rw [if_neg (by decide), if_neg hnn]
          clear HST
          go_wp2_with fail
          refine ⟨⟨i + 1, by omega, by go_num, zs, -1, HN, rfl, HI⟩, ?_⟩
          show _ < _
          simp only [intOf]; omega
      · obtain rfl : i = s.size + 1 := by omega
        have HZ : Hid (zs = runs s.data.toList) := by
          have := rs_runs s.data.toList
          rw [← Lib.size_eq, HS.out] at this
          exact this
        clear HS hn1 hn2 hzl HX
        have i3 : ¬ (((s.size + 1 : Nat) : Int) ≤ s.size) := by omega
        by_cases h6 : zs.length = 6
        · obtain ⟨a, b, c, d, e, f, rfl⟩ := list_six h6
          obtain ⟨g, cap, rfl, hgb, hgl⟩ := HI.out.own.form (by simp)
          have HS6 : Hid ((wr.cell? ⟨g, 0, none⟩ = some (.int .i64 a) ∧ wr.cell? ⟨g, 1, none⟩ = some (.int .i64 b) ∧ wr.cell? ⟨g, 2, none⟩ = some (.int .i64 c) ∧ wr.cell? ⟨g, 3, none⟩ = some (.int .i64 d) ∧ wr.cell? ⟨g, 4, none⟩ = some (.int .i64 e) ∧ wr.cell? ⟨g, 5, none⟩ = some (.int .i64 f)) ∧ Below wr.heap.size wr wr) :=
            ⟨⟨HI.out.own.cellAt 0 (by simp), HI.out.own.cellAt 1 (by simp), HI.out.own.cellAt 2 (by simp), HI.out.own.cellAt 3 (by simp), HI.out.own.cellAt 4 (by simp), HI.out.own.cellAt 5 (by simp)⟩, .refl _ _⟩
          have HRw := Lib.hid (HR0.out.on' HI.out.bel)
          go_wp2_with fail
          go_region_held3 (fun w' => (w'.cell? ⟨g, 0, none⟩ = some (.int .i64 a) ∧ w'.cell? ⟨g, 1, none⟩ = some (.int .i64 b) ∧ w'.cell? ⟨g, 2, none⟩ = some (.int .i64 c) ∧ w'.cell? ⟨g, 3, none⟩ = some (.int .i64 d) ∧ w'.cell? ⟨g, 4, none⟩ = some (.int .i64 e) ∧ w'.cell? ⟨g, 5, none⟩ = some (.int .i64 f)) ∧ Below wr.heap.size wr w') (first | with_reducible exact six_keep HS6.out (Below.refl _ _).drew | with_reducible exact six_keep HS6.out ((Below.refl _ _).alloc (Nat.le_refl _) _).drew | with_reducible exact six_keep (by assumption) ((Below.refl _ _).alloc (Nat.le_refl _) _)) (fail)
          have HBn := Lib.hid ((HB.out.trans (HI.out.bel.mono HB.out.size)).trans ((((Below.refl wr.heap.size wr).alloc (Nat.le_refl _) (.cells #[.int .i64 a, .int .i64 b, .int .i64 c, .int .i64 d, .int .i64 e, .int .i64 f] 25)).drew).mono (Nat.le_trans HB.out.size HI.out.bel.size)))
          have HRn := Lib.hid (HRw.out.on' (((Below.refl wr.heap.size wr).alloc (Nat.le_refl _) (.cells #[.int .i64 a, .int .i64 b, .int .i64 c, .int .i64 d, .int .i64 e, .int .i64 f] 25)).drew))
          go_wp2_with fail
          refine (rtextc_any ⟨a, b, c, d, e, f⟩ _).mono ?_
          rintro e2 w5 ⟨l, hl, rfl, hb5⟩
          have HR5 := Lib.hid (HRn.out.on' hb5)
          have HB5 := Lib.hid (HBn.out.trans (hb5.mono HBn.out.size))
          have hNew : Row wr.heap.size 25 [.int .i64 a, .int .i64 b, .int .i64 c, .int .i64 d, .int .i64 e, .int .i64 f] (wr.alloc (.cells #[.int .i64 a, .int .i64 b, .int .i64 c, .int .i64 d, .int .i64 e, .int .i64 f] 25)).drew := (Row.new wr 25 [.int .i64 a, .int .i64 b, .int .i64 c, .int .i64 d, .int .i64 e, .int .i64 f]).drew
          have HN5 := Lib.hid (hNew.on' hb5)
          have HLT := Lib.hid hl
          clear hNew hb5 hl HRn HBn
          cases hcmp : (l == s.toList)
          · have HA : Hid (rdA s.data.toList = (⟨0, 0, 0, 0, 0, 0⟩, 2)) := rdA_none (rdC_other HZ.out.symm (by
              intro e
              rw [← HLT.out, ← ByteArray.toList_eq] at e
              rw [e] at hcmp
              simp at hcmp))
            have c0 := HR5.out.cell 0
            have c1 := HR5.out.cell 1
            have c2 := HR5.out.cell 2
            have c3 := HR5.out.cell 3
            have c4 := HR5.out.cell 4
            have c5 := HR5.out.cell 5
            have z0 := HR5.out.frozen 0
            have z1 := HR5.out.frozen 1
            have z2 := HR5.out.frozen 2
            have z3 := HR5.out.frozen 3
            have z4 := HR5.out.frozen 4
            have z5 := HR5.out.frozen 5
            simp only [List.getElem?_cons_zero, List.getElem?_cons_succ] at c0 c1 c2 c3 c4 c5
            go_wp2_with fail
            refine bodyPost_ret (v := .tuple #[.agg #[.int .i64 0, .int .i64 0, .int .i64 0, .int .i64 0, .int .i64 0, .int .i64 0], .int .i64 2]) (by simp [results, Tryd.results28, go_sem, *]) rfl ?_
            exact ⟨by rw [HA.out]; rfl, six_zero _ _ HB5.out _ _ _ _ _ _⟩
          · have HA : Hid (rdA s.data.toList = (⟨a, b, c, d, e, f⟩, 0)) := rdA_some (rdC_same HZ.out.symm (by
              rw [← HLT.out, ← ByteArray.toList_eq]
              exact eq_of_beq hcmp))
            have c0 := HR5.out.cell 0
            have c1 := HR5.out.cell 1
            have c2 := HR5.out.cell 2
            have c3 := HR5.out.cell 3
            have c4 := HR5.out.cell 4
            have c5 := HR5.out.cell 5
            have z0 := HR5.out.frozen 0
            have z1 := HR5.out.frozen 1
            have z2 := HR5.out.frozen 2
            have z3 := HR5.out.frozen 3
            have z4 := HR5.out.frozen 4
            have z5 := HR5.out.frozen 5
            simp only [List.getElem?_cons_zero, List.getElem?_cons_succ] at c0 c1 c2 c3 c4 c5
            have n0 := HN5.out.cell 0
            have n1 := HN5.out.cell 1
            have n2 := HN5.out.cell 2
            have n3 := HN5.out.cell 3
            have n4 := HN5.out.cell 4
            have n5 := HN5.out.cell 5
            simp only [List.getElem?_cons_zero, List.getElem?_cons_succ] at n0 n1 n2 n3 n4 n5
            go_wp2_with fail
            refine bodyPost_ret (v := .tuple #[.agg #[.int .i64 a, .int .i64 b, .int .i64 c, .int .i64 d, .int .i64 e, .int .i64 f], .int .i64 0]) (by simp [results, Tryd.results28, go_sem, *]) rfl ?_
            exact ⟨by rw [HA.out]; rfl, six_zero _ _ HB5.out _ _ _ _ _ _⟩
        · have h6i : ¬ ((zs.length : Int) = 6) := by omega
          obtain ⟨p, cap, rfl⟩ : ∃ p cap, vl = .slice p zs.length cap := by
            rcases Joins.ownsRow_forms HI.out.own with ⟨hv, hz⟩ | ⟨g, cap, hv⟩
            · exact ⟨none, 0, by rw [hv, hz]⟩
            · exact ⟨_, _, hv⟩
          have HA := Lib.hid (rdA_none (rdC_six (s := s.data.toList) (by rw [← HZ.out]; exact h6)))
          have HRw := Lib.hid (HR0.out.on' HI.out.bel)
          have c0 := HRw.out.cell 0
          have c1 := HRw.out.cell 1
          have c2 := HRw.out.cell 2
          have c3 := HRw.out.cell 3
          have c4 := HRw.out.cell 4
          have c5 := HRw.out.cell 5
          have z0 := HRw.out.frozen 0
          have z1 := HRw.out.frozen 1
          have z2 := HRw.out.frozen 2
          have z3 := HRw.out.frozen 3
          have z4 := HRw.out.frozen 4
          have z5 := HRw.out.frozen 5
          simp only [List.getElem?_cons_zero, List.getElem?_cons_succ] at c0 c1 c2 c3 c4 c5
          go_wp2_with fail
          refine bodyPost_ret (v := .tuple #[.agg #[.int .i64 0, .int .i64 0, .int .i64 0, .int .i64 0, .int .i64 0, .int .i64 0], .int .i64 2]) (by simp [results, Tryd.results28, go_sem, *]) rfl ?_
          exact ⟨by rw [HA.out]; rfl, six_zero _ _ (HB.out.trans (HI.out.bel.mono HB.out.size)) _ _ _ _ _ _⟩

/-- THE REFERENCE's Read, OF EVERY TEXT -/
theorem rcread_any (s : ByteArray) (hs : s.size ≤ 9223372036854775807) (w : World) : Calls Tryd.prog 28 #[.string s] w (RdPost s.data.toList w) := by
  by_cases h : s.size < 100
  · exact rcread_short s h w
  · exact rcread_long s (by omega) hs w
end Go.Proofs.YtkchbnojcfkkhaaDoor
