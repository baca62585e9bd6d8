/- A clock's laps: Laps, Copy, Mark. -/
import Derived.Test.YtfigkoknhiabnaaDoorKb
import Derived.Test.YtfigkoknhiabnaaDoorSt
import Derived.RegionTactic
import Derived.Deep.RegionLaw
import Derived.BigRegion
import Derived.Deep.WholeRow
namespace Go.Proofs.YtfigkoknhiabnaaDoor
open Go.RowKit Go.Fm Go.Sm Go.Tx

theorem infoClk : (Tryd.prog.info? 29).map (·.size) = some 66 := by kernel_rfl
theorem infoI64s : (Tryd.prog.info? 2).map (·.size) = some 1 := by kernel_rfl
theorem zeroClk_size : Tryd.zeroCells29.size = 66 := by kernel_rfl
theorem zeroClk : Tryd.zeroCells29 = (ckC 0 (List.replicate 64 0) 0).toArray := by kernel_rfl
theorem ckC_one (t : Int) (ls : List Int) (n : Nat) : ∀ v ∈ ckC t ls n, v.oneCell' = true := by
  intro v hv
  simp [ckC] at hv
  rcases hv with rfl | ⟨a, _, rfl⟩ | rfl <;> rfl
theorem laps_nil (w : World) : Calls Tryd.prog 17 #[.pointer none] w fun e w' => e = .returned (.slice none 0 0) ∧ w = w' := by
  go_enter Tryd.func17, Tryd.ntmps17
  go_wp2
  go_ret
  exact ⟨rfl, rfl⟩
theorem mark_nil (w : World) : Calls Tryd.prog 14 #[.pointer none] w fun e w' => e = .returned (.int .i64 0) ∧ w = w' := by
  go_enter Tryd.func14, Tryd.ntmps14
  go_wp2
  go_ret
  exact ⟨rfl, rfl⟩
theorem copy_nil (w : World) : Calls Tryd.prog 9 #[.pointer none] w fun e w' => e = .returned (.pointer none) ∧ w = w' := by
  go_enter Tryd.func9, Tryd.ntmps9
  go_wp2
  go_ret
  exact ⟨rfl, rfl⟩

/-- a new clock that is the same -/
def CopyPost (t : Int) (laps : List Int) (w : World) (e : Ending) (w' : World) : Prop := ∃ g, e = .returned (.pointer (some ⟨g, 0, none⟩)) ∧ Clk g t laps w' ∧ w.heap.size ≤ g ∧ Below w.heap.size w w'
set_option maxHeartbeats 400000 in
theorem copy_any {g : Nat} {t : Int} {laps : List Int} (w : World) (h : Clk g t laps w) : Calls Tryd.prog 9 #[.pointer (some ⟨g, 0, none⟩)] w (CopyPost t laps w) := by
  obtain ⟨rest, hl, hr⟩ := h.row
  obtain ⟨cs, hcs⟩ : ∃ cs, ckC t (laps ++ rest) laps.length = cs := ⟨_, rfl⟩
  rw [hcs] at hr
  have hlen : cs.length = 66 := by rw [← hcs]; exact ckC_length hl
  have HLEN := Lib.hid hlen
  have HR := Lib.hid hr
  have HH := Lib.hid h
  have HCS := Lib.hid hcs
  have HL := Lib.hid hl
  clear h hr hcs hlen hl
  have hst := run_storeCells_new (P := Tryd.prog) w 29 Tryd.zeroCells29 cs.toArray (by rw [List.size_toArray, HLEN.out]; exact infoClk) (zeroClk_size.trans (by rw [List.size_toArray, HLEN.out])) (all_oneCell_toArray (by rw [← HCS.out]; exact ckC_one _ _ _))
  rw [List.toList_toArray] at hst
  go_enter Tryd.func9, Tryd.ntmps9
  go_wp2_with (refine wpList_load_mid rfl 29 _ rfl g 0 rfl cs _ HR.out.range Tryd.underlying29 rfl (by rw [HLEN.out]; exact infoClk) ?_)
  go_ret
  exact ⟨_, rfl, ⟨HH.out.lo, HH.out.hi, rest, HL.out, by rw [HCS.out]; exact .new w _ cs⟩, Nat.le_refl _, (Below.refl _ _).alloc (Nat.le_refl _) _⟩
/-- the laps, in a row of the call's own -/
def LapsPost (laps : List Int) (w : World) (e : Ending) (w' : World) : Prop := ∃ v, e = .returned v ∧ w'.ownsRow w.heap.size 2 1 v laps.length (laps.map (Value.int .i64)) ∧ Below w.heap.size w w'
set_option maxHeartbeats 400000 in
theorem laps_any {g : Nat} {t : Int} {laps : List Int} (w : World) (h : Clk g t laps w) : Calls Tryd.prog 17 #[.pointer (some ⟨g, 0, none⟩)] w (LapsPost laps w) := by
  obtain ⟨i0, hi, hz0, hz1, hz2⟩ := info_parts infoI64
  have hn : ∀ j u, (laps.map (Value.int .i64))[j]? = some u → w.cell? ((⟨g, 1, none⟩ : Addr).add j) = some u := by
    intro j u hu
    obtain ⟨rest, hl, hr⟩ := h.row
    have hj : j < laps.length := by have := (List.getElem?_eq_some_iff.1 hu).1; simpa using this
    have hlen : laps.length ≤ 64 := h.le
    rw [Addr.add_mid, hr.cell, ckC_lap hl (by omega)]
    rw [List.getElem?_map, List.getElem?_eq_getElem hj, Option.map_some] at hu
    rw [← Option.some.inj hu]
    simp [List.getD, List.getElem?_append_left hj, List.getElem?_eq_getElem hj]
  have HN := Lib.hid hn
  have h64 := h.le
  have c65 := h.c65
  obtain ⟨m, hm⟩ : ∃ m, laps.length = m := ⟨_, rfl⟩
  rw [hm] at h64 c65
  have HM := Lib.hid hm
  have b0 : (0 : Int) ≤ (m : Int) := by omega
  have b1 : (m : Int) ≤ 64 := by omega
  clear h hn hm
  unfold LapsPost
  rw [HM.out]
  have HX := Lib.hid (show (laps.map (Value.int .i64)).length = m * 1 by rw [List.length_map, HM.out]; omega)
  obtain ⟨xs, hxs⟩ : ∃ xs, laps.map (Value.int .i64) = xs := ⟨_, rfl⟩
  have HO := Lib.hid (show ∀ u ∈ laps.map (Value.int .i64), u.oneCell' = true by intro u hu; obtain ⟨y, _, rfl⟩ := List.mem_map.1 hu; rfl)
  rw [hxs] at HN HX HO ⊢
  have HXS := Lib.hid hxs
  clear hxs
  go_enter Tryd.func17, Tryd.ntmps17
  go_wp2
  go_region_law ((refine step_append_any rfl (.const (.slice none 0 0)) (.tmp 12) 30 rfl w.heap.size 2 i0 (.int .i64 0) 1 8 Tryd.underlying30 hi hz0 hz1 hz2 rfl (by decide) (.slice none 0 0) 0 [] rfl (World.ownsRow_nil _ _ _ _) ⟨g, 1, none⟩ m 64 xs rfl HX.out (fun j u hu => HN.out j u hu) HO.out (by unfold maxLen; omega) (by omega) (Nat.le_refl _) ?_; intro v' w' hO hgw))
  all_goals
    go_wp2
    go_ret
    rw [Nat.zero_add, List.nil_append] at hO
    exact ⟨_, rfl, hO, (Below.refl _ _).drew.grown hgw (Nat.le_refl _) (fun k hk => by simp [Value.ownBlock] at hk)⟩

theorem Clk.more {g : Nat} {t : Int} {laps : List Int} {w : World} (h : Clk g t laps w) (hlt : laps.length < 64) : Clk g t (laps ++ [t]) ((w.setCell ⟨g, 1 + laps.length, none⟩ (.int .i64 t)).setCell ⟨g, 65, none⟩ (.int .i64 ((laps.length : Int) + 1))) := by
  obtain ⟨rest, hl, hr⟩ := h.row
  cases rest with
  | nil => rw [List.append_nil] at hl; omega
  | cons x rest =>
    have h1 := hr.set (1 + laps.length) (.int .i64 t)
    rw [ckC_setlap hl hlt, List.set_append_right _ _ (Nat.le_refl _), Nat.sub_self, List.set_cons_zero] at h1
    have hl2 : (laps ++ t :: rest).length = 64 := by rw [← hl]; simp
    have h2 := h1.set 65 (.int .i64 ((laps.length + 1 : Nat) : Int))
    rw [ckC_set65 hl2] at h2
    refine ⟨h.lo, h.hi, rest, by simpa using hl2, ?_⟩
    rw [List.append_assoc, List.length_append]
    exact h2
theorem Clk.slot {g : Nat} {t : Int} {laps : List Int} {w : World} (h : Clk g t laps w) (hlt : laps.length < 64) : ∃ v, w.cell? ⟨g, 1 + laps.length, none⟩ = some v := by
  obtain ⟨rest, hl, hr⟩ := h.row
  exact ⟨_, by rw [hr.cell]; exact ckC_lap hl hlt⟩
theorem Clk.drew {g : Nat} {t : Int} {laps : List Int} {w : World} (h : Clk g t laps w) : Clk g t laps w.drew := h.on' (Below.refl _ _).drew
set_option maxHeartbeats 400000 in
theorem mark_any {g : Nat} {t : Int} {laps : List Int} (w : World) (h : Clk g t laps w) : Calls Tryd.prog 14 #[.pointer (some ⟨g, 0, none⟩)] w (GoPost g t (mark laps t) (.int .i64 ((mark laps t).length : Nat)) w) := by
  have hm64 := h.le
  by_cases hlt : laps.length < 64
  · have e : mark laps t = laps ++ [t] := by unfold mark; rw [if_neg (by omega)]
    rw [e]
    have hM := Lib.hid (h.more hlt).drew
    obtain ⟨v, cs⟩ := h.slot hlt
    have c0 := h.c0
    have c65 := h.c65
    have f65 := h.f0 65
    have fs := h.f0 (1 + laps.length)
    rw [List.length_append, List.length_singleton]
    obtain ⟨m, hm⟩ : ∃ m, laps.length = m := ⟨_, rfl⟩
    rw [hm] at hM cs c65 hlt fs ⊢
    clear hm hm64 h e
    have b0 : (0 : Int) ≤ (m : Int) := by omega
    have b1 : (m : Int) < 64 := by omega
    have ne : ¬ (1 + m = 65) := by omega
    go_enter Tryd.func14, Tryd.ntmps14
    go_wp2
    go_region
    all_goals
      go_wp2
      go_ret
      exact ⟨rfl, hM.out, ((tch_one w g _ _).setCell (p := ⟨g, 65, none⟩) (.inl rfl) _).then (Below.refl _ _).drew⟩
  · have h64 : laps.length = 64 := by omega
    have e : mark laps t = laps.drop 1 ++ [t] := by unfold mark; rw [if_pos (by omega), List.drop_append_of_le_length (by omega)]
    have el : (laps.drop 1 ++ [t]).length = 64 := by rw [List.length_append, List.length_drop, h64]; rfl
    rw [e, el]
    obtain ⟨rest, hl, hr⟩ := h.row
    have hrest : rest = [] := by rw [List.length_append] at hl; exact List.eq_nil_of_length_eq_zero (by omega)
    subst hrest
    rw [List.append_nil] at hl hr
    obtain ⟨cur, hcur⟩ : ∃ cur, ckC t laps laps.length = cur := ⟨_, rfl⟩
    obtain ⟨cs, hcs⟩ : ∃ cs, (laps.drop 1).map (Value.int .i64) = cs := ⟨_, rfl⟩
    have hcl : cs.length = 63 := by rw [← hcs, List.length_map, List.length_drop, h64]
    have hcl' : cur.length = 66 := by rw [← hcur]; exact ckC_length hl
    have hsrc : ∀ j v, cs[j]? = some v → w.cell? ((⟨g, 2, none⟩ : Addr).add j) = some v := by
      intro j v hv
      have hj : j < 63 := by rw [← hcl]; exact (List.getElem?_eq_some_iff.1 hv).1
      rw [Addr.add_mid, hr.cell, show 2 + j = 1 + (1 + j) by omega, ckC_lap hl (by omega), ← hv, ← hcs]
      rw [List.getElem?_map, List.getElem?_drop, List.getElem?_eq_getElem (show 1 + j < laps.length by omega)]
      simp [List.getD, List.getElem?_eq_getElem (show 1 + j < laps.length by omega)]
    have hone : ∀ v ∈ cs, v.oneCell' = true := by
      intro v hv
      rw [← hcs] at hv
      obtain ⟨y, _, rfl⟩ := List.mem_map.1 hv
      rfl
    have hnew : splice cur 1 cs = ckC t (laps.drop 1 ++ [laps.getD 63 0]) 64 := by
      have e1 : cur = .int .i64 t :: (cur.drop 1) := by rw [← hcur]; rfl
      have e2 : cur.drop (1 + cs.length) = [.int .i64 (laps.getD 63 0), .int .i64 (64 : Nat)] := by
        rw [hcl, ← hcur, h64]
        show (laps.map (Value.int .i64) ++ [Value.int .i64 (64 : Nat)]).drop 63 = _
        rw [List.drop_append_of_le_length (by simp [h64]), ← List.map_drop, List.drop_eq_getElem_cons (show 63 < laps.length by omega), List.drop_eq_nil_of_le (by omega)]
        simp [List.getD, List.getElem?_eq_getElem (show 63 < laps.length by omega)]
      unfold splice
      rw [e2, e1, ← hcs]
      simp [ckC]
    have c0 := h.c0
    have c65 := h.c65
    rw [h64] at c65
    have HN := Lib.hid (show cs.length = Nat.min 63 64 by rw [hcl]; rfl)
    have HF := Lib.hid (show 1 + cs.length ≤ cur.length by omega)
    have HSRC := Lib.hid hsrc
    have HONE := Lib.hid hone
    have HNEW := Lib.hid hnew
    rw [hcur] at hr
    have HR := Lib.hid hr
    have HDL := Lib.hid (show (laps.drop 1).length = 63 by rw [List.length_drop, h64])
    have HEL := Lib.hid (show (laps.drop 1 ++ [laps.getD 63 0]).length = 64 by rw [List.length_append, List.length_drop, h64]; rfl)
    have HH := Lib.hid h
    clear hcl hcl' hsrc hone hnew hr h hcur hcs hl h64 hm64 hlt e el
    go_enter Tryd.func14, Tryd.ntmps14
    go_wp2
    go_region_law ((refine step_copy_block rfl (.tmp 13) (.tmp 17) 30 30 (by rfl) 2 Tryd.underlying30 infoI64s g 1 64 64 ⟨g, 2, none⟩ 63 63 (by kernel_rfl) (by kernel_rfl) cur 29 HR.out.drew cs HN.out (fun j v hv => HSRC.out j v hv) HF.out HONE.out _ HNEW.out ?_; intro w4 hr4 ht4))
    all_goals
      have k65 : w4.cell? ⟨g, 65, none⟩ = some (.int .i64 (64 : Nat)) := by rw [hr4.cell]; exact ckC_at65 HEL.out
      have e65 := hr4.frozen 65
      have hC : Clk g t (laps.drop 1) (w4.setCell ⟨g, 65, none⟩ (.int .i64 63)) := by
        refine ⟨HH.out.lo, HH.out.hi, [laps.getD 63 0], HEL.out, ?_⟩
        have := hr4.set 65 (.int .i64 ((63 : Nat) : Int))
        rw [ckC_set65 HEL.out] at this
        rw [HDL.out]; exact this
      have hT : Tch (· = g) w (w4.setCell ⟨g, 65, none⟩ (.int .i64 63)) := (((Tch.refl _ _).then (Below.refl _ _).drew).trans ht4).trans (tch_one _ _ _ _)
      have HC := Lib.hid hC
      have HT := Lib.hid hT
      clear hC hT hr4 ht4
      go_wp2
      obtain ⟨W, hW⟩ : ∃ W, w4.setCell ⟨g, 65, none⟩ (.int .i64 63) = W := ⟨_, rfl⟩
      rw [hW] at HC HT ⊢
      have c0' := HC.out.c0
      have c65' := HC.out.c65
      have f65' := HC.out.f0 65
      have fs' := HC.out.f0 (1 + (laps.drop 1).length)
      obtain ⟨v, cs'⟩ := HC.out.slot (by rw [HDL.out]; decide)
      have hM := Lib.hid (HC.out.more (by rw [HDL.out]; decide)).drew
      rw [HDL.out] at c65' fs' cs' hM
      clear k65 e65 c0 c65 hW
      go_region
      all_goals
        go_wp2
        go_ret
        exact ⟨rfl, hM.out, HT.out.trans (((tch_one W g _ _).setCell (p := ⟨g, 65, none⟩) (.inl rfl) _).then (Below.refl _ _).drew)⟩
end Go.Proofs.YtfigkoknhiabnaaDoor
