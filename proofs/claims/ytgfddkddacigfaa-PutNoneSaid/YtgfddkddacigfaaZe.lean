/- A put's steps: take (layer 9's code). -/
import Derived.Test.YtgfddkddacigfaaZd
set_option linter.unusedSimpArgs false
set_option linter.unusedVariables false
namespace Go.Proofs.Ytgfddkddacigfaa
open Go.RowKit Go.Cg Go.Pu Go.Wd Go.Ce

/-- the cells of a put -/
def ptV (c : Cfg) (p a : Int) (s : Nat) (k g : Int) (L : List Int) (vo : Value) : List Value := rgV c p a s k (.int .i64 g :: (L.map (Value.int .i64) ++ [vo]))
section
variable {t : TypeId} {c : Cfg} {p a g : Int} {s : Nat} {k : Int} {L : List Int} {vo : Value} {w w' : World} {b mb mg : Nat} {m : PM}
theorem pt_g (h : Row b t (ptV c p a s k g L vo) w) : w.cell? ⟨b, 10, none⟩ = some (.int .i64 g) := h.cell 10
theorem pt_load (h : Row b t (ptV c p a s k g L vo) w) {j : Nat} (hj : j < L.length) : w.cell? ⟨b, 11 + j, none⟩ = some (.int .i64 (L.getD j 0)) := by
  rw [h.cell]
  have e : (ptV c p a s k g L vo)[11 + j]? = (L.map (Value.int .i64) ++ [vo])[j]? := by
    rw [Nat.add_comm]; rfl
  rw [e, List.getElem?_append_left (by simpa using hj), List.getElem?_map]
  simp [List.getD, hj]
theorem pt_over (h : Row b t (ptV c p a s k g L vo) w) (hL : L.length = 32) : w.cell? ⟨b, 43, none⟩ = some vo := by
  rw [h.cell]
  have e : (ptV c p a s k g L vo)[43]? = (L.map (Value.int .i64) ++ [vo])[32]? := rfl
  rw [e, List.getElem?_append_right (by simp [hL])]
  simp [hL]
theorem pt_set (h : Row b t (ptV c p a s k g L vo) w) {j : Nat} (hj : j < L.length) (z : Int) : Row b t (ptV c p a s k g (L.set j z) vo) (w.setCell ⟨b, 11 + j, none⟩ (.int .i64 z)) := by
  have e : (ptV c p a s k g L vo).set (11 + j) (.int .i64 z) = ptV c p a s k g (L.set j z) vo := by
    have e2 : (ptV c p a s k g L vo).set (11 + j) (.int .i64 z) = rgV c p a s k (.int .i64 g :: (L.map (Value.int .i64) ++ [vo]).set j (.int .i64 z)) := by
      rw [Nat.add_comm]; rfl
    rw [e2, List.set_append_left _ _ (by simpa using hj)]
    unfold ptV
    simp [List.map_set]
  rw [← e]
  exact h.set _ _
theorem pt_put (h : Row b t (ptV c p a s k g L vo) w) (hL : L.length = 32) (v : Value) : Row b t (ptV c p a s k g L v) (w.setCell ⟨b, 43, none⟩ v) := by
  have e : (ptV c p a s k g L vo).set 43 v = ptV c p a s k g L v := by
    have e2 : (ptV c p a s k g L vo).set 43 v = rgV c p a s k (.int .i64 g :: (L.map (Value.int .i64) ++ [vo]).set 32 v) := rfl
    rw [e2, List.set_append_right _ _ (by simp [hL])]
    unfold ptV
    simp [hL]
  rw [← e]
  exact h.set _ _
set_option maxHeartbeats 1000000 in
theorem ptake_any (h : Row b t (ptV c p a s k g L vo) w) (hL : L.length = 32) (hm : MemIs w mb mg m) (hb : ¬ Own mb mg b) (hk : m.k.ops + 1 ≤ 1000000000000) (hR : Right c ∧ 0 ≤ p ∧ p < c.n) (hs : s < 18446744073709551616) (j : Nat) (hj : k = j) (hjq : j < c.q.toNat / 2) :
    Calls Try.prog 68 #[pptr b, pptr mb] w (RgPost t b (ptV c p (if j + 1 = c.q.toNat / 2 then 5 else a) s ((j : Int) + 1) g (L.set j (IntKind.i64.wrap (m.ans (aS c p ((tl s + 4294967296 - c.q.toNat / 2 + j) % 4294967296))))) vo) mb mg (m.load (aS c p ((tl s + 4294967296 - c.q.toNat / 2 + j) % 4294967296))) (.tuple #[]) w) := by
  have hq := q_le hR.1
  have hj2 : j < 32 := by omega
  have HT : Hid (∀ w, Calls Try.prog 93 #[.int .u64 s] w fun e w' => e = .returned (.int .u32 (tl s : Nat)) ∧ w = w') := fun w => wtail_any s hs w
  have HH : Hid (∀ w1, Below w.heap.size w w1 → Calls Try.prog 94 #[pptr b] w1 (fun e w' => e = .returned (.int .u32 ((c.q.toNat / 2 : Nat) : Int)) ∧ w' = w1)) := fun w1 hb1 => half_any (h.on' hb1) hR.1
  have ht := tl_lt s
  obtain ⟨H, hH⟩ : ∃ H, c.q.toNat / 2 = H := ⟨_, rfl⟩
  obtain ⟨T, hT⟩ : ∃ T, tl s = T := ⟨_, rfl⟩
  rw [hT] at HT ht
  obtain ⟨F, hF⟩ : ∃ F, (T + 4294967296 - H) % 4294967296 = F := ⟨_, rfl⟩
  have hF2 : F < 4294967296 := by omega
  have hFj : (T + 4294967296 - H + j) % 4294967296 = (F + j) % 4294967296 := by omega
  have hwF : IntKind.u32.wrap ((T : Int) - H) = F := by rw [wsub32 _ _ (by omega), hF]
  rw [hT]
  rw [hH] at HH hjq ⊢
  rw [hFj]
  have HS : Hid (∀ w1, Below w.heap.size w w1 → Calls Try.prog 92 #[pptr b, .int .u32 F] w1 (Ans (.int .i64 (aS c p ((F + j) % 4294967296))) w1)) := fun w1 hb1 => rslot_any (h.on' hb1) hR F hF2 j hj (by omega)
  obtain ⟨z, hz⟩ : ∃ z, aS c p ((F + j) % 4294967296) = z := ⟨_, rfl⟩
  rw [hz] at HS ⊢
  obtain ⟨y, hy⟩ : ∃ y, m.ans z = y := ⟨_, rfl⟩
  have HC : Hid (∀ w1, Below w.heap.size w w1 → Calls Try.prog 75 #[pptr mb, .int .i64 z] w1 (fun e w' => e = .returned (.int .u64 y) ∧ Hid (Row b t (ptV c p a s j g L vo) w') ∧ Hid (MemIs w' mb mg (m.load z)) ∧ Hid (Tch (fun k => k = b ∨ Own mb mg k) w w'))) := fun w1 hb1 => by
    refine (load_any z w1 (hm.on hb1) hk).mono ?_
    rintro e w' ⟨rfl, hm1, ht1⟩
    exact ⟨by rw [hy], by rw [← hj]; exact (h.on' hb1).tch ht1 hb, hm1, (Tch.of _ hb1).trans (ht1.wide (fun k e => .inr e))⟩
  rw [hy]
  obtain ⟨Y, hY⟩ : ∃ Y, IntKind.i64.wrap y = Y := ⟨_, rfl⟩
  rw [hY]
  obtain ⟨A, hA⟩ : ∃ A, (if j + 1 = H then 5 else a) = A := ⟨_, rfl⟩
  rw [hA]
  have HA := Lib.hid hA
  have c8 : w.cell? ⟨b, 8, none⟩ = some (.int .u64 s) := h.cell 8
  have c9 : w.cell? ⟨b, 9, none⟩ = some (.int .i64 j) := by rw [← hj]; exact h.cell 9
  have HK : Hid (∀ w1, Below w.heap.size w w1 → w1.cell? ⟨b, 8, none⟩ = some (.int .u64 s) ∧ w1.cell? ⟨b, 9, none⟩ = some (.int .i64 j)) := fun w1 hb1 => ⟨(h.on' hb1).cell 8, by rw [← hj]; exact (h.on' hb1).cell 9⟩
  have HK5 : Hid (∀ w1, Row b t (ptV c p a s j g L vo) w1 → w1.cell? ⟨b, 8, none⟩ = some (.int .u64 s) ∧ w1.cell? ⟨b, 9, none⟩ = some (.int .i64 j)) := fun w1 h1 => ⟨h1.cell 8, h1.cell 9⟩
  have HK6 : Hid (∀ w1 v, Row b t (ptV c p a s j g L vo) w1 → (w1.setCell ⟨b, 11 + j, none⟩ v).cell? ⟨b, 8, none⟩ = some (.int .u64 s) ∧ (w1.setCell ⟨b, 11 + j, none⟩ v).cell? ⟨b, 9, none⟩ = some (.int .i64 j)) := fun w1 v h1 => by
    rw [World.cell?_setCell_other _ _ _ _ (by simp), World.cell?_setCell_other _ _ _ _ (by simp)]; exact ⟨h1.cell 8, h1.cell 9⟩
  have HHq := Lib.hid hH
  have HO := Lib.hid hb
  have HR := Lib.hid (And.intro hR.1 hL)
  have hw1 : IntKind.i64.wrap ((j : Int) + 1) = ((j : Int) + 1) := IntWalk.i64_in _ (by omega)
  have hH32 : H ≤ 32 := by omega
  have hj3 : (j : Int) < 32 := by omega
  have hj4 : (0 : Int) ≤ (j : Int) := by omega
  have hwH : IntKind.i64.wrap (H : Int) = H := IntWalk.i64_in _ (by omega)
  clear h hR hz hm hb hk hs hj hy hF hFj hT hH hq ht hA
  go_enter Try.func68, Try.ntmps68
  go_wp2_with fail
  go_region_held3 (fun w1 => w1.cell? ⟨b, 8, none⟩ = some (.int .u64 s) ∧ w1.cell? ⟨b, 9, none⟩ = some (.int .i64 j))
    (first | assumption | exact HK.out _ (Below.refl _ _) | exact HK.out _ ((Below.refl _ _).drew) | exact HK.out _ (by assumption) | exact HK5.out _ (Hid.out (by assumption)) | exact HK6.out _ _ (Hid.out (by assumption)))
   (first
    | (go_at_call 93; (with_reducible refine (HT.out _).mono ?_); rintro e w3 ⟨rfl, rfl⟩)
    | (go_at_call 94; (with_reducible refine (HH.out _ (by first | exact Below.refl _ _ | exact (Below.refl _ _).drew)).mono ?_); rintro e w3 ⟨rfl, rfl⟩)
    | (go_at_call 92; (with_reducible refine (HS.out _ (by first | exact Below.refl _ _ | exact (Below.refl _ _).drew)).mono ?_); rintro e w4 ⟨rfl, hb4⟩; have hB4 : Below w.heap.size w w4 := (by first | exact Below.refl _ _ | exact (Below.refl _ _).drew : Below w.heap.size w _).trans (hb4.mono (Nat.le_refl _)))
    | (go_at_call 75; (with_reducible refine (HC.out _ hB4).mono ?_); rintro e w5 ⟨rfl, H5, HM5, HT5⟩; have dj := pt_load H5.out (by rw [HR.out.2]; exact hj2); have fj := H5.out.frozen (11 + j)))
  all_goals
    clear HK HK5 HK6 HS HC HT HH c8 c9 dj fj hb4 hB4 hwF hF2
    have hX := pt_set H5.out (j := j) (by rw [HR.out.2]; exact hj2) Y
    have HTT := Lib.hid (tset b (11 + j) (.int .i64 Y) w5)
    obtain ⟨W, hW⟩ : ∃ W, w5.setCell ⟨b, 11 + j, none⟩ (.int .i64 Y) = W := ⟨_, rfl⟩
    rw [hW] at hX HTT ⊢
    have HX := Lib.hid hX
    have hX2 := rg_k hX ((j : Int) + 1)
    have c9 : W.cell? ⟨b, 9, none⟩ = some (.int .i64 j) := hX.cell 9
    have f9 : W.frozen? ⟨b, 9, none⟩ = false := hX.frozen 9
    have HX2 := Lib.hid hX2
    have HT2 := Lib.hid (HTT.out.trans (tset b 9 (.int .i64 ((j : Int) + 1)) W))
    obtain ⟨W2, hW2⟩ : ∃ W2, W.setCell ⟨b, 9, none⟩ (.int .i64 ((j : Int) + 1)) = W2 := ⟨_, rfl⟩
    rw [hW2] at HT2 hX2
    have HX2 := Lib.hid hX2
    have d9 : W2.cell? ⟨b, 9, none⟩ = some (.int .i64 ((j : Int) + 1)) := hX2.cell 9
    have d7 : W2.drew.cell? ⟨b, 7, none⟩ = some (.int .i64 a) := hX2.drew.cell 7
    have f7 : W2.drew.frozen? ⟨b, 7, none⟩ = false := hX2.drew.frozen 7
    have HH : Hid (∀ w1, Below W2.heap.size W2 w1 → Calls Try.prog 94 #[pptr b] w1 (fun e w' => e = .returned (.int .u32 (H : Nat)) ∧ w' = w1)) := fun w1 hb1 => by
      have := half_any (HX2.out.on' hb1) HR.out.1
      rw [HHq.out] at this
      exact this
    clear hW hX hX2
    go_upto_region 2 with (fail)
    clear hW2
    go_region_with (go_at_call 94; (with_reducible refine (HH.out _ (by first | exact Below.refl _ _ | exact (Below.refl _ _).drew)).mono ?_); rintro e w3 ⟨rfl, rfl⟩)
    all_goals
      by_cases hjH : j + 1 = H
      · obtain rfl : (5 : Int) = A := by rw [← HA.out, if_pos hjH]
        have hjI : ((j : Int) + 1) = (H : Int) := by omega
        have hj6 : decide ((j : Int) + 1 = (H : Int)) = true := decide_eq_true hjI
        go_wp2_with fail
        go_end0
        exact rg_fin HM5.out HT5.out HO.out ((HT2.out.then (Below.refl _ _).drew).trans (tset b 7 _ _)) (rg_at HX2.out.drew _)
      · obtain rfl : a = A := by rw [← HA.out, if_neg hjH]
        have hjI : ¬ ((j : Int) + 1) = (H : Int) := by omega
        have hj6 : decide ((j : Int) + 1 = (H : Int)) = false := decide_eq_false hjI
        go_wp2_with fail
        go_end0
        exact rg_fin HM5.out HT5.out HO.out (HT2.out.then (Below.refl _ _).drew) HX2.out.drew
end
end Go.Proofs.Ytgfddkddacigfaa
