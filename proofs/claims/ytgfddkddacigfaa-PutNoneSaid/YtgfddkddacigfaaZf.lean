/- slices.Clone of numbers; a put's cut (layer 9's code). -/
import Derived.Test.YtgfddkddacigfaaZe
import Derived.Deep.AppendLies
set_option linter.unusedSimpArgs false
set_option linter.unusedVariables false
namespace Go.Proofs.Ytgfddkddacigfaa
open Go.RowKit Go.Cg Go.Pu Go.Wd Go.Ce

theorem row_empty9 (w : World) : NewRow w.heap.size (w.alloc (.cells #[] 3)) (.slice (some ⟨w.heap.size, 0, none⟩) 0 0) [] :=
  ⟨rfl, .inr ⟨_, 0, #[], rfl, Nat.le_refl _, heap_alloc_new _ _, Nat.le_refl _, Nat.zero_le _, rfl, rfl⟩⟩
set_option maxHeartbeats 1000000 in
set_option maxRecDepth 20000 in
theorem iclone_any {S : Nat → Prop} {w : World} {v : Value} {zs : List Int} (h : SlIs S w v zs) (hl : zs.length ≤ 65536) : Calls Try.prog 51 #[v] w (RowPost8 zs w) := by
  have h0 := h
  obtain ⟨p, c, rfl, h1, h2, h3, h4⟩ := h
  cases p with
  | none =>
    have hc := h3 rfl
    subst hc
    have h0 : zs = [] := List.eq_nil_of_length_eq_zero (by omega)
    subst h0
    clear h0 h1 h2 h3 h4 hl
    show Calls _ _ #[.slice none 0 0] _ _
    have hnl := fun w : World => Lib.run_eql_slice_nil w 38 3 none 0 0 0 0 Try.underlying38
    go_enter Try.func51, Try.ntmps51
    go_wp2
    go_ret
    exact ⟨none, 0, 0, rfl, rfl, NewRow.nil _ _, Below.refl _ _⟩
  | some ad =>
    have HS : Hid (∀ w', Below w.heap.size w w' → SlIs S w' (.slice (some ad) zs.length c) zs) := fun w' hb => h0.on hb
    have HL := Lib.hid hl
    obtain ⟨q, hq⟩ : ∃ q, zs.length = q := ⟨_, rfl⟩
    rw [hq] at HS ⊢
    have hnl := fun w : World => Lib.run_eql_slice_nil w 38 3 (some ad) q c 0 0 Try.underlying38
    clear h0 hl h1 h2 h3 h4 hq
    go_enter Try.func51, Try.ntmps51
    go_wp2_with (at_builtin; refine append_new (B := w.heap.size) _ rfl (.tmp 5) (.tmp 6) (by rfl) (.slice (some ad) q c) (.slice (some ⟨w.heap.size, 0, none⟩) 0 0) [] zs (by kernel_rfl) (row_empty9 w) (by kernel_rfl) (HS.out _ ((Below.refl _ _).alloc (Nat.le_refl _) _)) (by have := HL.out; simp; omega) (by simp) ?_; intro v2 w2 hn2 hg2; have HF : Hid (RowPost8 zs w (.returned v2) w2) := NewRow.post hn2.begun (new_below (row_empty9 w) ((Below.refl _ _).alloc (Nat.le_refl _) _) (by simp) hg2); clear hn2 hg2)
    go_ret
    exact HF.out
section
variable {t : TypeId} {c : Cfg} {p a g : Int} {s : Nat} {k : Int} {L : List Int} {vo : Value} {w w' : World} {b mb mg : Nat} {m : PM}
def CutPost (t : TypeId) (b : Nat) (c : Cfg) (p : Int) (s : Nat) (k g : Int) (L : List Int) (vo : Value) (r : Bool) (xs : List Int) (mb mg : Nat) (m' : PM) (w : World) (e : Ending) (w' : World) : Prop :=
  ∃ vo', e = .returned (.tuple #[]) ∧ Hid (Row b t (ptV c p (cond r 0 1) s k g L vo') w') ∧ Hid (MemIs w' mb mg m') ∧ Hid (Tch (fun k => k = b ∨ Own mb mg k) w w') ∧ Hid (if r = true then NewRow w.heap.size w' vo' xs else vo' = vo)
/-- the first n of an array of numbers, as a slice -/
theorem pt_sl (h : Row b t (ptV c p a s k g L vo) w) (hL : L.length = 32) {n : Nat} (hn : n ≤ 32) : SlIs (fun _ => False) w (.slice (some ⟨b, 11, none⟩) n 32) (L.take n) := by
  have e : (L.take n).length = n := by rw [List.length_take]; omega
  refine ⟨some ⟨b, 11, none⟩, 32, by rw [e], by omega, by unfold maxLen; omega, (fun e => by cases e), ⟨by omega, fun j hj => ⟨b, 11, rfl, id, ?_⟩⟩⟩
  rw [pt_load h (show j < L.length by omega)]
  simp [List.getD, List.getElem?_take, show j < n by omega]
theorem one_at {w : World} {B : Nat} {g : Int} (h : w.cell? ⟨B, 0, none⟩ = some (.int .i64 g)) : ∀ j u, [Value.int .i64 g][j]? = some u → w.cell? ((⟨B, 0, none⟩ : Addr).add j) = some u := by
  intro j u hu
  rcases j with _ | j <;> simp at hu
  subst hu
  simpa [Addr.add] using h
theorem one_int (g : Int) : ∀ u ∈ [Value.int .i64 g], u.oneCell' = true := by
  intro u hu; simp at hu; subst hu; rfl
set_option maxHeartbeats 1000000 in
set_option maxRecDepth 20000 in
theorem pcut_any (h : Row b t (ptV c p a s k g L vo) w) (hL : L.length = 32) (hm : MemIs w mb mg m) (hb : ¬ Own mb mg b) (hk : m.k.ops + 1 ≤ 1000000000000) (hR : Right c ∧ 0 ≤ p ∧ p < c.n) (hs : s < 18446744073709551616) (hkq : k = ((c.q.toNat / 2 : Nat) : Int)) (r : Bool) (hr : decide (m.hit (aW c p) s) = r) :
    Calls Try.prog 69 #[pptr b, pptr mb] w (CutPost t b c p s k g L vo r (L.take (c.q.toNat / 2) ++ [g]) mb mg (m.cas (aW c p) s (dropW s (c.q.toNat / 2))) w) := by
  have hq := q_le hR.1
  obtain ⟨H, hH⟩ : ∃ H, c.q.toNat / 2 = H := ⟨_, rfl⟩
  have hH32 : H ≤ 32 := by omega
  have HH : Hid (∀ w1, Below w.heap.size w w1 → Calls Try.prog 94 #[pptr b] w1 (fun e w' => e = .returned (.int .u32 (H : Nat)) ∧ w' = w1)) := fun w1 hb1 => by
    have := half_any (h.on' hb1) hR.1
    rw [hH] at this
    exact this
  rw [hH] at hkq ⊢
  have HD : Hid (∀ w, Calls Try.prog 95 #[.int .u64 s, .int .u32 H] w fun e w' => e = .returned (.int .u64 (dropW s H : Nat)) ∧ w = w') := fun w => wdrop_any s H hs (by omega) w
  obtain ⟨y, hy⟩ : ∃ y, dropW s H = y := ⟨_, rfl⟩
  rw [hy] at HD ⊢
  have HC : Hid (∀ w1, Below w.heap.size w w1 → Calls Try.prog 90 #[pptr b, pptr mb, .int .u64 y] w1 (RgPost t b (ptV c p (cond r 0 1) s k g L vo) mb mg (m.cas (aW c p) s y) (.bool r) w)) := fun w1 hb1 => by
    refine (rswap_any (h.on' hb1) (hm.on hb1) hb hk hR _ r hr).mono ?_
    intro e w' hp
    exact hp.from hb1
  obtain ⟨z, hz⟩ : ∃ z, m.cas (aW c p) s y = z := ⟨_, rfl⟩
  rw [hz] at HC ⊢
  have HO := Lib.hid hb
  have HL := Lib.hid hL
  have c8 : w.cell? ⟨b, 8, none⟩ = some (.int .u64 s) := h.cell 8
  have HK8 : Hid (∀ w1, Below w.heap.size w w1 → w1.cell? ⟨b, 8, none⟩ = some (.int .u64 s)) := fun w1 hb1 => (h.on' hb1).cell 8
  subst hkq
  have hH1 : (0 : Int) ≤ (H : Int) := by omega
  have hH2 : (H : Int) ≤ 32 := by omega
  obtain ⟨i0, hi, hz0, hz1, hz2⟩ := info_parts infoInt
  clear h hm hb hk hR hs hr hy hq hH hz hL
  go_enter Try.func69, Try.ntmps69
  go_wp2_with fail
  go_region_held3 (fun w1 => w1.cell? ⟨b, 8, none⟩ = some (.int .u64 s))
   (first | assumption | exact HK8.out _ (Below.refl _ _) | exact HK8.out _ ((Below.refl _ _).drew) | exact H48)
   (first
    | (go_at_call 94; (with_reducible refine (HH.out _ (by first | exact Below.refl _ _ | exact (Below.refl _ _).drew)).mono ?_); rintro e w3 ⟨rfl, rfl⟩)
    | (go_at_call 95; (with_reducible refine (HD.out _).mono ?_); rintro e w3 ⟨rfl, rfl⟩)
    | (go_at_call 90; (with_reducible refine (HC.out _ (by first | exact Below.refl _ _ | exact (Below.refl _ _).drew)).mono ?_); rintro e w4 ⟨rfl, H4, HM4, HT4⟩; have H4 := Lib.hid H4; have HM4 := Lib.hid HM4; have HT4 := Lib.hid HT4; have H48 : w4.cell? ⟨b, 8, none⟩ = some (.int .u64 s) := H4.out.cell 8))
  all_goals
    clear HH HD HC c8 HK8 H48
    cases r with
    | false =>
      go_wp2_with fail
      go_end0
      exact ⟨vo, rfl, H4.out, HM4.out, HT4.out, rfl⟩
    | true =>
      have HCl : Hid (∀ w1, Below w4.heap.size w4 w1 → Calls Try.prog 51 #[.slice (some ⟨b, 11, none⟩) H 32] w1 (fun e w' => ∃ p c, e = .returned (.slice p H c) ∧ Hid (w'.ownsRow w4.heap.size 3 1 (.slice p H c) H ((L.take H).map (Value.int .i64))) ∧ Hid (∀ k, (Value.slice p H c).ownBlock = some k → w4.heap.size ≤ k) ∧ Hid (Below w4.heap.size w4 w') ∧ Hid (Below w1.heap.size w1 w'))) := fun w1 hb1 => by
        have hl : (L.take H).length = H := by rw [List.length_take, HL.out]; omega
        refine (iclone_any (pt_sl (H4.out.on' hb1) HL.out hH32) (by omega)).mono ?_
        rintro e w' ⟨p, n, c, rfl, hn, hO, hB⟩
        obtain rfl : n = H := by have := hn.out; omega
        have h1 := hO.base hb1.size
        have h2 := h1.lt
        unfold NewRow at h1
        rw [hl] at h1
        exact ⟨p, c, rfl, h1, fun k e => (h2 k e).1, hb1.trans (hB.mono hb1.size), hB⟩
      have hS0 : Hid (∀ w1, Below w4.heap.size w4 w1 → w1.cell? ⟨b, 9, none⟩ = some (.int .i64 H) ∧ w1.cell? ⟨b, 10, none⟩ = some (.int .i64 g)) := fun w1 hb1 => ⟨(H4.out.on' hb1).cell 9, (H4.out.on' hb1).cell 10⟩
      have hSt : Hid (∀ (w1 : World) (v : Value), w1.cell? ⟨b, 9, none⟩ = some (.int .i64 H) ∧ w1.cell? ⟨b, 10, none⟩ = some (.int .i64 g) → (w1.setCell ⟨b, 43, none⟩ v).cell? ⟨b, 9, none⟩ = some (.int .i64 H) ∧ (w1.setCell ⟨b, 43, none⟩ v).cell? ⟨b, 10, none⟩ = some (.int .i64 g)) := fun w1 v h => by
        rw [World.cell?_setCell_other _ _ _ _ (by simp), World.cell?_setCell_other _ _ _ _ (by simp)]; exact h
      go_upto_region 1 with (fail)
      go_region_held3 (fun w1 => w1.cell? ⟨b, 9, none⟩ = some (.int .i64 H) ∧ w1.cell? ⟨b, 10, none⟩ = some (.int .i64 g))
        (first | assumption | exact hS0.out _ (Below.refl _ _) | exact hS0.out _ ((Below.refl _ _).drew) | exact hS0.out _ (((Below.refl _ _).alloc (Nat.le_refl _) _).drew) | exact hS0.out _ (by assumption) | exact hS0.out _ (Below.alloc (by assumption) (Below.size (by assumption : Below w4.heap.size w4 _)) _) | exact hSt.out _ _ (by assumption))
        (first
          | ((refine step_append_lies _ (by rfl) _ _ 38 (by rfl) w4.heap.size 3 i0 (.int .i64 0) 1 8 Try.underlying38 hi hz0 hz1 hz2 rfl (by decide) (.slice pn H cn) H ((L.take H).map (Value.int .i64)) (by rfl) (by first | exact hO5.out.alloc _ | exact hO5.out) ⟨_, 0, none⟩ 1 1 [.int .i64 g] (by rfl) rfl (one_at (by first | exact (Row.new _ _ [Value.int .i64 g]).cell 0 | (rw [hB1.out.cell (by simp)]; exact (Row.new _ _ [Value.int .i64 g]).drew.cell 0))) (one_int g) (by decide) (by unfold maxLen; omega) (by omega) (by first | exact hC5.size | (simp; have := hC5.size; omega)) _ rfl ?_; intro g6 c6 w6 hown6 hgrow6 hat6 hlt6; have hB6 : Below w4.heap.size w4 w6 := (by first | exact hC5.grown hgrow6 hC5.size hO6.out | exact (hC5.alloc hC5.size _).grown hgrow6 (by simp; have := hC5.size; omega) hO6.out); have r6 := Lib.hid (H4.out.on' hB6); have hS6 := hS0.out _ hB6; have c43 := pt_over r6.out HL.out; have f43 := r6.out.frozen 43; have hown6 := Lib.hid hown6; clear hgrow6))
          | (go_at_call 51; (with_reducible refine (HCl.out _ (by first | exact Below.refl _ _ | exact (Below.refl _ _).drew | exact ((Below.refl _ _).alloc (Nat.le_refl _) _).drew)).mono ?_); rintro e w5 ⟨pn, cn, rfl, hO5, hO6, hB5, hB1⟩; have hC5 : Below w4.heap.size w4 w5 := hB5.out))
      all_goals
        have hn : NewRow w4.heap.size w6 (.slice (some ⟨g6, 0, none⟩) (H + 1) c6) (L.take H ++ [g]) := by
          unfold NewRow
          have hl : (L.take H ++ [g]).length = H + 1 := by rw [List.length_append, List.length_take, HL.out]; simp; omega
          rw [hl, List.map_append]
          exact hown6.out
        have hnl := hn.lt
        have hbl := H4.out.lt
        have HN := Lib.hid ((hn.tch (S := fun k => k = b) (tset b 43 (.slice (some ⟨g6, 0, none⟩) (H + 1) c6) w6) (fun k hk e => by have := (hnl k hk).1; omega)).base HT4.out.size)
        have HF := Lib.hid (rg_fin (v := .tuple #[]) HM4.out HT4.out HO.out ((Tch.of _ hB6).trans (tset b 43 (.slice (some ⟨g6, 0, none⟩) (H + 1) c6) w6)) (pt_put r6.out HL.out (.slice (some ⟨g6, 0, none⟩) (H + 1) c6)))
        go_end0
        exact ⟨_, rfl, HF.out.2.1, HF.out.2.2.1, HF.out.2.2.2, HN.out⟩
end
end Go.Proofs.Ytgfddkddacigfaa
