/- A lay as it lies; its steps look, store, swing (layer 9's code). -/
import Derived.Test.YtgfddkddacigfaaZj
set_option linter.unusedSimpArgs false
set_option linter.unusedVariables false
namespace Go.Proofs.Ytgfddkddacigfaa
open Go.RowKit Go.Cg Go.Pu Go.Wd Go.Ce

/-- the cells of a lay -/
def lyV (c : Cfg) (p a : Int) (s : Nat) (k : Int) (vl : Value) (n : Int) : List Value := rgV c p a s k [vl, .int .i64 n]
section
variable {t : TypeId} {c : Cfg} {p a n : Int} {s : Nat} {k : Int} {vl : Value} {l : List Int} {w w' : World} {b mb mg : Nat} {m : PM} {S : Nat → Prop}
theorem ly_l (h : Row b t (lyV c p a s k vl n) w) : w.cell? ⟨b, 10, none⟩ = some vl := h.cell 10
theorem ly_n (h : Row b t (lyV c p a s k vl n) w) : w.cell? ⟨b, 11, none⟩ = some (.int .i64 n) := h.cell 11
theorem ly_setn (h : Row b t (lyV c p a s k vl n) w) (n' : Int) : Row b t (lyV c p a s k vl n') (w.setCell ⟨b, 11, none⟩ (.int .i64 n')) := h.set 11 _
theorem ly_setl (h : Row b t (lyV c p a s k vl n) w) (v : Value) : Row b t (lyV c p a s k v n) (w.setCell ⟨b, 10, none⟩ v) := h.set 10 _
/-- how many it lays -/
def nnV (len Q l : Nat) : Nat := if l < Q then min len (Q - l) else 0
set_option maxHeartbeats 1000000 in
set_option maxRecDepth 20000 in
theorem llook_any (h : Row b t (lyV c p a s k vl n) w) (hl : SlIs S w vl l) (hm : MemIs w mb mg m) (hu : U64 m) (hb : ¬ Own mb mg b) (hk : m.k.ops + 1 ≤ 1000000000000) (hR : Right c ∧ 0 ≤ p ∧ p < c.n) (hne : l ≠ []) :
    Calls Try.prog 72 #[pptr b, pptr mb] w (RgPost t b (lyV c p (if nnV l.length c.q.toNat (ln (m.ans (aW c p)).toNat) = 0 then 0 else 2) (m.ans (aW c p)).toNat 0 vl (nnV l.length c.q.toNat (ln (m.ans (aW c p)).toNat))) mb mg (m.load (aW c p)) (.tuple #[]) w) := by
  have HL : Hid (∀ w1, Below w.heap.size w w1 → Calls Try.prog 88 #[pptr b, pptr mb] w1 (RgPost t b (lyV c p a (m.ans (aW c p)).toNat 0 vl n) mb mg (m.load (aW c p)) (.int .i64 ((c.q.toNat - min c.q.toNat (ln (m.ans (aW c p)).toNat) : Nat) : Int)) w)) := fun w1 hb1 => by
    refine (rload_any (h.on' hb1) (hm.on hb1) hu hb hk hR).mono ?_
    intro e w' hp
    exact hp.from hb1
  obtain ⟨y, hy⟩ : ∃ y, (m.ans (aW c p)).toNat = y := ⟨_, rfl⟩
  rw [hy] at HL ⊢
  obtain ⟨e, he⟩ : ∃ e, ln y = e := ⟨_, rfl⟩
  rw [he] at HL ⊢
  have hq := q_le hR.1
  obtain ⟨Q, hQ⟩ : ∃ Q, c.q.toNat = Q := ⟨_, rfl⟩
  rw [hQ] at HL hq ⊢
  obtain ⟨M, hM⟩ : ∃ M, m.load (aW c p) = M := ⟨_, rfl⟩
  rw [hM] at HL ⊢
  obtain ⟨d, hd⟩ : ∃ d, Q - min Q e = d := ⟨_, rfl⟩
  rw [hd] at HL
  have hlen := hl.len
  obtain ⟨len, hlen2⟩ : ∃ len, l.length = len := ⟨_, rfl⟩
  rw [hlen2] at hlen ⊢
  have hn : nnV len Q e = min len d := by unfold nnV; split <;> omega
  rw [hn]
  have hlen0 : 0 < len := by rw [← hlen2]; exact List.length_pos_iff.2 hne
  obtain ⟨pl, nl, cl, rfl, hnl, -⟩ := hl.form
  have hnl2 : nl = len := by rw [hnl, hlen2]
  subst hnl2
  obtain ⟨N, hN⟩ : ∃ N, min nl d = N := ⟨_, rfl⟩
  have hmin : (if d < nl then (d : Int) else (nl : Int)) = (N : Int) := by rw [← hN]; split <;> omega
  rw [hN]
  have HN := Lib.hid (And.intro hN hmin)
  obtain ⟨A, hA⟩ : ∃ A : Int, (if N = 0 then (0 : Int) else 2) = A := ⟨_, rfl⟩
  rw [hA]
  have HA := Lib.hid hA
  have c10 := ly_l h
  have HK : Hid (∀ w1, Below w.heap.size w w1 → w1.cell? ⟨b, 10, none⟩ = some (.slice pl nl cl)) := fun w1 hb1 => (h.on' hb1).cell 10
  have HSt : Hid (∀ (w1 : World) (v : Value), w1.cell? ⟨b, 10, none⟩ = some (.slice pl nl cl) → (w1.setCell ⟨b, 11, none⟩ v).cell? ⟨b, 10, none⟩ = some (.slice pl nl cl)) := fun w1 v h => by
    rw [World.cell?_setCell_other _ _ _ _ (by simp)]; exact h
  have HO := Lib.hid hb
  have hnl0 : ¬ ((nl : Int) = 0) := by omega
  clear h hl hm hu hb hk hR hy he hQ hd hne hlen2 hn hA hM hnl hN hmin
  go_enter Try.func72, Try.ntmps72
  go_wp2_with fail
  go_region_held3 (fun w1 => w1.cell? ⟨b, 10, none⟩ = some (.slice pl nl cl))
    (first | assumption | exact HK.out _ (Below.refl _ _) | exact HK.out _ ((Below.refl _ _).drew) | exact HSt.out _ _ (by assumption))
    (first | (go_at_call 88; (with_reducible refine (HL.out _ (by first | exact Below.refl _ _ | exact (Below.refl _ _).drew)).mono ?_); rintro e w5 ⟨rfl, H5, HM5, HT5⟩; have H5 := Lib.hid H5; have HM5 := Lib.hid HM5; have HT5 := Lib.hid HT5; have d10 := ly_l H5.out; have d11 := ly_n H5.out; have f11 := H5.out.frozen 11; clear c10))
  all_goals
    rw [HN.out.2]
    have hX := ly_setn H5.out (N : Int)
    have HT6 := Lib.hid (tset b 11 (.int .i64 (N : Int)) w5)
    obtain ⟨W, hW⟩ : ∃ W, w5.setCell ⟨b, 11, none⟩ (.int .i64 (N : Int)) = W := ⟨_, rfl⟩
    rw [hW] at hX HT6 ⊢
    have HX := Lib.hid hX
    have c7 : W.cell? ⟨b, 7, none⟩ = some (.int .i64 a) := hX.cell 7
    have f7 := hX.frozen 7
    have hX2 := rg_at hX 2
    have HT7 := Lib.hid (HT6.out.trans (tset b 7 (.int .i64 2) W))
    have e11 : (W.setCell ⟨b, 7, none⟩ (.int .i64 2)).cell? ⟨b, 11, none⟩ = some (.int .i64 N) := hX2.cell 11
    have e7 : (W.setCell ⟨b, 7, none⟩ (.int .i64 2)).cell? ⟨b, 7, none⟩ = some (.int .i64 2) := hX2.cell 7
    have g7 : (W.setCell ⟨b, 7, none⟩ (.int .i64 2)).frozen? ⟨b, 7, none⟩ = false := hX2.frozen 7
    have HX2 := Lib.hid hX2
    clear hW hX hX2 HK HSt HL d10 d11 f11
    by_cases hN0 : N = 0
    · obtain rfl : (0 : Int) = A := by rw [← HA.out, if_pos hN0]
      subst hN0
      go_wp2_with fail
      go_end0
      exact rg_fin HM5.out HT5.out HO.out (HT7.out.trans (tset b 7 _ _)) (rg_at HX2.out 0)
    · obtain rfl : (2 : Int) = A := by rw [← HA.out, if_neg hN0]
      have hN1 : ¬ ((N : Int) = 0) := by omega
      go_wp2_with fail
      go_end0
      exact rg_fin HM5.out HT5.out HO.out HT7.out HX2.out
set_option maxHeartbeats 1000000 in
set_option maxRecDepth 20000 in
theorem lempty_any (h : Row b t (lyV c p a s k vl n) w) (hl : SlIs S w vl []) (v : Value) :
    Calls Try.prog 72 #[pptr b, v] w (fun e w' => e = .returned (.tuple #[]) ∧ w' = w.setCell ⟨b, 7, none⟩ (.int .i64 0)) := by
  obtain ⟨pl, nl, cl, rfl, hnl, -⟩ := hl.form
  obtain rfl : nl = 0 := hnl
  have c10 := ly_l h
  have c7 : w.cell? ⟨b, 7, none⟩ = some (.int .i64 a) := h.cell 7
  have f7 := h.frozen 7
  clear h hl
  go_enter Try.func72, Try.ntmps72
  go_wp2_with fail
  refine bodyPost_ret (results_none (by rfl) _ _ _) rfl ?_
  exact ⟨rfl, rfl⟩
set_option maxHeartbeats 1000000 in
set_option maxRecDepth 20000 in
theorem lstore_any {nn j : Nat} (h : Row b t (lyV c p a s k vl n) w) (hl : SlIs S w vl l) (hm : MemIs w mb mg m) (hb : ¬ Own mb mg b) (hk : m.k.ops + 1 ≤ 1000000000000) (hR : Right c ∧ 0 ≤ p ∧ p < c.n) (hs : s < 18446744073709551616) (hj : k = j) (hnn : n = nn) (hj2 : j < l.length) (hj64 : j ≤ 64) :
    Calls Try.prog 73 #[pptr b, pptr mb] w (RgPost t b (lyV c p (if j + 1 = nn then 3 else a) s ((j : Int) + 1) vl n) mb mg (m.store (aS c p ((tl s + j) % 4294967296)) (IntKind.u64.wrap (l.getD j 0))) (.tuple #[]) w) := by
  obtain ⟨z, hz⟩ : ∃ z, l.getD j 0 = z := ⟨_, rfl⟩
  rw [hz]
  obtain ⟨M, hM⟩ : ∃ M, m.store (aS c p ((tl s + j) % 4294967296)) (IntKind.u64.wrap z) = M := ⟨_, rfl⟩
  have HC : Hid (∀ w1, Below w.heap.size w w1 → Calls Try.prog 89 #[pptr b, pptr mb, .int .i64 z] w1 (RgPost t b (lyV c p a s ((j : Int) + 1) vl n) mb mg M (.tuple #[]) w)) := fun w1 hb1 => by
    refine (rlay_any (h.on' hb1) (hm.on hb1) hb hk hR hs j hj hj64 z).mono ?_
    intro e w' hp
    rw [hM] at hp
    exact hp.from hb1
  rw [hM]
  obtain ⟨pp, cl, rfl, h1, h2, h3, h4⟩ := hl
  obtain ⟨g, o, rfl, -, hc⟩ := h4.cells j hj2
  rw [hz] at hc
  obtain ⟨len, hlen⟩ : ∃ len, l.length = len := ⟨_, rfl⟩
  rw [hlen] at h1 hj2 h HC ⊢
  obtain ⟨A, hA⟩ : ∃ A : Int, (if j + 1 = nn then (3 : Int) else a) = A := ⟨_, rfl⟩
  rw [hA]
  have HA := Lib.hid hA
  subst hj hnn
  have HK : Hid (∀ w1, Below w.heap.size w w1 → w1.cell? ⟨b, 9, none⟩ = some (.int .i64 j) ∧ w1.cell? ⟨b, 10, none⟩ = some (.slice (some ⟨g, o, none⟩) len cl) ∧ w1.cell? ⟨g, o + j, none⟩ = some (.int .i64 z)) := fun w1 hb1 => ⟨(h.on' hb1).cell 9, (h.on' hb1).cell 10, by rw [hb1.cell (block_lt_of_cell hc)]; exact hc⟩
  have HO := Lib.hid hb
  have hj3 : (j : Int) < len := by omega
  have hj4 : (0 : Int) ≤ (j : Int) := by omega
  obtain ⟨k0, k1, k2⟩ := HK.out _ (Below.refl _ _)
  clear h hm hb hk hR hs hz hM h1 h2 h3 h4 hc hlen hA
  go_enter Try.func73, Try.ntmps73
  go_wp2_with fail
  go_region_with (go_at_call 89; (with_reducible refine (HC.out _ (by first | exact Below.refl _ _ | exact (Below.refl _ _).drew)).mono ?_); rintro e w5 ⟨rfl, H5, HM5, HT5⟩; have H5 := Lib.hid H5; have HM5 := Lib.hid HM5; have HT5 := Lib.hid HT5)
  all_goals
    have H5d := Lib.hid H5.out.drew
    have c9 : w5.cell? ⟨b, 9, none⟩ = some (.int .i64 ((j : Int) + 1)) := H5.out.cell 9
    have c11 : w5.cell? ⟨b, 11, none⟩ = some (.int .i64 nn) := H5.out.cell 11
    have c7 : w5.drew.cell? ⟨b, 7, none⟩ = some (.int .i64 a) := H5d.out.cell 7
    have f7 : w5.drew.frozen? ⟨b, 7, none⟩ = false := H5d.out.frozen 7
    clear HK k0 k1 k2 HC
    go_wp2_with fail
    go_region
    all_goals
      by_cases hjn : j + 1 = nn
      · obtain rfl : (3 : Int) = A := by rw [← HA.out, if_pos hjn]
        have hjI : ((j : Int) + 1) = (nn : Int) := by omega
        have hj6 : decide ((j : Int) + 1 = (nn : Int)) = true := decide_eq_true hjI
        go_wp2_with fail
        go_end0
        exact rg_fin HM5.out HT5.out HO.out ((Tch.of _ (Below.refl _ _).drew).trans (tset b 7 _ _)) (rg_at H5d.out _)
      · obtain rfl : a = A := by rw [← HA.out, if_neg hjn]
        have hjI : ¬ ((j : Int) + 1) = (nn : Int) := by omega
        have hj6 : decide ((j : Int) + 1 = (nn : Int)) = false := decide_eq_false hjI
        go_wp2_with fail
        go_end0
        exact rg_fin HM5.out HT5.out HO.out (Tch.of _ (Below.refl _ _).drew) H5d.out
end
end Go.Proofs.Ytgfddkddacigfaa
