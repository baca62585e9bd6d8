/- The ring gone over by callers: list, and Ahead (layer 8). -/
import Derived.Test.YtjdbmedealhbjaaRy
import Derived.Test.YtjdbmedealhbjaaAp
import Derived.Maps.AppendAt
namespace Go.Proofs.Ytjdbmedealhbjaa
open Go.RowKit Go.Shelf Go.Wd Go.Dk
attribute [local go_sem] Oper.semAt_some

theorem SrcIs.form {n₀ : Nat} {W : World} {v : Value} {fr m : Nat} {ys : List Int} (h : SrcIs n₀ W v fr m ys) : ∃ pd, v = .pointer pd := by
  rcases h with ⟨rfl, _⟩ | ⟨db, g, x, q, xs, rfl, _⟩
  · exact ⟨_, rfl⟩
  · exact ⟨_, rfl⟩
theorem some_in (n : Nat) (v : Value) (hv : ∃ pd, v = .pointer pd) (fr m : Nat) (w : World) : CallsIn Fence.wide n Try.prog 48 #[v, .int .u32 fr, .int .u32 m] w fun e w' =>
    ∃ Bd Bf Bm, e = .returned (.func (.func 54) #[] #[.pointer (some ⟨Bd, 0, none⟩), .pointer (some ⟨Bf, 0, none⟩), .pointer (some ⟨Bm, 0, none⟩)]) ∧
      Hid (Boxed w' Bd 27 v ∧ Boxed w' Bf 71 (.int .u32 fr) ∧ Boxed w' Bm 71 (.int .u32 m) ∧ Below w.heap.size w w') := by
  obtain ⟨pd, rfl⟩ := hv
  refine callsIn_of_wp Try.func48 rfl trivial ?_ rfl
  simp only [Try.ntmps48, List.size_toArray, List.length_cons, List.length_nil, Nat.reduceAdd, Nat.reduceSub, Array.replicate_succ, Array.replicate_zero, List.push_toArray, List.append_toArray, List.nil_append, List.cons_append]
  gi_wp2
  go_ret
  have b1 := Boxed.new w 27 (.pointer pd)
  have b2 := Boxed.new (w.alloc (.cells #[.pointer pd] 27)) 71 (.int .u32 fr)
  have b3 := Boxed.new ((w.alloc (.cells #[.pointer pd] 27)).alloc (.cells #[.int .u32 fr] 71)) 71 (.int .u32 m)
  simp only [World.size_alloc] at b2 b3
  refine ⟨_, _, _, rfl, (b1.alloc _).alloc _, b2.alloc _, b3, ?_⟩
  exact (((Below.refl _ w).alloc (Nat.le_refl _) _).alloc (by simp) _).alloc (by simp; omega) _
theorem some_stops (n : Nat) (hn : 1 ≤ n) (n₀ Bd Bf Bm fr m : Nat) (v : Value) (ys : List Int) (w : World) (hBd : Boxed w Bd 27 v) (hBf : Boxed w Bf 71 (.int .u32 fr)) (hBm : Boxed w Bm 71 (.int .u32 m)) (hS : SrcIs n₀ w v fr m ys) (hn0 : n₀ ≤ w.heap.size) :
    SeqStopsK Fence.wide n Try.prog 54 #[.pointer (some ⟨Bd, 0, none⟩), .pointer (some ⟨Bf, 0, none⟩), .pointer (some ⟨Bm, 0, none⟩)] (fun x : Int => #[Value.int .i64 x]) (KpT n₀ tsD)
      (fun zs => zs = ys) (fun pre => ∃ k, k ≤ ys.length ∧ pre = ys.take k) ys.length w := fun l J Jx W hW hJ hJx hY h0 =>
  some1_in n hn l n₀ Bd Bf Bm fr m v ys J Jx hY (fun p A B hp hb => hJ p A B none hp ⟨hb.os, hb.tape, hb.output, hb.size, fun k hk _ => hb.block k hk⟩ (fun r e => by cases e)) W
    ((hW.block _ hBd.lt).trans hBd) ((hW.block _ hBf.lt).trans hBf) ((hW.block _ hBm.lt).trans hBm) (hS.bel (hW.mono hn0)) (Nat.le_trans hn0 hW.size) h0
abbrev intsC (pre : List Int) : List Value := pre.map (Value.int .i64)
set_option maxRecDepth 100000 in
set_option maxHeartbeats 4000000 in
theorem list_src {w : World} {v : Value} {fr m : Nat} {ys : List Int} (hS : SrcIs w.heap.size w v fr m ys) (hl : ys.length ≤ 65536) : Calls Try.prog 39 #[v, .int .u32 fr, .int .u32 m] w (RowPost8 ys w) := by
  obtain ⟨pd, rfl⟩ := hS.form
  refine (callsIn_wide (n := 9)).1 ?_
  have h1 : 1 ≤ 9 := by omega
  refine callsIn_of_wp_marks Try.func39 rfl trivial ?_ rfl
  simp only [Try.ntmps39, List.size_toArray, List.length_cons, List.length_nil, Nat.reduceAdd, Nat.reduceSub, Array.replicate_succ, Array.replicate_zero, List.push_toArray, List.append_toArray, List.nil_append, List.cons_append]
  gi_wp2_with (refine ⟨trivial, ?_⟩; gi_at_call 48; refine (some_in _ _ ⟨pd, rfl⟩ fr m _).mono ?_; rintro e w1 ⟨Bd, Bf, Bm, rfl, HB⟩)
  obtain ⟨hBd, hBf, hBm, hbw⟩ := HB.out
  simp only [World.size_alloc] at hbw
  have bL := (hbw.block _ (Nat.lt_succ_self _)).trans (Boxed.new w 22 (.slice none 0 0))
  have hB0 : Below w.heap.size w w1 := ((Below.refl _ w).alloc (Nat.le_refl _) _).trans (hbw.mono (Nat.le_succ _))
  refine wpIn_rangeFunc_ownF rfl h1 (gf := 54) (lb := #[.pointer (some ⟨Bd, 0, none⟩), .pointer (some ⟨Bf, 0, none⟩), .pointer (some ⟨Bm, 0, none⟩)]) rfl trivial (enters_of Try.func54 (by kernel_rfl) rfl)
    (some_stops _ (by omega) w.heap.size Bd Bf Bm fr m _ ys _ hBd hBf hBm (hS.bel hB0) hB0.size) kpT_t (kpT_b hB0.size) (Below.refl _ _) (fun _ => rfl)
    (fun pre W => (∃ u, Boxed W w.heap.size 22 u ∧ W.ownsRow w.heap.size 3 1 u pre.length (intsC pre) ∧ True) ∧ Below w.heap.size w W)
    (fun c pre W => False)
    (OwnFrom.and (Own.from (fun s A B row hs hg hr => holdsRow_own _ _ _ _ 1 (fun pre => pre.length) (fun pre => intsC pre) (fun _ _ => True) s A B row hs hg hr) _) (ownFrom_below (Nat.le_refl _) hB0.size))
    (fun c s A B row hs hg hr => hs)
    ⟨⟨_, bL, World.ownsRow_nil _ _ _ _, trivial⟩, hB0⟩
    (fun x => { tmps := #[.pointer pd, .int .u32 fr, .int .u32 m, undef, undef, undef, .slice none 0 0, .pointer (some ⟨w.heap.size, 0, none⟩), .int .i64 x, .pointer pd, .int .u32 fr, .int .u32 m, .func (.func 54) #[] #[.pointer (some ⟨Bd, 0, none⟩), .pointer (some ⟨Bf, 0, none⟩), .pointer (some ⟨Bm, 0, none⟩)], .int .i64 x, undef, undef, undef, undef, undef], defers := [] }) ?assign ?body ?done ?stop
  case assign =>
    intro l x W K hK
    gi_wp2
    exact hK
  case body =>
    rintro l pre x W ⟨⟨u, hv, hrow, -⟩, hB⟩ hlen
    have hvc := hv.cell
    obtain ⟨i0, hi, hz0, hz1, hz2⟩ := info_parts infoInt
    have hsz : w.heap.size ≤ W.heap.size := hB.size
    have hlen2 : pre.length + 1 ≤ 65536 := by omega
    gi_wp2_with (gi_at_builtin; refine wpListIn_append_own _ rfl _ _ 22 rfl w.heap.size 3 i0 (.int .i64 0) 1 8 Try.underlying22 hi hz0 hz1 hz2 rfl (by decide) u pre.length (intsC pre) rfl (hrow.alloc _) ⟨W.heap.size, 0, none⟩ 1 1 [.int .i64 x] rfl rfl (cell_one_new _ _ _) (by simp [Value.oneCell']) (by unfold maxLen; omega) (by omega) (by simp; omega) ?_; intro v' w1 hown' hgrow _; obtain ⟨g', cap', rfl⟩ := ownsRow_succ hown'; obtain ⟨hv1, hv2, hr2, hk2, hb2⟩ := boxed_pushT (n₀ := w.heap.size) (ts := tsD) hv (by decide) hrow hsz (Nat.le_refl _) (by decide) (by decide) hown' hgrow; have hc1 := hv1.cell; have hf1 := hv1.frozen)
    refine ⟨hk2, hb2, ⟨_, hv2, ?_, trivial⟩, hB.trans hb2.1⟩
    simpa [intsC] using hr2
  case done =>
    rintro D zs W hD rfl ⟨⟨u, hv, hrow, -⟩, hB⟩ hK
    have hvc := hv.cell
    have hrow2 := ownsRow_putObj hrow (.deferred none) hK rfl
    have hbel := hB.trans (belowK_b (w := w) (Nat.le_refl _) W D (.deferred (some [])) (.deferred none) (Nat.le_trans hB0.size hD) hK rfl rfl)
    gi_wp2
    refine ⟨by simp, .inl ⟨_, _, rfl, run_takeDeferred hK, ?_⟩⟩
    refine ⟨_, results_tmp rfl _ _ _, ?_⟩
    exact NewRow.post (v := u) hrow2 hbel
  case stop =>
    rintro D c pre W hD hk h
    exact h.elim
/-- nothing ahead: g does not stand there -/
theorem aheadL_none {ys : List Int} {g : Int} (h : ∀ y ∈ ys, y ≠ g) : aheadL ys g = -1 := by
  unfold aheadL
  rw [if_neg (fun hm => h g hm rfl)]
theorem aheadL_some {ys : List Int} {g : Int} {k : Nat} {pre0 : List Int} {y : Int} (hk : k ≤ ys.length) (e : pre0 ++ [y] = ys.take k) (hy : y = g) (h0 : ∀ z ∈ pre0, z ≠ g) : aheadL ys g = (pre0.length : Int) := by
  subst hy
  have e2 : ys = pre0 ++ y :: ys.drop k := by
    conv => lhs; rw [← List.take_append_drop k ys, ← e]
    simp
  have hm : y ∈ ys := by rw [e2]; simp
  unfold aheadL
  rw [if_pos hm]
  have : ys.idxOf y = pre0.length := by
    rw [e2, List.idxOf_append]
    rw [if_neg (fun hm => h0 y hm rfl)]
    simp
  rw [this]
theorem boxed_keptN {A B : World} {row : Option Nat} {b : Nat} {t : TypeId} {v : Value} (h : Boxed A b t v) (hg : A.grownBy B row) (hr : ∀ r, row = some r → ∃ o : Obj, A.heap[r]? = some o ∧ o.isCells = false) : Boxed B b t v :=
  h.kept hg (fun e => by
    obtain ⟨o, ho, hc⟩ := hr b e.symm
    rw [show A.heap[b]? = _ from h] at ho; cases ho; cases hc)
theorem boxed_far {A : World} {b c : Nat} {t : TypeId} {v : Value} (h : Boxed A b t v) (hne : b ≠ c) (u : Value) : Boxed (A.setCell ⟨c, 0, none⟩ u) b t v := h.kept (grownBy_setCell' A c u) (fun e => hne (by cases e; rfl))
set_option maxRecDepth 100000 in
set_option maxHeartbeats 4000000 in
theorem ahead_src {w : World} {v : Value} {ys : List Int} (want : Int) (hS : SrcIs w.heap.size w v 0 65536 ys) (hl : ys.length ≤ 65536) : Calls Try.prog 24 #[v, .int .i64 want] w (Ans (.int .i64 (aheadL ys want)) w) := by
  obtain ⟨pd, rfl⟩ := hS.form
  refine (callsIn_wide (n := 9)).1 ?_
  have h1 : 1 ≤ 9 := by omega
  refine callsIn_of_wp_marks Try.func24 rfl trivial ?_ rfl
  simp only [Try.ntmps24, List.size_toArray, List.length_cons, List.length_nil, Nat.reduceAdd, Nat.reduceSub, Array.replicate_succ, Array.replicate_zero, List.push_toArray, List.append_toArray, List.nil_append, List.cons_append]
  gi_wp2_with (refine ⟨trivial, ?_⟩; gi_at_call 48; refine (some_in _ _ ⟨pd, rfl⟩ 0 65536 _).mono ?_; rintro e w1 ⟨Bd, Bf, Bm, rfl, HB⟩)
  obtain ⟨hBd, hBf, hBm, hbw⟩ := HB.out
  simp only [World.size_alloc] at hbw
  have b0 := Boxed.new w 3 (.int .i64 want)
  have b1 := Boxed.new (w.alloc (.cells #[.int .i64 want] 3)) 3 (.int .i64 0)
  have b2 := Boxed.new ((w.alloc (.cells #[.int .i64 want] 3)).alloc (.cells #[.int .i64 0] 3)) 3 (.int .i64 0)
  simp only [World.size_alloc] at b1 b2
  have d0 := (hbw.block _ (by omega)).trans ((b0.alloc (.cells #[.int .i64 0] 3)).alloc (.cells #[.int .i64 0] 3))
  have d1 := (hbw.block _ (by omega)).trans (b1.alloc (.cells #[.int .i64 0] 3))
  have d2 := (hbw.block _ (by omega)).trans b2
  have hB0 : Below w.heap.size w w1 := ((((Below.refl _ w).alloc (Nat.le_refl _) _).alloc (by simp) _).alloc (by simp; omega) _).trans (hbw.mono (by omega))
  clear HB hbw b0 b1 b2
  refine wpIn_rangeFunc_ownF rfl h1 (gf := 54) (lb := #[.pointer (some ⟨Bd, 0, none⟩), .pointer (some ⟨Bf, 0, none⟩), .pointer (some ⟨Bm, 0, none⟩)]) rfl trivial (enters_of Try.func54 (by kernel_rfl) rfl)
    (some_stops _ (by omega) w.heap.size Bd Bf Bm 0 65536 _ ys _ hBd hBf hBm (hS.bel hB0) hB0.size) kpT_t (kpT_b hB0.size) (Below.refl _ _) (fun _ => rfl)
    (fun pre W => ((∀ y ∈ pre, y ≠ want) ∧ Boxed W w.heap.size 3 (.int .i64 want) ∧ Boxed W (w.heap.size + 1) 3 (.int .i64 0) ∧ Boxed W (w.heap.size + 1 + 1) 3 (.int .i64 (pre.length : Nat))) ∧ Below w.heap.size w W)
    (fun c pre W => (c = .ret ∧ ∃ pre0 y, pre0 ++ [y] = pre ∧ y = want ∧ (∀ z ∈ pre0, z ≠ want) ∧ Boxed W (w.heap.size + 1) 3 (.int .i64 (pre0.length : Nat))) ∧ Below w.heap.size w W)
    (OwnFrom.and (Own.from (fun s A B row hs hg hr => ⟨hs.1, boxed_keptN hs.2.1 hg hr, boxed_keptN hs.2.2.1 hg hr, boxed_keptN hs.2.2.2 hg hr⟩) _) (ownFrom_below (Nat.le_refl _) hB0.size))
    (fun c => OwnFrom.and (Own.from (fun s A B row hs hg hr => by
      obtain ⟨e, p0, y, e1, e2, e3, e4⟩ := hs
      exact ⟨e, p0, y, e1, e2, e3, boxed_keptN e4 hg hr⟩) _) (ownFrom_below (Nat.le_refl _) hB0.size))
    ⟨⟨by simp, d0, d1, d2⟩, hB0⟩
    (fun x => { tmps := #[.pointer pd, .int .i64 want, undef, .pointer (some ⟨w.heap.size, 0, none⟩), .pointer (some ⟨w.heap.size + 1, 0, none⟩), .pointer (some ⟨w.heap.size + 1 + 1, 0, none⟩), .int .i64 x, .pointer pd, .func (.func 54) #[] #[.pointer (some ⟨Bd, 0, none⟩), .pointer (some ⟨Bf, 0, none⟩), .pointer (some ⟨Bm, 0, none⟩)], .int .i64 x, undef, undef, undef, undef, undef, undef], defers := [] }) ?assign ?body ?done ?stop
  case assign =>
    intro l x W K hK
    gi_wp2
    exact hK
  case body =>
    rintro l pre x W ⟨⟨hp, hcw, hcr, hco⟩, hB⟩ hlen
    have c1 := hcw.cell
    have c2 := hcr.cell
    have c3 := hco.cell
    have f2 := hcr.frozen
    have f3 := hco.frozen
    have hadd : IntKind.i64.wrap ((pre.length : Int) + 1) = ((pre.length + 1 : Nat) : Int) := IntWalk.i64_in _ (by omega)
    gi_wp2
    · rename_i hx
      have hx2 : x = want := eq_of_beq hx
      exact ⟨KeepsOthers.setCell _ _ _, ⟨rfl, pre, x, rfl, hx2, hp, hcr.set _⟩, hB.setCell (p := ⟨w.heap.size + 1, 0, none⟩) (by simp) _⟩
    · rename_i hx
      have hx2 : x ≠ want := fun e => by rw [e] at hx; simp at hx
      refine ⟨KeepsOthers.setCell _ _ _, KpT.set hco (by decide) (by omega) _, ⟨⟨fun y hy => (List.mem_append.1 hy).elim (hp y) (fun e => by rw [List.mem_singleton.1 e]; exact hx2), boxed_far hcw (by omega) _, boxed_far hcr (by omega) _, ?_⟩, hB.setCell (p := ⟨w.heap.size + 1 + 1, 0, none⟩) (by simp; omega) _⟩⟩
      have := hco.set (.int .i64 ((pre.length + 1 : Nat) : Int))
      simpa using this
  case done =>
    rintro D zs W hD rfl ⟨⟨hne, _, hcr, _⟩, hB⟩ hK
    have hA := aheadL_none hne
    have c2 := hcr.cell
    have f2 := hcr.frozen
    gi_wp2
    have hK' := (KeepsOthers.setCell W ⟨w.heap.size + 1, 0, none⟩ (.int .i64 (-1))).same D _ hK rfl
    refine ⟨by simp, .inl ⟨_, _, rfl, run_takeDeferred hK', ?_⟩⟩
    have hc5 := (boxed_keptN (hcr.set (.int .i64 (-1))) (grownBy_putObj' _ D (.deferred none)) (fun r e => by cases e; exact ⟨_, hK', rfl⟩)).cell
    refine ⟨.int .i64 (-1), ?_, by rw [hA], (hB.setCell (p := ⟨w.heap.size + 1, 0, none⟩) (by simp) _).trans (belowK_b (w := w) (Nat.le_refl _) _ D _ _ (Nat.le_trans hB0.size hD) hK' rfl rfl)⟩
    simp [results, Try.f24, go_sem, hc5]
  case stop =>
    rintro D c pre W hD ⟨k, hk, rfl⟩ ⟨⟨rfl, p0, y, e1, e2, e3, hcr⟩, hB⟩ hK
    have hA := aheadL_some hk e1 e2 e3
    gi_wp2
    refine ⟨by simp, .inl ⟨_, _, rfl, run_takeDeferred hK, ?_⟩⟩
    have hc5 := (boxed_keptN hcr (grownBy_putObj' _ D (.deferred none)) (fun r e => by cases e; exact ⟨_, hK, rfl⟩)).cell
    refine ⟨.int .i64 (p0.length : Nat), ?_, by rw [hA], hB.trans (belowK_b (w := w) (Nat.le_refl _) W D _ _ (Nat.le_trans hB0.size hD) hK rfl rfl)⟩
    simp [results, Try.f24, go_sem, hc5]
end Go.Proofs.Ytjdbmedealhbjaa
