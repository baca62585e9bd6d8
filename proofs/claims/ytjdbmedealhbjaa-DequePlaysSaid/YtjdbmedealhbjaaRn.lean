/- New and Copy of rings (layer 8). -/
import Derived.Test.YtjdbmedealhbjaaRt
import Derived.Lib.SmallJoins
import Derived.Deep.QuietTactic
import Derived.Deep.RegionWith
set_option linter.unusedSimpArgs false
set_option linter.unusedVariables false
namespace Go.Proofs.Ytjdbmedealhbjaa
open Go.RowKit Go.Wd Go.Dk

/-- a deque's block laid behind its slots -/
theorem ring_box {B : Nat} {w : World} {g q c x : Nat} {xs zs : List Int} (t : TypeId) (h : w.ownsRow B 3 1 (.slice (some ⟨g, 0, none⟩) q c) q (zs.map (Value.int .i64))) (hx : x < 18446744073709551616) (hl : ln x = xs.length) (rm : room (q : Int) = true) (le : xs.length ≤ q)
    (hc : ∀ j, j < xs.length → zs.getD ((hd x + j) % 4294967296 % q) 0 = xs.getD j 0) : RingAt (w.alloc (.cells #[.int .u64 x, .slice (some ⟨g, 0, none⟩) q c] t)) w.heap.size g x q xs := by
  have hq := room_bd rm
  have hz : zs.length = q := by have := h.1; simpa using this
  have hcap : q ≤ c ∧ c ≤ maxLen ∧ g < w.heap.size := by
    rcases h.2 with ⟨hv, _⟩ | ⟨g', cap, cur, hv, hB, hg, h1, h2, r⟩
    · cases hv
    · cases hv
      exact ⟨h1, h2, (Array.getElem?_eq_some_iff.1 hg).1⟩
  have hb := (Below.refl w.heap.size w).alloc (Nat.le_refl _) (.cells #[.int .u64 x, .slice (some ⟨g, 0, none⟩) q c] t)
  have gc (j : Nat) (hj : j < q) : (w.alloc (.cells #[.int .u64 x, .slice (some ⟨g, 0, none⟩) q c] t)).cell? ⟨g, j, none⟩ = some (.int .i64 (zs.getD j 0)) := by
    rw [hb.cell (p := ⟨g, j, none⟩) hcap.2.2, h.cellAt j (by omega), List.getElem?_map, List.getElem?_eq_getElem (by omega)]
    simp [List.getD, hz, hj]
  refine ⟨by rw [World.cell?_alloc_new]; rfl, ⟨c, by rw [World.cell?_alloc_new]; rfl, hcap.1, hcap.2.1⟩, by simp, by simp, fun j hj => ?_, fun j hj => ?_, hx, hl, rm, le, by omega⟩
  · rw [gc _ (Nat.mod_lt _ (by omega)), hc j hj]
  · exact ⟨_, gc j hj, by rw [hb.frozen (p := ⟨g, j, none⟩) hcap.2.2]; exact h.frozenAt j⟩
theorem new_row (q : Nat) (xs : List Int) : layL q [] xs = xs.take q := by
  unfold layL layN
  rw [List.nil_append, List.length_nil, Nat.sub_zero]
  rcases Nat.le_total xs.length q with h | h
  · rw [Nat.min_eq_left h, List.take_of_length_le (Nat.le_refl _), List.take_of_length_le h]
  · rw [Nat.min_eq_right h]
theorem new_no' (q : Int) (v : Value) (w : World) (hr : Go.Wd.room q = false) (hv : ∃ p n c, v = .slice p n c) : Calls Try.prog 10 #[.int .i64 q, v] w (Ans (.tuple #[.pointer none, .int .i64 2]) w) := by
  obtain ⟨p, n, c, rfl⟩ := hv
  have HR : Hid (∀ w, Calls Try.prog 29 #[.int .i64 q] w fun e w' => e = .returned (.bool false) ∧ w = w') := by
    rw [← hr]; exact fun w => room_any q w
  clear hr
  go_enter Try.func10, Try.ntmps10
  go_wp2_with (go_at_call 29; refine (HR.out _).mono ?_; rintro e w' ⟨rfl, rfl⟩)
  go_ret2
  exact ⟨rfl, Below.refl _ _⟩
set_option maxRecDepth 20000 in
set_option maxHeartbeats 2000000 in
theorem new_ring (q : Nat) (v : Value) (xs : List Int) (w : World) (hr : Go.Wd.room (q : Int) = true) (hv : SlIs (fun _ => False) w v xs) : Calls Try.prog 10 #[.int .i64 q, v] w (MadePost DqIs q (xs.take q) (fun p => .tuple #[p, .int .i64 0]) w) := by
  have HV := Lib.hid hv
  obtain ⟨p, n, c, rfl, hn⟩ := hid_slice hv
  have hq := room_bd hr
  have HRm : Hid (∀ w, Calls Try.prog 29 #[.int .i64 q] w fun e w' => e = .returned (.bool true) ∧ w = w') := by
    rw [← hr]; exact fun w => room_any q w
  obtain ⟨i0, hi, hz0, hz1, hz2⟩ := info_parts infoInt
  have HQ := Lib.hid hr
  clear hv hn hr
  go_enter Try.func10, Try.ntmps10
  go_wp2_with (first
    | (go_at_call 29; refine (HRm.out _).mono ?_; rintro e w' ⟨rfl, rfl⟩)
    | (at_make; refine wpList_make_full _ rfl _ _ 22 rfl w.heap.size 3 i0 (.int .i64 0) 1 Try.underlying22 hi hz0 hz1 _ _ _ _ q rfl rfl (by omega) (by omega) ?b2 ?b3 ?b4 ?_))
  case b2 => rw [hz2]; omega
  case b3 => unfold maxLen; omega
  case b4 => exact Nat.le_refl _
  intro w1 hown hgrow
  have HB1 : Hid (Below w.heap.size w w1) := (Below.refl w.heap.size w).grown hgrow (Nat.le_refl _) (fun k hk => by cases hk)
  rw [toList_madeCells_one, show List.replicate q (Value.int .i64 0) = (List.replicate q (0 : Int)).map (Value.int .i64) by simp] at hown
  have HR1 : Hid (RingAt (w1.alloc (.cells #[(.int .u64 0 : Value), .slice (some ⟨w.heap.size, 0, none⟩) q q] 58)) w1.heap.size w.heap.size 0 q []) :=
    ring_box _ hown (by decide) rfl HQ.out (Nat.zero_le _) (fun j hj => absurd hj (Nat.not_lt_zero _))
  have HB2 : Hid (Below w.heap.size w (w1.alloc (.cells #[(.int .u64 0 : Value), .slice (some ⟨w.heap.size, 0, none⟩) q q] 58))) := HB1.out.alloc HB1.out.size _
  have HL := Lib.hid (lay_ring HR1.out _ xs ((HV.out.more (R := ringS w1.heap.size w.heap.size) (fun k hk => .inr (by have := HB1.out.size; rcases hk with hk | hk <;> omega))).on HB2.out) HV.out.len)
  clear hown hgrow hi hz0 hz1 hz2
  go_wp2_with (go_at_call 19; (with_reducible refine HL.out.mono ?_); rintro e w2 ⟨rfl, h2, h3⟩)
  go_ret2
  obtain ⟨x', hr'⟩ := h2.out
  rw [new_row] at hr'
  refine ⟨_, _, rfl, ⟨_, x', rfl, hr'⟩, fun k hk => ?_, HB2.out.trans (h3.out.below HB2.out.size (fun k hk => ?_))⟩
  · have := HB1.out.size
    rcases hk with hk | hk <;> omega
  · have := HB1.out.size
    rcases hk with hk | hk <;> omega
/-- a ring's slots, whatever stands there -/
theorem RingAt.zs {w : World} {db g x q : Nat} {xs : List Int} (r : RingAt w db g x q xs) : ∀ n, n ≤ q → ∃ zs : List Int, zs.length = n ∧ ∀ j, j < n → w.cell? ⟨g, j, none⟩ = some (.int .i64 (zs.getD j 0)) := by
  intro n
  induction n with
  | zero => exact fun _ => ⟨[], rfl, fun j hj => absurd hj (Nat.not_lt_zero _)⟩
  | succ n ih =>
    intro hn
    obtain ⟨zs, h1, h2⟩ := ih (by omega)
    obtain ⟨z, hz, _⟩ := r.all n (by omega)
    refine ⟨zs ++ [z], by simp [h1], fun j hj => ?_⟩
    by_cases e : j = n
    · subst e
      rw [hz, ← h1]
      simp [List.getD]
    · rw [h2 j (by omega)]
      simp [List.getD, List.getElem?_append_left (show j < zs.length by omega)]
/-- they as a slice -/
theorem RingAt.slots {w : World} {db g x q c : Nat} {xs : List Int} (r : RingAt w db g x q xs) (hc : q ≤ c) (hm : c ≤ maxLen) : ∃ zs : List Int, zs.length = q ∧ SlIs (fun _ => False) w (.slice (some ⟨g, 0, none⟩) q c) zs ∧ ∀ j, j < xs.length → zs.getD ((hd x + j) % 4294967296 % q) 0 = xs.getD j 0 := by
  obtain ⟨zs, h1, h2⟩ := r.zs q (Nat.le_refl _)
  have hq := room_bd r.rm
  refine ⟨zs, h1, ⟨_, c, by rw [h1], by omega, hm, (fun e => by cases e), ⟨by omega, fun j hj => ⟨g, 0, rfl, id, by rw [Nat.zero_add]; exact h2 j (by omega)⟩⟩⟩, fun j hj => ?_⟩
  have e := r.cells j hj
  rw [h2 _ (Nat.mod_lt _ (by omega))] at e
  injection e with e
  injection e with _ e
theorem row_empty (w : World) : NewRow w.heap.size (w.alloc (.cells #[] 3)) (.slice (some ⟨w.heap.size, 0, none⟩) 0 0) [] :=
  ⟨rfl, .inr ⟨_, 0, #[], rfl, Nat.le_refl _, World.alloc_heap_new _ _, Nat.le_refl _, Nat.zero_le _, rfl, rfl⟩⟩
set_option maxHeartbeats 1000000 in
theorem clone_any {w : World} {g q c : Nat} {zs : List Int} (h : SlIs (fun _ => False) w (.slice (some ⟨g, 0, none⟩) q c) zs) (hl : zs.length ≤ 65536) : Calls Try.prog 31 #[.slice (some ⟨g, 0, none⟩) q c] w (RowPost8 zs w) := by
  have HS : Hid (∀ w', Below w.heap.size w w' → SlIs (fun _ => False) w' (.slice (some ⟨g, 0, none⟩) q c) zs) := fun w' hb => h.on hb
  have HL := Lib.hid hl
  have hnl := fun w : World => Lib.run_eql_slice_nil w 22 3 (some ⟨g, 0, none⟩) q c 0 0 Try.underlying22
  clear h hl
  go_enter Try.func31, Try.ntmps31
  go_wp2_with (at_builtin; refine append_new (B := w.heap.size) _ rfl (.tmp 5) (.tmp 6) (by rfl) (.slice (some ⟨g, 0, none⟩) q c) (.slice (some ⟨w.heap.size, 0, none⟩) 0 0) [] zs (by kernel_rfl) (row_empty w) (by kernel_rfl) (HS.out _ ((Below.refl _ _).alloc (Nat.le_refl _) _)) (by have := HL.out; simp; omega) (by simp) ?_; intro v2 w2 hn2 hg2; have HF : Hid (RowPost8 zs w (.returned v2) w2) := NewRow.post hn2.begun (new_below (row_empty w) ((Below.refl _ _).alloc (Nat.le_refl _) _) (by simp) hg2); clear hn2 hg2)
  go_ret
  exact HF.out
set_option maxRecDepth 20000 in
set_option maxHeartbeats 2000000 in
theorem copy_ring {w : World} {db g x q : Nat} {xs : List Int} (r : RingAt w db g x q xs) : Calls Try.prog 12 #[dptr db] w (MadePost DqIs q xs (fun p => p) w) := by
  obtain ⟨c, c1, hcq, hcm⟩ := r.c1
  obtain ⟨zs, hz, hS, hcs⟩ := r.slots hcq hcm
  have hq := room_bd r.rm
  have c0 := r.c0
  have HR := Lib.hid r
  have HSl := Lib.hid hS
  have HZ : Hid (zs.length = q ∧ q ≤ 65536 ∧ 2 ≤ q) := ⟨hz, by omega, by omega⟩
  have HCs := Lib.hid hcs
  have HC : Hid (∀ w2, Below w.heap.size w w2 → Calls Try.prog 31 #[.slice (some ⟨g, 0, none⟩) q c] w2 (fun e w' => ∃ g2 c2, e = .returned (.slice (some ⟨g2, 0, none⟩) q c2) ∧ Hid (w'.ownsRow w.heap.size 3 1 (.slice (some ⟨g2, 0, none⟩) q c2) q (zs.map (Value.int .i64))) ∧ Hid (Below w.heap.size w w') ∧ w'.cell? ⟨db, 0, none⟩ = some (.int .u64 x) ∧ w'.cell? ⟨db, 1, none⟩ = some (.slice (some ⟨g, 0, none⟩) q c))) := fun w2 hb => by
    refine (clone_any (HSl.out.on hb) (by have := HZ.out; omega)).mono ?_
    rintro e w' ⟨p, n, c2, rfl, hn, hO, hb2⟩
    have hb3 : Below w.heap.size w w' := hb.trans (hb2.mono hb.size)
    have h1 := hO.base hb.size
    obtain ⟨g2, rfl, _, hn2, _⟩ : ∃ g2, p = some ⟨g2, 0, none⟩ ∧ w.heap.size ≤ g2 ∧ n = zs.length ∧ True := by
      rcases h1.2 with ⟨hv, h0⟩ | ⟨g', cap, cur, hv, hB, hg, rr⟩
      · have := HZ.out; omega
      · cases hv
        exact ⟨g', rfl, hB, rfl, trivial⟩
    have hnq : n = q := by have := HZ.out; omega
    subst hnq
    unfold NewRow at h1
    rw [HZ.out.1] at h1
    exact ⟨g2, c2, rfl, h1, hb3, by rw [hb3.cell (p := ⟨db, 0, none⟩) HR.out.lt.1]; exact HR.out.c0, by rw [hb3.cell (p := ⟨db, 1, none⟩) HR.out.lt.1]; exact c1⟩
  have hmx : Try.prog.follows .mixedOrders = true := by kernel_rfl
  clear r hS hz hcs hcq hcm hq
  go_enter Try.func12, Try.ntmps12
  go_wp2_with fail
  go_region_with (first
    | (go_at_call 31; refine (HC.out _ (by first | exact Below.refl _ _ | exact (Below.refl _ _).drew)).mono ?_; rintro e w2 ⟨g2, c2, rfl, HO, HB, d0, d1⟩))
  all_goals
    have hr2 := Lib.hid (ring_box 58 HO.out HR.out.hx HR.out.hl HR.out.rm HR.out.le HCs.out)
    have hg2 : Hid (w.heap.size ≤ g2) := by
      rcases HO.out.2 with ⟨hv, h0⟩ | ⟨g', cap, cur, hv, hB, hg, rr⟩
      · cases hv
      · cases hv; exact hB
    clear d0 d1 c0 c1
    go_wp2
    go_ret
    exact ⟨_, _, rfl, ⟨g2, x, rfl, hr2.out⟩, fun k hk => (by have := HB.out.size; have := hg2.out; rcases hk with hk | hk <;> omega), HB.out.alloc HB.out.size _⟩
theorem copy_none (w : World) : Calls Try.prog 12 #[.pointer none] w (Ans (.pointer none) w) := by
  go_enter Try.func12, Try.ntmps12
  go_wp2_with fail
  go_ret
  exact ⟨rfl, Below.refl _ _⟩
end Go.Proofs.Ytjdbmedealhbjaa
