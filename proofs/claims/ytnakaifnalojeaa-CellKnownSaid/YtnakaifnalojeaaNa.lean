/- A memory as it lies (the code's, layer 6); what is asked of it: row, Len, has, ops, Ops, Count, Last. -/
import Derived.Test.YtnakaifnalojeaaMa
import Derived.Test.YtnakaifnalojeaaMq
import Derived.Deep.QuietTactic
import Derived.Deep.WholeRow
namespace Go.Proofs.Ytnakaifnalojeaa
open Go.RowKit Go.Ce

/-- the memory's cells -/
def memV (k : Cnt) (g n c : Nat) (L : List Acc) : List Value :=
  .int .u64 k.l :: .int .u64 k.s :: .int .u64 k.w :: .int .u64 k.f :: .int .u64 k.a :: .slice (some ⟨g, 0, none⟩) n c :: L.flatMap accC
/-- a memory at b, its cells at g -/
structure MemIs (w : World) (b g : Nat) (m : PM) : Prop where
  blk : ∃ c, Row b 71 (memV m.k g m.cs.length c m.L) w ∧ m.cs.length ≤ c ∧ c ≤ maxLen
  cel : ∃ rest, Row g 34 (m.cs.map (Value.int .u64) ++ rest) w
  ne : b ≠ g
  ll : m.L.length = 256
  few : m.k.ops ≤ 1000000000000
  short : m.cs.length ≤ 65536
theorem MemIs.lt {w : World} {b g : Nat} {m : PM} (h : MemIs w b g m) : b < w.heap.size ∧ g < w.heap.size := by
  obtain ⟨c, hr, _⟩ := h.blk
  obtain ⟨r, hg⟩ := h.cel
  exact ⟨hr.lt, hg.lt⟩
theorem MemIs.tch {S : Nat → Prop} {w w' : World} {b g : Nat} {m : PM} (h : MemIs w b g m) (ht : Tch S w w') (hb : ¬ S b) (hg : ¬ S g) : MemIs w' b g m := by
  obtain ⟨c, hr, hc⟩ := h.blk
  obtain ⟨r, hr2⟩ := h.cel
  exact ⟨⟨c, hr.tch ht hb, hc⟩, ⟨r, hr2.tch ht hg⟩, h.ne, h.ll, h.few, h.short⟩
theorem MemIs.on {w w' : World} {b g : Nat} {m : PM} (h : MemIs w b g m) (hb : Below w.heap.size w w') : MemIs w' b g m := h.tch (S := fun _ => False) (.of _ hb) id id

theorem row_any {b g : Nat} {m : PM} {w : World} (h : MemIs w b g m) : ∃ c, m.cs.length ≤ c ∧ c ≤ maxLen ∧ Calls Try.prog 31 #[.pointer (some ⟨b, 0, none⟩)] w (Ans (.slice (some ⟨g, 0, none⟩) m.cs.length c) w) := by
  obtain ⟨c, hr, hc, hc2⟩ := h.blk
  refine ⟨c, hc, hc2, ?_⟩
  have c5 : w.cell? ⟨b, 5, none⟩ = some (.slice (some ⟨g, 0, none⟩) m.cs.length c) := hr.cell 5
  clear h hr
  go_enter Try.func31, Try.ntmps31
  go_wp2
  go_ret
  exact ⟨rfl, .refl _ _⟩
theorem row_nil (w : World) : Calls Try.prog 31 #[.pointer none] w (Ans (.slice none 0 0) w) := by
  go_enter Try.func31, Try.ntmps31
  go_wp2
  go_ret
  exact ⟨rfl, .refl _ _⟩
theorem len_any {b g : Nat} {m : PM} {w : World} (h : MemIs w b g m) : Calls Try.prog 10 #[.pointer (some ⟨b, 0, none⟩)] w (Ans (.int .i64 m.cs.length) w) := by
  obtain ⟨c, hc, hc2, hrow⟩ := row_any h
  clear h
  go_enter Try.func10, Try.ntmps10
  go_wp2_with fail
  refine hrow.mono ?_
  rintro e w1 ⟨rfl, hb⟩
  go_wp2
  go_ret
  exact ⟨rfl, hb⟩
theorem len_nil (w : World) : Calls Try.prog 10 #[.pointer none] w (Ans (.int .i64 0) w) := by
  go_enter Try.func10, Try.ntmps10
  go_wp2_with fail
  refine (row_nil _).mono ?_
  rintro e w1 ⟨rfl, hb⟩
  go_wp2
  go_ret
  exact ⟨rfl, hb⟩
theorem has_any {b g : Nat} {m : PM} {w : World} (h : MemIs w b g m) (a : Int) : Calls Try.prog 57 #[.pointer (some ⟨b, 0, none⟩), .int .i64 a] w (Ans (.bool (decide (m.Has a))) w) := by
  by_cases h0 : 0 ≤ a
  · have e : decide (m.Has a) = decide (a < (m.cs.length : Int)) := by unfold PM.Has; simp [h0]
    rw [e]
    have hl := len_any h
    clear h e
    go_enter Try.func57, Try.ntmps57
    go_wp2_with fail
    refine hl.mono ?_
    rintro e w1 ⟨rfl, hb⟩
    go_wp2
    go_ret
    exact ⟨rfl, hb⟩
  · have e : decide (m.Has a) = false := by unfold PM.Has; simp [h0]
    rw [e]
    clear h e
    have h0' : a < 0 := by omega
    have h0'' : decide (0 ≤ a) = false := decide_eq_false h0
    clear h0
    go_enter Try.func57, Try.ntmps57
    go_wp2
    go_ret
    exact ⟨rfl, .refl _ _⟩
theorem has_nil (w : World) (a : Int) : Calls Try.prog 57 #[.pointer none, .int .i64 a] w (Ans (.bool false) w) := by
  by_cases h0 : 0 ≤ a
  · have h1 : ¬ a < 0 := by omega
    have h2 : decide (a < 0) = false := decide_eq_false h1
    go_enter Try.func57, Try.ntmps57
    go_wp2_with fail
    refine (len_nil _).mono ?_
    rintro e w1 ⟨rfl, hb⟩
    go_wp2
    go_ret
    exact ⟨rfl, hb⟩
  · have h0' : a < 0 := by omega
    clear h0
    go_enter Try.func57, Try.ntmps57
    go_wp2
    go_ret
    exact ⟨rfl, .refl _ _⟩
theorem cops_any {b g n c : Nat} {k : Cnt} {L : List Acc} {w : World} (hr : Row b 71 (memV k g n c L) w) (hf : k.ops ≤ 1000000000000) : Calls Try.prog 53 #[.pointer (some ⟨b, 0, none⟩)] w (Ans (.int .u64 k.ops) w) := by
  have c0 : w.cell? ⟨b, 0, none⟩ = some (.int .u64 k.l) := hr.cell 0
  have c1 : w.cell? ⟨b, 1, none⟩ = some (.int .u64 k.s) := hr.cell 1
  have c2 : w.cell? ⟨b, 2, none⟩ = some (.int .u64 k.w) := hr.cell 2
  have c3 : w.cell? ⟨b, 3, none⟩ = some (.int .u64 k.f) := hr.cell 3
  have c4 : w.cell? ⟨b, 4, none⟩ = some (.int .u64 k.a) := hr.cell 4
  clear hr
  obtain ⟨k0, k1, k2, k3, k4⟩ := k
  simp only [Cnt.ops] at hf ⊢ c0 c1 c2 c3 c4
  have hw1 : IntKind.u64.wrap ((k0 : Int) + k1) = (k0 : Int) + k1 := IntWalk.u64_in _ (by omega)
  have hw2 : IntKind.u64.wrap ((k0 : Int) + k1 + k2) = (k0 : Int) + k1 + k2 := IntWalk.u64_in _ (by omega)
  have hw3 : IntKind.u64.wrap ((k0 : Int) + k1 + k2 + k3) = (k0 : Int) + k1 + k2 + k3 := IntWalk.u64_in _ (by omega)
  have hw4 : IntKind.u64.wrap ((k0 : Int) + k1 + k2 + k3 + k4) = (k0 : Int) + k1 + k2 + k3 + k4 := IntWalk.u64_in _ (by omega)
  have he : ((k0 + k1 + k2 + k3 + k4 : Nat) : Int) = (k0 : Int) + k1 + k2 + k3 + k4 := by omega
  rw [he]
  clear he
  clear hf
  go_enter Try.func53, Try.ntmps53
  go_wp2_with fail
  go_quiet (fail)
  go_wp2
  go_ret
  exact ⟨rfl, below_drewN (.refl _ _) nq⟩
theorem ops_any {b g : Nat} {m : PM} {w : World} (h : MemIs w b g m) : Calls Try.prog 29 #[.pointer (some ⟨b, 0, none⟩)] w (Ans (.int .u64 m.k.ops) w) := by
  obtain ⟨c, hr, hc, hc2⟩ := h.blk
  have hops := cops_any hr h.few
  clear h hr
  go_enter Try.func29, Try.ntmps29
  go_wp2_with fail
  refine hops.mono ?_
  rintro e w1 ⟨rfl, hb⟩
  go_wp2
  go_ret
  exact ⟨rfl, hb⟩
theorem ops_nil (w : World) : Calls Try.prog 29 #[.pointer none] w (Ans (.int .u64 0) w) := by
  go_enter Try.func29, Try.ntmps29
  go_wp2
  go_ret
  exact ⟨rfl, .refl _ _⟩
theorem count_any {b g : Nat} {m : PM} {w : World} (h : MemIs w b g m) : Calls Try.prog 18 #[.pointer (some ⟨b, 0, none⟩)] w (Ans (.agg #[.int .u64 m.k.l, .int .u64 m.k.s, .int .u64 m.k.w, .int .u64 m.k.f, .int .u64 m.k.a]) w) := by
  have hlt := h.lt.1
  obtain ⟨c, hr, hc, hc2⟩ := h.blk
  have c0 : w.cell? ⟨b, 0, none⟩ = some (.int .u64 m.k.l) := hr.cell 0
  have c1 : w.cell? ⟨b, 1, none⟩ = some (.int .u64 m.k.s) := hr.cell 1
  have c2 : w.cell? ⟨b, 2, none⟩ = some (.int .u64 m.k.w) := hr.cell 2
  have c3 : w.cell? ⟨b, 3, none⟩ = some (.int .u64 m.k.f) := hr.cell 3
  have c4 : w.cell? ⟨b, 4, none⟩ = some (.int .u64 m.k.a) := hr.cell 4
  clear h hr
  go_enter Try.func18, Try.ntmps18
  go_wp2
  exact bodyPost_ret (v := .agg #[.int .u64 m.k.l, .int .u64 m.k.s, .int .u64 m.k.w, .int .u64 m.k.f, .int .u64 m.k.a]) (by simp [results, Try.results18, go_sem, *]) rfl ⟨rfl, (Below.refl _ _).alloc (Nat.le_refl _) _⟩
theorem count_nil (w : World) : Calls Try.prog 18 #[.pointer none] w (Ans (.agg #[.int .u64 0, .int .u64 0, .int .u64 0, .int .u64 0, .int .u64 0]) w) := by
  go_enter Try.func18, Try.ntmps18
  go_wp2
  exact bodyPost_ret (v := .agg #[.int .u64 0, .int .u64 0, .int .u64 0, .int .u64 0, .int .u64 0]) (by simp [results, Try.results18, go_sem, *]) rfl ⟨rfl, (Below.refl _ _).alloc (Nat.le_refl _) _⟩
/-- a place of the ring -/
theorem mem_log {k : Cnt} {g n c : Nat} {L : List Acc} (i j : Nat) (hi : i < L.length) (hj : j < 4) : (memV k g n c L)[6 + i * 4 + j]? = (accC (L.getD i default))[j]? := by
  have e : (memV k g n c L)[6 + i * 4 + j]? = (L.flatMap accC)[i * 4 + j]? := by
    rw [show 6 + i * 4 + j = (i * 4 + j) + 1 + 1 + 1 + 1 + 1 + 1 by omega]; rfl
  rw [e, accs_at L i j hi hj]
theorem last_none {b g : Nat} {m : PM} {w : World} (h : MemIs w b g m) (h0 : m.k.ops = 0) : Calls Try.prog 14 #[.pointer (some ⟨b, 0, none⟩)] w (Ans (.tuple #[.agg #[.int .i64 0, .int .i64 0, .int .u64 0, .int .u64 0], .bool false]) w) := by
  have hops := ops_any (h.on ((Below.refl _ _).alloc (Nat.le_refl _) (.cells #[.int .i64 0, .int .i64 0, .int .u64 0, .int .u64 0] 38)))
  have hlt := h.lt.1
  rw [h0] at hops
  clear h h0
  go_enter Try.func14, Try.ntmps14
  go_wp2_with fail
  refine hops.mono ?_
  rintro e w1 ⟨rfl, hb⟩
  have hr := (Row.new w 38 [.int .i64 0, .int .i64 0, .int .u64 0, .int .u64 0]).on' hb
  have d0 := hr.cell 0
  have d1 := hr.cell 1
  have d2 := hr.cell 2
  have d3 := hr.cell 3
  have f0 := hr.frozen 0
  have f1 := hr.frozen 1
  have f2 := hr.frozen 2
  have f3 := hr.frozen 3
  simp only [List.getElem?_cons_zero, List.getElem?_cons_succ] at d0 d1 d2 d3
  have HB := Lib.hid hb
  clear hb hr
  go_wp2
  refine bodyPost_ret (v := .tuple #[.agg #[.int .i64 0, .int .i64 0, .int .u64 0, .int .u64 0], .bool false]) (by simp [results, Try.results14, go_sem, *]) rfl ⟨rfl, ?_⟩
  exact (((((((Below.refl _ _).alloc (Nat.le_refl _) _).trans (HB.out.mono (by simp))).setCell (Nat.le_refl _) _).setCell (Nat.le_refl _) _).setCell (Nat.le_refl _) _).setCell (Nat.le_refl _) _)
set_option maxHeartbeats 400000 in
theorem last_some {b g : Nat} {m : PM} {x : Acc} {w : World} (h : MemIs w b g m) (h0 : 0 < m.k.ops) (hx : m.L.getD ((m.k.ops - 1) % 256) default = x) : Calls Try.prog 14 #[.pointer (some ⟨b, 0, none⟩)] w (Ans (.tuple #[accG x, .bool true]) w) := by
  have hm := h.on ((Below.refl _ _).alloc (Nat.le_refl _) (.cells #[.int .i64 0, .int .i64 0, .int .u64 0, .int .u64 0] 38))
  have hops := ops_any hm
  have hlt := h.lt.1
  have hll := h.ll
  have hfew := h.few
  obtain ⟨c, hr, hc, hc2⟩ := hm.blk
  have hrow := Row.new w 38 [.int .i64 0, .int .i64 0, .int .u64 0, .int .u64 0]
  obtain ⟨k, hk⟩ : ∃ k, m.k.ops = k := ⟨_, rfl⟩
  rw [hk] at hops h0 hx hfew
  obtain ⟨q, hq⟩ : ∃ q, (k - 1) % 256 = q := ⟨_, rfl⟩
  rw [hq] at hx
  have hq2 : q < 256 := by omega
  have m0 := mem_log (k := m.k) (g := g) (n := m.cs.length) (c := c) (L := m.L) q 0 (by omega) (by decide)
  have m1 := mem_log (k := m.k) (g := g) (n := m.cs.length) (c := c) (L := m.L) q 1 (by omega) (by decide)
  have m2 := mem_log (k := m.k) (g := g) (n := m.cs.length) (c := c) (L := m.L) q 2 (by omega) (by decide)
  have m3 := mem_log (k := m.k) (g := g) (n := m.cs.length) (c := c) (L := m.L) q 3 (by omega) (by decide)
  rw [hx] at m0 m1 m2 m3
  rw [← hr.cell] at m0 m1 m2 m3
  simp only [accC, List.getElem?_cons_zero, List.getElem?_cons_succ] at m0 m1 m2 m3
  have z1 : IntKind.u64.wrap ((k : Int) - 1) = ((k - 1 : Nat) : Int) := by rw [IntWalk.u64_in _ (by omega)]; omega
  have z2 : ((k - 1 : Nat) : Int).tmod 256 = (q : Int) := by rw [IntWalk.rem_in _ _ (by omega)]; omega
  have z3 : ((k : Int) == 0) = false := by simp; omega
  have z4 : ¬ ((k : Int) = 0) := by omega
  have z5 : (q : Int) < 256 := by omega
  have HQ := Lib.hid hq
  have HK := Lib.hid hk
  have H0 := Lib.hid h0
  simp only [Nat.add_zero] at m0 m1 m2 m3
  clear h hm hq hk h0 hx hll hfew
  go_enter Try.func14, Try.ntmps14
  go_wp2_with fail
  refine hops.mono ?_
  rintro e w1 ⟨rfl, hb⟩
  have hr2 := hrow.on' hb
  have d0 := hr2.cell 0
  have d1 := hr2.cell 1
  have d2 := hr2.cell 2
  have d3 := hr2.cell 3
  have f0 := hr2.frozen 0
  have f1 := hr2.frozen 1
  have f2 := hr2.frozen 2
  have f3 := hr2.frozen 3
  simp only [List.getElem?_cons_zero, List.getElem?_cons_succ] at d0 d1 d2 d3
  rw [← hb.cell (block_lt_of_cell m0)] at m0
  rw [← hb.cell (block_lt_of_cell m1)] at m1
  rw [← hb.cell (block_lt_of_cell m2)] at m2
  rw [← hb.cell (block_lt_of_cell m3)] at m3
  have HB := Lib.hid hb
  clear hb hr hrow hr2
  go_wp2
  refine bodyPost_ret (v := .tuple #[.agg #[.int .i64 x.k, .int .i64 x.a, .int .u64 x.o, .int .u64 x.n], .bool true]) (by simp [results, Try.results14, go_sem, *]) rfl ⟨rfl, ?_⟩
  exact (((((((Below.refl _ _).alloc (Nat.le_refl _) _).trans (HB.out.mono (by simp))).setCell (Nat.le_refl _) _).setCell (Nat.le_refl _) _).setCell (Nat.le_refl _) _).setCell (Nat.le_refl _) _)
end Go.Proofs.Ytnakaifnalojeaa
