/- could, again, Redo of a memory (layer 6). -/
import Derived.Test.YtnakaifnalojeaaNe
namespace Go.Proofs.Ytnakaifnalojeaa
open Go.RowKit Go.Ce

/-- could an access be done again? -/
def Could (m : PM) (x : Acc) : Prop := 1 ≤ x.k ∧ x.k ≤ 4 ∧ m.Has x.a ∧ m.at x.a = x.o ∧ (x.k = 1 → x.n = x.o)
instance (m : PM) (x : Acc) : Decidable (Could m x) := by unfold Could; infer_instance
theorem could_stuck {m : PM} {N : Nat} {xs : List Acc} (h : Tied m N xs) (x : Acc) : Could m x ↔ ¬ Stuck N xs x := by
  unfold Could Stuck Bad
  rw [h.has]
  by_cases ha : 0 ≤ x.a ∧ x.a < N
  · rw [h.at ha]; omega
  · omega

set_option maxHeartbeats 1000000 in
theorem could_any {b g : Nat} {m : PM} (k a o n : Int) (w : World) (h : MemIs w b g m) : Calls Try.prog 46 #[.pointer (some ⟨b, 0, none⟩), .agg #[.int .i64 k, .int .i64 a, .int .u64 o, .int .u64 n]] w (Ans (.bool (decide (Could m ⟨k, a, o, n⟩))) w) := by
  have HM := Lib.hid h
  have hlt := h.lt
  clear h
  have hbe := (Below.refl w.heap.size w).alloc (Nat.le_refl _) (.cells #[.int .i64 k, .int .i64 a, .int .u64 o, .int .u64 n] 38)
  have hre := Row.new w 38 [.int .i64 k, .int .i64 a, .int .u64 o, .int .u64 n]
  by_cases h1 : k < 1
  · have HF : Hid (decide (Could m ⟨k, a, o, n⟩) = false) := decide_eq_false (fun hc => by have := hc.1; simp only at this; omega)
    have HB := Lib.hid hbe
    clear hbe hre
    go_enter Try.func46, Try.ntmps46
    go_wp2
    go_ret
    exact ⟨by rw [HF.out]; rfl, HB.out⟩
  by_cases h2 : 4 < k
  · have HF : Hid (decide (Could m ⟨k, a, o, n⟩) = false) := decide_eq_false (fun hc => by have := hc.2.1; simp only at this; omega)
    have HB := Lib.hid hbe
    have z1 : decide (k < 1) = false := decide_eq_false h1
    clear hbe hre
    go_enter Try.func46, Try.ntmps46
    go_wp2
    go_ret
    exact ⟨by rw [HF.out]; rfl, HB.out⟩
  have z1 : decide (k < 1) = false := decide_eq_false h1
  have z2 : decide (4 < k) = false := decide_eq_false h2
  have hhas := has_any (HM.out.on hbe) a
  by_cases ha : m.Has a
  · rw [decide_eq_true ha] at hhas
    obtain ⟨i, rfl⟩ : ∃ i : Nat, a = i := ⟨a.toNat, by have := ha.1; omega⟩
    have hi : i < m.cs.length := by have := ha.2; omega
    have hi' : (i : Int) < (m.cs.length : Int) := by omega
    obtain ⟨old, hold⟩ : ∃ x, m.at (i : Int) = x := ⟨_, rfl⟩
    have HOld := Lib.hid hold
    have HA := Lib.hid ha
    have HRe := Lib.hid hre
    have HBe := Lib.hid hbe
    have H1 := Lib.hid (And.intro h1 h2)
    clear hbe hre ha hold h1 h2
    go_enter Try.func46, Try.ntmps46
    go_wp2_with fail
    refine hhas.mono ?_
    rintro e w1 ⟨rfl, hb1⟩
    have hr1 := HRe.out.on' hb1
    have d0 := hr1.cell 0
    have d1 := hr1.cell 1
    have d2 := hr1.cell 2
    have d3 := hr1.cell 3
    simp only [List.getElem?_cons_zero, List.getElem?_cons_succ] at d0 d1 d2 d3
    have HB1 := Lib.hid (HBe.out.trans (hb1.mono HBe.out.size))
    have hm1 := HM.out.on HB1.out
    obtain ⟨c, hr, hc, hc2⟩ := hm1.blk
    obtain ⟨rest, hg⟩ := hm1.cel
    have c5 : w1.cell? ⟨b, 5, none⟩ = some (.slice (some ⟨g, 0, none⟩) m.cs.length c) := hr.cell 5
    have g0 : w1.cell? ⟨g, i, none⟩ = some (.int .u64 old) := by
      obtain ⟨b', o', e, hcell⟩ := hm1.lies.cells i hi
      cases e
      rw [Nat.zero_add] at hcell
      rw [hcell]
      have := HOld.out
      unfold PM.at at this
      rw [Int.toNat_natCast] at this
      rw [this]
    have hsz := hb1.size
    have hsz2 : w.heap.size < w1.heap.size := by simp at hsz; omega
    have hbl : b < w1.heap.size := by omega
    have hgl : g < w1.heap.size := by omega
    clear hr hg hm1 hb1 hr1 hc hc2 hhas hsz
    by_cases hk1 : k = 1
    · subst hk1
      go_wp2_with fail
      go_region
      have HB2 : Hid (∀ o', Below w.heap.size w (w1.alloc o').drew) := fun o' => (HB1.out.alloc HB1.out.size o').drew
      by_cases ho : o = old
      · by_cases hn : n = old
        · have HF : Hid (decide (Could m ⟨1, i, o, n⟩) = true) := decide_eq_true ⟨by simp, by simp, HA.out, by rw [HOld.out, ho], fun _ => by rw [ho, hn]⟩
          go_wp2
          go_ret
          exact ⟨by rw [HF.out]; rfl, HB2.out _⟩
        · have HF : Hid (decide (Could m ⟨1, i, o, n⟩) = false) := decide_eq_false (fun hc => hn ((hc.2.2.2.2 rfl).trans ho))
          go_wp2
          go_ret
          exact ⟨by rw [HF.out]; rfl, HB2.out _⟩
      · have HF : Hid (decide (Could m ⟨1, i, o, n⟩) = false) := decide_eq_false (fun hc => ho (hc.2.2.2.1.symm.trans HOld.out))
        go_wp2
        go_ret
        exact ⟨by rw [HF.out]; rfl, HB2.out _⟩
    · have z3 : (k == 1) = false := by simpa using hk1
      have z4 : decide (k = 1) = false := decide_eq_false hk1
      have HK1 := Lib.hid hk1
      clear hk1
      go_wp2_with fail
      go_region
      have HB2 : Hid (∀ o', Below w.heap.size w (w1.alloc o').drew) := fun o' => (HB1.out.alloc HB1.out.size o').drew
      by_cases ho : o = old
      · have HF : Hid (decide (Could m ⟨k, i, o, n⟩) = true) := decide_eq_true ⟨by have := H1.out; show 1 ≤ k; omega, by have := H1.out; show k ≤ 4; omega, HA.out, by rw [HOld.out, ho], fun e => absurd e HK1.out⟩
        go_wp2
        go_ret
        exact ⟨by rw [HF.out]; rfl, HB2.out _⟩
      · have HF : Hid (decide (Could m ⟨k, i, o, n⟩) = false) := decide_eq_false (fun hc => ho (hc.2.2.2.1.symm.trans HOld.out))
        go_wp2
        go_ret
        exact ⟨by rw [HF.out]; rfl, HB2.out _⟩
  · rw [decide_eq_false ha] at hhas
    have HF : Hid (decide (Could m ⟨k, a, o, n⟩) = false) := decide_eq_false (fun hc => ha hc.2.2.1)
    have HB := Lib.hid hbe
    clear hbe hre ha h1 h2
    go_enter Try.func46, Try.ntmps46
    go_wp2_with fail
    refine hhas.mono ?_
    rintro e w1 ⟨rfl, hb1⟩
    have HB1 := Lib.hid (HB.out.trans (hb1.mono HB.out.size))
    clear hb1
    go_wp2
    go_ret
    exact ⟨by rw [HF.out]; rfl, HB1.out⟩
end Go.Proofs.Ytnakaifnalojeaa
