/- The kit's SameInts, and the law's row (layer 8), walked. -/
import Derived.Test.YtjdbmedealhbjaaDq
import Derived.WalkSpells
import Derived.WalkLawsBesides
import Derived.Deep.RegionHeld3
import Derived.BigQuiet
import Derived.Deep.QuietTactic
import Derived.LoopTactic
import Derived.Lib.QuietBelow
namespace Go.Proofs.Ytjdbmedealhbjaa
open Go.RowKit Go.Wd Go.Dk

theorem take_eq {xs ys : List Int} {k : Nat} (h : xs.take k = ys.take k) (h1 : k < xs.length) (h2 : k < ys.length) (he : xs.getD k 0 = ys.getD k 0) : xs.take (k + 1) = ys.take (k + 1) := by
  rw [take_more xs k h1, take_more ys k h2, h, he]
theorem getD_ne {xs ys : List Int} {k : Nat} (he : xs.getD k 0 ≠ ys.getD k 0) : xs ≠ ys := fun h => he (by rw [h])
/-- are two rows the same? -/
def sameB (xs ys : List Int) : Bool := decide (xs = ys)
theorem ans_bool {a b : Bool} {w w' : World} (h : a = b) (hb : Below w.heap.size w w') : Ans (.bool b) w (.returned (.bool a)) w' := ⟨by rw [h], hb⟩
set_option maxHeartbeats 1000000 in
theorem sameints_gen {S R : Nat → Prop} (xs ys : List Int) (u v : Value) (w : World) (h1 : SlIs S w u xs) (h2 : SlIs R w v ys) :
    Calls Try.prog 16 #[u, v] w (Ans (.bool (sameB xs ys)) w) := by
  obtain ⟨p1, c1, rfl, a1, a2, a3, g1⟩ := h1
  obtain ⟨p2, c2, rfl, b1, b2, b3, g2⟩ := h2
  have l1 := g1.len
  have l2 := g2.len
  have H1 := Lib.hid g1.lies.at
  have H2 := Lib.hid g2.lies.at
  clear g1 g2 a1 a2 a3 b1 b2 b3
  by_cases hl : xs.length = ys.length
  · have HL := Lib.hid hl
    rw [← hl]
    clear l2
    obtain ⟨n, hn⟩ : ∃ n, xs.length = n := ⟨_, rfl⟩
    have HN := Lib.hid hn
    rw [hn] at l1 ⊢
    clear hn hl
    go_enter Try.func16, Try.ntmps16
    go_wp2_with fail
    go_loopw [5] (fun vi wr => ∃ k : Nat, k ≤ n ∧ vi = .int .i64 k ∧ Hid (xs.take k = ys.take k) ∧ Hid (Below w.heap.size w wr)) (fun vi _ => n - (intOf vi).toNat)
    case atStart => exact ⟨0, by omega, rfl, Lib.hid rfl, Below.refl _ _⟩
    case round =>
      obtain ⟨k, hk, rfl, HT, HB⟩ := hrel
      by_cases hlt : k < n
      · obtain ⟨q1, o1, rfl, q1', cc1⟩ := (H1.out.on HB.out).cells k (by rw [HN.out]; exact hlt)
        obtain ⟨q2, o2, rfl, q2', cc2⟩ := (H2.out.on HB.out).cells k (by rw [← HL.out, HN.out]; exact hlt)
        obtain ⟨x, hx⟩ : ∃ x, xs.getD k 0 = x := ⟨_, rfl⟩
        obtain ⟨y, hy⟩ : ∃ y, ys.getD k 0 = y := ⟨_, rfl⟩
        have HX := Lib.hid hx
        have HY := Lib.hid hy
        rw [hx] at cc1
        rw [hy] at cc2
        clear hx hy
        by_cases hxy : x = y
        · subst hxy
          go_wp2_with fail
          go_quiet (fail)
          go_wp2_with fail
          go_roundw
          case rel => exact ⟨k + 1, by omega, by go_num, take_eq HT.out (by rw [HN.out]; exact hlt) (by rw [← HL.out, HN.out]; exact hlt) (by rw [HX.out, HY.out]), below_drewN HB.out _⟩
          case measure =>
            show _ < _
            simp only [intOf]; omega
        · have hb : (x != y) = true := by simpa using hxy
          have HF : Hid (sameB xs ys = false) := decide_eq_false (getD_ne (k := k) (by rw [HX.out, HY.out]; exact hxy))
          clear hxy
          go_wp2_with fail
          go_quiet (fail)
          go_wp2
          go_ret
          exact ⟨by rw [HF.out]; rfl, below_drewN HB.out _⟩
      · obtain rfl : k = n := by omega
        have HF : Hid (sameB xs ys = true) := decide_eq_true (by
          have e := HT.out
          rw [List.take_of_length_le (by rw [HN.out]; exact Nat.le_refl _), List.take_of_length_le (by rw [← HL.out, HN.out]; exact Nat.le_refl _)] at e
          exact e)
        go_wp2
        go_ret
        exact ⟨by rw [HF.out]; rfl, HB.out⟩
  · have hF : sameB xs ys = false := decide_eq_false (fun e => hl (by rw [e]))
    rw [hF]
    have hb : ((xs.length : Int) != (ys.length : Int)) = true := by
      have : ¬ ((xs.length : Int) = (ys.length : Int)) := by omega
      simpa using this
    clear hF
    go_enter Try.func16, Try.ntmps16
    go_wp2
    go_ret
    exact ⟨rfl, Below.refl _ _⟩

/-- the law's row: it is compared, and written over -/
def RwPost (xs ys : List Int) (u : Value) (w : World) (e : Ending) (w' : World) : Prop := e = .returned (.bool (sameB xs ys)) ∧ Tch (fun k => u.ownBlock = some k) w w'
theorem lt_of_row {w : World} {g : Nat} {cs : Array Value} {t : TypeId} {c : Nat × Nat} (h : w.heap[g]? = some (.cells cs t c)) : g < w.heap.size := lt_of_block h
set_option maxHeartbeats 1000000 in
theorem row_any {R : Nat → Prop} {B : Nat} (xs ys : List Int) (u v : Value) (w : World) (h1 : NewRow B w u xs) (hl : xs.length ≤ 1000000) (h2 : SlIs R w v ys) :
    Calls Try.prog 27 #[u, v] w (RwPost xs ys u w) := by
  have hs : SlIs (fun _ => False) w u xs := h1.sl (by omega) (fun _ _ h => h)
  have HS := Lib.hid (sameints_gen xs ys u v w hs h2)
  obtain ⟨n, hn⟩ : ∃ n, xs.length = n := ⟨_, rfl⟩
  rcases h1.2 with ⟨hv, hz⟩ | ⟨g, cap, cur, hv, hB, hg, hc, hc2, hsz, htk⟩
  · rw [hv] at HS ⊢
    clear h1 h2 hs hv hl hn
    go_enter Try.func27, Try.ntmps27
    go_wp2_with fail
    refine HS.out.mono ?_
    rintro e w1 ⟨rfl, hb⟩
    obtain ⟨z, hz⟩ : ∃ z, sameB xs ys = z := ⟨_, rfl⟩
    rw [hz]
    have HZ := Lib.hid hz
    have HB := Lib.hid hb
    clear hz hb
    cases z with
    | false =>
      go_wp2
      go_ret
      exact ⟨by rw [HZ.out]; rfl, Tch.of _ HB.out⟩
    | true =>
      go_wp2
      refine wp_loop_rounds 1 ?_
      rw [rounds_succ]
      go_wp2
      go_ret
      exact ⟨by rw [HZ.out]; rfl, Tch.of _ HB.out⟩
  · subst hv
    have HG := Lib.hid (And.intro hg (And.intro hc (And.intro hsz hB)))
    rw [hn] at HS hl hc ⊢
    have hgl : g < w.heap.size := lt_of_block hg
    clear h1 h2 hs hg hc2 htk hsz hn hB
    go_enter Try.func27, Try.ntmps27
    go_wp2_with fail
    refine HS.out.mono ?_
    rintro e w1 ⟨rfl, hb⟩
    obtain ⟨z, hz⟩ : ∃ z, sameB xs ys = z := ⟨_, rfl⟩
    rw [hz]
    have HZ := Lib.hid hz
    have HB := Lib.hid hb
    have hg1 : Hid (∃ cs, Row g 3 cs w1 ∧ n ≤ cs.length) := ⟨cur.toList, by unfold Row; rw [hb.block g hgl]; simpa using HG.out.1, by have := HG.out.2.2.1; have := HG.out.2.1; simp; omega⟩
    clear hz hb
    cases z with
    | false =>
      go_wp2
      go_ret
      exact ⟨by rw [HZ.out]; rfl, Tch.of _ HB.out⟩
    | true =>
      go_wp2_with fail
      go_loopw [5] (fun vi wr => ∃ k : Nat, k ≤ n ∧ vi = .int .i64 k ∧ Hid (∃ cs, Row g 3 cs wr ∧ n ≤ cs.length) ∧ Hid (Tch (fun k => k = g) w wr)) (fun vi _ => n - (intOf vi).toNat)
      case atStart => exact ⟨0, by omega, rfl, hg1, Lib.hid (Tch.of _ HB.out)⟩
      case round =>
        obtain ⟨k, hk, rfl, HR, HT⟩ := hrel
        by_cases hlt : k < n
        · obtain ⟨cs, hr, hcl⟩ := HR.out
          have hcell : wr.cell? ⟨g, 0 + k, none⟩ = some (cs.getD k default) := by
            rw [Nat.zero_add, hr.cell, List.getElem?_eq_getElem (by omega)]
            simp [List.getD, show k < cs.length by omega]
          have hfr : wr.frozen? ⟨g, 0 + k, none⟩ = false := hr.frozen _
          have HR1 : Hid (Row g 3 (cs.set k (.int .i64 (-77))) (wr.setCell ⟨g, k, none⟩ (.int .i64 (-77)))) := hr.set _ _
          have HL := Lib.hid hcl
          clear hr hcl
          generalize cs.getD k default = zz at hcell
          simp only [Nat.zero_add] at hcell hfr
          go_wp2_with fail
          go_roundw
          case rel => exact ⟨k + 1, by omega, by go_num, ⟨_, HR1.out, by simpa using HL.out⟩, Lib.hid (HT.out.setCell (p := ⟨g, k, none⟩) (.inl rfl) _)⟩
          case measure =>
            show _ < _
            simp only [intOf]; omega
        · obtain rfl : k = n := by omega
          go_wp2
          go_ret
          exact ⟨by rw [HZ.out]; rfl, HT.out.wide (fun j e => by rw [e]; rfl)⟩
end Go.Proofs.Ytjdbmedealhbjaa
