/- The walks of Strides, of the reference's Strides, and of Orders. -/
import Derived.Test.YteijfgckeipkhaaSa
import Derived.OwnWalk
namespace Go.Proofs.Yteijfgckeipkhaa
open Go.RowKit Go.Sd

theorem infoInt : (Try.prog.info? 3).map (fun i => (i.zero, i.size, i.bytes)) = some (some (.int .i64 0), 1, 8) := by kernel_rfl
/-- it returned a row of its own, of these numbers -/
def RowPost (zs : List Int) (w : World) (e : Ending) (w' : World) : Prop := ∃ v, e = .returned v ∧ w'.ownsRow w.heap.size 3 1 v zs.length (zs.map (Value.int .i64)) ∧ Below w.heap.size w w'

/-- a row of its own, read as a slice -/
theorem own_lies {w : World} {B : Nat} {v : Value} {zs : List Int} (h : w.ownsRow B 3 1 v zs.length (zs.map (Value.int .i64))) (hl : zs.length ≤ 1000000000000000) : ∃ p cap, v = .slice p zs.length cap ∧ Lies .i64 w p zs := by
  rcases h.2 with ⟨hv, hz⟩ | ⟨g, cap, cur, hv, hB, hg, hc, hc2, r⟩
  · refine ⟨none, 0, by rw [hv, hz], by omega, fun j hj => by omega⟩
  · subst hv
    refine ⟨_, cap, rfl, hl, fun j hj => ⟨g, 0, rfl, ?_⟩⟩
    have := h.cellAt j (by omega)
    rw [Nat.zero_add, this, List.getElem?_map]
    simp [List.getD, hj]
theorem slice_form {w : World} {B n : Nat} {E : TypeId} {v : Value} {xs : List Value} (h : w.ownsRow B E 1 v n xs) : ∃ p cap, v = .slice p n cap := by
  rcases Joins.ownsRow_forms h with ⟨hv, hz⟩ | ⟨g, cap, hv⟩
  · exact ⟨none, 0, by rw [hv, hz]⟩
  · exact ⟨_, _, hv⟩
theorem own_on {w w' : World} {B n : Nat} {E : TypeId} {v : Value} {xs : List Value} (h : w.ownsRow B E 1 v n xs) (hb : Below w.heap.size w w') : w'.ownsRow B E 1 v n xs := by
  refine ⟨h.1, ?_⟩
  rcases h.2 with h2 | ⟨g, cap, cur, hv, hB, hg, r⟩
  · exact .inl h2
  · refine .inr ⟨g, cap, cur, hv, hB, ?_, r⟩
    rw [hb.block g (Array.getElem?_eq_some_iff.1 hg).1]; exact hg
theorem own_base {w : World} {B C n : Nat} {E : TypeId} {v : Value} {xs : List Value} (h : w.ownsRow B E 1 v n xs) (hb : C ≤ B) : w.ownsRow C E 1 v n xs := by
  refine ⟨h.1, ?_⟩
  rcases h.2 with h2 | ⟨g, cap, cur, hv, hB, r⟩
  · exact .inl h2
  · exact .inr ⟨g, cap, cur, hv, Nat.le_trans hb hB, r⟩
theorem lies_two (a b : Int) (w : World) (t : TypeId) : Lies .i64 (w.alloc (.cells #[.int .i64 a, .int .i64 b] t)) (some ⟨w.heap.size, 0, none⟩) [a, b] := by
  refine ⟨by simp, fun j hj => ⟨_, _, rfl, ?_⟩⟩
  rw [World.cell?_alloc_new]
  have : j = 0 ∨ j = 1 := by simp at hj; omega
  rcases this with rfl | rfl <;> rfl
theorem gcd_two (k n : Nat) (c g : Nat) (hk : k ≤ 64) (hn : n ≤ 64) (hg : Nat.gcd k n = g) (w : World) (t : TypeId) :
    Calls Try.prog 8 #[.slice (some ⟨w.heap.size, 0, none⟩) 2 c] (w.alloc (.cells #[.int .i64 (k : Int), .int .i64 (n : Int)] t)) (Ans (.int .i64 (g : Nat)) (w.alloc (.cells #[.int .i64 (k : Int), .int .i64 (n : Int)] t))) := by
  have := gcd_any [(k : Int), (n : Int)] _ c _ (by simp; omega) (lies_two k n w t)
  rw [gcdL_cons2] at this
  subst hg
  exact this
theorem str_step {w : World} {v : Value} {B n k l : Nat} (hl : (str n k).length = l) (h : w.ownsRow B 3 1 v (str n k).length ((str n k).map (Value.int .i64))) : w.ownsRow B 3 1 v l ((str n k).map (Value.int .i64)) := by
  rw [← hl]; exact h

set_option maxHeartbeats 1000000 in
theorem strides_some (n : Nat) (hn : n ≤ 64) (w : World) :
    Calls Try.prog 13 #[.int .i64 n] w (RowPost (str n n) w) := by
  obtain ⟨i0, hi, hz0, hz1, hz2⟩ := info_parts infoInt
  go_enter Try.func13, Try.ntmps13
  go_wp2_with fail
  go_loopw [3, 9] (fun v vi wr => ∃ k : Nat, k ≤ n ∧ vi = .int .i64 k ∧ Hid (wr.ownsRow w.heap.size 3 1 v (str n k).length ((str n k).map (Value.int .i64))) ∧ Hid (Below w.heap.size w wr)) (fun _ vi _ => n - (intOf vi).toNat)
  case atStart => exact ⟨0, by omega, rfl, World.ownsRow_nil _ _ _ _, Below.refl _ _⟩
  case round =>
    obtain ⟨k, hk, rfl, HO, HB⟩ := hrel
    have hsl := str_length n k
    obtain ⟨l, hl⟩ : ∃ l, (str n k).length = l := ⟨_, rfl⟩
    have HO1 := Lib.hid (str_step hl HO.out)
    obtain ⟨p, cap, rfl⟩ := slice_form HO1.out
    rw [hl] at hsl
    have HL := Lib.hid hl
    clear hl HO
    by_cases hlt : k < n
    · obtain ⟨g, hg⟩ : ∃ g, Nat.gcd (k + 1) n = g := ⟨_, rfl⟩
      have HG := Lib.hid hg
      clear hg
      go_wp2_with fail
      refine (gcd_two (k + 1) n 2 g (by omega) (by omega) HG.out _ _).mono ?_
      rintro e w1 ⟨rfl, hb1⟩
      have HB1 := Lib.hid ((HB.out.alloc HB.out.size _).trans (hb1.mono (by have := HB.out.size; simp; omega)))
      have HO2 := Lib.hid (own_on (HO1.out.alloc _) hb1)
      clear hb1 HO1 HB
      by_cases hg1 : g = 1
      · subst hg1
        go_wp2_with (at_builtin; refine wpList_append_own _ rfl (.tmp 19) (.tmp 21) 22 rfl w.heap.size 3 i0 (.int .i64 0) 1 8 Try.underlying22 hi hz0 hz1 hz2 rfl (by decide) _ _ _ rfl (HO2.out.alloc _) ⟨w1.heap.size, 0, none⟩ 1 1 [.int .i64 ((k : Int) + 1)] rfl rfl ?c1 ?c2 ?c3 ?c4 ?c5 ?_)
        case c1 => intro j u hu; rcases j with _ | j <;> simp at hu; subst hu; simp [World.cell?_alloc_new, Addr.add]
        case c2 => intro u hu; simp at hu; subst hu; rfl
        case c3 => unfold maxLen; omega
        case c4 => omega
        case c5 => have := HB1.out.size; simp; omega
        intro v' w2 hown' hgrow _
        have HB2 := Lib.hid ((HB1.out.alloc HB1.out.size _).grown hgrow (by have := HB1.out.size; simp; omega) (fun j hj => (HO2.out.lt j hj).1))
        have hs := str_yes HG.out
        have HO3 : Hid (w2.ownsRow w.heap.size 3 1 v' (str n (k + 1)).length ((str n (k + 1)).map (Value.int .i64))) := by
          show World.ownsRow _ _ _ _ _ _ _
          rw [hs, List.length_append, List.map_append, HL.out]; exact hown'
        clear hown' hgrow hs
        go_wp2
        go_roundw
        case rel => exact ⟨k + 1, by omega, by go_num, HO3, HB2⟩
        case measure =>
          show _ < _
          simp only [intOf]; omega
      · have hg2 : ((g : Int) == 1) = false := beq_eq_false_iff_ne.2 (by omega)
        have hs := str_no (n := n) (k := k) (by rw [HG.out]; exact hg1)
        have HO3 : Hid (w1.ownsRow w.heap.size 3 1 (.slice p l cap) (str n (k + 1)).length ((str n (k + 1)).map (Value.int .i64))) := by
          show World.ownsRow _ _ _ _ _ _ _
          rw [hs, HL.out]; exact HO2.out
        clear hs
        go_wp2
        go_roundw
        case rel => exact ⟨k + 1, by omega, by go_num, HO3, HB1⟩
        case measure =>
          show _ < _
          simp only [intOf]; omega
    · obtain rfl : k = n := by omega
      go_wp2
      go_ret
      refine ⟨_, rfl, ?_, HB.out⟩
      rw [HL.out]; exact HO1.out
end Go.Proofs.Yteijfgckeipkhaa
