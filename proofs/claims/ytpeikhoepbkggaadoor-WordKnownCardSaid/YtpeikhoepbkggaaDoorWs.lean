/- The walk of the law's own 'same': two rows of one list are the same; the first one is written over. -/
import Derived.Test.YtpeikhoepbkggaaDoorWq
import Derived.BigQuiet
import Derived.Deep.QuietTactic
import Derived.RegionTactic
namespace Go.Proofs.YtpeikhoepbkggaaDoor
open Go.RowKit Go.Wd

/-- the first k cells are written over -/
def over (zs : List Int) (k : Nat) : List Value := (List.range zs.length).map fun j => if j < k then Value.int .u32 77 else .int .u32 (zs.getD j 0)
theorem over_length (zs : List Int) (k : Nat) : (over zs k).length = zs.length := by unfold over; simp
theorem over_zero (zs : List Int) : zs.map (Value.int .u32) = over zs 0 := by
  apply List.ext_getElem
  · simp [over]
  · intro i h1 h2
    simp only [List.length_map] at h1
    simp [over, List.getD, h1]
theorem over_step (zs : List Int) (k : Nat) (h : k < zs.length) : (over zs k).set k (.int .u32 77) = over zs (k + 1) := by
  apply List.ext_getElem
  · simp [over]
  · intro i h1 h2
    simp only [over, List.getElem_set, List.getElem_map, List.getElem_range]
    by_cases e : k = i
    · subst e; simp
    · rw [if_neg e]
      by_cases c : i < k
      · rw [if_pos c, if_pos (by omega)]
      · rw [if_neg c, if_neg (by omega)]
theorem over_at (zs : List Int) (k : Nat) (h : k < zs.length) : (over zs k)[k]? = some (.int .u32 (zs.getD k 0)) := by
  have : k < (over zs k).length := by rw [over_length]; exact h
  rw [List.getElem?_eq_getElem this]
  simp [over]
theorem map_at (zs : List Int) (k : Nat) (h : k < zs.length) : (zs.map (Value.int .u32))[k]? = some (.int .u32 (zs.getD k 0)) := by
  rw [List.getElem?_map]
  simp [List.getD, h]

theorem same_none (p1 p2 : Option Addr) (c1 c2 : Nat) (B : Nat) (w : World) :
    Calls Tryd.prog 27 #[.slice p1 0 c1, .slice p2 0 c2] w fun e w' => e = .returned (.bool true) ∧ Below B w w' := by
  go_enter Tryd.func27, Tryd.ntmps27
  go_wp2_with fail
  go_loop [5] (fun i => i = .int .i64 0) (fun _ => 0)
  case atStart => rfl
  case round =>
    subst hrel
    go_wp2
    go_ret
    exact ⟨rfl, Below.refl _ _⟩

set_option maxHeartbeats 1000000 in
theorem same_some (zs : List Int) (g1 g2 c1 c2 B C : Nat) (hn : zs.length ≤ 1000000000000000) (w : World) (h1 : w.ownsRow B 22 1 (.slice (some ⟨g1, 0, none⟩) zs.length c1) zs.length (zs.map (Value.int .u32))) (h2 : w.ownsRow C 22 1 (.slice (some ⟨g2, 0, none⟩) zs.length c2) zs.length (zs.map (Value.int .u32))) (hne : g1 ≠ g2) :
    Calls Tryd.prog 27 #[.slice (some ⟨g1, 0, none⟩) zs.length c1, .slice (some ⟨g2, 0, none⟩) zs.length c2] w fun e w' => e = .returned (.bool true) ∧ Below B w w' := by
  have hB := (h1.lt g1 rfl).1
  rw [over_zero] at h1
  have HA := Lib.hid h1
  have HB := Lib.hid h2
  clear h1 h2
  go_enter Tryd.func27, Tryd.ntmps27
  go_wp2_with fail
  go_loopw [5] (fun i wr => ∃ k : Nat, k ≤ zs.length ∧ i = .int .i64 k ∧ Hid (wr.ownsRow B 22 1 (.slice (some ⟨g1, 0, none⟩) zs.length c1) zs.length (over zs k)) ∧ Hid (wr.ownsRow C 22 1 (.slice (some ⟨g2, 0, none⟩) zs.length c2) zs.length (zs.map (Value.int .u32))) ∧ Hid (Below B w wr)) (fun i _ => zs.length - (intOf i).toNat)
  case atStart => exact ⟨0, by omega, rfl, HA, HB, Below.refl _ _⟩
  case round =>
    obtain ⟨k, hk, rfl, hA, hC, hD⟩ := hrel
    clear HA HB
    by_cases hlt : k < zs.length
    · have e1 := hA.out.cellAt k (by omega)
      have e2 := hC.out.cellAt k (by omega)
      have e3 := hA.out.frozenAt k
      rw [over_at zs k hlt] at e1
      rw [map_at zs k hlt] at e2
      obtain ⟨st1, st2⟩ := hA.out.stored k (.int .u32 77)
      rw [over_step zs k hlt] at st1
      have HA1 := Lib.hid st1
      have HC1 := Lib.hid (hC.out.kept st2 (.inr (by simp [Value.ownBlock]; exact fun h => hne h.symm)))
      have HD1 := Lib.hid (fun nq => (hD.out.trans (⟨rfl, rfl, rfl, Nat.le_refl _, fun _ _ => rfl⟩ : Below B wr (wr.drewN nq))).setCell (p := ⟨g1, k, none⟩) hB (.int .u32 77))
      obtain ⟨z, hz⟩ : ∃ z, zs.getD k 0 = z := ⟨_, rfl⟩
      rw [hz] at e1 e2
      clear st1 st2 hz hA hC hD
      have i1 : (0 : Int) ≤ (k : Int) := by omega
      have i2 : (k : Int) < (zs.length : Int) := by omega
      go_wp2_with fail
      go_quiet (fail)
      go_wp2
      go_roundw
      case rel => exact ⟨k + 1, by omega, by go_num, HA1, HC1, HD1.out _⟩
      case measure =>
        show _ < _
        simp only [intOf]; omega
    · go_wp2
      go_ret
      exact ⟨rfl, hD.out⟩

/-- OF ROWS OF ONE LIST, THE SECOND ONE MADE BEHIND THE FIRST ONE: the same. -/
theorem same_any (zs : List Int) (v1 v2 : Value) (B C : Nat) (hn : zs.length ≤ 1000000000000000) (w : World) (h1 : w.ownsRow B 22 1 v1 zs.length (zs.map (Value.int .u32))) (h2 : w.ownsRow C 22 1 v2 zs.length (zs.map (Value.int .u32))) (hlt : ∀ g, v1.ownBlock = some g → g < C) :
    Calls Tryd.prog 27 #[v1, v2] w fun e w' => e = .returned (.bool true) ∧ Below B w w' := by
  by_cases hz : zs.length = 0
  · obtain ⟨p1, c1, rfl⟩ := slice_form h1
    obtain ⟨p2, c2, rfl⟩ := slice_form h2
    rw [hz]; exact same_none p1 p2 c1 c2 B w
  · rcases Joins.ownsRow_forms h1 with ⟨_, h0⟩ | ⟨g1, c1, rfl⟩
    · exact absurd h0 hz
    · rcases Joins.ownsRow_forms h2 with ⟨_, h0⟩ | ⟨g2, c2, rfl⟩
      · exact absurd h0 hz
      · refine same_some zs g1 g2 c1 c2 B C hn w h1 h2 ?_
        have a := hlt g1 rfl
        have b := (h2.lt g2 rfl).1
        omega
end Go.Proofs.YtpeikhoepbkggaaDoor
