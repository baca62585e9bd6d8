/- The walk of the laws' few. -/
import Derived.Test.YtfigkoknhiabnaaDoorCa
import Derived.Test.YtfigkoknhiabnaaDoorCm
import Derived.WalkSpells
import Derived.WalkLawsBesides
import Derived.Deep.LoopGhost
namespace Go.Proofs.YtfigkoknhiabnaaDoor
open Go.RowKit

theorem IsAct.on {w w' : World} {b o : Nat} {x : ActV} (h : IsAct w b o x) (hb : Below w.heap.size w w') : IsAct w' b o x := by
  refine ⟨?_, ?_, ?_, h.wd, h.wn, h.fl, h.lm, h.nl, fun j hj => ?_⟩
  · rw [hb.cell (block_lt_of_cell h.c0)]; exact h.c0
  · rw [hb.cell (block_lt_of_cell h.c1)]; exact h.c1
  · rw [hb.cell (block_lt_of_cell h.c2)]; exact h.c2
  · obtain ⟨b', o', hp, hc⟩ := h.fc j hj
    exact ⟨b', o', hp, by rw [hb.cell (block_lt_of_cell hc)]; exact hc⟩
theorem IsActs.on {w w' : World} {p : Option Addr} {l c : Nat} {xs : List ActV} (h : IsActs w p l c xs) (hb : Below w.heap.size w w') : IsActs w' p l c xs :=
  ⟨h.len, h.lm, h.nl, fun i hi => by obtain ⟨b, o, hp, ha⟩ := h.act i hi; exact ⟨b, o, hp, ha.on hb⟩⟩

def FewPost (xs : List ActV) (most : Nat) (w : World) (e : Ending) (w' : World) : Prop := ∃ r : Bool, e = .returned (.bool r) ∧ w = w' ∧ (r = true → xs.length ≤ most ∧ ∀ i, i < xs.length → (xs.getD i default).l ≤ 20)

set_option maxHeartbeats 400000 in
theorem few_any (xs : List ActV) (most : Nat) (p : Option Addr) (l c : Nat) (w : World) (h : IsActs w p l c xs) (hm : most ≤ 1000) :
    Calls Tryd.prog 7 #[.slice p l c, .int .i64 most] w (FewPost xs most w) := by
  have HA := Lib.hid h
  have hl := h.lm
  unfold maxLen at hl
  have HL := Lib.hid h.len
  clear h
  go_enter Tryd.func7, Tryd.ntmps7
  go_wp2_with fail
  go_loop [5] (fun i => ∃ k : Nat, k ≤ l ∧ k ≤ most + 1 ∧ i = .int .i64 k ∧ Hid (∀ j, j < k → (xs.getD j default).l ≤ 20)) (fun i => l - (intOf i).toNat)
  case atStart => exact ⟨0, by omega, by omega, rfl, fun j hj => absurd hj (Nat.not_lt_zero _)⟩
  case round =>
    obtain ⟨k, hk, hk2, rfl, HG⟩ := hrel
    by_cases h1 : k < l
    · by_cases h2 : k ≤ most
      · obtain ⟨b, o, rfl, ha⟩ := HA.out.act k (by rw [← HL.out]; exact h1)
        have c2 := ha.c2
        have hlm := ha.lm
        unfold maxLen at hlm
        obtain ⟨x, hx⟩ : ∃ x, xs.getD k default = x := ⟨_, rfl⟩
        rw [hx] at c2 hlm
        have HX := Lib.hid hx
        clear ha hx
        by_cases h20 : x.l ≤ 20
        · have hg : Hid (∀ j, j < k + 1 → (xs.getD j default).l ≤ 20) := fun j hj => by
            by_cases e : j = k
            · rw [e, HX.out]; exact h20
            · exact HG.out j (by omega)
          go_wp2
          go_round
          case rel => exact ⟨k + 1, by omega, by omega, by go_num, hg⟩
          case measure => simp [intOf]; omega
        · go_wp2
          go_ret
          exact ⟨false, rfl, rfl, fun h => by cases h⟩
      · go_wp2
        go_ret
        exact ⟨_, rfl, rfl, fun h => by have := HL.out; simp at h; omega⟩
    · go_wp2
      go_ret
      refine ⟨_, rfl, rfl, fun h => ⟨by have := HL.out; simp at h; omega, fun i hi => HG.out i (by have := HL.out; omega)⟩⟩
end Go.Proofs.YtfigkoknhiabnaaDoor
