/- The walk of word.Do. -/
import Derived.Test.YtpeikhoepbkggaaDoorWpa
import Derived.Test.YtpeikhoepbkggaaDoorCm
import Derived.Laws.EntriesVeiled
namespace Go.Proofs.YtpeikhoepbkggaaDoor
open Go.RowKit Go.Wd

def DoPost (x : Nat) (q : Int) (zs : List Int) (w : World) (e : Ending) (w' : World) : Prop := e = .returned (.int .u64 (doW x q zs : Nat)) ∧ Below w.heap.size w w'

set_option maxHeartbeats 400000 in
theorem do_any (x : Nat) (hx : x < 18446744073709551616) (q : Int) (p : Option Addr) (cap : Nat) (zs : List Int) (w : World) (hl : Lies .i64 w p zs) :
    Calls Tryd.prog 31 #[.int .u64 x, .int .i64 q, .slice p zs.length cap] w (DoPost x q zs w) := by
  cases hr : room q with
  | false =>
    have e : doW x q zs = x := by unfold doW; rw [hr]; rfl
    go_enter Tryd.func31, Tryd.ntmps31
    go_wp2_with (go_at_call 17; refine (room_any _ _).mono ?_; rintro e w' ⟨rfl, rfl⟩)
    go_ret
    exact ⟨by rw [e]; rfl, Below.refl _ _⟩
  | true =>
    have hb := room_bd hr
    obtain ⟨n, rfl⟩ : ∃ n : Nat, q = n := ⟨q.toNat, by omega⟩
    have hlen := hl.len
    have HL := Lib.hid hl
    clear hl
    go_enter Tryd.func31, Tryd.ntmps31
    go_wp2_with (go_at_call 17; refine (room_any _ _).mono ?_; rintro e w' ⟨rfl, rfl⟩)
    go_loop [0, 17] (fun v i => ∃ (k y : Nat), k ≤ zs.length ∧ i = .int .i64 k ∧ v = .int .u64 y ∧ y < 18446744073709551616 ∧ Hid (y = (zs.take k).foldl (stp n) x)) (fun _ i => zs.length - (intOf i).toNat)
    case atStart => exact ⟨0, x, by omega, rfl, rfl, hx, rfl⟩
    case round =>
      obtain ⟨k, y, hk, rfl, rfl, hy, HY⟩ := hrel
      by_cases hlt : k < zs.length
      · obtain ⟨b, o, rfl, hc⟩ := HL.out.cells k hlt
        have hbl := block_lt_of_cell hc
        have hm := fold_more (stp n) x zs k hlt
        rw [← HY.out] at hm
        obtain ⟨z, hz⟩ : ∃ z, zs.getD k 0 = z := ⟨_, rfl⟩
        rw [hz] at hc hm
        have HM := Lib.hid hm
        clear hz hm
        by_cases hd : 1 ≤ z ∧ z ≤ 4
        · have : z = 1 ∨ z = 2 ∨ z = 3 ∨ z = 4 := by omega
          rcases this with rfl | rfl | rfl | rfl
          all_goals
            go_wp2_with (first
              | (go_at_call 35; refine (get_any _ _ hy _).mono ?_; rintro e w' ⟨rfl, rfl⟩)
              | (go_at_call 36; refine (steal_any _ _ hy _).mono ?_; rintro e w' ⟨rfl, rfl⟩)
              | (go_at_call 37; refine (put_any _ _ hy (by omega) _).mono ?_; rintro e w' ⟨rfl, rfl⟩)
              | (go_at_call 38; refine (cut_any _ _ hy (by omega) _).mono ?_; rintro e w' ⟨rfl, rfl⟩))
            go_round
            case rel => exact ⟨k + 1, _, by omega, by go_num, rfl, stp_lt hy, HM.out.symm⟩
            case measure => simp [intOf]; omega
        · have hs : y = (List.take (k + 1) zs).foldl (stp n) x := by rw [HM.out, stp_other hd]
          have HS := Lib.hid hs
          clear hs
          by_cases h1 : 1 ≤ z
          · have h4 : 4 < z := by omega
            go_wp2
            go_round
            case rel => exact ⟨k + 1, _, by omega, by go_num, rfl, hy, HS.out⟩
            case measure => simp [intOf]; omega
          · go_wp2
            go_round
            case rel => exact ⟨k + 1, _, by omega, by go_num, rfl, hy, HS.out⟩
            case measure => simp [intOf]; omega
      · have hY := HY.out
        rw [List.take_of_length_le (by omega)] at hY
        have e : doW x n zs = y := by unfold doW; rw [if_pos hr, hY]; rfl
        have HE := Lib.hid e
        clear e hY
        go_wp2
        go_ret
        exact ⟨by rw [HE.out]; rfl, (Below.refl _ _).alloc (Nat.le_refl _) _⟩

def NumPost (k : IntKind) (n : Nat) (w : World) (e : Ending) (w' : World) : Prop := e = .returned (.int k (n : Int)) ∧ Below w.heap.size w w'
end Go.Proofs.YtpeikhoepbkggaaDoor
