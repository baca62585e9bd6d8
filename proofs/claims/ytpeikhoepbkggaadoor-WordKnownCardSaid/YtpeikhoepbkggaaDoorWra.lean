/- The walks of the reference's small functions. -/
import Derived.Test.YtpeikhoepbkggaaDoorWpa
import Derived.Test.YtpeikhoepbkggaaDoorCm
import Derived.Deep.RegionHeld3
import Derived.BigQuiet
import Derived.Deep.QuietTactic
namespace Go.Proofs.YtpeikhoepbkggaaDoor
open Go.RowKit Go.Wd

/-- an answer, in a world in which nothing that was has changed -/
def Ans (v : Value) (w : World) (e : Ending) (w' : World) : Prop := e = .returned v ∧ Below w.heap.size w w'

set_option maxHeartbeats 400000 in
theorem rlen_ex (x : Nat) (hx : x < 18446744073709551616) (w : World) :
    Calls Tryd.prog 7 #[.agg #[.int .u32 (hd x : Nat), .int .u32 (tl x : Nat)]] w fun e w' => e = .returned (.int .u32 (ln x : Nat)) ∧ w.alloc (.cells #[.int .u32 (hd x : Nat), .int .u32 (tl x : Nat)] 24) = w' := by
  have h1 := hd_lt hx
  go_enter Tryd.func7, Tryd.ntmps7
  go_wp2
  go_ret
  exact ⟨ret_u32 (by show IntKind.u32.wrap _ = _; rw [wsub32 _ _ (by omega)]; rfl), rfl⟩
theorem rlen_any (x : Nat) (hx : x < 18446744073709551616) (w : World) :
    Calls Tryd.prog 7 #[.agg #[.int .u32 (hd x : Nat), .int .u32 (tl x : Nat)]] w (Ans (.int .u32 (ln x : Nat)) w) :=
  (rlen_ex x hx w).mono fun e w' ⟨he, hw⟩ => ⟨he, by rw [← hw]; exact (Below.refl _ _).alloc (Nat.le_refl _) _⟩

theorem rpack_num (x : Nat) : (hd x : Int) * 4294967296 + (tl x : Int) = ((x : Nat) : Int) := by
  have := pk_eta x
  unfold pk at this; omega
set_option maxHeartbeats 400000 in
theorem rpack_any (x : Nat) (hx : x < 18446744073709551616) (w : World) :
    Calls Tryd.prog 9 #[.agg #[.int .u32 (hd x : Nat), .int .u32 (tl x : Nat)]] w (Ans (.int .u64 x) w) := by
  have h1 := hd_lt hx
  have h2 := tl_lt x
  have h3 := rpack_num x
  have H3 := Lib.hid h3
  clear h3
  go_enter Tryd.func9, Tryd.ntmps9
  go_wp2
  go_ret
  exact ⟨ret_u64 H3.out, (Below.refl _ _).alloc (Nat.le_refl _) _⟩

theorem of_val (x : Nat) (hx : x < 18446744073709551616) : Value.agg #[.int .u32 ((x : Int) / 4294967296), .int .u32 ((x : Int) % 4294967296)] = .agg #[.int .u32 (hd x : Nat), .int .u32 (tl x : Nat)] := by
  have e1 : (x : Int) / 4294967296 = (hd x : Nat) := by unfold hd; omega
  have e2 : (x : Int) % 4294967296 = (tl x : Nat) := by unfold tl; omega
  rw [e1, e2]
set_option maxHeartbeats 400000 in
theorem rof_any (x : Nat) (hx : x < 18446744073709551616) (w : World) :
    Calls Tryd.prog 10 #[.int .u64 x] w (Ans (.agg #[.int .u32 (hd x : Nat), .int .u32 (tl x : Nat)]) w) := by
  go_enter Tryd.func10, Tryd.ntmps10
  go_wp2
  exact bodyPost_ret (v := .agg #[.int .u32 ((x : Int) / 4294967296), .int .u32 ((x : Int) % 4294967296)]) (by simp [results, Tryd.results10, go_sem]) rfl ⟨by rw [of_val x hx], (Below.refl _ _).alloc (Nat.le_refl _) _⟩

set_option maxHeartbeats 400000 in
theorem rroom_any (q : Int) (w : World) :
    Calls Tryd.prog 18 #[.int .i64 q] w fun e w' => e = .returned (.bool (room q)) ∧ w = w' := by
  go_enter Tryd.func18, Tryd.ntmps18
  go_wp2_with fail
  go_loop [3] (fun i => ∃ (k : Nat), 1 ≤ k ∧ k ≤ 17 ∧ i = .int .i64 ((2 ^ k : Nat) : Int) ∧ Hid (∀ j, 1 ≤ j → j < k → q ≠ ((2 ^ j : Nat) : Int))) (fun i => (131073 - intOf i).toNat)
  case atStart => exact ⟨1, by omega, by omega, rfl, fun j h1 h2 => by omega⟩
  case round =>
    obtain ⟨k, hk1, hk2, rfl, HN⟩ := hrel
    have hp : k = 17 ∨ (2 ^ k ≤ 65536 ∧ 2 ≤ 2 ^ k ∧ k < 17) := by
      by_cases h : k = 17
      · exact .inl h
      · right
        have a : (2 : Nat) ^ k ≤ 2 ^ 16 := Nat.pow_le_pow_right (by decide) (by omega)
        have b : (2 : Nat) ^ 1 ≤ 2 ^ k := Nat.pow_le_pow_right (by decide) (by omega)
        have c : (2 : Nat) ^ 16 = 65536 := by decide
        exact ⟨by omega, by omega, by omega⟩
    rcases hp with rfl | ⟨h1, h2, h3⟩
    · have hf : room q = false := by
        cases h : room q with
        | false => rfl
        | true =>
          exfalso
          have hn := HN.out
          rcases room_cases h with h | h | h | h | h | h | h | h | h | h | h | h | h | h | h | h
          · exact hn 1 (by omega) (by omega) h
          · exact hn 2 (by omega) (by omega) h
          · exact hn 3 (by omega) (by omega) h
          · exact hn 4 (by omega) (by omega) h
          · exact hn 5 (by omega) (by omega) h
          · exact hn 6 (by omega) (by omega) h
          · exact hn 7 (by omega) (by omega) h
          · exact hn 8 (by omega) (by omega) h
          · exact hn 9 (by omega) (by omega) h
          · exact hn 10 (by omega) (by omega) h
          · exact hn 11 (by omega) (by omega) h
          · exact hn 12 (by omega) (by omega) h
          · exact hn 13 (by omega) (by omega) h
          · exact hn 14 (by omega) (by omega) h
          · exact hn 15 (by omega) (by omega) h
          · exact hn 16 (by omega) (by omega) h
      have HF := Lib.hid hf
      clear hf
      go_wp2
      go_ret
      exact ⟨by rw [HF.out]; rfl, rfl⟩
    · have hpow : 2 ^ (k + 1) = 2 ^ k * 2 := Nat.pow_succ 2 k
      obtain ⟨m, hm⟩ : ∃ m, 2 ^ k = m := ⟨_, rfl⟩
      have hr := pow_room k
      rw [hm] at h1 h2 hpow hr
      have HR := Lib.hid hr
      have HP := Lib.hid hpow
      have HM := Lib.hid hm
      rw [hm]
      clear hm hpow hr
      by_cases he : q = (m : Int)
      · subst he
        go_wp2
        go_ret
        exact ⟨ret_bool (HR.out h2 h1).symm, rfl⟩
      · have hb : ((m : Int) == q) = false := by
          cases hc : ((m : Int) == q) with
          | false => rfl
          | true => exact absurd (eq_of_beq hc).symm he
        go_wp2
        go_round
        case rel =>
          refine ⟨k + 1, by omega, by omega, ?_, fun j a b => ?_⟩
          · rw [HP.out]; go_num
          · by_cases c : j = k
            · subst c; rw [HM.out]; exact he
            · exact HN.out j a (by omega)
        case measure => simp [intOf]; omega

set_option maxHeartbeats 400000 in
theorem rslot_any (p : Nat) (q : Int) (hp : p < 4294967296) (w : World) :
    Calls Tryd.prog 20 #[.int .u32 p, .int .i64 q] w fun e w' => e = .returned (.int .i64 (slot p q)) ∧ w = w' := by
  cases hr : room q with
  | true =>
    have hb := room_bd hr
    obtain ⟨n, rfl⟩ : ∃ n : Nat, q = n := ⟨q.toNat, by omega⟩
    have e : slot p n = ((p % n : Nat) : Int) := by unfold slot; rw [if_pos hr]; rfl
    rw [e]
    go_enter Tryd.func20, Tryd.ntmps20
    go_wp2_with (go_at_call 18; refine (rroom_any _ _).mono ?_; rintro e w' ⟨rfl, rfl⟩)
    go_ret
    refine ⟨ret_i64 ?_, rfl⟩
    show wrap64 ((p : Int) % n) = ((p % n : Nat) : Int)
    have h1 : (p : Int) % n = ((p % n : Nat) : Int) := by simp
    have h2 := Nat.mod_lt p (show 0 < n by omega)
    rw [h1]; exact IntWalk.wrap64_in _ ⟨by omega, by omega⟩
  | false =>
    have e : slot p q = 0 := by unfold slot; rw [hr]; rfl
    rw [e]
    go_enter Tryd.func20, Tryd.ntmps20
    go_wp2_with (go_at_call 18; refine (rroom_any _ _).mono ?_; rintro e w' ⟨rfl, rfl⟩)
    go_ret
    exact ⟨rfl, rfl⟩

theorem box_keep {B b x : Nat} {W w w' : World} (h : (w.cell? ⟨b, 0, none⟩ = some (.int .u32 (hd x : Nat)) ∧ w.cell? ⟨b, 1, none⟩ = some (.int .u32 (tl x : Nat))) ∧ b < w.heap.size ∧ Below B W w) (hB : B ≤ b) (hb : Below w.heap.size w w') :
    (w'.cell? ⟨b, 0, none⟩ = some (.int .u32 (hd x : Nat)) ∧ w'.cell? ⟨b, 1, none⟩ = some (.int .u32 (tl x : Nat))) ∧ b < w'.heap.size ∧ Below B W w' := by
  obtain ⟨⟨h1, h2⟩, h3, h5⟩ := h
  exact ⟨⟨by rw [hb.cell (p := ⟨b, 0, none⟩) h3]; exact h1, by rw [hb.cell (p := ⟨b, 1, none⟩) h3]; exact h2⟩, Nat.lt_of_lt_of_le h3 hb.size, h5.trans (hb.mono (by omega))⟩
theorem box_new (x : Nat) (w : World) (t : TypeId) :
    ((w.alloc (.cells #[.int .u32 (hd x : Nat), .int .u32 (tl x : Nat)] t)).cell? ⟨w.heap.size, 0, none⟩ = some (.int .u32 (hd x : Nat)) ∧ (w.alloc (.cells #[.int .u32 (hd x : Nat), .int .u32 (tl x : Nat)] t)).cell? ⟨w.heap.size, 1, none⟩ = some (.int .u32 (tl x : Nat))) ∧ w.heap.size < (w.alloc (.cells #[.int .u32 (hd x : Nat), .int .u32 (tl x : Nat)] t)).heap.size ∧ Below w.heap.size w (w.alloc (.cells #[.int .u32 (hd x : Nat), .int .u32 (tl x : Nat)] t)) :=
  ⟨⟨by rw [World.cell?_alloc_new]; rfl, by rw [World.cell?_alloc_new]; rfl⟩, by simp, (Below.refl _ _).alloc (Nat.le_refl _) _⟩
theorem box_on {b x : Nat} {W v w : World} (h : (w.cell? ⟨b, 0, none⟩ = some (.int .u32 (hd x : Nat)) ∧ w.cell? ⟨b, 1, none⟩ = some (.int .u32 (tl x : Nat))) ∧ b < w.heap.size ∧ Below v.heap.size v w) (hb : Below W.heap.size W v) (hv : v.heap.size ≤ b := by exact Nat.le_refl _) :
    ((w.cell? ⟨b, 0, none⟩ = some (.int .u32 (hd x : Nat)) ∧ w.cell? ⟨b, 1, none⟩ = some (.int .u32 (tl x : Nat))) ∧ b < w.heap.size ∧ Below W.heap.size W w) ∧ W.heap.size ≤ b :=
  ⟨⟨h.1, h.2.1, hb.trans (h.2.2.mono hb.size)⟩, Nat.le_trans hb.size hv⟩
theorem box_drew {B b x : Nat} {W w : World} (h : (w.cell? ⟨b, 0, none⟩ = some (.int .u32 (hd x : Nat)) ∧ w.cell? ⟨b, 1, none⟩ = some (.int .u32 (tl x : Nat))) ∧ b < w.heap.size ∧ Below B W w) (hB : B ≤ b) :
    (w.drew.cell? ⟨b, 0, none⟩ = some (.int .u32 (hd x : Nat)) ∧ w.drew.cell? ⟨b, 1, none⟩ = some (.int .u32 (tl x : Nat))) ∧ b < w.drew.heap.size ∧ Below B W w.drew :=
  box_keep h hB (Below.refl _ _).drew

set_option maxHeartbeats 1000000 in
theorem rhas_any (x p : Nat) (hx : x < 18446744073709551616) (hp : p < 4294967296) (w : World) :
    Calls Tryd.prog 22 #[.agg #[.int .u32 (hd x : Nat), .int .u32 (tl x : Nat)], .int .u32 p] w (Ans (.bool (has x p)) w) := by
  have h1 := hd_lt hx
  have h2 := tl_lt x
  go_enter Tryd.func22, Tryd.ntmps22
  go_wp2
  go_region_held3 (fun w' => (w'.cell? ⟨w.heap.size, 0, none⟩ = some (.int .u32 (hd x : Nat)) ∧ w'.cell? ⟨w.heap.size, 1, none⟩ = some (.int .u32 (tl x : Nat))) ∧ w.heap.size < w'.heap.size ∧ Below w.heap.size w w') (first | exact box_drew (box_new x w _) (Nat.le_refl _) | exact box_keep (by assumption) (Nat.le_refl _) (by assumption))
    (first | (go_at_call 7; refine (rlen_any x hx _).mono ?_; rintro e w1 ⟨rfl, hb1⟩))
  rename_i hh
  have hb := hh.2.2
  clear hh hb1
  go_wp2
  go_ret
  refine ⟨ret_bool ?_, hb⟩
  show decide (IntKind.u32.wrap ((p : Int) - hd x) < (ln x : Int)) = _
  rw [wsub32 _ _ (by omega)]
  unfold has
  simp only [Int.ofNat_lt]
end Go.Proofs.YtpeikhoepbkggaaDoor
