/- The reference's Right and digits (layer 5), walked. -/
import Derived.Test.YtkchbnojcfkkhaaDoorDg
import Derived.Test.YtkchbnojcfkkhaaDoorAn
import Derived.Test.YtkchbnojcfkkhaaDoorVp
import Derived.BigQuiet
import Derived.LoopTactic
namespace Go.Proofs.YtkchbnojcfkkhaaDoor
open Go.RowKit Go.Tx Go.Cg

/-- a config as a value, and its cells -/
def cCells (c : Cfg) : List Value := [.int .i64 c.n, .int .i64 c.q, .int .i64 c.g, .int .i64 c.m, .int .i64 c.t, .int .i64 c.s]
def cVal (c : Cfg) : Value := .agg #[.int .i64 c.n, .int .i64 c.q, .int .i64 c.g, .int .i64 c.m, .int .i64 c.t, .int .i64 c.s]

theorem rdig_any (x : Int) (n : Nat) (hx : x = n) (hn : n ≤ 9223372036854775807) (w : World) : Calls Tryd.prog 34 #[.int .i64 x] w (Tells (· = dc n) w) := by
  subst hx
  have h1 : IntKind.u64.wrap (n : Int) = n := IntWalk.u64_in _ (by omega)
  go_enter Tryd.func34, Tryd.ntmps34
  go_wp2_with fail
  refine (digits_at _ _ n 1 (by omega) (by omega) (by omega) (by omega) _).mono ?_
  rintro e w1 ⟨l, ⟨k, hk, hl⟩, rfl, hb⟩
  have HD := Lib.hid (show l = dc n by rw [hl]; exact digits_one hk)
  clear hk hl
  go_wp2
  go_ret
  exact ⟨l, HD.out, rfl, hb⟩
/-- is it one of the rooms, as far as the loop has come? -/
def rm (q : Int) : Nat → Bool
  | 0 => false
  | k + 1 => rm q k || decide (q = 2 ^ (k + 1))
theorem rm_six (q : Int) : rm q 6 = true ↔ (q = 2 ∨ q = 4 ∨ q = 8 ∨ q = 16 ∨ q = 32 ∨ q = 64) := by
  simp [rm]; omega
open Classical in
noncomputable def rt (c : Cfg) : Bool := decide (Right c)
open Classical in
theorem rt_yes {c : Cfg} (h : Right c) : rt c = true := by unfold rt; exact decide_eq_true h
open Classical in
theorem rt_no {c : Cfg} (h : ¬ Right c) : rt c = false := by unfold rt; exact decide_eq_false h

set_option maxRecDepth 10000 in
set_option maxHeartbeats 400000 in
theorem right_any (c : Cfg) (w : World) : Calls Tryd.prog 10 #[cVal c] w (Ans (.bool (rt c)) w) := by
  obtain ⟨n, q, g, m, t, s⟩ := c
  show Calls _ _ #[.agg #[.int .i64 n, .int .i64 q, .int .i64 g, .int .i64 m, .int .i64 t, .int .i64 s]] _ _
  obtain ⟨res, hres⟩ : ∃ b, rt ⟨n, q, g, m, t, s⟩ = b := ⟨_, rfl⟩
  rw [hres]
  have HR := Lib.hid hres
  clear hres
  go_enter Tryd.func10, Tryd.ntmps10
  go_wp2_with fail
  have hrow := Row.new w 25 (cCells ⟨n, q, g, m, t, s⟩)
  have hbel := (Below.refl w.heap.size w).alloc (Nat.le_refl _) (.cells #[.int .i64 n, .int .i64 q, .int .i64 g, .int .i64 m, .int .i64 t, .int .i64 s] 25)
  have hcell (i : Nat) := hrow.cell i
  obtain ⟨W, hW⟩ : ∃ W, w.alloc (.cells #[.int .i64 n, .int .i64 q, .int .i64 g, .int .i64 m, .int .i64 t, .int .i64 s] 25) = W := ⟨_, rfl⟩
  change ∀ i, (w.alloc (.cells #[.int .i64 n, .int .i64 q, .int .i64 g, .int .i64 m, .int .i64 t, .int .i64 s] 25)).cell? ⟨w.heap.size, i, none⟩ = _ at hcell
  rw [hW] at hcell hbel ⊢
  have c0 := hcell 0
  have c1 := hcell 1
  have c2 := hcell 2
  have c3 := hcell 3
  have c4 := hcell 4
  have c5 := hcell 5
  simp only [cCells, List.getElem?_cons_zero, List.getElem?_cons_succ] at c0 c1 c2 c3 c4 c5
  have HB := Lib.hid hbel
  clear hrow hbel hcell hW
  go_loopw [3, 4] (fun vr vq wr => ∃ k p : Nat, k ≤ 6 ∧ Hid (p = 2 ^ (k + 1)) ∧ p ≤ 128 ∧ (p ≤ 64 ↔ k < 6) ∧ vq = .int .i64 p ∧ vr = .bool (rm q k) ∧ wr = W) (fun _ vq _ => 128 - (intOf vq).toNat)
  case atStart => exact ⟨0, 2, by omega, rfl, by omega, by omega, rfl, rfl, rfl⟩
  case round =>
    obtain ⟨k, p, hk, HP, hp, hpk, rfl, rfl, rfl⟩ := hrel
    obtain ⟨r, hr⟩ : ∃ r, rm q k = r := ⟨_, rfl⟩
    rw [hr]
    by_cases hp64 : p ≤ 64
    · have hp1 : 2 ≤ p := by have := HP.out; have h2 := Nat.one_le_two_pow (n := k); rw [Nat.pow_succ] at this; omega
      have hP2 : Hid (p * 2 = 2 ^ (k + 1 + 1)) := by have := HP.out; show _ = _; rw [Nat.pow_succ, ← this]
      have hqp : decide (q = ((2 ^ (k + 1) : Nat) : Int)) = decide (q = (p : Int)) := by rw [HP.out]
      have hk6 : k + 1 ≤ 6 := by omega
      have hpp : p * 2 ≤ 64 ↔ k + 1 < 6 := by
        have hk' : k = 0 ∨ k = 1 ∨ k = 2 ∨ k = 3 ∨ k = 4 ∨ k = 5 := by omega
        have := HP.out
        rcases hk' with rfl | rfl | rfl | rfl | rfl | rfl <;> omega
      have HN : Hid (rm q (k + 1) = (r || decide (q = (p : Int)))) := by show (rm q k || decide (q = 2 ^ (k + 1))) = _; rw [hr, ← hqp]; norm_cast
      cases r
      · go_wp2_with fail
        go_roundw
        case rel => exact ⟨k + 1, p * 2, hk6, hP2, by omega, hpp, by go_num, by rw [HN.out]; rfl, trivial⟩
        case measure =>
          show _ < _
          simp only [intOf]; omega
      · go_wp2_with fail
        go_roundw
        case rel => exact ⟨k + 1, p * 2, hk6, hP2, by omega, hpp, by go_num, by rw [HN.out]; rfl, trivial⟩
        case measure =>
          show _ < _
          simp only [intOf]; omega
    · obtain rfl : k = 6 := by omega
      have hsix := rm_six q
      rw [hr] at hsix
      have HS := Lib.hid hsix
      clear hr hsix
      have no (h : ¬ Right ⟨n, q, g, m, t, s⟩) : res = false := by rw [← HR.out]; exact rt_no h
      cases r
      · obtain rfl := no (fun h => by have := HS.out.2 h.q; cases this)
        go_wp2
        go_ret
        exact ⟨rfl, HB.out⟩
      · by_cases h : 1 ≤ n
        rotate_left
        · obtain rfl := no (fun h' => h (by have := h'.n.1; simpa using this))
          go_wp2
          go_ret
          exact ⟨rfl, HB.out⟩
        · by_cases h : n ≤ 8
          rotate_left
          · obtain rfl := no (fun h' => h (by have := h'.n.2; simpa using this))
            go_wp2
            go_ret
            exact ⟨rfl, HB.out⟩
          · by_cases h : 1 ≤ g
            rotate_left
            · obtain rfl := no (fun h' => h (by have := h'.g.1; simpa using this))
              go_wp2
              go_ret
              exact ⟨rfl, HB.out⟩
            · by_cases h : g ≤ 256
              rotate_left
              · obtain rfl := no (fun h' => h (by have := h'.g.2; simpa using this))
                go_wp2
                go_ret
                exact ⟨rfl, HB.out⟩
              · by_cases h : n < m
                rotate_left
                · obtain rfl := no (fun h' => h (by have := h'.m.1; simpa using this))
                  go_wp2
                  go_ret
                  exact ⟨rfl, HB.out⟩
                · by_cases h : m ≤ 16
                  rotate_left
                  · obtain rfl := no (fun h' => h (by have := h'.m.2; simpa using this))
                    go_wp2
                    go_ret
                    exact ⟨rfl, HB.out⟩
                  · by_cases h : 2 ≤ t
                    rotate_left
                    · obtain rfl := no (fun h' => h (by have := h'.t.1; simpa using this))
                      go_wp2
                      go_ret
                      exact ⟨rfl, HB.out⟩
                    · by_cases h : t ≤ 200
                      rotate_left
                      · obtain rfl := no (fun h' => h (by have := h'.t.2; simpa using this))
                        go_wp2
                        go_ret
                        exact ⟨rfl, HB.out⟩
                      · by_cases h : 0 ≤ s
                        rotate_left
                        · obtain rfl := no (fun h' => h (by have := h'.s.1; simpa using this))
                          go_wp2
                          go_ret
                          exact ⟨rfl, HB.out⟩
                        · by_cases h : s ≤ 1000
                          rotate_left
                          · obtain rfl := no (fun h' => h (by have := h'.s.2; simpa using this))
                            go_wp2
                            go_ret
                            exact ⟨rfl, HB.out⟩
                          · obtain rfl : res = true := by rw [← HR.out]; exact rt_yes ⟨HS.out.1 rfl, ⟨by assumption, by assumption⟩, ⟨by assumption, by assumption⟩, ⟨by assumption, by assumption⟩, ⟨by assumption, by assumption⟩, ⟨by assumption, by assumption⟩⟩
                            go_wp2
                            go_ret
                            exact ⟨rfl, HB.out⟩
end Go.Proofs.YtkchbnojcfkkhaaDoor
