/- The law ConfKnown (layer 5), walked. -/
import Derived.Test.YtkchbnojcfkkhaaDoorLb
import Derived.Test.YtkchbnojcfkkhaaDoorLc
import Derived.Test.YtkchbnojcfkkhaaDoorLd
namespace Go.Proofs.YtkchbnojcfkkhaaDoor
open Go.RowKit Go.Tx Go.Cg

theorem Env.upw {B : Nat} {w : World} (h : Env B w) : Env w.heap.size w := ⟨Nat.le_refl _, fun w' hb => h.tab w' (hb.mono h.size)⟩
theorem EnvC.up {B : Nat} {w : World} (h : EnvC B w) : EnvC w.heap.size w := ⟨h.base.upw, Nat.lt_of_lt_of_le h.gs h.base.size, Nat.lt_of_lt_of_le h.gn h.base.size, h.sh, h.nm⟩
theorem EnvR.up {B : Nat} {w : World} (h : EnvR B w) : EnvR w.heap.size w := ⟨h.base.up, Nat.lt_of_lt_of_le h.gm h.base.base.size, Nat.lt_of_lt_of_le h.gs h.base.base.size, Nat.lt_of_lt_of_le h.gr h.base.base.size, h.mx, h.sx, h.rg⟩
theorem strs_new (x : World) (l : List ByteArray) (t : TypeId) : ∀ j s, l[j]? = some s → (x.alloc (.cells (l.map Value.string).toArray t)).cell? ⟨x.heap.size, j, none⟩ = some (.string s) := by
  intro j s hs
  rw [World.cell?_alloc_new, List.getElem?_toArray, List.getElem?_map, hs]; rfl

theorem one_keep {h j g : Nat} {x a0 a1 a2 a3 a4 a5 : Value} {w u wr w1 : World} (hS : ((wr.cell? ⟨h, j, none⟩ = some x ∧ wr.cell? ⟨g, 0, none⟩ = some a0 ∧ wr.cell? ⟨g, 1, none⟩ = some a1 ∧ wr.cell? ⟨g, 2, none⟩ = some a2 ∧ wr.cell? ⟨g, 3, none⟩ = some a3 ∧ wr.cell? ⟨g, 4, none⟩ = some a4 ∧ wr.cell? ⟨g, 5, none⟩ = some a5) ∧ Below u.heap.size u wr) ∧ Below w.heap.size w wr) (hb : Below wr.heap.size wr w1) : ((w1.cell? ⟨h, j, none⟩ = some x ∧ w1.cell? ⟨g, 0, none⟩ = some a0 ∧ w1.cell? ⟨g, 1, none⟩ = some a1 ∧ w1.cell? ⟨g, 2, none⟩ = some a2 ∧ w1.cell? ⟨g, 3, none⟩ = some a3 ∧ w1.cell? ⟨g, 4, none⟩ = some a4 ∧ w1.cell? ⟨g, 5, none⟩ = some a5) ∧ Below u.heap.size u w1) ∧ Below w.heap.size w w1 :=
  ⟨⟨⟨k_al hS.1.1.1 hb, (six_keep ⟨hS.1.1.2, hS.2⟩ hb).1⟩, hS.1.2.trans (hb.mono hS.1.2.size)⟩, hS.2.trans (hb.mono hS.2.size)⟩

set_option maxRecDepth 20000 in
set_option maxHeartbeats 8000000 in
theorem law_known (w : World) (hE : EnvR w.heap.size w) : Calls Tryd.prog 7 #[] w (Ans (.bool true) w) := by
  have HE := Lib.hid hE
  clear hE
  go_enter Tryd.func7, Tryd.ntmps7
  go_wp2_with fail
  refine (example_any _).mono ?_
  rintro e w0 ⟨rfl, hb0⟩
  have HSa := Lib.hid (six_at 2 4 8 3 5 1 23 w0)
  have HS : Hid (((w0.alloc (.cells #[.int .i64 2, .int .i64 4, .int .i64 8, .int .i64 3, .int .i64 5, .int .i64 1] 23)).cell? ⟨w0.heap.size, 0, none⟩ = some (.int .i64 2) ∧ (w0.alloc (.cells #[.int .i64 2, .int .i64 4, .int .i64 8, .int .i64 3, .int .i64 5, .int .i64 1] 23)).cell? ⟨w0.heap.size, 1, none⟩ = some (.int .i64 4) ∧ (w0.alloc (.cells #[.int .i64 2, .int .i64 4, .int .i64 8, .int .i64 3, .int .i64 5, .int .i64 1] 23)).cell? ⟨w0.heap.size, 2, none⟩ = some (.int .i64 8) ∧ (w0.alloc (.cells #[.int .i64 2, .int .i64 4, .int .i64 8, .int .i64 3, .int .i64 5, .int .i64 1] 23)).cell? ⟨w0.heap.size, 3, none⟩ = some (.int .i64 3) ∧ (w0.alloc (.cells #[.int .i64 2, .int .i64 4, .int .i64 8, .int .i64 3, .int .i64 5, .int .i64 1] 23)).cell? ⟨w0.heap.size, 4, none⟩ = some (.int .i64 5) ∧ (w0.alloc (.cells #[.int .i64 2, .int .i64 4, .int .i64 8, .int .i64 3, .int .i64 5, .int .i64 1] 23)).cell? ⟨w0.heap.size, 5, none⟩ = some (.int .i64 1)) ∧ Below w.heap.size w (w0.alloc (.cells #[.int .i64 2, .int .i64 4, .int .i64 8, .int .i64 3, .int .i64 5, .int .i64 1] 23))) := ⟨HSa.out.1, hb0.trans (HSa.out.2.mono hb0.size)⟩
  clear HSa hb0
  go_wp2_with fail
  generalize w0.alloc (.cells #[.int .i64 2, .int .i64 4, .int .i64 8, .int .i64 3, .int .i64 5, .int .i64 1] 23) = W0 at HS ⊢
  generalize w0.heap.size = g1 at HS ⊢
  go_loopw [2] (fun vz wr => ∃ z : Int, -1 ≤ z ∧ z ≤ 70 ∧ vz = .int .i64 z ∧ Hid ((wr.cell? ⟨g1, 0, none⟩ = some (.int .i64 2) ∧ wr.cell? ⟨g1, 1, none⟩ = some (.int .i64 4) ∧ wr.cell? ⟨g1, 2, none⟩ = some (.int .i64 8) ∧ wr.cell? ⟨g1, 3, none⟩ = some (.int .i64 3) ∧ wr.cell? ⟨g1, 4, none⟩ = some (.int .i64 5) ∧ wr.cell? ⟨g1, 5, none⟩ = some (.int .i64 1)) ∧ Below w.heap.size w wr)) (fun vz _ => (70 - intOf vz).toNat)
  case atStart => exact ⟨-1, by omega, by omega, rfl, HS⟩
  case round =>
    obtain ⟨z, hz0, hz1, rfl, HSr⟩ := hrel
    clear HS
    have H0 := HSr.out.1
    obtain ⟨c0, c1, c2, c3, c4, c5⟩ := H0
    by_cases hz : z < 70
    · go_wp2_with fail
      have HT : Hid (∀ r, r < 36 → ∃ v : Int, (wr.alloc (.cells #[.int .i64 (z.tmod 12), .int .i64 (4), .int .i64 (8), .int .i64 (3), .int .i64 (5), .int .i64 (1), .int .i64 (2), .int .i64 (z), .int .i64 (8), .int .i64 (3), .int .i64 (5), .int .i64 (1), .int .i64 (2), .int .i64 (4), .int .i64 (z * 4 - 3), .int .i64 (3), .int .i64 (5), .int .i64 (1), .int .i64 (2), .int .i64 (4), .int .i64 (8), .int .i64 (z.tmod 20), .int .i64 (5), .int .i64 (1), .int .i64 (2), .int .i64 (4), .int .i64 (8), .int .i64 (3), .int .i64 (z * 3), .int .i64 (1), .int .i64 (2), .int .i64 (4), .int .i64 (8), .int .i64 (3), .int .i64 (5), .int .i64 (z * 15 - 3)] 23)).cell? ⟨wr.heap.size, r, none⟩ = some (.int .i64 v)) := fun r hr =>
        ⟨_, ints_new wr [z.tmod 12, 4, 8, 3, 5, 1, 2, z, 8, 3, 5, 1, 2, 4, z * 4 - 3, 3, 5, 1, 2, 4, 8, z.tmod 20, 5, 1, 2, 4, 8, 3, z * 3, 1, 2, 4, 8, 3, 5, z * 15 - 3] 23 r _ (List.getElem?_eq_getElem (show r < ([z.tmod 12, 4, 8, 3, 5, 1, 2, z, 8, 3, 5, 1, 2, 4, z * 4 - 3, 3, 5, 1, 2, 4, 8, z.tmod 20, 5, 1, 2, 4, 8, 3, z * 3, 1, 2, 4, 8, 3, 5, z * 15 - 3] : List Int).length from hr))⟩
      have HS2 := Lib.hid (six_keep HSr.out ((Below.refl _ _).alloc (Nat.le_refl _) (.cells #[.int .i64 (z.tmod 12), .int .i64 (4), .int .i64 (8), .int .i64 (3), .int .i64 (5), .int .i64 (1), .int .i64 (2), .int .i64 (z), .int .i64 (8), .int .i64 (3), .int .i64 (5), .int .i64 (1), .int .i64 (2), .int .i64 (4), .int .i64 (z * 4 - 3), .int .i64 (3), .int .i64 (5), .int .i64 (1), .int .i64 (2), .int .i64 (4), .int .i64 (8), .int .i64 (z.tmod 20), .int .i64 (5), .int .i64 (1), .int .i64 (2), .int .i64 (4), .int .i64 (8), .int .i64 (3), .int .i64 (z * 3), .int .i64 (1), .int .i64 (2), .int .i64 (4), .int .i64 (8), .int .i64 (3), .int .i64 (5), .int .i64 (z * 15 - 3)] 23)))
      generalize wr.alloc (.cells #[.int .i64 (z.tmod 12), .int .i64 (4), .int .i64 (8), .int .i64 (3), .int .i64 (5), .int .i64 (1), .int .i64 (2), .int .i64 (z), .int .i64 (8), .int .i64 (3), .int .i64 (5), .int .i64 (1), .int .i64 (2), .int .i64 (4), .int .i64 (z * 4 - 3), .int .i64 (3), .int .i64 (5), .int .i64 (1), .int .i64 (2), .int .i64 (4), .int .i64 (8), .int .i64 (z.tmod 20), .int .i64 (5), .int .i64 (1), .int .i64 (2), .int .i64 (4), .int .i64 (8), .int .i64 (3), .int .i64 (z * 3), .int .i64 (1), .int .i64 (2), .int .i64 (4), .int .i64 (8), .int .i64 (3), .int .i64 (5), .int .i64 (z * 15 - 3)] 23) = W2 at HT HS2 ⊢
      generalize wr.heap.size = g at HT ⊢
      clear HSr c0 c1 c2 c3 c4 c5
      obtain ⟨m, hm, hzm⟩ : ∃ m : Nat, m < 4294967296 ∧ IntKind.u32.wrap z = (m : Int) := by
        by_cases h : 0 ≤ z
        · exact ⟨z.toNat, by omega, by rw [IntWalk.u32_in _ (by omega)]; omega⟩
        · obtain rfl : z = -1 := by omega
          exact ⟨4294967295, by omega, by decide⟩
      go_loopw [4] (fun vk wx => ∃ k : Nat, k ≤ 6 ∧ vk = .int .i64 k ∧ Hid (∀ r, r < 36 → ∃ v : Int, wx.cell? ⟨g, r, none⟩ = some (.int .i64 v)) ∧ Hid ((wx.cell? ⟨g1, 0, none⟩ = some (.int .i64 2) ∧ wx.cell? ⟨g1, 1, none⟩ = some (.int .i64 4) ∧ wx.cell? ⟨g1, 2, none⟩ = some (.int .i64 8) ∧ wx.cell? ⟨g1, 3, none⟩ = some (.int .i64 3) ∧ wx.cell? ⟨g1, 4, none⟩ = some (.int .i64 5) ∧ wx.cell? ⟨g1, 5, none⟩ = some (.int .i64 1)) ∧ Below w.heap.size w wx)) (fun vk _ => 6 - (intOf vk).toNat)
      case atStart => exact ⟨0, by omega, rfl, HT, HS2⟩
      case round =>
        obtain ⟨k, hk, rfl, HTr, HSr⟩ := hrel
        clear HT HS2
        by_cases hk6 : k < 6
        · have hk6i : (k : Int) < 6 := by omega
          have hk0 : (0 : Int) ≤ k := by omega
          obtain ⟨a0, e0⟩ := HTr.out (k * 6) (by omega)
          obtain ⟨a1, e1⟩ := HTr.out (k * 6 + 1) (by omega)
          obtain ⟨a2, e2⟩ := HTr.out (k * 6 + 2) (by omega)
          obtain ⟨a3, e3⟩ := HTr.out (k * 6 + 3) (by omega)
          obtain ⟨a4, e4⟩ := HTr.out (k * 6 + 4) (by omega)
          obtain ⟨a5, e5⟩ := HTr.out (k * 6 + 5) (by omega)
          have e0 := cell_regrown e0
          have e1 := cell_regrown e1
          have e2 := cell_regrown e2
          have e3 := cell_regrown e3
          have e4 := cell_regrown e4
          have e5 := cell_regrown e5
          have kt := rtextc_any ⟨a0, a1, a2, a3, a4, a5⟩
          have hTl := txtC_len ⟨a0, a1, a2, a3, a4, a5⟩
          obtain ⟨T, hT⟩ : ∃ T, txtC ⟨a0, a1, a2, a3, a4, a5⟩ = T := ⟨_, rfl⟩
          simp only [hT] at kt hTl
          have hTs : (⟨T.toArray⟩ : ByteArray).size ≤ 9223372036854775807 := by simp [ByteArray.size]; omega
          clear hT hTl
          have cA (p : Int) : ∀ d os, Calls Tryd.prog 3 #[.agg #[.int .i64 a0, .int .i64 a1, .int .i64 a2, .int .i64 a3, .int .i64 a4, .int .i64 a5], .int .i64 p, .int .u32 m] (Sort.grow (redrawn wr d) os) fun e w'' => e = .returned (.bool true) ∧ ∃ p : Regrown, w'' = Sort.grow (redrawn wr p.d) p.os := fun d os => Calls.regrown_of (law_cells ⟨a0, a1, a2, a3, a4, a5⟩ p m hm _ ((HE.out.on' HSr.out.2).on' (below_regrown wr d os)).base.up)
          have cD : ∀ d os, Calls Tryd.prog 8 #[.agg #[.int .i64 a0, .int .i64 a1, .int .i64 a2, .int .i64 a3, .int .i64 a4, .int .i64 a5]] (Sort.grow (redrawn wr d) os) fun e w'' => e = .returned (.agg #[.int .i64 a0, .int .i64 a1, .int .i64 a2, .int .i64 a3, .int .i64 a4, .int .i64 a5]) ∧ ∃ p : Regrown, w'' = Sort.grow (redrawn wr p.d) p.os := fun d os => Calls.regrown_of (docs_any ⟨a0, a1, a2, a3, a4, a5⟩ _)
          have cT : ∀ d os, Calls Tryd.prog 29 #[.agg #[.int .i64 a0, .int .i64 a1, .int .i64 a2, .int .i64 a3, .int .i64 a4, .int .i64 a5]] (Sort.grow (redrawn wr d) os) fun e w'' => e = .returned (.string ⟨T.toArray⟩) ∧ ∃ p : Regrown, w'' = Sort.grow (redrawn wr p.d) p.os := fun d os => Calls.regrown_of ((kt _).mono fun e w' h => tells_is h)
          have cX : ∀ d os, Calls Tryd.prog 5 #[.agg #[.int .i64 a0, .int .i64 a1, .int .i64 a2, .int .i64 a3, .int .i64 a4, .int .i64 a5], .string ⟨T.toArray⟩] (Sort.grow (redrawn wr d) os) fun e w'' => e = .returned (.bool true) ∧ ∃ p : Regrown, w'' = Sort.grow (redrawn wr p.d) p.os := fun d os => Calls.regrown_of (law_texts ⟨a0, a1, a2, a3, a4, a5⟩ ⟨T.toArray⟩ hTs _ ((HE.out.on' HSr.out.2).on' (below_regrown wr d os)).up)
          have cN : ∀ d os, Calls Tryd.prog 4 #[.agg #[.int .i64 a0, .int .i64 a1, .int .i64 a2, .int .i64 a3, .int .i64 a4, .int .i64 a5], .int .i64 z, .string ⟨#[115, 108, 111, 116, 32, 49, 32, 51]⟩] (Sort.grow (redrawn wr d) os) fun e w'' => e = .returned (.bool true) ∧ ∃ p : Regrown, w'' = Sort.grow (redrawn wr p.d) p.os := fun d os => Calls.regrown_of (law_names ⟨a0, a1, a2, a3, a4, a5⟩ z ⟨#[115, 108, 111, 116, 32, 49, 32, 51]⟩ (by decide) _ ((HE.out.on' HSr.out.2).on' (below_regrown wr d os)).base.up)
          have cO : ∀ d os, Calls Tryd.prog 6 #[.agg #[.int .i64 a0, .int .i64 a1, .int .i64 a2, .int .i64 a3, .int .i64 a4, .int .i64 a5]] (Sort.grow (redrawn wr d) os) fun e w'' => e = .returned (.bool true) ∧ ∃ p : Regrown, w'' = Sort.grow (redrawn wr p.d) p.os := fun d os => Calls.regrown_of (law_once ⟨a0, a1, a2, a3, a4, a5⟩ _ ((HE.out.on' HSr.out.2).on' (below_regrown wr d os)).base.up)
          have HcA := Lib.hid cA
          have HcD := Lib.hid cD
          have HcT := Lib.hid cT
          have HcX := Lib.hid cX
          have HcN := Lib.hid cN
          have HcO := Lib.hid cO
          clear cA cD cT cX cN cO kt
          go_wp2_with fail
          by_cases h9 : z.tmod 9 = 0
          · refine wp_region_quiet_below (by kernel_rfl) (by kernel_rfl) ?_
            repeat (go_big_quiet_step (first | (with_reducible exact HcA.out _ _ _) | (with_reducible exact HcD.out _ _) | (with_reducible exact HcT.out _ _) | (with_reducible exact HcX.out _ _) | (with_reducible exact HcN.out _ _) | (with_reducible exact HcO.out _ _)))
            refine wpQuiet_nil ?_
            intro W6 hw'
            obtain ⟨⟨dq, osq⟩, hw2⟩ := hw'
            have HS6 : Hid ((W6.cell? ⟨g1, 0, none⟩ = some (.int .i64 2) ∧ W6.cell? ⟨g1, 1, none⟩ = some (.int .i64 4) ∧ W6.cell? ⟨g1, 2, none⟩ = some (.int .i64 8) ∧ W6.cell? ⟨g1, 3, none⟩ = some (.int .i64 3) ∧ W6.cell? ⟨g1, 4, none⟩ = some (.int .i64 5) ∧ W6.cell? ⟨g1, 5, none⟩ = some (.int .i64 1)) ∧ Below w.heap.size w W6) := by
              show (W6.cell? ⟨g1, 0, none⟩ = some (.int .i64 2) ∧ W6.cell? ⟨g1, 1, none⟩ = some (.int .i64 4) ∧ W6.cell? ⟨g1, 2, none⟩ = some (.int .i64 8) ∧ W6.cell? ⟨g1, 3, none⟩ = some (.int .i64 3) ∧ W6.cell? ⟨g1, 4, none⟩ = some (.int .i64 5) ∧ W6.cell? ⟨g1, 5, none⟩ = some (.int .i64 1)) ∧ Below w.heap.size w W6
              rw [hw2]; exact six_keep HSr.out (below_regrown wr dq osq)
            have HT6 : Hid (∀ r, r < 36 → ∃ v : Int, W6.cell? ⟨g, r, none⟩ = some (.int .i64 v)) := fun r hr => by
              obtain ⟨v, hv⟩ := HTr.out r hr
              exact ⟨v, by rw [hw2]; exact k_al hv (below_regrown wr dq osq)⟩
            clear hw2 e0 e1 e2 e3 e4 e5
            go_wp2_with fail
            go_roundw
            case rel => exact ⟨k + 1, hk6, by go_num, HT6, HS6⟩
            case measure =>
              show _ < _
              simp only [intOf]; omega
          · have h9d : (z.tmod 9 == 0) = false := by simp [h9]
            refine wp_region_quiet_below (by kernel_rfl) (by kernel_rfl) ?_
            repeat (go_big_quiet_step (first | (with_reducible exact HcA.out _ _ _) | (with_reducible exact HcD.out _ _) | (with_reducible exact HcT.out _ _) | (with_reducible exact HcX.out _ _) | (with_reducible exact HcN.out _ _) | (with_reducible exact HcO.out _ _)))
            refine wpQuiet_nil ?_
            intro W6 hw'
            obtain ⟨⟨dq, osq⟩, hw2⟩ := hw'
            have HS6 : Hid ((W6.cell? ⟨g1, 0, none⟩ = some (.int .i64 2) ∧ W6.cell? ⟨g1, 1, none⟩ = some (.int .i64 4) ∧ W6.cell? ⟨g1, 2, none⟩ = some (.int .i64 8) ∧ W6.cell? ⟨g1, 3, none⟩ = some (.int .i64 3) ∧ W6.cell? ⟨g1, 4, none⟩ = some (.int .i64 5) ∧ W6.cell? ⟨g1, 5, none⟩ = some (.int .i64 1)) ∧ Below w.heap.size w W6) := by
              show (W6.cell? ⟨g1, 0, none⟩ = some (.int .i64 2) ∧ W6.cell? ⟨g1, 1, none⟩ = some (.int .i64 4) ∧ W6.cell? ⟨g1, 2, none⟩ = some (.int .i64 8) ∧ W6.cell? ⟨g1, 3, none⟩ = some (.int .i64 3) ∧ W6.cell? ⟨g1, 4, none⟩ = some (.int .i64 5) ∧ W6.cell? ⟨g1, 5, none⟩ = some (.int .i64 1)) ∧ Below w.heap.size w W6
              rw [hw2]; exact six_keep HSr.out (below_regrown wr dq osq)
            have HT6 : Hid (∀ r, r < 36 → ∃ v : Int, W6.cell? ⟨g, r, none⟩ = some (.int .i64 v)) := fun r hr => by
              obtain ⟨v, hv⟩ := HTr.out r hr
              exact ⟨v, by rw [hw2]; exact k_al hv (below_regrown wr dq osq)⟩
            clear hw2 e0 e1 e2 e3 e4 e5
            go_wp2_with fail
            go_roundw
            case rel => exact ⟨k + 1, hk6, by go_num, HT6, HS6⟩
            case measure =>
              show _ < _
              simp only [intOf]; omega
        · obtain rfl : k = 6 := by omega
          have hz1' : z + 1 ≤ 70 := by omega
          have hz0' : -1 ≤ z + 1 := by omega
          clear HTr
          go_wp2_with fail
          go_roundw
          case rel => exact ⟨z + 1, hz0', hz1', by go_num, HSr⟩
          case measure =>
            show _ < _
            simp only [intOf]; omega
    · have hzi : ¬ (z < 70) := hz
      have HT : Hid (∀ r, r < 13 → ∃ x : ByteArray, x.size ≤ 100 ∧ (wr.alloc (.cells #[.string ⟨#[]⟩, .string ⟨#[116, 105, 99, 107, 101, 116]⟩, .string ⟨#[116, 105, 99, 107, 101, 116, 32]⟩, .string ⟨#[119, 111, 114, 100]⟩, .string ⟨#[119, 111, 114, 100, 32, 48]⟩, .string ⟨#[119, 111, 114, 100, 32, 50]⟩, .string ⟨#[119, 111, 114, 100, 32, 48, 48]⟩, .string ⟨#[115, 108, 111, 116, 32, 49]⟩, .string ⟨#[115, 108, 111, 116, 32, 49, 32, 51]⟩, .string ⟨#[115, 108, 111, 116, 32, 49, 32, 52]⟩, .string ⟨#[115, 108, 111, 116, 32, 48, 32, 45, 49]⟩, .string ⟨#[70, 108, 97, 103, 32, 49]⟩, .string ⟨#[115, 121, 115, 32, 49]⟩] 9)).cell? ⟨wr.heap.size, r, none⟩ = some (.string x)) := fun r hr =>
        ⟨_, (by decide : ∀ x ∈ ([⟨#[]⟩, ⟨#[116, 105, 99, 107, 101, 116]⟩, ⟨#[116, 105, 99, 107, 101, 116, 32]⟩, ⟨#[119, 111, 114, 100]⟩, ⟨#[119, 111, 114, 100, 32, 48]⟩, ⟨#[119, 111, 114, 100, 32, 50]⟩, ⟨#[119, 111, 114, 100, 32, 48, 48]⟩, ⟨#[115, 108, 111, 116, 32, 49]⟩, ⟨#[115, 108, 111, 116, 32, 49, 32, 51]⟩, ⟨#[115, 108, 111, 116, 32, 49, 32, 52]⟩, ⟨#[115, 108, 111, 116, 32, 48, 32, 45, 49]⟩, ⟨#[70, 108, 97, 103, 32, 49]⟩, ⟨#[115, 121, 115, 32, 49]⟩] : List ByteArray), x.size ≤ 100) _ (List.getElem_mem (show r < ([⟨#[]⟩, ⟨#[116, 105, 99, 107, 101, 116]⟩, ⟨#[116, 105, 99, 107, 101, 116, 32]⟩, ⟨#[119, 111, 114, 100]⟩, ⟨#[119, 111, 114, 100, 32, 48]⟩, ⟨#[119, 111, 114, 100, 32, 50]⟩, ⟨#[119, 111, 114, 100, 32, 48, 48]⟩, ⟨#[115, 108, 111, 116, 32, 49]⟩, ⟨#[115, 108, 111, 116, 32, 49, 32, 51]⟩, ⟨#[115, 108, 111, 116, 32, 49, 32, 52]⟩, ⟨#[115, 108, 111, 116, 32, 48, 32, 45, 49]⟩, ⟨#[70, 108, 97, 103, 32, 49]⟩, ⟨#[115, 121, 115, 32, 49]⟩] : List ByteArray).length from hr)), strs_new wr [⟨#[]⟩, ⟨#[116, 105, 99, 107, 101, 116]⟩, ⟨#[116, 105, 99, 107, 101, 116, 32]⟩, ⟨#[119, 111, 114, 100]⟩, ⟨#[119, 111, 114, 100, 32, 48]⟩, ⟨#[119, 111, 114, 100, 32, 50]⟩, ⟨#[119, 111, 114, 100, 32, 48, 48]⟩, ⟨#[115, 108, 111, 116, 32, 49]⟩, ⟨#[115, 108, 111, 116, 32, 49, 32, 51]⟩, ⟨#[115, 108, 111, 116, 32, 49, 32, 52]⟩, ⟨#[115, 108, 111, 116, 32, 48, 32, 45, 49]⟩, ⟨#[70, 108, 97, 103, 32, 49]⟩, ⟨#[115, 121, 115, 32, 49]⟩] 9 r _ (List.getElem?_eq_getElem (show r < ([⟨#[]⟩, ⟨#[116, 105, 99, 107, 101, 116]⟩, ⟨#[116, 105, 99, 107, 101, 116, 32]⟩, ⟨#[119, 111, 114, 100]⟩, ⟨#[119, 111, 114, 100, 32, 48]⟩, ⟨#[119, 111, 114, 100, 32, 50]⟩, ⟨#[119, 111, 114, 100, 32, 48, 48]⟩, ⟨#[115, 108, 111, 116, 32, 49]⟩, ⟨#[115, 108, 111, 116, 32, 49, 32, 51]⟩, ⟨#[115, 108, 111, 116, 32, 49, 32, 52]⟩, ⟨#[115, 108, 111, 116, 32, 48, 32, 45, 49]⟩, ⟨#[70, 108, 97, 103, 32, 49]⟩, ⟨#[115, 121, 115, 32, 49]⟩] : List ByteArray).length from hr))⟩
      have HS2 := Lib.hid (six_keep HSr.out ((Below.refl _ _).alloc (Nat.le_refl _) (.cells #[.string ⟨#[]⟩, .string ⟨#[116, 105, 99, 107, 101, 116]⟩, .string ⟨#[116, 105, 99, 107, 101, 116, 32]⟩, .string ⟨#[119, 111, 114, 100]⟩, .string ⟨#[119, 111, 114, 100, 32, 48]⟩, .string ⟨#[119, 111, 114, 100, 32, 50]⟩, .string ⟨#[119, 111, 114, 100, 32, 48, 48]⟩, .string ⟨#[115, 108, 111, 116, 32, 49]⟩, .string ⟨#[115, 108, 111, 116, 32, 49, 32, 51]⟩, .string ⟨#[115, 108, 111, 116, 32, 49, 32, 52]⟩, .string ⟨#[115, 108, 111, 116, 32, 48, 32, 45, 49]⟩, .string ⟨#[70, 108, 97, 103, 32, 49]⟩, .string ⟨#[115, 121, 115, 32, 49]⟩] 9)))
      go_wp2_with fail
      generalize wr.alloc (.cells #[.string ⟨#[]⟩, .string ⟨#[116, 105, 99, 107, 101, 116]⟩, .string ⟨#[116, 105, 99, 107, 101, 116, 32]⟩, .string ⟨#[119, 111, 114, 100]⟩, .string ⟨#[119, 111, 114, 100, 32, 48]⟩, .string ⟨#[119, 111, 114, 100, 32, 50]⟩, .string ⟨#[119, 111, 114, 100, 32, 48, 48]⟩, .string ⟨#[115, 108, 111, 116, 32, 49]⟩, .string ⟨#[115, 108, 111, 116, 32, 49, 32, 51]⟩, .string ⟨#[115, 108, 111, 116, 32, 49, 32, 52]⟩, .string ⟨#[115, 108, 111, 116, 32, 48, 32, 45, 49]⟩, .string ⟨#[70, 108, 97, 103, 32, 49]⟩, .string ⟨#[115, 121, 115, 32, 49]⟩] 9) = W2 at HT HS2 ⊢
      generalize wr.heap.size = g at HT ⊢
      clear HSr
      go_loopw [6] (fun vi wx => ∃ i : Nat, i ≤ 13 ∧ vi = .int .i64 i ∧ Hid (∀ r, r < 13 → ∃ x : ByteArray, x.size ≤ 100 ∧ wx.cell? ⟨g, r, none⟩ = some (.string x)) ∧ Hid ((wx.cell? ⟨g1, 0, none⟩ = some (.int .i64 2) ∧ wx.cell? ⟨g1, 1, none⟩ = some (.int .i64 4) ∧ wx.cell? ⟨g1, 2, none⟩ = some (.int .i64 8) ∧ wx.cell? ⟨g1, 3, none⟩ = some (.int .i64 3) ∧ wx.cell? ⟨g1, 4, none⟩ = some (.int .i64 5) ∧ wx.cell? ⟨g1, 5, none⟩ = some (.int .i64 1)) ∧ Below w.heap.size w wx)) (fun vi _ => 13 - (intOf vi).toNat)
      case atStart => exact ⟨0, by omega, rfl, HT, HS2⟩
      case round =>
        obtain ⟨i, hi, rfl, HTr, HSr⟩ := hrel
        clear HT HS2
        by_cases hi6 : i < 13
        · have hii : (i : Int) < 13 := by omega
          have hi0 : (0 : Int) ≤ i := by omega
          obtain ⟨x, hx, hcx⟩ := HTr.out i hi6
          have kl (a : Int) {X : Prop} (w' : World) (h : X ∧ Below w.heap.size w w') : Calls Tryd.prog 4 #[.agg #[.int .i64 2, .int .i64 4, .int .i64 8, .int .i64 3, .int .i64 5, .int .i64 1], .int .i64 a, .string x] w' (Ans (.bool true) w') := law_names ⟨2, 4, 8, 3, 5, 1⟩ a x (by omega) w' (HE.out.at h).base.up
          have HC : Hid (((wr.cell? ⟨g, i, none⟩ = some (.string x) ∧ wr.cell? ⟨g1, 0, none⟩ = some (.int .i64 2) ∧ wr.cell? ⟨g1, 1, none⟩ = some (.int .i64 4) ∧ wr.cell? ⟨g1, 2, none⟩ = some (.int .i64 8) ∧ wr.cell? ⟨g1, 3, none⟩ = some (.int .i64 3) ∧ wr.cell? ⟨g1, 4, none⟩ = some (.int .i64 5) ∧ wr.cell? ⟨g1, 5, none⟩ = some (.int .i64 1)) ∧ Below wr.heap.size wr wr) ∧ Below w.heap.size w wr) := ⟨⟨⟨hcx, HSr.out.1⟩, .refl _ _⟩, HSr.out.2⟩
          clear hcx
          go_wp2_with fail
          go_region_held3 (fun w' => ((w'.cell? ⟨g, i, none⟩ = some (.string x) ∧ w'.cell? ⟨g1, 0, none⟩ = some (.int .i64 2) ∧ w'.cell? ⟨g1, 1, none⟩ = some (.int .i64 4) ∧ w'.cell? ⟨g1, 2, none⟩ = some (.int .i64 8) ∧ w'.cell? ⟨g1, 3, none⟩ = some (.int .i64 3) ∧ w'.cell? ⟨g1, 4, none⟩ = some (.int .i64 5) ∧ w'.cell? ⟨g1, 5, none⟩ = some (.int .i64 1)) ∧ Below wr.heap.size wr w') ∧ Below w.heap.size w w') (first | with_reducible exact one_keep HC.out (Below.refl _ _).drew | with_reducible exact one_keep (by assumption) (by assumption))
            (first | (go_at_call 4; refine (kl _ _ (by assumption)).mono ?_; rintro e x1 ⟨rfl, hx1⟩))
          rename_i hh
          have HS6 : Hid ((x1.cell? ⟨g1, 0, none⟩ = some (.int .i64 2) ∧ x1.cell? ⟨g1, 1, none⟩ = some (.int .i64 4) ∧ x1.cell? ⟨g1, 2, none⟩ = some (.int .i64 8) ∧ x1.cell? ⟨g1, 3, none⟩ = some (.int .i64 3) ∧ x1.cell? ⟨g1, 4, none⟩ = some (.int .i64 5) ∧ x1.cell? ⟨g1, 5, none⟩ = some (.int .i64 1)) ∧ Below w.heap.size w x1) := ⟨hh.1.1.2, hh.2⟩
          have HT6 : Hid (∀ r, r < 13 → ∃ x : ByteArray, x.size ≤ 100 ∧ x1.cell? ⟨g, r, none⟩ = some (.string x)) := fun r hr => by
            obtain ⟨v, hv, hv2⟩ := HTr.out r hr
            exact ⟨v, hv, k_al hv2 hh.1.2⟩
          clear hh HC kl HTr HSr
          go_wp2_with fail
          go_roundw
          case rel => exact ⟨i + 1, hi6, by go_num, HT6, HS6⟩
          case measure =>
            show _ < _
            simp only [intOf]; omega
        · have hii : ¬ ((i : Int) < 13) := by omega
          clear HTr
          have HT : Hid (∀ r, r < 10 → ∃ x : ByteArray, x.size ≤ 100 ∧ (wr.alloc (.cells #[.string ⟨#[]⟩, .string ⟨#[110, 32, 50, 32, 113, 32, 52, 32, 103, 32, 56, 32, 109, 32, 51, 32, 116, 32, 53, 32, 115, 32, 49]⟩, .string ⟨#[110, 32, 50, 32, 113, 32, 52, 32, 103, 32, 56, 32, 109, 32, 51, 32, 116, 32, 53, 32, 115, 32, 49, 32]⟩, .string ⟨#[110, 32, 50, 32, 113, 32, 52, 32, 103, 32, 56, 32, 109, 32, 51, 32, 116, 32, 53]⟩, .string ⟨#[110, 32, 50, 32, 113, 32, 53, 32, 103, 32, 56, 32, 109, 32, 51, 32, 116, 32, 53, 32, 115, 32, 49]⟩, .string ⟨#[110, 32, 48, 50, 32, 113, 32, 52, 32, 103, 32, 56, 32, 109, 32, 51, 32, 116, 32, 53, 32, 115, 32, 49]⟩, .string ⟨#[113, 32, 52, 32, 110, 32, 50, 32, 103, 32, 56, 32, 109, 32, 51, 32, 116, 32, 53, 32, 115, 32, 49]⟩, .string ⟨#[110, 32, 50, 32, 113, 32, 52, 32, 103, 32, 56, 32, 109, 32, 50, 32, 116, 32, 53, 32, 115, 32, 49]⟩, .string ⟨#[110, 32, 56, 32, 113, 32, 54, 52, 32, 103, 32, 50, 53, 54, 32, 109, 32, 49, 54, 32, 116, 32, 50, 48, 48, 32, 115, 32, 49, 48, 48, 48]⟩, .string ⟨#[110, 32, 45, 50, 32, 113, 32, 52, 32, 103, 32, 56, 32, 109, 32, 51, 32, 116, 32, 53, 32, 115, 32, 49]⟩] 9)).cell? ⟨wr.heap.size, r, none⟩ = some (.string x)) := fun r hr =>
            ⟨_, (by decide : ∀ x ∈ ([⟨#[]⟩, ⟨#[110, 32, 50, 32, 113, 32, 52, 32, 103, 32, 56, 32, 109, 32, 51, 32, 116, 32, 53, 32, 115, 32, 49]⟩, ⟨#[110, 32, 50, 32, 113, 32, 52, 32, 103, 32, 56, 32, 109, 32, 51, 32, 116, 32, 53, 32, 115, 32, 49, 32]⟩, ⟨#[110, 32, 50, 32, 113, 32, 52, 32, 103, 32, 56, 32, 109, 32, 51, 32, 116, 32, 53]⟩, ⟨#[110, 32, 50, 32, 113, 32, 53, 32, 103, 32, 56, 32, 109, 32, 51, 32, 116, 32, 53, 32, 115, 32, 49]⟩, ⟨#[110, 32, 48, 50, 32, 113, 32, 52, 32, 103, 32, 56, 32, 109, 32, 51, 32, 116, 32, 53, 32, 115, 32, 49]⟩, ⟨#[113, 32, 52, 32, 110, 32, 50, 32, 103, 32, 56, 32, 109, 32, 51, 32, 116, 32, 53, 32, 115, 32, 49]⟩, ⟨#[110, 32, 50, 32, 113, 32, 52, 32, 103, 32, 56, 32, 109, 32, 50, 32, 116, 32, 53, 32, 115, 32, 49]⟩, ⟨#[110, 32, 56, 32, 113, 32, 54, 52, 32, 103, 32, 50, 53, 54, 32, 109, 32, 49, 54, 32, 116, 32, 50, 48, 48, 32, 115, 32, 49, 48, 48, 48]⟩, ⟨#[110, 32, 45, 50, 32, 113, 32, 52, 32, 103, 32, 56, 32, 109, 32, 51, 32, 116, 32, 53, 32, 115, 32, 49]⟩] : List ByteArray), x.size ≤ 100) _ (List.getElem_mem (show r < ([⟨#[]⟩, ⟨#[110, 32, 50, 32, 113, 32, 52, 32, 103, 32, 56, 32, 109, 32, 51, 32, 116, 32, 53, 32, 115, 32, 49]⟩, ⟨#[110, 32, 50, 32, 113, 32, 52, 32, 103, 32, 56, 32, 109, 32, 51, 32, 116, 32, 53, 32, 115, 32, 49, 32]⟩, ⟨#[110, 32, 50, 32, 113, 32, 52, 32, 103, 32, 56, 32, 109, 32, 51, 32, 116, 32, 53]⟩, ⟨#[110, 32, 50, 32, 113, 32, 53, 32, 103, 32, 56, 32, 109, 32, 51, 32, 116, 32, 53, 32, 115, 32, 49]⟩, ⟨#[110, 32, 48, 50, 32, 113, 32, 52, 32, 103, 32, 56, 32, 109, 32, 51, 32, 116, 32, 53, 32, 115, 32, 49]⟩, ⟨#[113, 32, 52, 32, 110, 32, 50, 32, 103, 32, 56, 32, 109, 32, 51, 32, 116, 32, 53, 32, 115, 32, 49]⟩, ⟨#[110, 32, 50, 32, 113, 32, 52, 32, 103, 32, 56, 32, 109, 32, 50, 32, 116, 32, 53, 32, 115, 32, 49]⟩, ⟨#[110, 32, 56, 32, 113, 32, 54, 52, 32, 103, 32, 50, 53, 54, 32, 109, 32, 49, 54, 32, 116, 32, 50, 48, 48, 32, 115, 32, 49, 48, 48, 48]⟩, ⟨#[110, 32, 45, 50, 32, 113, 32, 52, 32, 103, 32, 56, 32, 109, 32, 51, 32, 116, 32, 53, 32, 115, 32, 49]⟩] : List ByteArray).length from hr)), strs_new wr [⟨#[]⟩, ⟨#[110, 32, 50, 32, 113, 32, 52, 32, 103, 32, 56, 32, 109, 32, 51, 32, 116, 32, 53, 32, 115, 32, 49]⟩, ⟨#[110, 32, 50, 32, 113, 32, 52, 32, 103, 32, 56, 32, 109, 32, 51, 32, 116, 32, 53, 32, 115, 32, 49, 32]⟩, ⟨#[110, 32, 50, 32, 113, 32, 52, 32, 103, 32, 56, 32, 109, 32, 51, 32, 116, 32, 53]⟩, ⟨#[110, 32, 50, 32, 113, 32, 53, 32, 103, 32, 56, 32, 109, 32, 51, 32, 116, 32, 53, 32, 115, 32, 49]⟩, ⟨#[110, 32, 48, 50, 32, 113, 32, 52, 32, 103, 32, 56, 32, 109, 32, 51, 32, 116, 32, 53, 32, 115, 32, 49]⟩, ⟨#[113, 32, 52, 32, 110, 32, 50, 32, 103, 32, 56, 32, 109, 32, 51, 32, 116, 32, 53, 32, 115, 32, 49]⟩, ⟨#[110, 32, 50, 32, 113, 32, 52, 32, 103, 32, 56, 32, 109, 32, 50, 32, 116, 32, 53, 32, 115, 32, 49]⟩, ⟨#[110, 32, 56, 32, 113, 32, 54, 52, 32, 103, 32, 50, 53, 54, 32, 109, 32, 49, 54, 32, 116, 32, 50, 48, 48, 32, 115, 32, 49, 48, 48, 48]⟩, ⟨#[110, 32, 45, 50, 32, 113, 32, 52, 32, 103, 32, 56, 32, 109, 32, 51, 32, 116, 32, 53, 32, 115, 32, 49]⟩] 9 r _ (List.getElem?_eq_getElem (show r < ([⟨#[]⟩, ⟨#[110, 32, 50, 32, 113, 32, 52, 32, 103, 32, 56, 32, 109, 32, 51, 32, 116, 32, 53, 32, 115, 32, 49]⟩, ⟨#[110, 32, 50, 32, 113, 32, 52, 32, 103, 32, 56, 32, 109, 32, 51, 32, 116, 32, 53, 32, 115, 32, 49, 32]⟩, ⟨#[110, 32, 50, 32, 113, 32, 52, 32, 103, 32, 56, 32, 109, 32, 51, 32, 116, 32, 53]⟩, ⟨#[110, 32, 50, 32, 113, 32, 53, 32, 103, 32, 56, 32, 109, 32, 51, 32, 116, 32, 53, 32, 115, 32, 49]⟩, ⟨#[110, 32, 48, 50, 32, 113, 32, 52, 32, 103, 32, 56, 32, 109, 32, 51, 32, 116, 32, 53, 32, 115, 32, 49]⟩, ⟨#[113, 32, 52, 32, 110, 32, 50, 32, 103, 32, 56, 32, 109, 32, 51, 32, 116, 32, 53, 32, 115, 32, 49]⟩, ⟨#[110, 32, 50, 32, 113, 32, 52, 32, 103, 32, 56, 32, 109, 32, 50, 32, 116, 32, 53, 32, 115, 32, 49]⟩, ⟨#[110, 32, 56, 32, 113, 32, 54, 52, 32, 103, 32, 50, 53, 54, 32, 109, 32, 49, 54, 32, 116, 32, 50, 48, 48, 32, 115, 32, 49, 48, 48, 48]⟩, ⟨#[110, 32, 45, 50, 32, 113, 32, 52, 32, 103, 32, 56, 32, 109, 32, 51, 32, 116, 32, 53, 32, 115, 32, 49]⟩] : List ByteArray).length from hr))⟩
          have HS2 := Lib.hid (six_keep HSr.out ((Below.refl _ _).alloc (Nat.le_refl _) (.cells #[.string ⟨#[]⟩, .string ⟨#[110, 32, 50, 32, 113, 32, 52, 32, 103, 32, 56, 32, 109, 32, 51, 32, 116, 32, 53, 32, 115, 32, 49]⟩, .string ⟨#[110, 32, 50, 32, 113, 32, 52, 32, 103, 32, 56, 32, 109, 32, 51, 32, 116, 32, 53, 32, 115, 32, 49, 32]⟩, .string ⟨#[110, 32, 50, 32, 113, 32, 52, 32, 103, 32, 56, 32, 109, 32, 51, 32, 116, 32, 53]⟩, .string ⟨#[110, 32, 50, 32, 113, 32, 53, 32, 103, 32, 56, 32, 109, 32, 51, 32, 116, 32, 53, 32, 115, 32, 49]⟩, .string ⟨#[110, 32, 48, 50, 32, 113, 32, 52, 32, 103, 32, 56, 32, 109, 32, 51, 32, 116, 32, 53, 32, 115, 32, 49]⟩, .string ⟨#[113, 32, 52, 32, 110, 32, 50, 32, 103, 32, 56, 32, 109, 32, 51, 32, 116, 32, 53, 32, 115, 32, 49]⟩, .string ⟨#[110, 32, 50, 32, 113, 32, 52, 32, 103, 32, 56, 32, 109, 32, 50, 32, 116, 32, 53, 32, 115, 32, 49]⟩, .string ⟨#[110, 32, 56, 32, 113, 32, 54, 52, 32, 103, 32, 50, 53, 54, 32, 109, 32, 49, 54, 32, 116, 32, 50, 48, 48, 32, 115, 32, 49, 48, 48, 48]⟩, .string ⟨#[110, 32, 45, 50, 32, 113, 32, 52, 32, 103, 32, 56, 32, 109, 32, 51, 32, 116, 32, 53, 32, 115, 32, 49]⟩] 9)))
          go_wp2_with fail
          generalize wr.alloc (.cells #[.string ⟨#[]⟩, .string ⟨#[110, 32, 50, 32, 113, 32, 52, 32, 103, 32, 56, 32, 109, 32, 51, 32, 116, 32, 53, 32, 115, 32, 49]⟩, .string ⟨#[110, 32, 50, 32, 113, 32, 52, 32, 103, 32, 56, 32, 109, 32, 51, 32, 116, 32, 53, 32, 115, 32, 49, 32]⟩, .string ⟨#[110, 32, 50, 32, 113, 32, 52, 32, 103, 32, 56, 32, 109, 32, 51, 32, 116, 32, 53]⟩, .string ⟨#[110, 32, 50, 32, 113, 32, 53, 32, 103, 32, 56, 32, 109, 32, 51, 32, 116, 32, 53, 32, 115, 32, 49]⟩, .string ⟨#[110, 32, 48, 50, 32, 113, 32, 52, 32, 103, 32, 56, 32, 109, 32, 51, 32, 116, 32, 53, 32, 115, 32, 49]⟩, .string ⟨#[113, 32, 52, 32, 110, 32, 50, 32, 103, 32, 56, 32, 109, 32, 51, 32, 116, 32, 53, 32, 115, 32, 49]⟩, .string ⟨#[110, 32, 50, 32, 113, 32, 52, 32, 103, 32, 56, 32, 109, 32, 50, 32, 116, 32, 53, 32, 115, 32, 49]⟩, .string ⟨#[110, 32, 56, 32, 113, 32, 54, 52, 32, 103, 32, 50, 53, 54, 32, 109, 32, 49, 54, 32, 116, 32, 50, 48, 48, 32, 115, 32, 49, 48, 48, 48]⟩, .string ⟨#[110, 32, 45, 50, 32, 113, 32, 52, 32, 103, 32, 56, 32, 109, 32, 51, 32, 116, 32, 53, 32, 115, 32, 49]⟩] 9) = W2 at HT HS2 ⊢
          generalize wr.heap.size = g at HT ⊢
          clear HSr
          go_loopw [8] (fun vi wx => ∃ i : Nat, i ≤ 10 ∧ vi = .int .i64 i ∧ Hid (∀ r, r < 10 → ∃ x : ByteArray, x.size ≤ 100 ∧ wx.cell? ⟨g, r, none⟩ = some (.string x)) ∧ Hid ((wx.cell? ⟨g1, 0, none⟩ = some (.int .i64 2) ∧ wx.cell? ⟨g1, 1, none⟩ = some (.int .i64 4) ∧ wx.cell? ⟨g1, 2, none⟩ = some (.int .i64 8) ∧ wx.cell? ⟨g1, 3, none⟩ = some (.int .i64 3) ∧ wx.cell? ⟨g1, 4, none⟩ = some (.int .i64 5) ∧ wx.cell? ⟨g1, 5, none⟩ = some (.int .i64 1)) ∧ Below w.heap.size w wx)) (fun vi _ => 10 - (intOf vi).toNat)
          case atStart => exact ⟨0, by omega, rfl, HT, HS2⟩
          case round =>
            obtain ⟨i, hi, rfl, HTr, HSr⟩ := hrel
            clear HT HS2
            by_cases hi6 : i < 10
            · have hii : (i : Int) < 10 := by omega
              have hi0 : (0 : Int) ≤ i := by omega
              obtain ⟨x, hx, hcx⟩ := HTr.out i hi6
              have kl {X : Prop} (w' : World) (h : X ∧ Below w.heap.size w w') : Calls Tryd.prog 5 #[.agg #[.int .i64 2, .int .i64 4, .int .i64 8, .int .i64 3, .int .i64 5, .int .i64 1], .string x] w' (Ans (.bool true) w') := law_texts ⟨2, 4, 8, 3, 5, 1⟩ x (by omega) w' (HE.out.at h).up
              have HC : Hid (((wr.cell? ⟨g, i, none⟩ = some (.string x) ∧ wr.cell? ⟨g1, 0, none⟩ = some (.int .i64 2) ∧ wr.cell? ⟨g1, 1, none⟩ = some (.int .i64 4) ∧ wr.cell? ⟨g1, 2, none⟩ = some (.int .i64 8) ∧ wr.cell? ⟨g1, 3, none⟩ = some (.int .i64 3) ∧ wr.cell? ⟨g1, 4, none⟩ = some (.int .i64 5) ∧ wr.cell? ⟨g1, 5, none⟩ = some (.int .i64 1)) ∧ Below wr.heap.size wr wr) ∧ Below w.heap.size w wr) := ⟨⟨⟨hcx, HSr.out.1⟩, .refl _ _⟩, HSr.out.2⟩
              clear hcx
              go_wp2_with fail
              go_region_held3 (fun w' => ((w'.cell? ⟨g, i, none⟩ = some (.string x) ∧ w'.cell? ⟨g1, 0, none⟩ = some (.int .i64 2) ∧ w'.cell? ⟨g1, 1, none⟩ = some (.int .i64 4) ∧ w'.cell? ⟨g1, 2, none⟩ = some (.int .i64 8) ∧ w'.cell? ⟨g1, 3, none⟩ = some (.int .i64 3) ∧ w'.cell? ⟨g1, 4, none⟩ = some (.int .i64 5) ∧ w'.cell? ⟨g1, 5, none⟩ = some (.int .i64 1)) ∧ Below wr.heap.size wr w') ∧ Below w.heap.size w w') (first | with_reducible exact one_keep HC.out (Below.refl _ _).drew | with_reducible exact one_keep (by assumption) (by assumption))
                (first | (go_at_call 5; refine (kl _ (by assumption)).mono ?_; rintro e x1 ⟨rfl, hx1⟩))
              rename_i hh
              have HS6 : Hid ((x1.cell? ⟨g1, 0, none⟩ = some (.int .i64 2) ∧ x1.cell? ⟨g1, 1, none⟩ = some (.int .i64 4) ∧ x1.cell? ⟨g1, 2, none⟩ = some (.int .i64 8) ∧ x1.cell? ⟨g1, 3, none⟩ = some (.int .i64 3) ∧ x1.cell? ⟨g1, 4, none⟩ = some (.int .i64 5) ∧ x1.cell? ⟨g1, 5, none⟩ = some (.int .i64 1)) ∧ Below w.heap.size w x1) := ⟨hh.1.1.2, hh.2⟩
              have HT6 : Hid (∀ r, r < 10 → ∃ x : ByteArray, x.size ≤ 100 ∧ x1.cell? ⟨g, r, none⟩ = some (.string x)) := fun r hr => by
                obtain ⟨v, hv, hv2⟩ := HTr.out r hr
                exact ⟨v, hv, k_al hv2 hh.1.2⟩
              clear hh HC kl HTr HSr
              go_wp2_with fail
              go_roundw
              case rel => exact ⟨i + 1, hi6, by go_num, HT6, HS6⟩
              case measure =>
                show _ < _
                simp only [intOf]; omega
            · have hii : ¬ ((i : Int) < 10) := by omega
              clear HTr
              have k1 (w' : World) (h : Below w.heap.size w w') : Calls Tryd.prog 6 #[.agg #[.int .i64 (8), .int .i64 (64), .int .i64 (256), .int .i64 (16), .int .i64 (200), .int .i64 (1000)]] w' (Ans (.bool true) w') := law_once ⟨8, 64, 256, 16, 200, 1000⟩ w' (HE.out.on' h).base.up
              have k2 (w' : World) (h : Below w.heap.size w w') : Calls Tryd.prog 3 #[.agg #[.int .i64 (-9223372036854775808), .int .i64 (-9223372036854775808), .int .i64 (0), .int .i64 (9223372036854775807), .int .i64 (0), .int .i64 (0)], .int .i64 0, .int .u32 0] w' (Ans (.bool true) w') := law_cells ⟨-9223372036854775808, -9223372036854775808, 0, 9223372036854775807, 0, 0⟩ 0 0 (by decide) w' (HE.out.on' h).base.up
              have k3 (w' : World) (h : Below w.heap.size w w') : Calls Tryd.prog 3 #[.agg #[.int .i64 2, .int .i64 4, .int .i64 8, .int .i64 3, .int .i64 5, .int .i64 1], .int .i64 1, .int .u32 4294967295] w' (Ans (.bool true) w') := law_cells ⟨2, 4, 8, 3, 5, 1⟩ 1 4294967295 (by decide) w' (HE.out.on' h).base.up
              have kw (w' : World) (h : Below w.heap.size w w') := works_any w' (HE.out.on' h).base
              go_wp2_with fail
              refine (k1 _ HSr.out.2).mono ?_
              rintro e v1 ⟨rfl, hb⟩
              have HV1 := Lib.hid (six_keep HSr.out hb)
              clear hb k1 HSr
              go_wp2_with fail
              refine (k2 _ HV1.out.2).mono ?_
              rintro e v2 ⟨rfl, hb⟩
              have HV2 := Lib.hid (six_keep HV1.out hb)
              clear hb k2 HV1
              have H0 := HV2.out.1
              obtain ⟨c0, c1, c2, c3, c4, c5⟩ := H0
              go_wp2_with fail
              refine (k3 _ HV2.out.2).mono ?_
              rintro e v3 ⟨rfl, hb⟩
              have HV3 := Lib.hid (six_keep HV2.out hb)
              clear hb k3 HV2 c0 c1 c2 c3 c4 c5
              go_wp2_with fail
              refine (kw _ HV3.out.2).mono ?_
              rintro e v4 ⟨rfl, hb⟩
              have HB := Lib.hid (HV3.out.2.trans (hb.mono HV3.out.2.size))
              clear hb
              go_wp2
              go_ret
              exact ⟨rfl, HB.out⟩
end Go.Proofs.YtkchbnojcfkkhaaDoor
