/- The walk of SpanKnown. -/
import Derived.Test.YteofkhpofligaaaDoorKn
import Derived.Lib.QuietBelow
import Derived.BigQuiet
namespace Go.Proofs.YteofkhpofligaaaDoor
open Go.RowKit Go.Fm Go.Tx Go.Sm

theorem i64_and31 (n : Int) : bits .and .i64 n 31 = n % 32 := by
  have h31 : (BitVec.ofInt 64 31).toNat = 2 ^ 5 - 1 := by decide
  have key : (BitVec.ofInt 64 n &&& BitVec.ofInt 64 31).toNat = (n % ((2 ^ 64 : Nat) : Int)).toNat % 2 ^ 5 := by
    rw [BitVec.toNat_and, BitVec.toNat_ofInt, h31, Nat.and_two_pow_sub_one_eq_mod]
  show IntKind.i64.wrap ((BitVec.ofInt 64 n &&& BitVec.ofInt 64 31).toNat : Nat) = n % 32
  rw [key, IntKind.wrap_i64]
  omega
theorem Env.up {B : Nat} {w : World} (h : Env B w) : Env w.heap.size w :=
  ⟨Nat.le_refl _, fun w' hb => h.tab w' (hb.mono h.size), fun w' hb => h.syn w' (hb.mono h.size), fun w' hb => h.rng w' (hb.mono h.size)⟩
theorem sums_three {B : Nat} (a b c n : Int) (w : World) (h : Env B w) : Calls Tryd.prog 4 #[.slice (some ⟨w.heap.size, 0, none⟩) 3 3, .int .i64 n] (w.alloc (.cells #[.int .i64 a, .int .i64 b, .int .i64 c] 2)) fun e w' => e = .returned (.bool true) ∧ Below w.heap.size w w' := by
  have hb : Below w.heap.size w (w.alloc (.cells #[.int .i64 a, .int .i64 b, .int .i64 c] 2)) := (Below.refl _ _).alloc (Nat.le_refl _) _
  refine (law_sums (some ⟨w.heap.size, 0, none⟩) 3 [a, b, c] n (by simp) _ (h.on' hb).up (fun j hj => ⟨w.heap.size, 0, rfl, ?_⟩)).mono ?_
  · have : j = 0 ∨ j = 1 ∨ j = 2 := by simp at hj; omega
    rcases this with rfl | rfl | rfl <;> simp [World.cell?_alloc_new]
  · rintro e w' ⟨he, hw⟩
    exact ⟨he, bt hb hw⟩
theorem sums_nil {B : Nat} (n : Int) (w : World) (h : Env B w) : Calls Tryd.prog 4 #[.slice none 0 0, .int .i64 n] w fun e w' => e = .returned (.bool true) ∧ Below w.heap.size w w' :=
  law_sums none 0 [] n (by simp) w h.up (fun j hj => by simp at hj)

theorem txt_cells (w : World) (g : Nat) (hg : w.heap.size = g) : ∀ j, j < 15 → ∃ s : ByteArray, s.size ≤ 100 ∧ (w.alloc (.cells #[.string ⟨#[]⟩, .string ⟨#[46]⟩, .string ⟨#[48]⟩, .string ⟨#[48, 46]⟩, .string ⟨#[48, 46, 48, 48, 48, 48, 48, 48]⟩, .string ⟨#[48, 48, 46, 48, 48, 48, 48, 48, 48]⟩, .string ⟨#[48, 46, 48, 48, 48, 48, 48, 48, 48]⟩, .string ⟨#[49, 46, 48, 48, 48, 48, 48]⟩, .string ⟨#[45, 49, 46, 48, 48, 48, 48, 48, 48]⟩, .string ⟨#[49, 46, 48, 48, 48, 48, 48, 49]⟩, .string ⟨#[52, 54, 49, 49, 54, 56, 54, 48, 49, 56, 52, 50, 55, 46, 51, 56, 55, 57, 48, 52]⟩, .string ⟨#[52, 54, 49, 49, 54, 56, 54, 48, 49, 56, 52, 50, 55, 46, 51, 56, 55, 57, 48, 53]⟩, .string ⟨#[57, 57, 57, 57, 57, 57, 57, 57, 57, 57, 57, 57, 57, 57, 57, 57, 57, 57, 57, 57, 57, 57, 46, 48, 48, 48, 48, 48, 48]⟩, .string ⟨#[49, 44, 48, 48, 48, 48, 48, 48]⟩, .string ⟨#[32, 49, 46, 48, 48, 48, 48, 48, 48]⟩] 9)).cell? ⟨g, j, none⟩ = some (.string s) := by
  subst hg
  intro j hj
  have : j = 0 ∨ j = 1 ∨ j = 2 ∨ j = 3 ∨ j = 4 ∨ j = 5 ∨ j = 6 ∨ j = 7 ∨ j = 8 ∨ j = 9 ∨ j = 10 ∨ j = 11 ∨ j = 12 ∨ j = 13 ∨ j = 14 := by omega
  rcases this with rfl | rfl | rfl | rfl | rfl | rfl | rfl | rfl | rfl | rfl | rfl | rfl | rfl | rfl | rfl
  · exact ⟨⟨#[]⟩, by decide, by simp [World.cell?_alloc_new]⟩
  · exact ⟨⟨#[46]⟩, by decide, by simp [World.cell?_alloc_new]⟩
  · exact ⟨⟨#[48]⟩, by decide, by simp [World.cell?_alloc_new]⟩
  · exact ⟨⟨#[48, 46]⟩, by decide, by simp [World.cell?_alloc_new]⟩
  · exact ⟨⟨#[48, 46, 48, 48, 48, 48, 48, 48]⟩, by decide, by simp [World.cell?_alloc_new]⟩
  · exact ⟨⟨#[48, 48, 46, 48, 48, 48, 48, 48, 48]⟩, by decide, by simp [World.cell?_alloc_new]⟩
  · exact ⟨⟨#[48, 46, 48, 48, 48, 48, 48, 48, 48]⟩, by decide, by simp [World.cell?_alloc_new]⟩
  · exact ⟨⟨#[49, 46, 48, 48, 48, 48, 48]⟩, by decide, by simp [World.cell?_alloc_new]⟩
  · exact ⟨⟨#[45, 49, 46, 48, 48, 48, 48, 48, 48]⟩, by decide, by simp [World.cell?_alloc_new]⟩
  · exact ⟨⟨#[49, 46, 48, 48, 48, 48, 48, 49]⟩, by decide, by simp [World.cell?_alloc_new]⟩
  · exact ⟨⟨#[52, 54, 49, 49, 54, 56, 54, 48, 49, 56, 52, 50, 55, 46, 51, 56, 55, 57, 48, 52]⟩, by decide, by simp [World.cell?_alloc_new]⟩
  · exact ⟨⟨#[52, 54, 49, 49, 54, 56, 54, 48, 49, 56, 52, 50, 55, 46, 51, 56, 55, 57, 48, 53]⟩, by decide, by simp [World.cell?_alloc_new]⟩
  · exact ⟨⟨#[57, 57, 57, 57, 57, 57, 57, 57, 57, 57, 57, 57, 57, 57, 57, 57, 57, 57, 57, 57, 57, 57, 46, 48, 48, 48, 48, 48, 48]⟩, by decide, by simp [World.cell?_alloc_new]⟩
  · exact ⟨⟨#[49, 44, 48, 48, 48, 48, 48, 48]⟩, by decide, by simp [World.cell?_alloc_new]⟩
  · exact ⟨⟨#[32, 49, 46, 48, 48, 48, 48, 48, 48]⟩, by decide, by simp [World.cell?_alloc_new]⟩

set_option maxHeartbeats 400000 in
theorem infneg_any (w : World) : Calls Tryd.prog 25 #[.int .i64 (-1)] w fun e w' => e = .returned (.float .f64 18442240474082181120) ∧ w = w' := by
  have h := run_frombits 18442240474082181120 w
  go_enter Tryd.func25, Tryd.ntmps25
  go_wp2
  go_ret
  exact ⟨rfl, rfl⟩

theorem neg_any (f : Nat) : ∃ f', ∀ w, Sem.run Tryd.prog (Op.unary UnOp.neg (Value.float FloatKind.f64 f)) w = .ok (.float .f64 f') w := ⟨Op.negFloat .f64 f, fun _ => rfl⟩

theorem six_cells (w : World) (g : Nat) (hg : w.heap.size = g) (a b c d e f : Nat) : ∀ j, j < 6 → ∃ r, (w.alloc (.cells #[.float .f64 a, .float .f64 b, .float .f64 c, .float .f64 d, .float .f64 e, .float .f64 f] 22)).cell? ⟨g, j, none⟩ = some (.float .f64 r) := by
  subst hg
  intro j hj
  have : j = 0 ∨ j = 1 ∨ j = 2 ∨ j = 3 ∨ j = 4 ∨ j = 5 := by omega
  rcases this with rfl | rfl | rfl | rfl | rfl | rfl <;> exact ⟨_, by simp [World.cell?_alloc_new]; rfl⟩

open Go.Sort in
theorem nanos_reg {B : Nat} (x : Nat) (w : World) (h : Env B w) (d : Nat) (os : Array Obj) : Calls Tryd.prog 3 #[.float .f64 x] (grow (redrawn w d) os) fun e w'' => e = .returned (.bool true) ∧ ∃ p : Regrown, w'' = grow (redrawn w p.d) p.os :=
  Calls.regrown_of (law_nanos x _ (h.on' (below_regrown w d os)))
open Go.Sort in
theorem rises_reg {B : Nat} (x f : Nat) (k n : Int) (w : World) (h : Env B w) (d : Nat) (os : Array Obj) : Calls Tryd.prog 6 #[.float .f64 x, .float .f64 f, .int .u64 (IntKind.u64.wrap k), .int .i64 n] (grow (redrawn w d) os) fun e w'' => e = .returned (.bool true) ∧ ∃ p : Regrown, w'' = grow (redrawn w p.d) p.os :=
  Calls.regrown_of (law_rises x f _ n (by rw [u64_wrap]; omega) (by rw [u64_wrap]; omega) _ (h.on' (below_regrown w d os)))

set_option maxRecDepth 100000 in
set_option maxHeartbeats 4000000 in
theorem law_known (w : World) (h : Env w.heap.size w) : Calls Tryd.prog 7 #[] w fun e w' => e = .returned (.bool true) ∧ Below w.heap.size w w' := by
  obtain ⟨B, hB⟩ : ∃ B, w.heap.size = B := ⟨_, rfl⟩
  rw [hB] at h ⊢
  have hBle : B ≤ w.heap.size := by omega
  clear hB
  go_enter Tryd.func7, Tryd.ntmps7
  go_wp2_with fail
  go_loopw [1] (fun i wr => ∃ k : Int, -1074 ≤ k ∧ k ≤ 1024 ∧ i = .int .i64 k ∧ Below B w wr ∧ B ≤ wr.heap.size) (fun i _ => (1024 - intOf i).toNat)
  case atStart => exact ⟨-1074, by omega, by omega, rfl, Below.refl _ _, hBle⟩
  case round =>
    obtain ⟨k, hk0, hk1, rfl, hbw, hsz⟩ := hrel
    have hw := h.on hbw
    by_cases hk : k < 1024
    · go_wp2_with fail
      refine (Ldexp_any k hk0 hk _).mono ?_
      rintro e w1 ⟨f, rfl, hb1⟩
      obtain ⟨f', hneg⟩ := neg_any f
      obtain ⟨q1, n1, hop1⟩ := arith_any .mul (.inl rfl) 22 4613937818241073152 f w1
      obtain ⟨q2, n2, hop2⟩ := arith_any .quo (.inr rfl) 22 f 4696837146684686336 (w1.drewN n1)
      go_wp2_with (simp only [hneg])
      refine (next_any _ _ _).mono ?_
      rintro e w' ⟨r1, rfl, rfl⟩
      go_wp2_with fail
      refine (next_any _ _ _).mono ?_
      rintro e w' ⟨r2, rfl, rfl⟩
      go_wp2_with (first | simp only [hop1] | simp only [hop2])
      have hcells := six_cells (w1.drewN (n1 + n2)) w1.heap.size rfl f f' r1 r2 q1 q2
      have hbb : Below B w ((w1.drewN (n1 + n2)).alloc (.cells #[.float .f64 f, .float .f64 f', .float .f64 r1, .float .f64 r2, .float .f64 q1, .float .f64 q2] 22)) := (below_drewN (hbw.trans (hb1.mono hsz)) _).alloc (Nat.le_trans hsz hb1.size) _
      have hbs : B ≤ ((w1.drewN (n1 + n2)).alloc (.cells #[.float .f64 f, .float .f64 f', .float .f64 r1, .float .f64 r2, .float .f64 q1, .float .f64 q2] 22)).heap.size := by
        have := hb1.size; simp; omega
      clear hop1 hop2 hneg
      generalize ((w1.drewN (n1 + n2)).alloc (.cells #[.float .f64 f, .float .f64 f', .float .f64 r1, .float .f64 r2, .float .f64 q1, .float .f64 q2] 22)) = wb at *
      generalize w1.heap.size = g at *
      have HC := Lib.hid hcells
      have henvb := h.on hbb
      clear hcells
      go_loopw [4] (fun n w2 => ∃ j : Nat, j ≤ 6 ∧ n = .int .i64 j ∧ Below wb.heap.size wb w2) (fun n _ => 6 - (intOf n).toNat)
      case atStart => exact ⟨0, by omega, rfl, Below.refl _ _⟩
      case round =>
        obtain ⟨j, hj, rfl, hb2⟩ := hrel
        by_cases hj6 : j < 6
        · obtain ⟨x, hx⟩ := HC.out j hj6
          have hx2 : wr.cell? ⟨g, j, none⟩ = some (Value.float .f64 x) := by rw [hb2.cell (block_lt_of_cell hx)]; exact hx
          have hw2 : Env B wr := henvb.on' hb2
          have k0 := cell_regrown hx2
          have cA := fun d os => nanos_reg x wr hw2 d os
          have cR := fun n d os => rises_reg x f k n wr hw2 d os
          have HW2 := Lib.hid hw2
          clear hx hw2 henvb hw h
          go_wp2_with fail
          refine wp_region_quiet_below (by kernel_rfl) (by kernel_rfl) ?_
          have hand : bits BinOp.and IntKind.i64 k 31 = k % 32 := i64_and31 k
          have hs0 : 0 ≤ k % 32 := by omega
          have hs1 : k % 32 < 64 := by omega
          repeat (quiet_step (first | exact cA _ _ | exact cR _ _ _))
          refine wpQuiet_nil ?_
          intro _ hw'
          obtain ⟨⟨dq, osq⟩, hw''⟩ := hw'
          subst hw''
          have hb3 : Below wb.heap.size wb (Sort.grow (redrawn wr dq) osq) := hb2.trans ((below_regrown wr dq osq).mono hb2.size)
          clear k0 cA cR hand hs0 hs1 hx2
          go_wp2
          go_roundw
          case rel => exact ⟨j + 1, by omega, by go_num, hb3⟩
          case measure => simp [intOf]; omega
        · have hb3 : Below B w wr := hbb.trans (hb2.mono hbs)
          have hs3 : B ≤ wr.heap.size := Nat.le_trans hbs hb2.size
          go_wp2_with fail
          go_roundw
          case rel => exact ⟨k + 1, by omega, by omega, rfl, hb3, hs3⟩
          case measure => simp [intOf]; omega
    · go_wp2_with fail
      clear hk hk0 hk1
      have hA : ∃ wa : World, wa = wr := ⟨_, rfl⟩
      obtain ⟨wa, rfl⟩ := hA
      go_loopw [5] (fun i wr => ∃ i' : Int, 0 ≤ i' ∧ i' ≤ 63 ∧ i = .int .i64 i' ∧ Below B w wr ∧ B ≤ wr.heap.size) (fun i _ => (63 - intOf i).toNat)
      case atStart => exact ⟨0, by omega, by omega, rfl, hbw, hsz⟩
      case round =>
        obtain ⟨i, hi0, hi1, rfl, hbw2, hsz2⟩ := hrel
        by_cases hi : i < 63
        · go_wp2_with fail
          generalize wrap64 (2 ^ i.toNat) = n
          go_loopw [7] (fun q wr => ∃ q' : Int, -2 ≤ q' ∧ q' ≤ 3 ∧ q = .int .i64 q' ∧ Below B w wr ∧ B ≤ wr.heap.size) (fun q _ => (3 - intOf q).toNat)
          case atStart => exact ⟨-2, by omega, by omega, rfl, hbw2, hsz2⟩
          case round =>
            obtain ⟨q, hq0, hq1, rfl, hbw3, hsz3⟩ := hrel
            have hw3 : Env B wr := h.on hbw3
            by_cases hq : q < 3
            · go_wp2_with fail
              refine (sums_three _ _ _ _ _ hw3).mono ?_
              rintro e w1 ⟨rfl, hb1⟩
              have h1 := hw3.on' hb1
              go_wp2_with fail
              refine (rtext_any n _).mono ?_
              rintro e w2 ⟨l, hl, rfl, hb2⟩
              have hlen : (⟨l.toArray⟩ : ByteArray).size ≤ 9223372036854775807 := by rw [bsize, hl]; have := tx_len n; omega
              have h2 := h1.on' hb2
              clear hl
              go_wp2_with fail
              refine (law_texts _ _ hlen _ h2).mono ?_
              rintro e w3 ⟨rfl, hb3⟩
              have h3 := h2.on' hb3
              go_wp2_with fail
              refine (law_rises _ _ _ _ (by rw [u64_wrap]; omega) (by rw [u64_wrap]; omega) _ h3).mono ?_
              rintro e w4 ⟨rfl, hb4⟩
              have hbz : Below B w w4 := hbw3.trans ((bt (bt (bt hb1 hb2) hb3) hb4).mono hsz3)
              have hsz : B ≤ w4.heap.size := Nat.le_trans hsz3 (bt (bt (bt hb1 hb2) hb3) hb4).size
              clear h1 h2 h3 hb1 hb2 hb3 hb4 hlen
              go_wp2
              go_roundw
              case rel => exact ⟨q + 1, by omega, by omega, rfl, hbz, hsz⟩
              case measure => simp [intOf]; omega
            · go_wp2_with fail
              go_roundw
              case rel => exact ⟨i + 1, by omega, by omega, rfl, hbw3, hsz3⟩
              case measure => simp [intOf]; omega
        · go_wp2_with fail
          have hcells := txt_cells wr wr.heap.size rfl
          have hbb : Below B w (wr.alloc (.cells #[.string ⟨#[]⟩, .string ⟨#[46]⟩, .string ⟨#[48]⟩, .string ⟨#[48, 46]⟩, .string ⟨#[48, 46, 48, 48, 48, 48, 48, 48]⟩, .string ⟨#[48, 48, 46, 48, 48, 48, 48, 48, 48]⟩, .string ⟨#[48, 46, 48, 48, 48, 48, 48, 48, 48]⟩, .string ⟨#[49, 46, 48, 48, 48, 48, 48]⟩, .string ⟨#[45, 49, 46, 48, 48, 48, 48, 48, 48]⟩, .string ⟨#[49, 46, 48, 48, 48, 48, 48, 49]⟩, .string ⟨#[52, 54, 49, 49, 54, 56, 54, 48, 49, 56, 52, 50, 55, 46, 51, 56, 55, 57, 48, 52]⟩, .string ⟨#[52, 54, 49, 49, 54, 56, 54, 48, 49, 56, 52, 50, 55, 46, 51, 56, 55, 57, 48, 53]⟩, .string ⟨#[57, 57, 57, 57, 57, 57, 57, 57, 57, 57, 57, 57, 57, 57, 57, 57, 57, 57, 57, 57, 57, 57, 46, 48, 48, 48, 48, 48, 48]⟩, .string ⟨#[49, 44, 48, 48, 48, 48, 48, 48]⟩, .string ⟨#[32, 49, 46, 48, 48, 48, 48, 48, 48]⟩] 9)) := hbw2.alloc hsz2 _
          have hbs : B ≤ (wr.alloc (.cells #[.string ⟨#[]⟩, .string ⟨#[46]⟩, .string ⟨#[48]⟩, .string ⟨#[48, 46]⟩, .string ⟨#[48, 46, 48, 48, 48, 48, 48, 48]⟩, .string ⟨#[48, 48, 46, 48, 48, 48, 48, 48, 48]⟩, .string ⟨#[48, 46, 48, 48, 48, 48, 48, 48, 48]⟩, .string ⟨#[49, 46, 48, 48, 48, 48, 48]⟩, .string ⟨#[45, 49, 46, 48, 48, 48, 48, 48, 48]⟩, .string ⟨#[49, 46, 48, 48, 48, 48, 48, 49]⟩, .string ⟨#[52, 54, 49, 49, 54, 56, 54, 48, 49, 56, 52, 50, 55, 46, 51, 56, 55, 57, 48, 52]⟩, .string ⟨#[52, 54, 49, 49, 54, 56, 54, 48, 49, 56, 52, 50, 55, 46, 51, 56, 55, 57, 48, 53]⟩, .string ⟨#[57, 57, 57, 57, 57, 57, 57, 57, 57, 57, 57, 57, 57, 57, 57, 57, 57, 57, 57, 57, 57, 57, 46, 48, 48, 48, 48, 48, 48]⟩, .string ⟨#[49, 44, 48, 48, 48, 48, 48, 48]⟩, .string ⟨#[32, 49, 46, 48, 48, 48, 48, 48, 48]⟩] 9)).heap.size := by simp; omega
          generalize (wr.alloc (.cells #[.string ⟨#[]⟩, .string ⟨#[46]⟩, .string ⟨#[48]⟩, .string ⟨#[48, 46]⟩, .string ⟨#[48, 46, 48, 48, 48, 48, 48, 48]⟩, .string ⟨#[48, 48, 46, 48, 48, 48, 48, 48, 48]⟩, .string ⟨#[48, 46, 48, 48, 48, 48, 48, 48, 48]⟩, .string ⟨#[49, 46, 48, 48, 48, 48, 48]⟩, .string ⟨#[45, 49, 46, 48, 48, 48, 48, 48, 48]⟩, .string ⟨#[49, 46, 48, 48, 48, 48, 48, 49]⟩, .string ⟨#[52, 54, 49, 49, 54, 56, 54, 48, 49, 56, 52, 50, 55, 46, 51, 56, 55, 57, 48, 52]⟩, .string ⟨#[52, 54, 49, 49, 54, 56, 54, 48, 49, 56, 52, 50, 55, 46, 51, 56, 55, 57, 48, 53]⟩, .string ⟨#[57, 57, 57, 57, 57, 57, 57, 57, 57, 57, 57, 57, 57, 57, 57, 57, 57, 57, 57, 57, 57, 57, 46, 48, 48, 48, 48, 48, 48]⟩, .string ⟨#[49, 44, 48, 48, 48, 48, 48, 48]⟩, .string ⟨#[32, 49, 46, 48, 48, 48, 48, 48, 48]⟩] 9)) = wb at *
          generalize wr.heap.size = g at *
          have HC := Lib.hid hcells
          have henvb := h.on hbb
          clear hcells
          go_loopw [9] (fun n w2 => ∃ j : Nat, j ≤ 15 ∧ n = .int .i64 j ∧ Below wb.heap.size wb w2) (fun n _ => 15 - (intOf n).toNat)
          case atStart => exact ⟨0, by omega, rfl, Below.refl _ _⟩
          case round =>
            obtain ⟨j, hj, rfl, hb2⟩ := hrel
            have hw2 := henvb.on' hb2
            by_cases hj15 : j < 15
            · obtain ⟨x, hxs, hx⟩ := HC.out j hj15
              have hx2 : World.cell? _ ⟨g, j, none⟩ = some (Value.string x) := (hb2.cell (block_lt_of_cell hx)).trans hx
              clear hx
              go_wp2_with fail
              refine (law_texts _ _ (by omega) _ hw2).mono ?_
              rintro e w4 ⟨rfl, hb4⟩
              have hb5 := hb2.trans (hb4.mono hb2.size)
              clear hx2 hb4
              go_wp2
              go_roundw
              case rel => exact ⟨j + 1, by omega, by go_num, hb5⟩
              case measure => simp [intOf]; omega
            · go_wp2_with fail
              have h0 := hw2
              refine (nan_any _).mono ?_
              rintro e w' ⟨rfl, rfl⟩
              go_wp2_with fail
              refine (law_nanos _ _ h0).mono ?_
              rintro e w1 ⟨rfl, hb1⟩
              have h1 := h0.on' hb1
              go_wp2_with fail
              refine (inf_any _).mono ?_
              rintro e w' ⟨rfl, rfl⟩
              go_wp2_with fail
              refine (law_nanos _ _ h1).mono ?_
              rintro e w2 ⟨rfl, hb2'⟩
              have h2 := h1.on' hb2'
              go_wp2_with fail
              refine (infneg_any _).mono ?_
              rintro e w' ⟨rfl, rfl⟩
              go_wp2_with fail
              refine (law_nanos _ _ h2).mono ?_
              rintro e w3 ⟨rfl, hb3⟩
              have h3 := h2.on' hb3
              go_wp2_with fail
              refine (negzero_any _).mono ?_
              rintro e w' ⟨rfl, rfl⟩
              go_wp2_with fail
              refine (law_nanos _ _ h3).mono ?_
              rintro e w4 ⟨rfl, hb4⟩
              have h4 := h3.on' hb4
              go_wp2_with fail
              refine (law_nanos _ _ h4).mono ?_
              rintro e w5 ⟨rfl, hb5⟩
              have h5 := h4.on' hb5
              go_wp2_with fail
              refine (law_nanos _ _ h5).mono ?_
              rintro e w6 ⟨rfl, hb6⟩
              have h6 := h5.on' hb6
              go_wp2_with fail
              refine (sums_nil _ _ h6).mono ?_
              rintro e w7 ⟨rfl, hb7⟩
              have h7 := h6.on' hb7
              go_wp2_with fail
              refine (works_any _ h7).mono ?_
              rintro e w8 ⟨rfl, hb8⟩
              go_wp2
              go_ret
              exact ⟨rfl, hbb.trans ((hb2.trans ((bt (bt (bt (bt (bt (bt (bt hb1 hb2') hb3) hb4) hb5) hb6) hb7) hb8).mono hb2.size)).mono hbs)⟩
end Go.Proofs.YteofkhpofligaaaDoor
