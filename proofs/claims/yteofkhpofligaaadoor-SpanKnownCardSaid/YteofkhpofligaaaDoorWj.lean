/- The walk of works: the chapter's examples. -/
import Derived.Test.YteofkhpofligaaaDoorWh
import Derived.Test.YteofkhpofligaaaDoorWi
namespace Go.Proofs.YteofkhpofligaaaDoor
open Go.RowKit Go.Fm Go.Tx Go.Sm

theorem prd_some {b p q : Nat} (hp : Prd b p) (h : Ieee.double.mul b C6 = some q) : p = q := by
  rcases hp with hp | ⟨hn, _⟩
  · rw [h] at hp; exact (Option.some.inj hp).symm
  · rw [h] at hn; cases hn
theorem prd_none {b p : Nat} (hp : Prd b p) (h : Ieee.double.mul b C6 = none) : nanV p = 0 ∧ nanE p = 10 := by
  rcases hp with hp | ⟨_, hn⟩
  · rw [h] at hp; cases hp
  · exact nan_of_zero (ge_nan hn)

theorem nanos_at (b : Nat) (q : Nat) (V E : Int) (h : Ieee.double.mul b C6 = some q) (hv : nanV q = V) (he : nanE q = E) (w : World) :
    Calls Tryd.prog 8 #[.float .f64 b] w fun e w' => e = .returned (.tuple #[.int .i64 V, .int .i64 E]) ∧ Below w.heap.size w w' :=
  (nanos_any b w).mono fun e w' ⟨p, hp, he', hb⟩ => ⟨by rw [he', prd_some hp h, hv, he], hb⟩
theorem nanos_nan (b : Nat) (h : Ieee.double.mul b C6 = none) (w : World) :
    Calls Tryd.prog 8 #[.float .f64 b] w fun e w' => e = .returned (.tuple #[.int .i64 0, .int .i64 10]) ∧ Below w.heap.size w w' :=
  (nanos_any b w).mono fun e w' ⟨p, hp, he', hb⟩ => ⟨by rw [he', (prd_none hp h).1, (prd_none hp h).2], hb⟩

theorem ex1 (w : World) : Calls Tryd.prog 8 #[.float .f64 4609434218613702656] w fun e w' => e = .returned (.tuple #[.int .i64 1500000, .int .i64 0]) ∧ Below w.heap.size w w' :=
  nanos_at 4609434218613702656 ((Ieee.double.mul 4609434218613702656 C6).getD 0) 1500000 0 (by decide +kernel) (by decide +kernel) (by decide +kernel) w
theorem ex2 (w : World) : Calls Tryd.prog 8 #[.float .f64 9223372036854775808] w fun e w' => e = .returned (.tuple #[.int .i64 0, .int .i64 0]) ∧ Below w.heap.size w w' :=
  nanos_at 9223372036854775808 ((Ieee.double.mul 9223372036854775808 C6).getD 0) 0 0 (by decide +kernel) (by decide +kernel) (by decide +kernel) w
theorem ex3 (w : World) : Calls Tryd.prog 8 #[.float .f64 9221120237041090561] w fun e w' => e = .returned (.tuple #[.int .i64 0, .int .i64 10]) ∧ Below w.heap.size w w' :=
  nanos_nan 9221120237041090561 (by decide +kernel) w
theorem ex4 (w : World) : Calls Tryd.prog 8 #[.float .f64 13785626545772145148] w fun e w' => e = .returned (.tuple #[.int .i64 0, .int .i64 10]) ∧ Below w.heap.size w w' :=
  nanos_at 13785626545772145148 ((Ieee.double.mul 13785626545772145148 C6).getD 0) 0 10 (by decide +kernel) (by decide +kernel) (by decide +kernel) w
theorem ex5 (w : World) : Calls Tryd.prog 8 #[.float .f64 9218868437227405312] w fun e w' => e = .returned (.tuple #[.int .i64 4611686018427387904, .int .i64 0]) ∧ Below w.heap.size w w' :=
  nanos_at 9218868437227405312 ((Ieee.double.mul 9218868437227405312 C6).getD 0) 4611686018427387904 0 (by decide +kernel) (by decide +kernel) (by decide +kernel) w
theorem ex6 (w : World) : Calls Tryd.prog 10 #[.float .f64 4502148214488346440] w fun e w' => e = .returned (.int .i64 2) ∧ Below w.heap.size w w' :=
  (class_any _ w).mono fun e w' ⟨p, hp, he, hb⟩ => ⟨by rw [he, prd_some hp (show Ieee.double.mul 4502148214488346440 C6 = some ((Ieee.double.mul 4502148214488346440 C6).getD 0) by decide +kernel), show clsP ((Ieee.double.mul 4502148214488346440 C6).getD 0) = 2 by decide +kernel]; rfl, hb⟩

def t15 : List UInt8 := [49, 46, 53, 48, 48, 48, 48, 48]
theorem t15_eq : txt 1500000 = t15 := by
  unfold txt
  rw [show 1500000 / 1000000 = 1 by decide, Lib.decDigits_one (by decide)]
  decide +kernel
theorem ex7 {B : Nat} (w : World) (h : Env B w) : Calls Tryd.prog 19 #[.string ⟨#[49, 46, 53, 48, 48, 48, 48, 48]⟩] w fun e w' => e = .returned (.tuple #[.int .i64 1500000, .int .i64 0]) ∧ Below w.heap.size w w' := by
  refine (read_all ⟨#[49, 46, 53, 48, 48, 48, 48, 48]⟩ (by decide) w h).mono ?_
  rintro e w' ⟨v, x, hr, he, hb⟩
  have h1 : RS t15 1500000 0 := .inl ⟨1500000, by decide, t15_eq.symm, rfl, rfl⟩
  have h2 := RS_same hr h1
  rw [he, h2.1, h2.2]; exact ⟨rfl, hb⟩
theorem ex8 (w : World) : Calls Tryd.prog 19 #[.string ⟨#[49, 46, 53]⟩] w fun e w' => e = .returned (.tuple #[.int .i64 0, .int .i64 10]) ∧ w = w' :=
  read_out ⟨#[49, 46, 53]⟩ (by decide) (by decide) w
theorem ex9 {B : Nat} (w : World) (h : Env B w) : Calls Tryd.prog 18 #[.int .i64 1500000] w fun e w' => e = .returned (.string ⟨#[49, 46, 53, 48, 48, 48, 48, 48]⟩) ∧ Below w.heap.size w w' := by
  refine (text_any (B := B) 1500000 w h).mono ?_
  rintro e w' ⟨l, hl, he, hb⟩
  have h1 : tx 1500000 = t15 := by
    rw [show (1500000 : Int) = ((1500000 : Nat) : Int) from rfl, tx_nat (by decide), t15_eq]
  rw [he, hl, h1]; exact ⟨rfl, hb⟩

theorem bt {a b c : World} (h1 : Below a.heap.size a b) (h2 : Below b.heap.size b c) : Below a.heap.size a c := h1.trans (h2.mono h1.size)
theorem ex10 (w : World) : Calls Tryd.prog 14 #[.slice (some ⟨w.heap.size, 0, none⟩) 3 3] (w.alloc (.cells #[.int .i64 5, .int .i64 (-7), .int .i64 4611686018427387904] 2)) fun e w' => e = .returned (.int .i64 4611686018427387904) ∧ (w.alloc (.cells #[.int .i64 5, .int .i64 (-7), .int .i64 4611686018427387904] 2)) = w' := by
  refine (sum_any (some ⟨w.heap.size, 0, none⟩) 3 [5, -7, 4611686018427387904] _ ⟨by decide, fun j hj => ⟨w.heap.size, 0, rfl, ?_⟩⟩).mono ?_
  · have : j = 0 ∨ j = 1 ∨ j = 2 := by simp at hj; omega
    rcases this with rfl | rfl | rfl <;> simp [World.cell?_alloc_new]
  · rintro e w' ⟨he, hw⟩
    exact ⟨by rw [he, show S [5, -7, 4611686018427387904] = 4611686018427387904 by decide], hw⟩

set_option maxHeartbeats 1000000 in
theorem works_any {B : Nat} (w : World) (h : Env B w) : Calls Tryd.prog 12 #[] w fun e w' => e = .returned (.bool true) ∧ Below w.heap.size w w' := by
  go_enter Tryd.func12, Tryd.ntmps12
  go_wp2_with fail
  refine (ex1 _).mono ?_
  rintro e w1 ⟨rfl, hb1⟩
  have h1 := h.on' hb1
  go_wp2_with (go_at_call 26; refine (negzero_any _).mono ?_; rintro e w' ⟨rfl, rfl⟩)
  refine (ex2 _).mono ?_
  rintro e w2 ⟨rfl, hb2⟩
  have h2 := h1.on' hb2
  go_wp2_with (go_at_call 24; refine (nan_any _).mono ?_; rintro e w' ⟨rfl, rfl⟩)
  refine (ex3 _).mono ?_
  rintro e w3 ⟨rfl, hb3⟩
  have h3 := h2.on' hb3
  go_wp2_with fail
  refine (ex4 _).mono ?_
  rintro e w4 ⟨rfl, hb4⟩
  have h4 := h3.on' hb4
  go_wp2_with (go_at_call 25; refine (inf_any _).mono ?_; rintro e w' ⟨rfl, rfl⟩)
  refine (ex5 _).mono ?_
  rintro e w5 ⟨rfl, hb5⟩
  have h5 := h4.on' hb5
  go_wp2_with fail
  refine (ex7 _ h5).mono ?_
  rintro e w6 ⟨rfl, hb6⟩
  have h6 := h5.on' hb6
  go_wp2_with fail
  refine (ex8 _).mono ?_
  rintro e w' ⟨rfl, rfl⟩
  go_wp2_with fail
  refine (ex6 _).mono ?_
  rintro e w7 ⟨rfl, hb7⟩
  have h7 := h6.on' hb7
  go_wp2_with fail
  refine (ex10 _).mono ?_
  rintro e w' ⟨rfl, rfl⟩
  have hb8 : Below w7.heap.size w7 (w7.alloc (.cells #[.int .i64 5, .int .i64 (-7), .int .i64 4611686018427387904] 2)) := (Below.refl _ _).alloc (Nat.le_refl _) _
  have h8 := h7.on' hb8
  go_wp2_with fail
  refine (ex9 _ h8).mono ?_
  rintro e w9 ⟨rfl, hb9⟩
  go_wp2
  go_ret
  exact ⟨rfl, bt (bt (bt (bt (bt (bt (bt (bt hb1 hb2) hb3) hb4) hb5) hb6) hb7) hb8) hb9⟩
end Go.Proofs.YteofkhpofligaaaDoor
