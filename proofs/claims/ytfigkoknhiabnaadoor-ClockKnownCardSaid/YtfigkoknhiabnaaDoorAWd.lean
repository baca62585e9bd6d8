/- The walks of the reference's exact and Nanos. -/
import Derived.Test.YtfigkoknhiabnaaDoorAWc
namespace Go.Proofs.YtfigkoknhiabnaaDoor
open Go.RowKit Go.Fm

theorem le_yes {x y : Nat} (h : (FloatKind.f64.format.order x y == some Ordering.lt) = true ∨ (FloatKind.f64.format.order x y == some Ordering.eq) = true) : le x y = true := by
  show (_ || _) = true
  rcases h with h | h
  · show ((FloatKind.f64.format.order x y == some Ordering.lt) || _) = true
    rw [h]; rfl
  · show (_ || (FloatKind.f64.format.order x y == some Ordering.eq)) = true
    rw [h, Bool.or_true]
theorem le_no {x y : Nat} (h : (FloatKind.f64.format.order x y == some Ordering.lt) = false ∧ (FloatKind.f64.format.order x y == some Ordering.eq) = false) : le x y = false := by
  show ((FloatKind.f64.format.order x y == some Ordering.lt) || (FloatKind.f64.format.order x y == some Ordering.eq)) = false
  rw [h.1, h.2]; rfl

/-- what the digits are asked of: a number from 0 (or -0) to below 2^62 -/
structure Dig (p : Nat) : Prop where
  fin : rg p < INF
  ge0 : ge p 0 = true
  lt : vv 0 (rg p) / U < 4611686018427387904
theorem Dig.sv {p : Nat} (h : Dig p) : Fm.sv p = (vv 0 (rg p) : Int) := sv_ge h.fin h.ge0

theorem dig_conv {p : Nat} (h : Dig p) : ∀ w, (convert 52 2 (.float .f64 p)).run Tryd.prog w = .ok (.int .i64 ((vv 0 (rg p) / U : Nat) : Int)) w := by
  intro w
  refine run_convert_float_int w 52 2 .f64 .i64 p _ (by rw [Tryd.underlying52]; rfl) Tryd.underlying2 ?_
  unfold floatToIntVal
  have h1 := toInt_ge h.fin h.ge0
  have hb := h.lt
  have h' : (FloatKind.f64.decode p).toInt .zero = some ((vv 0 (rg p) / U : Nat) : Int) := h1
  rw [h']
  have : IntKind.i64.min ≤ ((vv 0 (rg p) / U : Nat) : Int) ∧ ((vv 0 (rg p) / U : Nat) : Int) ≤ IntKind.i64.max := by
    show (-9223372036854775808 : Int) ≤ _ ∧ _ ≤ (9223372036854775807 : Int)
    generalize vv 0 (rg p) / U = T at hb
    omega
  simp only []
  rw [if_pos this]

theorem dec_nat {a b : Nat} {m : Int} (h : m = a) : decide (m ≤ (b : Int)) = decide (a ≤ b) := by
  subst h; by_cases c : a ≤ b
  · rw [decide_eq_true c, decide_eq_true (by omega)]
  · rw [decide_eq_false c, decide_eq_false (by omega)]

def ExPost (m : Int) (p T : Nat) (w : World) (e : Ending) (w' : World) : Prop := ((ge p K53 = true ∧ e = .returned (.bool (decide (m ≤ (T : Int))))) ∨ (ge p K53 = false ∧ e = .returned (.bool (le (floatOfInt .f64 m) p)))) ∧ w = w'

set_option maxHeartbeats 400000 in
theorem exact_core (m : Int) (p T : Nat) (w : World) (hc : ∀ w, (convert 52 2 (.float .f64 p)).run Tryd.prog w = .ok (.int .i64 (T : Int)) w) :
    Calls Tryd.prog 40 #[.int .i64 m, .float .f64 p] w (ExPost m p T w) := by
  go_enter Tryd.func40, Tryd.ntmps40
  go_wp2
  · go_ret
    exact ⟨.inl ⟨ge_yes (by assumption), rfl⟩, rfl⟩
  · go_ret
    exact ⟨.inr ⟨ge_no (by assumption), rfl⟩, rfl⟩

theorem exact_any (m : Int) (x p : Nat) (w : World) (hm : m = x) (hx : x ≤ 4611686018427387904) (hp : Dig p) :
    Calls Tryd.prog 40 #[.int .i64 m, .float .f64 p] w fun e w' => e = .returned (.bool (exB x p)) ∧ w = w' := by
  refine (exact_core m p _ w (dig_conv hp)).mono ?_
  have hf : floatOfInt .f64 m = fl x := by subst hm; exact fl_eq x
  have hg := ge_K53 hp.fin hp.sv
  have hl := le_fl hp.fin hp.sv hx
  unfold exB
  rintro e w' ⟨h | h, rfl⟩
  · rw [h.1] at hg
    rw [if_pos (of_decide_eq_true hg.symm), ← dec_nat hm]; exact ⟨h.2, rfl⟩
  · rw [h.1] at hg
    rw [if_neg (of_decide_eq_false hg.symm), ← hl, ← hf]; exact ⟨h.2, rfl⟩

-- the reference's Nanos, of what is not at or above 0
set_option maxHeartbeats 400000 in
theorem rnanos_bad (b : Nat) (w : World) (h1 : (FloatKind.f64.format.order b 0 == some Ordering.gt) = false) (h2 : (FloatKind.f64.format.order b 0 == some Ordering.eq) = false) :
    Calls Tryd.prog 32 #[.float .f64 b] w fun e w' => e = .returned (.tuple #[.int .i64 0, .int .i64 10]) ∧ w = w' := by
  go_enter Tryd.func32, Tryd.ntmps32
  go_wp2
  go_ret2
  exact ⟨rfl, rfl⟩

def RefPost (p T : Nat) (w : World) (e : Ending) (w' : World) : Prop := ((ge p K62 = true ∧ e = .returned (.tuple #[.int .i64 4611686018427387904, .int .i64 0])) ∨ (ge p K62 = false ∧ e = .returned (.tuple #[.int .i64 (T : Int), .int .i64 0]))) ∧ w = w'

structure Digits (p T : Nat) : Prop where
  lt : T < 4611686018427387904
  ex : ∀ (m : Int) (x : Nat) (w : World), m = x → x ≤ 4611686018427387904 → Calls Tryd.prog 40 #[.int .i64 m, .float .f64 p] w fun e w' => e = .returned (.bool (exB x p)) ∧ w = w'
  yes : ∀ (m : Int) (x : Nat), m = x → x ≤ 4611686018427387904 → le (floatOfInt .f64 m) p = true → exB x p = true → x ≤ T
  no1 : ∀ (m : Int) (x : Nat), m = x → x ≤ 4611686018427387904 → le (floatOfInt .f64 m) p = false → ¬ x ≤ T
  no2 : ∀ (x : Nat), exB x p = false → ¬ x ≤ T

theorem digits_of {p : Nat} (h : Dig p) : Digits p (vv 0 (rg p) / U) := by
  have key : ∀ (m : Int) (x : Nat), m = x → x ≤ 4611686018427387904 → le (floatOfInt .f64 m) p = decide (vv 0 (rr 0 (x * U)) ≤ vv 0 (rg p)) := by
    intro m x hm hx
    have hf : floatOfInt .f64 m = fl x := by subst hm; exact fl_eq x
    rw [hf]; exact le_fl h.fin h.sv hx
  exact {
    lt := h.lt
    ex := fun m x w hm hx => exact_any m x p w hm hx h
    yes := fun m x hm hx h1 h2 => digit_yes (of_decide_eq_true ((key m x hm hx).symm.trans h1)) h2
    no1 := fun m x hm hx h1 => digit_no1 (of_decide_eq_false ((key m x hm hx).symm.trans h1))
    no2 := fun x h2 => digit_no2 h2 }

def At (T n d k : Nat) : Prop := d = 2 ^ k / 2 ∧ n = T / 2 ^ k * 2 ^ k ∧ k ≤ 62
theorem at_first {T : Nat} (h : T < 4611686018427387904) : At T 0 2305843009213693952 62 := ⟨(digit_first h).2, (digit_first h).1, Nat.le_refl _⟩
theorem at_room {T n d k : Nat} (hT : T < 4611686018427387904) (h : At T n d k) : n + d ≤ 4611686018427387904 ∧ n < 4611686018427387904 ∧ d ≤ 2305843009213693952 := digit_room hT h.1 h.2.1 h.2.2
theorem at_pos {T n d k : Nat} (h : At T n d k) (hd : 0 < d) : ∃ j, k = j + 1 := by
  cases k with
  | zero => exfalso; have := h.1; simp at this; omega
  | succ j => exact ⟨j, rfl⟩
theorem at_yes {T n d k : Nat} (h : At T n d (k + 1)) (hle : n + d ≤ T) : At T (n + d) (d / 2) k :=
  ⟨(digit_step h.1 h.2.1).2.2.1, (digit_step h.1 h.2.1).1 hle, by have := h.2.2; omega⟩
theorem at_no {T n d k : Nat} (h : At T n d (k + 1)) (hle : ¬ n + d ≤ T) : At T n (d / 2) k :=
  ⟨(digit_step h.1 h.2.1).2.2.1, (digit_step h.1 h.2.1).2.1 hle, by have := h.2.2; omega⟩
theorem at_last {T n d k : Nat} (h : At T n d k) (hd : d = 0) : n = T := by
  cases k with
  | zero => exact digit_last h.2.1
  | succ j => exfalso; have := (digit_step h.1 h.2.1).2.2.2; omega

theorem ret2_nat {x T : Nat} {e : Int} (h : x = T) : Ending.returned (.tuple #[.int .i64 (x : Int), .int .i64 e]) = Ending.returned (.tuple #[.int .i64 (T : Int), .int .i64 e]) := by rw [h]
theorem or_yes {a b : Bool} (h : (a || b) = true) : a = true ∨ b = true := by cases a <;> cases b <;> simp_all

set_option maxHeartbeats 400000 in
theorem rnanos_big (b p : Nat) (w : World) (h1 : (FloatKind.f64.format.order b 0 == some Ordering.gt || FloatKind.f64.format.order b 0 == some Ordering.eq) = true) (hm : Ieee.double.mul b C6 = some p)
    (h2 : (FloatKind.f64.format.order p 4886405595696988160 == some Ordering.gt || FloatKind.f64.format.order p 4886405595696988160 == some Ordering.eq) = true) :
    Calls Tryd.prog 32 #[.float .f64 b] w fun e w' => e = .returned (.tuple #[.int .i64 4611686018427387904, .int .i64 0]) ∧ w = w' := by
  have hop := mul_run hm
  clear hm
  go_enter Tryd.func32, Tryd.ntmps32
  go_wp2_with (simp only [hop])
  go_ret2
  exact ⟨rfl, rfl⟩

set_option maxHeartbeats 400000 in
theorem rnanos_small (b p T : Nat) (w : World) (h1 : (FloatKind.f64.format.order b 0 == some Ordering.gt || FloatKind.f64.format.order b 0 == some Ordering.eq) = true) (hm : Ieee.double.mul b C6 = some p)
    (h2 : (FloatKind.f64.format.order p 4886405595696988160 == some Ordering.gt) = false) (h3 : (FloatKind.f64.format.order p 4886405595696988160 == some Ordering.eq) = false)
    (hT : Digits p T) :
    Calls Tryd.prog 32 #[.float .f64 b] w fun e w' => e = .returned (.tuple #[.int .i64 (T : Int), .int .i64 0]) ∧ w = w' := by
  have hop := mul_run hm
  have HD := Lib.hid hT
  clear hm hT
  go_enter Tryd.func32, Tryd.ntmps32
  go_wp2_with (simp only [hop])
  clear hop h1 h2 h3
  go_loop [5, 6] (fun n d => ∃ x y k : Nat, n = .int .i64 x ∧ d = .int .i64 y ∧ At T x y k) (fun _ d => (intOf d).toNat)
  case atStart => exact ⟨0, 2305843009213693952, 62, rfl, rfl, at_first HD.out.lt⟩
  case round =>
    obtain ⟨x, y, k, rfl, rfl, hat⟩ := hrel
    have hroom := at_room HD.out.lt hat
    have HA := Lib.hid hat
    clear hat
    by_cases hy : 0 < y
    · go_wp2_with (go_at_call 40; refine (HD.out.ex _ (x + y) _ (by omega) (by omega)).mono ?_; rintro e w' ⟨rfl, rfl⟩)
      · have hle := HD.out.yes ((x : Int) + y) (x + y) (by omega) (by omega) (le_yes (by assumption)) (by assumption)
        obtain ⟨j, rfl⟩ := at_pos HA.out hy
        have ha := Lib.hid (at_yes HA.out hle)
        go_round
        case rel => exact ⟨x + y, y / 2, j, by go_num, by go_num, ha.out⟩
        case measure => simp [intOf]; omega
      · have hle := HD.out.no2 (x + y) (by assumption)
        obtain ⟨j, rfl⟩ := at_pos HA.out hy
        have ha := Lib.hid (at_no HA.out hle)
        go_round
        case rel => exact ⟨x, y / 2, j, by go_num, by go_num, ha.out⟩
        case measure => simp [intOf]; omega
      · have hle := HD.out.no1 ((x : Int) + y) (x + y) (by omega) (by omega) (le_no (by assumption))
        obtain ⟨j, rfl⟩ := at_pos HA.out hy
        have ha := Lib.hid (at_no HA.out hle)
        go_round
        case rel => exact ⟨x, y / 2, j, by go_num, by go_num, ha.out⟩
        case measure => simp [intOf]; omega
    · have hT := Lib.hid (at_last HA.out (by omega))
      go_wp2
      go_ret2
      exact ⟨ret2_nat hT.out, rfl⟩
end Go.Proofs.YtfigkoknhiabnaaDoor
