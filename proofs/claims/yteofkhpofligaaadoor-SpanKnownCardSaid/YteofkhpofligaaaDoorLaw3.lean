/- The walk of SpanRises. -/
import Derived.Test.YteofkhpofligaaaDoorLaw1
import Derived.Test.YteofkhpofligaaaDoorFm4
namespace Go.Proofs.YteofkhpofligaaaDoor
open Go.RowKit Go.Fm Go.Tx Go.Sm

/-- a span's number, told by the rung -/
theorem nanV_spn {p : Nat} (h : ge p 0 = true) : nanV p = (spn (rg p) : Int) := by
  cases h62 : ge p K62 with
  | true =>
    rw [(nan_of_62 h62).1]
    rw [ge62_rg h] at h62
    unfold spn; rw [if_pos (of_decide_eq_true h62)]; rfl
  | false =>
    rw [(nan_of_small h h62).1]
    rw [ge62_rg h] at h62
    unfold spn; rw [if_neg (of_decide_eq_false h62)]

theorem rises {f g p q : Nat} (hp : Prd f p) (hq : Prd g q) (h0 : nanE p = 0) (h1 : nanE q = 0) (hl : le f g = true) : nanV p ≤ nanV q := by
  have c0 : clsP p ≠ 0 := by rcases nanE_zero_iff (p := p) with h | h; exact h.2; rw [h.1] at h0; cases h0
  have c1 : clsP q ≠ 0 := by rcases nanE_zero_iff (p := q) with h | h; exact h.2; rw [h.1] at h1; cases h1
  have gp := ge_of_cls c0
  have gq := ge_of_cls c1
  have gf : ge f 0 = true := by
    cases h : ge f 0
    · rw [prd_bad hp h] at gp; cases gp
    · rfl
  have gg : ge g 0 = true := by
    cases h : ge g 0
    · rw [prd_bad hq h] at gq; cases gq
    · rfl
  have ep : Ieee.double.mul f C6 = some p := by
    rcases hp with hp | ⟨_, hp⟩
    · exact hp
    · rw [ge_nan hp] at gp; cases gp
  have eq : Ieee.double.mul g C6 = some q := by
    rcases hq with hq | ⟨_, hq⟩
    · exact hq
    · rw [ge_nan hq] at gq; cases gq
  rw [nanV_spn gp, nanV_spn gq, prg_of gf ep, prg_of gg eq]
  exact_mod_cast spn_mono (prg_mono gf gg hl)

theorem floatOf (n : Nat) : floatOfInt .f64 (n : Int) = fl n := fl_eq n

/-- Nanos of a whole number of milliseconds -/
theorem nanos_whole (k : Nat) (hk : k ≤ 8589934592) (w : World) : Calls Tryd.prog 8 #[.float .f64 (floatOfInt .f64 (k : Int))] w fun e w' => e = .returned (.tuple #[.int .i64 ((k * 1000000 : Nat) : Int), .int .i64 0]) ∧ Below w.heap.size w w' := by
  rw [floatOf]
  have hF : k * 1000000 < 2 * F52 := by unfold F52; omega
  have hs := nan_of_small (fl_ge0 hF) (fl_not62 hF)
  rw [fl_div hF] at hs
  exact nanos_at (fl k) (fl (k * 1000000)) _ _ (fl_mul hF) hs.1 hs.2 w

theorem clamp_id {n : Int} (h0 : 0 ≤ n) (h1 : n ≤ 4611686018427387904) : clampI n = n := by
  unfold clampI; rw [if_neg (by omega), if_neg (by omega)]

theorem millis_whole (c : Int) (k : Nat) (hc : c = ((k * 1000000 : Nat) : Int)) (hk : k ≤ 8589934592) (w : World) : Calls Tryd.prog 16 #[.int .i64 c] w fun e w' => e = .returned (.float .f64 (floatOfInt .f64 (k : Int))) ∧ w = w' := by
  have hF : k * 1000000 < 2 * F52 := by unfold F52; omega
  rw [floatOf]
  subst hc
  refine millis_core _ _ w ?_
  rw [clamp_id (by omega) (by unfold F52 at hF; omega), floatOf]
  exact fl_back hF

/-- Nanos of what Millis tells of m -/
def Near (m : Nat) (x : Nat) : Prop := Ieee.double.div (floatOfInt .f64 (clampI (m : Int))) C6 = some x ∧ ∃ p, Ieee.double.mul x C6 = some p ∧ nanE p = 0 ∧ (m : Int) - 1 ≤ nanV p ∧ nanV p ≤ (m : Int) + 1
theorem near_ex {m : Nat} (h : m < 4503599627370496) : ∃ x, Near m x := by
  obtain ⟨x, p, h1, h2, h3, h4, h5, h6⟩ := fl_near (m := m) h
  have hs := nan_of_small h3 h4
  refine ⟨x, ?_, p, h2, hs.2, ?_, ?_⟩
  · rw [clamp_id (by omega) (by omega), floatOf]; exact h1
  · rw [hs.1]; generalize vv 0 (rg p) / U = T at *; omega
  · rw [hs.1]; generalize vv 0 (rg p) / U = T at *; omega
def NearPost (m : Nat) (w : World) (e : Ending) (w' : World) : Prop := ∃ d : Int, (m : Int) - 1 ≤ d ∧ d ≤ (m : Int) + 1 ∧ e = .returned (.tuple #[.int .i64 d, .int .i64 0]) ∧ Below w.heap.size w w'
theorem nanos_near {m x : Nat} (h : Near m x) (w : World) : Calls Tryd.prog 8 #[.float .f64 x] w (NearPost m w) := by
  obtain ⟨_, p, hp, he, h1, h2⟩ := h
  exact (nanos_at x p _ _ hp rfl he w).mono fun e w' ⟨e1, hb⟩ => ⟨nanV p, h1, h2, e1, hb⟩

theorem le_of_or {f g : Nat} (h : FloatKind.f64.format.order f g = some Ordering.lt ∨ FloatKind.f64.format.order f g = some Ordering.eq) : le f g = true := by
  refine le_yes ?_
  rcases h with h | h
  · left; rw [h]; rfl
  · right; rw [h]; rfl
def WholePost (k : Nat) (w : World) (e : Ending) (w' : World) : Prop := ∃ c : Int, c = ((k * 1000000 : Nat) : Int) ∧ e = .returned (.tuple #[.int .i64 c, .int .i64 0]) ∧ Below w.heap.size w w'
theorem nanos_int (z : Int) (k : Nat) (hz : z = k) (hk : k ≤ 8589934592) (w : World) : Calls Tryd.prog 8 #[.float .f64 (floatOfInt .f64 z)] w (WholePost k w) := by
  subst hz; exact (nanos_whole k hk w).mono fun e w' ⟨he, hb⟩ => ⟨_, rfl, he, hb⟩
theorem millis_int (c : Int) (k : Nat) (z : Int) (hc : c = ((k * 1000000 : Nat) : Int)) (hz : z = k) (hk : k ≤ 8589934592) (w : World) : Calls Tryd.prog 16 #[.int .i64 c] w fun e w' => e = .returned (.float .f64 (floatOfInt .f64 z)) ∧ w = w' := by
  subst hz; exact millis_whole c k hc hk w
theorem whole_mul {c z : Int} {k : Nat} (hc : c = ((k * 1000000 : Nat) : Int)) (hz : (k : Int) = z) (_h0 : 0 ≤ z) (h1 : z ≤ 8589934592) : (c != IntKind.i64.wrap (z * 1000000)) = false ∧ (c != z * 1000000) = false := by
  have e : c = z * 1000000 := by rw [hc, ← hz]; omega
  have e2 : IntKind.i64.wrap (z * 1000000) = z * 1000000 := IntWalk.i64_in _ (by omega)
  rw [e2, e]; simp

theorem order_self (k : Nat) (z : Int) (hz : z = k) (hk : k ≤ 8589934592) : (FloatKind.f64.format.order (floatOfInt .f64 z) (floatOfInt .f64 z) != some Ordering.eq) = false := by
  subst hz
  rw [floatOf]
  have h1 := fl_small (n := k) (by unfold F52; omega)
  have hk2 := K62_lt
  have h2 : FloatKind.f64.format.order (fl k) (fl k) = some (compare (sv (fl k)) (sv (fl k))) := order_fin (by rw [h1.2.2.2.1]; omega) (by rw [h1.2.2.2.1]; omega)
  rw [h2]; simp

theorem low52 (n : Int) : ∃ m : Nat, wrap64 ((IntKind.u64.wrap n).tmod 4503599627370496) = (m : Int) ∧ m < 4503599627370496 := by
  rw [u64_wrap]
  have h0 : 0 ≤ n % 18446744073709551616 := by omega
  rw [Int.tmod_eq_emod_of_nonneg h0]
  have h1 : 0 ≤ n % 18446744073709551616 % 4503599627370496 := by omega
  have h2 : n % 18446744073709551616 % 4503599627370496 < 4503599627370496 := by omega
  generalize n % 18446744073709551616 % 4503599627370496 = t at *
  refine ⟨t.toNat, ?_, by omega⟩
  rw [IntWalk.wrap64_in _ ⟨by omega, by omega⟩]; omega

set_option maxHeartbeats 1000000 in
theorem law_rises {B : Nat} (f g : Nat) (whole n : Int) (hw0 : 0 ≤ whole) (hw1 : whole ≤ 18446744073709551615) (w : World) (h : Env B w) :
    Calls Tryd.prog 6 #[.float .f64 f, .float .f64 g, .int .u64 whole, .int .i64 n] w fun e w' => e = .returned (.bool true) ∧ Below w.heap.size w w' := by
  go_enter Tryd.func6, Tryd.ntmps6
  go_wp2_with fail
  refine (nanos_any _ _).mono ?_
  rintro e w1 ⟨p, hp, rfl, hb1⟩
  have h1 := h.on' hb1
  go_wp2_with fail
  refine (nanos_any _ _).mono ?_
  rintro e w2 ⟨q, hq, rfl, hb2⟩
  have h2 := h1.on' hb2
  obtain ⟨a, ha⟩ : ∃ a, nanV p = a := ⟨_, rfl⟩
  obtain ⟨b, hb⟩ : ∃ b, nanV q = b := ⟨_, rfl⟩
  obtain ⟨x, hx⟩ : ∃ x, nanE p = x := ⟨_, rfl⟩
  obtain ⟨y, hy⟩ : ∃ y, nanE q = y := ⟨_, rfl⟩
  have HR := Lib.hid (fun (e0 : x = 0) (e1 : y = 0) (hl : le f g = true) => (by have := rises hp hq (by rw [hx, e0]) (by rw [hy, e1]) hl; rw [ha, hb] at this; exact this : a ≤ b))
  rw [ha, hb, hx, hy]
  clear ha hb hx hy hp hq
  go_wp2_with fail
  · exfalso
    have h3 := HR.out (by assumption) (by assumption) (le_of_or (by assumption))
    have h4 : ((FloatKind.f64.format.order f g == some Ordering.lt) = true ∨ (FloatKind.f64.format.order f g == some Ordering.eq) = true) ∧ b < a := by assumption
    omega
  all_goals
    clear HR
    have hz0 : 0 ≤ whole % 8589934593 := by omega
    have hz1 : whole % 8589934593 ≤ 8589934592 := by omega
    generalize whole % 8589934593 = z at *
    obtain ⟨k, rfl⟩ : ∃ k : Nat, z = k := ⟨z.toNat, by omega⟩
    have hk : k ≤ 8589934592 := by omega
    refine (nanos_int _ k rfl hk _).mono ?_
    rintro e w3 ⟨c, hc, rfl, hb3⟩
    have h3 := h2.on' hb3
    have HC := Lib.hid hc
    obtain ⟨hc1, hc2⟩ := whole_mul hc rfl hz0 hz1
    have ho := order_self k (k : Int) rfl hk
    clear hc
    go_wp2_with fail
    have M := millis_int c k (k : Int) HC.out rfl hk w3
    refine M.mono ?_
    rintro e w' ⟨rfl, rfl⟩
    go_wp2_with fail
    obtain ⟨m, hm, hm2⟩ := low52 n
    rw [hm]
    clear hm hc1 hc2 ho M
    obtain ⟨x1, hx1⟩ := near_ex hm2
    refine (millis_core (m : Int) x1 w3 hx1.1).mono ?_
    rintro e w' ⟨rfl, rfl⟩
    have HX := Lib.hid hx1
    clear hx1
    go_wp2_with fail
    refine (nanos_near HX.out w3).mono ?_
    rintro e w4 ⟨d, hd1, hd2, rfl, hb4⟩
    have h4 := h3.on' hb4
    go_wp2_with fail
    refine (works_any _ h4).mono ?_
    rintro e w5 ⟨rfl, hb5⟩
    go_wp2
    go_ret
    exact ⟨rfl, bt (bt (bt (bt hb1 hb2) hb3) hb4) hb5⟩
end Go.Proofs.YteofkhpofligaaaDoor
