/- The walk of span.Nanos. -/
import Derived.Test.YtfigkoknhiabnaaDoorAWb
namespace Go.Proofs.YtfigkoknhiabnaaDoor
open Go.RowKit Go.Fm

theorem prd_same {b p q : Nat} (hp : Prd b p) (hq : Prd b q) (h : clsP p ≠ 0) : q = p := by
  rcases hp with hp | ⟨hn, hp⟩
  · rcases hq with hq | ⟨hn, _⟩
    · rw [hp] at hq; exact (Option.some.inj hq).symm
    · rw [hp] at hn; cases hn
  · exfalso; apply h
    unfold clsP; rw [ge_nan hp]; rfl

def nanV (p : Nat) : Int := if clsP p = 0 then 0 else if clsP p = 4 then 4611686018427387904 else ((vv 0 (rg p) / U : Nat) : Int)
def nanE (p : Nat) : Int := if clsP p = 0 then 10 else 0
def NanPost (b : Nat) (w : World) (e : Ending) (w' : World) : Prop := ∃ p, Prd b p ∧ e = .returned (.tuple #[.int .i64 (nanV p), .int .i64 (nanE p)]) ∧ Below w.heap.size w w'

theorem conv_run {p : Nat} (h0 : clsP p ≠ 0) (h4 : clsP p ≠ 4) : ∀ w, (convert 52 2 (.float .f64 p)).run Tryd.prog w = .ok (.int .i64 ((vv 0 (rg p) / U : Nat) : Int)) w := by
  intro w
  refine run_convert_float_int w 52 2 .f64 .i64 p _ (by rw [Tryd.underlying52]; rfl) Tryd.underlying2 ?_
  unfold floatToIntVal
  have h := conv_cls h0 h4
  have hb := (fin_of_cls h0 h4).2
  have h' : (FloatKind.f64.decode p).toInt .zero = some ((vv 0 (rg p) / U : Nat) : Int) := h
  rw [h']
  have : IntKind.i64.min ≤ ((vv 0 (rg p) / U : Nat) : Int) ∧ ((vv 0 (rg p) / U : Nat) : Int) ≤ IntKind.i64.max := by
    show (-9223372036854775808 : Int) ≤ _ ∧ _ ≤ (9223372036854775807 : Int)
    generalize vv 0 (rg p) / U = T at hb
    omega
  simp only []
  rw [if_pos this]

theorem nan_zero {p : Nat} (h : ((clsP p : Int) == 0) = true) : nanV p = 0 ∧ nanE p = 10 := by
  have h : clsP p = 0 := by simpa using h
  unfold nanV nanE; rw [if_pos h, if_pos h]; exact ⟨rfl, rfl⟩
theorem nan_four {p : Nat} (_h0 : ((clsP p : Int) == 0) = false) (h : ((clsP p : Int) == 4) = true) : nanV p = 4611686018427387904 ∧ nanE p = 0 := by
  have h : (clsP p : Int) = 4 := by simpa using h
  have h : clsP p = 4 := by omega
  have h0 : clsP p ≠ 0 := by omega
  unfold nanV nanE; rw [if_neg h0, if_neg h0, if_pos h]; exact ⟨rfl, rfl⟩
theorem nan_some {p : Nat} (h0 : ((clsP p : Int) == 0) = false) (h : ((clsP p : Int) == 4) = false) : (clsP p ≠ 0 ∧ clsP p ≠ 4) ∧ nanV p = ((vv 0 (rg p) / U : Nat) : Int) ∧ nanE p = 0 := by
  have h4 : clsP p ≠ 4 := fun e => by rw [e] at h; simp at h
  have h0 : clsP p ≠ 0 := fun e => by rw [e] at h0; simp at h0
  unfold nanV nanE; rw [if_neg h0, if_neg h0, if_neg h4]; exact ⟨⟨h0, h4⟩, rfl, rfl⟩
theorem nan_end {b p : Nat} {w w' : World} (hp : Prd b p) (hb : Below w.heap.size w w') {v e : Int} (h : nanV p = v ∧ nanE p = e) : NanPost b w (.returned (.tuple #[.int .i64 v, .int .i64 e])) w' :=
  ⟨p, hp, by rw [h.1, h.2], hb⟩

set_option maxHeartbeats 400000 in
theorem nanos_any (b : Nat) (w : World) : Calls Tryd.prog 30 #[.float .f64 b] w (NanPost b w) := by
  go_enter Tryd.func30, Tryd.ntmps30
  go_wp2_with (go_at_call 35; refine (class_any _ _).mono ?_; rintro e w' ⟨p, hp, rfl, hb⟩)
  · go_ret2
    exact nan_end hp hb (nan_zero (by assumption))
  · go_ret2
    exact nan_end hp hb (nan_four (by assumption) (by assumption))
  · have hs := nan_some (p := p) (by assumption) (by assumption)
    refine (product_any _ _).mono ?_
    rintro e1 w1 ⟨q, n, hq, rfl, rfl⟩
    obtain rfl : q = p := prd_same hp hq hs.1.1
    have hc := conv_run hs.1.1 hs.1.2
    have HS := Lib.hid hs
    clear hs
    go_wp2
    go_ret2
    exact nan_end hp (below_drewN hb _) HS.out.2
end Go.Proofs.YtfigkoknhiabnaaDoor
