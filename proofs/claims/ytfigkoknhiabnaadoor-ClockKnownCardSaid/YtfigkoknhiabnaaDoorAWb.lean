/- The walk of span.Class. -/
import Derived.Test.YtfigkoknhiabnaaDoorAWa
namespace Go.Proofs.YtfigkoknhiabnaaDoor
open Go.RowKit Go.Fm

theorem run_store_float {P : Program} {w : World} {a : Addr} {m : Mode} (k : FloatKind) (n : Nat) : (store a (.float k n) m).run P w = stored P w a (.float k n) m := run_store P w a _ m rfl
attribute [local go_sem] run_store_float

/-- what the product may be: the one that IEEE tells, or some NaN -/
def Prd (b p : Nat) : Prop := Ieee.double.mul b C6 = some p ∨ (Ieee.double.mul b C6 = none ∧ INF < rg p)
def PrdPost (b : Nat) (w : World) (e : Ending) (w' : World) : Prop := ∃ p n, Prd b p ∧ e = .returned (.float .f64 p) ∧ w' = w.drewN n

theorem product_any (b : Nat) (w : World) : Calls Tryd.prog 36 #[.float .f64 b] w (PrdPost b w) := by
  cases h : Ieee.double.mul b C6 with
  | none => exact (product_nan b w h).mono fun e w' ⟨⟨q, hq, he⟩, hw⟩ => ⟨q, 1, .inr ⟨h, hq⟩, he, hw⟩
  | some r => exact (product_ok b r w h).mono fun e w' ⟨he, hw⟩ => ⟨r, 0, .inl h, he, hw.symm⟩

def ClassPost (b : Nat) (w : World) (e : Ending) (w' : World) : Prop := ∃ p, Prd b p ∧ e = .returned (.int .i64 (clsP p)) ∧ Below w.heap.size w w'

def Passed (p k : Nat) : Prop := (1 ≤ k → ge p 0 = true) ∧ (2 ≤ k → ge p 1 = true) ∧ (3 ≤ k → ge p K1 = true) ∧ (4 ≤ k → ge p K62 = true)

theorem ge_yes {x y : Nat} (h : (FloatKind.f64.format.order x y == some Ordering.gt) = true ∨ (FloatKind.f64.format.order x y == some Ordering.eq) = true) : ge x y = true := by
  show (_ || _) = true
  rcases h with h | h
  · show ((FloatKind.f64.format.order x y == some Ordering.gt) || _) = true
    rw [h]; rfl
  · show (_ || (FloatKind.f64.format.order x y == some Ordering.eq)) = true
    rw [h, Bool.or_true]
theorem ge_no {x y : Nat} (h : (FloatKind.f64.format.order x y == some Ordering.gt) = false ∧ (FloatKind.f64.format.order x y == some Ordering.eq) = false) : ge x y = false := by
  show ((FloatKind.f64.format.order x y == some Ordering.gt) || (FloatKind.f64.format.order x y == some Ordering.eq)) = false
  rw [h.1, h.2]; rfl

theorem passed_1 {p : Nat} (h : (FloatKind.f64.format.order p 0 == some Ordering.gt) = true ∨ (FloatKind.f64.format.order p 0 == some Ordering.eq) = true) : Passed p 1 :=
  ⟨fun _ => ge_yes h, by omega, by omega, by omega⟩
theorem passed_2 {p : Nat} (hp : Passed p 1) (h : (FloatKind.f64.format.order p 1 == some Ordering.gt) = true ∨ (FloatKind.f64.format.order p 1 == some Ordering.eq) = true) : Passed p 2 :=
  ⟨fun _ => hp.1 (by omega), fun _ => ge_yes h, by omega, by omega⟩
theorem passed_3 {p : Nat} (hp : Passed p 2) (h : (FloatKind.f64.format.order p 4607182418800017408 == some Ordering.gt) = true ∨ (FloatKind.f64.format.order p 4607182418800017408 == some Ordering.eq) = true) : Passed p 3 :=
  ⟨fun _ => hp.1 (by omega), fun _ => hp.2.1 (by omega), fun _ => ge_yes h, by omega⟩
theorem passed_4 {p : Nat} (hp : Passed p 3) (h : (FloatKind.f64.format.order p 4886405595696988160 == some Ordering.gt) = true ∨ (FloatKind.f64.format.order p 4886405595696988160 == some Ordering.eq) = true) : Passed p 4 :=
  ⟨fun _ => hp.1 (by omega), fun _ => hp.2.1 (by omega), fun _ => hp.2.2.1 (by omega), fun _ => ge_yes h⟩

theorem cls_0 {p : Nat} (h : ge p 0 = false) : clsP p = 0 := by unfold clsP; rw [if_pos h]
theorem cls_1 {p : Nat} (hp : Passed p 1) (h : ge p 1 = false) : clsP p = 1 := by
  unfold clsP; rw [hp.1 (by omega), h]; rfl
theorem cls_2 {p : Nat} (hp : Passed p 2) (h : ge p K1 = false) : clsP p = 2 := by
  unfold clsP; rw [hp.1 (by omega), hp.2.1 (by omega), h]; rfl
theorem cls_3 {p : Nat} (hp : Passed p 3) (h : ge p K62 = false) : clsP p = 3 := by
  unfold clsP; rw [hp.1 (by omega), hp.2.1 (by omega), hp.2.2.1 (by omega), h]; rfl
theorem cls_4 {p : Nat} (hp : Passed p 4) : clsP p = 4 := by
  unfold clsP; rw [hp.1 (by omega), hp.2.1 (by omega), hp.2.2.1 (by omega), hp.2.2.2 (by omega)]; rfl

theorem class_end {b p n : Nat} {w : World} {o : Obj} (hp : Prd b p) {c : Int} (hc : clsP p = c) : ClassPost b w (.returned (.int .i64 c)) ((w.alloc o).drewN n) :=
  ⟨p, hp, by rw [hc], below_drewN ((Below.refl _ _).alloc (Nat.le_refl _) _) _⟩

set_option maxHeartbeats 400000 in
theorem class_any (b : Nat) (w : World) : Calls Tryd.prog 35 #[.float .f64 b] w (ClassPost b w) := by
  go_enter Tryd.func35, Tryd.ntmps35
  go_wp2_with fail
  go_step3
  go_wp2_with (go_at_call 36; refine (product_any _ _).mono ?_; rintro e w' ⟨p, n, hp, rfl, rfl⟩)
  go_step3
  go_wp2
  go_loop [4, 6] (fun t c => ∃ k : Nat, k ≤ 4 ∧ c = .int .i64 (k + 1) ∧ t = .int .i64 k ∧ Passed p k) (fun _ c => 5 - (intOf c).toNat)
  case atStart => exact ⟨0, by omega, rfl, rfl, by unfold Passed; omega⟩
  case round =>
    obtain ⟨k, hk, rfl, rfl, hpas⟩ := hrel
    have hkk : k = 0 ∨ k = 1 ∨ k = 2 ∨ k = 3 ∨ k = 4 := by omega
    rcases hkk with rfl | rfl | rfl | rfl | rfl
    · go_wp2
      · exact ⟨⟨1, by omega, rfl, rfl, passed_1 (by assumption)⟩, by simp [intOf]⟩
      · go_ret; exact class_end hp (by rw [cls_0 (ge_no (by assumption))]; rfl)
    · go_wp2
      · exact ⟨⟨2, by omega, rfl, rfl, passed_2 hpas (by assumption)⟩, by simp [intOf]⟩
      · go_ret; exact class_end hp (by rw [cls_1 hpas (ge_no (by assumption))]; rfl)
    · go_wp2
      · exact ⟨⟨3, by omega, rfl, rfl, passed_3 hpas (by assumption)⟩, by simp [intOf]⟩
      · go_ret; exact class_end hp (by rw [cls_2 hpas (ge_no (by assumption))]; rfl)
    · go_wp2
      · exact ⟨⟨4, by omega, rfl, rfl, passed_4 hpas (by assumption)⟩, by simp [intOf]⟩
      · go_ret; exact class_end hp (by rw [cls_3 hpas (ge_no (by assumption))]; rfl)
    · go_wp2
      go_ret; exact class_end hp (by rw [cls_4 hpas]; rfl)
end Go.Proofs.YtfigkoknhiabnaaDoor
