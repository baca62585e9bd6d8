/- A ring of a put or a lay: its small functions (layer 9's code). -/
import Derived.Test.YtgfddkddacigfaaPa
import Derived.Test.YtgfddkddacigfaaBb
import Derived.Test.YtgfddkddacigfaaBc
import Derived.Test.YtgfddkddacigfaaBd
import Derived.WalkSpells
import Derived.WalkLawsBesides
import Derived.BigQuiet
import Derived.Deep.QuietTactic
import Derived.Deep.RegionHeld3
set_option linter.unusedSimpArgs false
set_option linter.unusedVariables false
namespace Go.Proofs.Ytgfddkddacigfaa
open Go.RowKit Go.Cg Go.Pu Go.Wd Go.Ce

/-- the cells of a ring: the config, the P, where it is, the word that it saw, how many slots were gone through; then the rest -/
def rgV (c : Cfg) (p a : Int) (s : Nat) (k : Int) (rest : List Value) : List Value :=
  .int .i64 c.n :: .int .i64 c.q :: .int .i64 c.g :: .int .i64 c.m :: .int .i64 c.t :: .int .i64 c.s :: .int .i64 p :: .int .i64 a :: .int .u64 s :: .int .i64 k :: rest
/-- ten cells, as facts -/
abbrev RgC (b : Nat) (n q g m tt ss p a : Int) (s : Nat) (k : Int) (w : World) : Prop :=
  w.cell? ⟨b, 0, none⟩ = some (.int .i64 n) ∧ w.cell? ⟨b, 1, none⟩ = some (.int .i64 q) ∧ w.cell? ⟨b, 2, none⟩ = some (.int .i64 g) ∧ w.cell? ⟨b, 3, none⟩ = some (.int .i64 m) ∧ w.cell? ⟨b, 4, none⟩ = some (.int .i64 tt) ∧ w.cell? ⟨b, 5, none⟩ = some (.int .i64 ss) ∧ w.cell? ⟨b, 6, none⟩ = some (.int .i64 p) ∧ w.cell? ⟨b, 7, none⟩ = some (.int .i64 a) ∧ w.cell? ⟨b, 8, none⟩ = some (.int .u64 s) ∧ w.cell? ⟨b, 9, none⟩ = some (.int .i64 k)
section
variable {t : TypeId} {rest : List Value} {c : Cfg} {p a : Int} {s : Nat} {k : Int} {w w' : World} {b : Nat}
theorem rg_cells (h : Row b t (rgV c p a s k rest) w) : RgC b c.n c.q c.g c.m c.t c.s p a s k w :=
  ⟨h.cell 0, h.cell 1, h.cell 2, h.cell 3, h.cell 4, h.cell 5, h.cell 6, h.cell 7, h.cell 8, h.cell 9⟩
theorem rg_keep (h : Row b t (rgV c p a s k rest) w) : ∀ w1, Below w.heap.size w w1 → RgC b c.n c.q c.g c.m c.t c.s p a s k w1 ∧ Below w.heap.size w w1 := fun w1 hb => ⟨rg_cells (h.on' hb), hb⟩
theorem rg_at (h : Row b t (rgV c p a s k rest) w) (a' : Int) : Row b t (rgV c p a' s k rest) (w.setCell ⟨b, 7, none⟩ (.int .i64 a')) := h.set 7 _
theorem rg_seen (h : Row b t (rgV c p a s k rest) w) (s' : Nat) : Row b t (rgV c p a s' k rest) (w.setCell ⟨b, 8, none⟩ (.int .u64 s')) := h.set 8 _
theorem rg_k (h : Row b t (rgV c p a s k rest) w) (k' : Int) : Row b t (rgV c p a s k' rest) (w.setCell ⟨b, 9, none⟩ (.int .i64 k')) := h.set 9 _

theorem rended_any (h : Row b t (rgV c p a s k rest) w) : Calls Try.prog 52 #[pptr b] w (fun e w' => e = .returned (.bool (decide (a = 0))) ∧ w' = w) := by
  have c7 : w.cell? ⟨b, 7, none⟩ = some (.int .i64 a) := h.cell 7
  obtain ⟨z, hz⟩ : ∃ z, decide (a = 0) = z := ⟨_, rfl⟩
  rw [hz]
  have HZ := Lib.hid hz
  clear h hz
  go_enter Try.func52, Try.ntmps52
  go_wp2
  go_ret
  first | exact ⟨rfl, rfl⟩ | exact ⟨by rw [← HZ.out]; rfl, rfl⟩
theorem rslot_any (h : Row b t (rgV c p a s k rest) w) (hR : Right c ∧ 0 ≤ p ∧ p < c.n) (f : Nat) (hf : f < 4294967296) (j : Nat) (hk : k = j) (hj : j ≤ 64) : Calls Try.prog 92 #[pptr b, .int .u32 f] w (Ans (.int .i64 (aS c p ((f + j) % 4294967296))) w) := by
  subst hk
  obtain ⟨i, hi⟩ : ∃ i, (f + j) % 4294967296 = i := ⟨_, rfl⟩
  have hi2 : i < 4294967296 := by omega
  have hw1 : IntKind.u32.wrap (j : Int) = j := IntWalk.u32_in _ (by omega)
  have hw2 : IntKind.u32.wrap ((f : Int) + j) = i := by rw [wadd32, hi]
  have HS : Hid (∀ w, Calls Try.prog 43 #[cVal c, .int .i64 p, .int .u32 i] w (Ans (.int .i64 (aS c p i)) w)) := by
    rw [← aS_sl hR]; exact fun w => cslot_any c p i hi2 w
  rw [hi]
  obtain ⟨z, hz⟩ : ∃ z, aS c p i = z := ⟨_, rfl⟩
  rw [hz] at HS ⊢
  have HK := Lib.hid (rg_keep h)
  obtain ⟨n, q, g, m, tt, ss⟩ := c
  simp only at HK
  change Hid (∀ w, Calls Try.prog 43 #[.agg #[.int .i64 n, .int .i64 q, .int .i64 g, .int .i64 m, .int .i64 tt, .int .i64 ss], .int .i64 p, .int .u32 i] w (Ans (.int .i64 z) w)) at HS
  clear h hR hi hz hj
  obtain ⟨⟨c0, c1, c2, c3, c4, c5, c6, c7, c8, c9⟩, -⟩ := HK.out _ (Below.refl _ _)
  go_enter Try.func92, Try.ntmps92
  go_wp2_with fail
  go_region_held3 (fun w1 => RgC b n q g m tt ss p a s j w1 ∧ Below w.heap.size w w1)
    (first | exact HK.out _ (Below.refl _ _) | exact HK.out _ ((Below.refl _ _).drew) | exact HK.out _ (by assumption))
    (first | (go_at_call 43; (with_reducible refine (HS.out _).mono ?_); rintro e w3 ⟨rfl, hb3⟩; have hB3 : Below w.heap.size w w3 := (And.right (by assumption : _ ∧ Below w.heap.size w _)).trans (hb3.mono (And.right (by assumption : _ ∧ Below w.heap.size w _)).size)))
  all_goals (clear c0 c1 c2 c3 c4 c5 c6 c7 c8 c9; have HE := Lib.hid hB3; clear hB3 hb3; go_wp2; go_ret; exact ⟨rfl, HE.out⟩)
end
end Go.Proofs.Ytgfddkddacigfaa
