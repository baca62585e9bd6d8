/- A ring lays; half a room; a put as it lies (layer 9's code). -/
import Derived.Test.YtgfddkddacigfaaZb
set_option linter.unusedSimpArgs false
set_option linter.unusedVariables false
namespace Go.Proofs.Ytgfddkddacigfaa
open Go.RowKit Go.Cg Go.Pu Go.Wd Go.Ce

section
variable {t : TypeId} {rest : List Value} {c : Cfg} {p a : Int} {s : Nat} {k : Int} {w w' : World} {b mb mg : Nat} {m : PM}
set_option maxHeartbeats 400000 in
theorem rlay_any (h : Row b t (rgV c p a s k rest) w) (hm : MemIs w mb mg m) (hb : ¬ Own mb mg b) (hk : m.k.ops + 1 ≤ 1000000000000) (hR : Right c ∧ 0 ≤ p ∧ p < c.n) (hs : s < 18446744073709551616) (j : Nat) (hj : k = j) (hj2 : j ≤ 64) (g : Int) :
    Calls Try.prog 89 #[pptr b, pptr mb, .int .i64 g] w (RgPost t b (rgV c p a s ((j : Int) + 1) rest) mb mg (m.store (aS c p ((tl s + j) % 4294967296)) (IntKind.u64.wrap g)) (.tuple #[]) w) := by
  have HT : Hid (∀ w, Calls Try.prog 93 #[.int .u64 s] w fun e w' => e = .returned (.int .u32 (tl s : Nat)) ∧ w = w') := fun w => wtail_any s hs w
  have HS := Lib.hid (rslot_any h hR (tl s) (tl_lt s) j hj hj2)
  obtain ⟨f, hf⟩ : ∃ f, tl s = f := ⟨_, rfl⟩
  rw [hf] at HS HT ⊢
  obtain ⟨z, hz⟩ : ∃ z, aS c p ((f + j) % 4294967296) = z := ⟨_, rfl⟩
  rw [hz] at HS ⊢
  obtain ⟨G, hG⟩ : ∃ G, IntKind.u64.wrap g = G := ⟨_, rfl⟩
  have HC : Hid (∀ w1, Below w.heap.size w w1 → Calls Try.prog 36 #[pptr mb, .int .i64 z, .int .u64 G] w1 (fun e w' => e = .returned (.tuple #[]) ∧ Hid (Row b t (rgV c p a s j rest) w') ∧ Hid (MemIs w' mb mg (m.store z G)) ∧ Hid (Tch (fun k => k = b ∨ Own mb mg k) w w'))) := fun w1 hb1 => by
    refine (store_any z G w1 (hm.on hb1) hk).mono ?_
    rintro e w' ⟨rfl, hm1, ht1⟩
    exact ⟨rfl, by rw [← hj]; exact (h.on' hb1).tch ht1 hb, hm1, (Tch.of _ hb1).trans (ht1.wide (fun k e => .inr e))⟩
  have c8 : w.cell? ⟨b, 8, none⟩ = some (.int .u64 s) := h.cell 8
  rw [hG]
  have HO := Lib.hid hb
  have hw1 : IntKind.i64.wrap ((j : Int) + 1) = (j : Int) + 1 := IntWalk.i64_in _ (by omega)
  clear h hR hz hm hb hk hf hs hj
  go_enter Try.func89, Try.ntmps89
  go_wp2_with (first
    | (go_at_call 93; (with_reducible refine (HT.out _).mono ?_); rintro e w3 ⟨rfl, rfl⟩)
    | (go_at_call 92; (with_reducible refine HS.out.mono ?_); rintro e w4 ⟨rfl, hb4⟩)
    | (go_at_call 36; (with_reducible refine (HC.out _ hb4).mono ?_); rintro e w5 ⟨rfl, H5, HM5, HT5⟩; have d9 : w5.cell? ⟨b, 9, none⟩ = some (.int .i64 j) := H5.out.cell 9; have f9 := H5.out.frozen 9))
  go_end0
  exact rg_fin HM5.out HT5.out HO.out (tset _ _ _ _) (rg_k H5.out _)
/-- half a room -/
theorem half_any (h : Row b t (rgV c p a s k rest) w) (hR : Right c) : Calls Try.prog 94 #[pptr b] w (fun e w' => e = .returned (.int .u32 ((c.q.toNat / 2 : Nat) : Int)) ∧ w' = w) := by
  have c1 : w.cell? ⟨b, 1, none⟩ = some (.int .i64 c.q) := h.cell 1
  obtain ⟨Q, hQ⟩ : ∃ Q : Nat, c.q = Q := ⟨c.q.toNat, by have := hR.q; omega⟩
  have hQ2 : Q ≤ 64 := by have := hR.q; omega
  rw [hQ] at c1 ⊢
  obtain ⟨H, hH⟩ : ∃ H, (Q : Int).toNat / 2 = H := ⟨_, rfl⟩
  have h1 : (Q : Int).tdiv 2 = (H : Int) := by rw [← hH]; rfl
  have h2 : IntKind.i64.wrap ((H : Int)) = H := IntWalk.i64_in _ (by omega)
  have h3 : IntKind.u32.wrap ((H : Int)) = H := IntWalk.u32_in _ (by omega)
  have h5 : (Q : Int) / 2 = H := by omega
  rw [hH]
  clear h hR hQ hH
  go_enter Try.func94, Try.ntmps94
  go_wp2
  go_ret
  exact ⟨rfl, rfl⟩
end
end Go.Proofs.Ytgfddkddacigfaa
