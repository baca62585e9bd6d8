/- The reference's small functions (layer 9): words, addresses, There. -/
import Derived.Test.YtkhfanhboooilaaBa
import Derived.Test.YtkhfanhboooilaaBc
import Derived.Deep.RegionHeld3
import Derived.IntWalk
set_option linter.unusedSimpArgs false
set_option linter.unusedVariables false
namespace Go.Proofs.Ytkhfanhboooilaa
open Go.RowKit Go.Cg Go.Pu Go.Wd Go.Ce

theorem rhead_any (x : Nat) (hx : x < 18446744073709551616) (w : World) : Calls Try.prog 81 #[.int .u64 x] w (fun e w' => e = .returned (.int .u32 (hd x : Nat)) ∧ w' = w) := by
  have E3 := Lib.hid (show ∀ a b : Int, a = b → Ending.returned (.int .u32 a) = Ending.returned (.int .u32 b) from fun a b h => by rw [h])
  go_enter Try.func81, Try.ntmps81
  go_wp2
  go_ret
  refine ⟨E3.out _ _ ?_, rfl⟩
  unfold hd
  omega
theorem rtail_any (x : Nat) (hx : x < 18446744073709551616) (w : World) : Calls Try.prog 74 #[.int .u64 x] w (fun e w' => e = .returned (.int .u32 (tl x : Nat)) ∧ w' = w) := by
  have E3 := Lib.hid (show ∀ a b : Int, a = b → Ending.returned (.int .u32 a) = Ending.returned (.int .u32 b) from fun a b h => by rw [h])
  go_enter Try.func74, Try.ntmps74
  go_wp2
  go_ret
  refine ⟨E3.out _ _ ?_, rfl⟩
  unfold tl
  omega
theorem rpack_any (h t : Nat) (hh : h < 4294967296) (ht : t < 4294967296) (w : World) : Calls Try.prog 80 #[.int .u32 h, .int .u32 t] w (fun e w' => e = .returned (.int .u64 (pk h t : Nat)) ∧ w' = w) := by
  have E3 := Lib.hid (show ∀ a b : Int, a = b → Ending.returned (.int .u64 a) = Ending.returned (.int .u64 b) from fun a b h => by rw [h])
  go_enter Try.func80, Try.ntmps80
  go_wp2
  go_ret
  refine ⟨E3.out _ _ ?_, rfl⟩
  unfold pk
  omega
theorem rsize_any (x : Nat) (hx : x < 18446744073709551616) (w : World) : Calls Try.prog 77 #[.int .u64 x] w (fun e w' => e = .returned (.int .u32 (ln x : Nat)) ∧ w' = w) := by
  have HH := Lib.hid (fun W => rhead_any x hx W)
  have HT := Lib.hid (fun W => rtail_any x hx W)
  have h1 : hd x < 4294967296 := by unfold hd; omega
  have h2 : tl x < 4294967296 := by unfold tl; omega
  have E : Hid (((tl x : Int) - (hd x : Int)) % 4294967296 = ((ln x : Nat) : Int)) := by show _ = _; unfold ln; omega
  have E3 := Lib.hid (show ∀ a b : Int, a = b → Ending.returned (.int .u32 a) = Ending.returned (.int .u32 b) from fun a b h => by rw [h])
  clear hx
  go_enter Try.func77, Try.ntmps77
  go_wp2_with (first | (go_at_call 81; (with_reducible refine (HH.out _).mono ?_); rintro e w' ⟨rfl, rfl⟩) | (go_at_call 74; (with_reducible refine (HT.out _).mono ?_); rintro e w' ⟨rfl, rfl⟩))
  go_ret
  exact ⟨E3.out _ _ E.out, rfl⟩
set_option maxRecDepth 10000 in
theorem rword_any (N Q : Nat) (G M T S : Int) (p : Nat) (hN : N ≤ 8) (hQ : Q ≤ 64) (hp : p ≤ 8) (w : World) : Calls Try.prog 76 #[cVal ⟨N, Q, G, M, T, S⟩, .int .i64 p] w (Ans (.int .i64 (4 + p * (6 + Q))) w) := by
  have hpq : p * (6 + Q) ≤ 8 * 70 := Nat.mul_le_mul hp (by omega)
  obtain ⟨z, hz⟩ : ∃ z : Nat, p * (6 + Q) = z := ⟨_, rfl⟩
  have hz2 : (p : Int) * (6 + (Q : Int)) = (z : Nat) := by rw [← hz]; push_cast; rfl
  rw [hz] at hpq
  show Calls _ _ #[.agg #[.int .i64 N, .int .i64 Q, .int .i64 G, .int .i64 M, .int .i64 T, .int .i64 S], _] _ _
  rw [hz2]
  go_enter Try.func76, Try.ntmps76
  go_wp2_with fail
  go_ret
  exact ⟨rfl, (Below.refl w.heap.size w).alloc (Nat.le_refl _) _⟩
set_option maxRecDepth 10000 in
theorem rsl_any (N Q : Nat) (G M T S : Int) (p i : Nat) (hN : N ≤ 8) (hQ : 1 ≤ Q ∧ Q ≤ 64) (hp : p ≤ 8) (hi : i < 4294967296) (w : World) : Calls Try.prog 78 #[cVal ⟨N, Q, G, M, T, S⟩, .int .i64 p, .int .u32 i] w (Ans (.int .i64 (4 + p * (6 + Q) + 6 + i % Q)) w) := by
  have hpq : p * (6 + Q) ≤ 8 * 70 := Nat.mul_le_mul hp (by omega)
  have HW := Lib.hid (fun W => rword_any N Q G M T S p hN hQ.2 hp W)
  obtain ⟨z, hz⟩ : ∃ z : Nat, p * (6 + Q) = z := ⟨_, rfl⟩
  have hz2 : (p : Int) * (6 + (Q : Int)) = (z : Nat) := by rw [← hz]; push_cast; rfl
  obtain ⟨r, hr⟩ : ∃ r : Nat, i % Q = r := ⟨_, rfl⟩
  have hr2 : (i : Int) % (Q : Int) = (r : Nat) := by rw [← hr]; push_cast; rfl
  have hrQ : r < Q := by rw [← hr]; exact Nat.mod_lt _ (by omega)
  rw [hz] at hpq
  change Hid (∀ W, Calls Try.prog 76 #[.agg #[.int .i64 N, .int .i64 Q, .int .i64 G, .int .i64 M, .int .i64 T, .int .i64 S], _] W (Ans (.int .i64 (4 + (p : Int) * (6 + (Q : Int)))) W)) at HW
  show Calls _ _ #[.agg #[.int .i64 N, .int .i64 Q, .int .i64 G, .int .i64 M, .int .i64 T, .int .i64 S], _, _] _ _
  rw [hz2] at HW
  rw [hz2, hr2]
  have hq1 := hQ.1
  have hq2 := hQ.2
  clear hz hz2 hr hQ
  have hwq : IntKind.u32.wrap (Q : Int) = Q := IntWalk.u32_in _ (by omega)
  have htm : (i : Int).tmod (Q : Int) = r := by rw [Int.tmod_eq_emod_of_nonneg (by omega)]; exact hr2
  have hwr : IntKind.i64.wrap (r : Int) = r := IntWalk.i64_in _ (by omega)
  have hwr2 : IntKind.u32.wrap (r : Int) = r := IntWalk.u32_in _ (by omega)
  have hs1 : IntKind.i64.wrap (4 + (z : Int) + 6) = 4 + (z : Int) + 6 := IntWalk.i64_in _ (by omega)
  have hs2 : IntKind.i64.wrap (4 + (z : Int) + 6 + (r : Int)) = 4 + (z : Int) + 6 + (r : Int) := IntWalk.i64_in _ (by omega)
  have hq0 : (Q : Int) ≠ 0 := by omega
  have hq00 : ¬ Q = 0 := by omega
  clear hr2
  go_enter Try.func78, Try.ntmps78
  go_wp2_with fail
  have hrow := Row.new w 37 (cCells ⟨N, Q, G, M, T, S⟩)
  have hbel := (Below.refl w.heap.size w).alloc (Nat.le_refl _) (.cells (cCells ⟨N, Q, G, M, T, S⟩).toArray 37)
  obtain ⟨W, hW⟩ : ∃ W, w.alloc (.cells #[.int .i64 N, .int .i64 Q, .int .i64 G, .int .i64 M, .int .i64 T, .int .i64 S] 37) = W := ⟨_, rfl⟩
  have HR : Hid (Row w.heap.size 37 (cCells ⟨N, Q, G, M, T, S⟩) W ∧ Below w.heap.size w W) := by rw [← hW]; exact ⟨hrow, hbel⟩
  rw [hW]
  clear hrow hbel hW
  have c0 := HR.out.1.cell 0
  have c1 := HR.out.1.cell 1
  have c2 := HR.out.1.cell 2
  have c3 := HR.out.1.cell 3
  have c4 := HR.out.1.cell 4
  have c5 := HR.out.1.cell 5
  simp only [cCells, List.getElem?_cons_zero, List.getElem?_cons_succ] at c0 c1 c2 c3 c4 c5
  have hB0 : Below W.heap.size W W := .refl _ _
  have HK : Hid (∀ w1 : World, Below W.heap.size W w1 → (w1.cell? ⟨w.heap.size, 0, none⟩ = some (.int .i64 N) ∧ w1.cell? ⟨w.heap.size, 1, none⟩ = some (.int .i64 Q) ∧ w1.cell? ⟨w.heap.size, 2, none⟩ = some (.int .i64 G) ∧ w1.cell? ⟨w.heap.size, 3, none⟩ = some (.int .i64 M) ∧ w1.cell? ⟨w.heap.size, 4, none⟩ = some (.int .i64 T) ∧ w1.cell? ⟨w.heap.size, 5, none⟩ = some (.int .i64 S)) ∧ Below W.heap.size W w1) := fun w1 hb => by
    have h := HR.out.1.on' hb
    exact ⟨⟨h.cell 0, h.cell 1, h.cell 2, h.cell 3, h.cell 4, h.cell 5⟩, hb⟩
  go_region_held3 (fun w1 => (w1.cell? ⟨w.heap.size, 0, none⟩ = some (.int .i64 N) ∧ w1.cell? ⟨w.heap.size, 1, none⟩ = some (.int .i64 Q) ∧ w1.cell? ⟨w.heap.size, 2, none⟩ = some (.int .i64 G) ∧ w1.cell? ⟨w.heap.size, 3, none⟩ = some (.int .i64 M) ∧ w1.cell? ⟨w.heap.size, 4, none⟩ = some (.int .i64 T) ∧ w1.cell? ⟨w.heap.size, 5, none⟩ = some (.int .i64 S)) ∧ Below W.heap.size W w1)
    (first | exact HK.out _ (Below.refl _ _) | exact HK.out _ ((Below.refl _ _).drew) | exact HK.out _ (by assumption))
    (first
      | (go_at_call 76; (with_reducible refine (HW.out _).mono ?_); rintro e w3 ⟨rfl, hb3⟩; have hB3 : Below W.heap.size W w3 := (And.right (by assumption : _ ∧ Below W.heap.size W _)).trans (hb3.mono (And.right (by assumption : _ ∧ Below W.heap.size W _)).size)))
  all_goals (clear c0 c1 c2 c3 c4 c5; have HE := Lib.hid (HR.out.2.trans (hB3.mono HR.out.2.size)); clear hB3 hb3; go_wp2; go_ret; exact ⟨rfl, HE.out⟩)
set_option maxRecDepth 10000 in
theorem rthere_any (c : Cfg) (p : Int) (w : World) : Calls Try.prog 67 #[cVal c, .int .i64 p] w (Ans (.bool (thB c p)) w) := by
  have HR := Lib.hid (fun W => right_any c W)
  obtain ⟨n, q, g, m, t, s⟩ := c
  change Hid (∀ W, Calls Try.prog 106 #[.agg #[.int .i64 n, .int .i64 q, .int .i64 g, .int .i64 m, .int .i64 t, .int .i64 s]] W _) at HR
  show Calls _ _ #[.agg #[.int .i64 n, .int .i64 q, .int .i64 g, .int .i64 m, .int .i64 t, .int .i64 s], _] _ _
  obtain ⟨b, hb⟩ : ∃ b, rt ⟨n, q, g, m, t, s⟩ = b := ⟨_, rfl⟩
  have HT : Hid (thB ⟨n, q, g, m, t, s⟩ p = (b && decide (0 ≤ p ∧ p < n))) := by
    show _ = _
    unfold thB
    congr 1
    rw [← hb]
    unfold rt rB
    congr 1
    exact propext ⟨fun ⟨a, b, c, d, e, f⟩ => ⟨a, b, c, d, e, f⟩, fun ⟨a, b, c, d, e, f⟩ => ⟨a, b, c, d, e, f⟩⟩
  rw [hb] at HR
  clear hb
  rw [HT.out]
  go_enter Try.func67, Try.ntmps67
  go_wp2_with fail
  have hrow := Row.new w 37 (cCells ⟨n, q, g, m, t, s⟩)
  have hbel := (Below.refl w.heap.size w).alloc (Nat.le_refl _) (.cells (cCells ⟨n, q, g, m, t, s⟩).toArray 37)
  obtain ⟨W, hW⟩ : ∃ W, w.alloc (.cells #[.int .i64 n, .int .i64 q, .int .i64 g, .int .i64 m, .int .i64 t, .int .i64 s] 37) = W := ⟨_, rfl⟩
  have HRw : Hid (Row w.heap.size 37 (cCells ⟨n, q, g, m, t, s⟩) W ∧ Below w.heap.size w W) := by rw [← hW]; exact ⟨hrow, hbel⟩
  rw [hW]
  clear hrow hbel hW
  (with_reducible refine (HR.out _).mono ?_)
  rintro e w3 ⟨rfl, hb3⟩
  have c0 := (HRw.out.1.on' hb3).cell 0
  simp only [cCells, List.getElem?_cons_zero, List.getElem?_cons_succ] at c0
  have HE := Lib.hid (HRw.out.2.trans (hb3.mono HRw.out.2.size))
  clear hb3
  cases b with
  | false =>
    go_wp2
    go_ret
    exact ⟨by simp, HE.out⟩
  | true =>
    by_cases hp : 0 ≤ p
    · go_wp2
      go_ret
      exact ⟨by simp [hp], HE.out⟩
    · go_wp2
      go_ret
      exact ⟨by simp [hp]; omega, HE.out⟩
end Go.Proofs.Ytkhfanhboooilaa
