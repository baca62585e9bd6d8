/- slices.Equal, and Same of rings (layer 8). -/
import Derived.Test.YtjdbmedealhbjaaRt
import Derived.LoopTactic
import Derived.Deep.QuietTactic
namespace Go.Proofs.Ytjdbmedealhbjaa
open Go.RowKit Go.Wd Go.Dk

set_option maxHeartbeats 1000000 in
theorem equal_any {S R : Nat → Prop} {w : World} {u v : Value} {xs ys : List Int} (h1 : SlIs S w u xs) (h2 : SlIs R w v ys) : Calls Try.prog 38 #[u, v] w (Ans (.bool (decide (xs = ys))) w) := by
  obtain ⟨p1, n1, c1, rfl, e1⟩ := hid_slice h1
  obtain ⟨p2, n2, c2, rfl, e2⟩ := hid_slice h2
  have hb1 := h1.len
  have hb2 := h2.len
  by_cases hne : n1 = n2
  · subst hne
    have H1 := Lib.hid h1
    have H2 := Lib.hid h2
    have E1 := Lib.hid e1
    have E2 := Lib.hid e2
    have hbn : n1 ≤ 1000000000000000 := by omega
    clear h1 h2 e1 e2 hb1 hb2
    go_enter Try.func38, Try.ntmps38
    go_wp2_with fail
    go_loopw [13] (fun vi wr => ∃ k q : Nat, k ≤ n1 ∧ vi = .int .i64 k ∧ wr = w.drewN q ∧ Hid (∀ j, j < k → xs.getD j 0 = ys.getD j 0)) (fun vi _ => n1 - (intOf vi).toNat)
    case atStart => exact ⟨0, 0, by omega, rfl, rfl, fun j hj => absurd hj (Nat.not_lt_zero _)⟩
    case round =>
      obtain ⟨k, q, hk, rfl, rfl, HA⟩ := hrel
      by_cases hlt : k < n1
      · have hki : (k : Int) < (n1 : Int) := by omega
        obtain ⟨b1, o1, rfl, d1⟩ : ∃ b o, p1 = some ⟨b, o, none⟩ ∧ w.cell? ⟨b, o + k, none⟩ = some (.int .i64 (xs.getD k 0)) := by
          obtain ⟨p', c', e, _, _, _, h5⟩ := H1.out
          cases e
          obtain ⟨b, o, e, _, hc⟩ := h5.cells k (by rw [← E1.out]; exact hlt)
          exact ⟨b, o, e, hc⟩
        obtain ⟨b2, o2, rfl, d2⟩ : ∃ b o, p2 = some ⟨b, o, none⟩ ∧ w.cell? ⟨b, o + k, none⟩ = some (.int .i64 (ys.getD k 0)) := by
          obtain ⟨p', c', e, _, _, _, h5⟩ := H2.out
          cases e
          obtain ⟨b, o, e, _, hc⟩ := h5.cells k (by rw [← E2.out]; exact hlt)
          exact ⟨b, o, e, hc⟩
        obtain ⟨x, hx⟩ : ∃ x, xs.getD k 0 = x := ⟨_, rfl⟩
        obtain ⟨y, hy⟩ : ∃ y, ys.getD k 0 = y := ⟨_, rfl⟩
        rw [hx] at d1
        rw [hy] at d2
        have HXY := Lib.hid (And.intro hx hy)
        clear hx hy
        by_cases hxy : x = y
        · subst hxy
          have HA2 : Hid (∀ j, j < k + 1 → xs.getD j 0 = ys.getD j 0) := fun j hj => by
            by_cases e : j = k
            · subst e; rw [HXY.out.1, HXY.out.2]
            · exact HA.out j (by omega)
          go_wp2_with fail
          go_quiet (fail)
          go_wp2_with fail
          go_round
          case rel => exact ⟨k + 1, q + nq, by omega, by go_num, (by simp [World.drewN]; try omega), HA2⟩
          case measure =>
            show _ < _
            simp only [intOf]; omega
        · have HN : Hid (xs ≠ ys) := fun e => hxy (by rw [← HXY.out.1, ← HXY.out.2, e])
          go_wp2_with fail
          go_quiet (fail)
          go_wp2_with fail
          go_ret
          exact ⟨by rw [decide_eq_false HN.out]; rfl, below_drewN (below_drewN (.refl _ _) q) nq⟩
      · obtain rfl : k = n1 := by omega
        have HE : Hid (xs = ys) := by
          show xs = ys
          apply List.ext_getElem (by rw [← E1.out, ← E2.out])
          intro j a b
          have := HA.out j (by rw [E1.out]; exact a)
          simpa [List.getD, a, b] using this
        go_wp2_with fail
        go_ret
        exact ⟨by rw [decide_eq_true HE.out]; rfl, below_drewN (.refl _ _) q⟩
  · have hne2 : ¬ xs = ys := fun e => hne (by rw [e1, e2, e])
    rw [decide_eq_false hne2]
    have hnei : ¬ ((n1 : Int) = (n2 : Int)) := by omega
    clear h1 h2 e1 e2 hne2
    go_enter Try.func38, Try.ntmps38
    go_wp2_with fail
    go_ret
    exact ⟨rfl, Below.refl _ _⟩
theorem RowPost8.sl {w w' : World} {p : Option Addr} {n c : Nat} {xs : List Int} (h : NewRow w.heap.size w' (.slice p n c) xs) (hl : xs.length ≤ 65536) : SlIs (fun _ => False) w' (.slice p n c) xs := h.sl (by omega) (fun _ _ h => h)
set_option maxHeartbeats 1000000 in
theorem same_ring {w : World} {a b q p ga gb xa xb : Nat} {xs ys : List Int} (r : RingAt w a ga xa q xs) (s : RingAt w b gb xb p ys) : Calls Try.prog 15 #[dptr a, dptr b] w (Ans (.bool (decide (q = p ∧ xs = ys))) w) := by
  have HA := Lib.hid (room_ring r)
  have HB := Lib.hid (room_ring s)
  have HR := Lib.hid r
  have HS := Lib.hid s
  by_cases hqp : q = p
  · subst hqp
    rw [show decide (q = q ∧ xs = ys) = decide (xs = ys) by simp]
    clear r s
    go_enter Try.func15, Try.ntmps15
    go_wp2_with (first
      | (go_at_call 25; (with_reducible refine HA.out.mono ?_); rintro e w' ⟨rfl, rfl⟩)
      | (go_at_call 25; (with_reducible refine HB.out.mono ?_); rintro e w' ⟨rfl, rfl⟩)
      | (go_at_call 22; (with_reducible refine (all_ring HR.out).mono ?_); rintro e w1 ⟨p1, n1, c1, rfl, _, hO, hb⟩; have HO1 := Lib.hid hO; have HB1 := Lib.hid hb; clear hO hb)
      | (go_at_call 22; (with_reducible refine (all_ring (HS.out.on HB1.out)).mono ?_); rintro e w2 ⟨p2, n2, c2, rfl, _, hO, hb⟩; have HO2 := Lib.hid hO; have HB2 := Lib.hid hb; clear hO hb)
      | (go_at_call 38; (with_reducible refine (equal_any (RowPost8.sl (HO1.out.on HB2.out) HR.out.nmax) (RowPost8.sl HO2.out HS.out.nmax)).mono ?_); rintro e w3 ⟨rfl, hb3⟩; have HB3 := Lib.hid hb3; clear hb3))
    go_ret
    exact ⟨rfl, HB1.out.trans ((HB2.out.mono HB1.out.size).trans (HB3.out.mono (Nat.le_trans HB1.out.size HB2.out.size)))⟩
  · rw [show decide (q = p ∧ xs = ys) = false by simp [hqp]]
    have hqi : ¬ ((q : Int) = (p : Int)) := by omega
    clear r s
    go_enter Try.func15, Try.ntmps15
    go_wp2_with (first
      | (go_at_call 25; (with_reducible refine HA.out.mono ?_); rintro e w' ⟨rfl, rfl⟩)
      | (go_at_call 25; (with_reducible refine HB.out.mono ?_); rintro e w' ⟨rfl, rfl⟩))
    go_ret
    exact ⟨rfl, Below.refl _ _⟩
theorem same_none (w : World) : Calls Try.prog 15 #[.pointer none, .pointer none] w (Ans (.bool true) w) := by
  go_enter Try.func15, Try.ntmps15
  go_wp2_with fail
  go_ret
  exact ⟨rfl, Below.refl _ _⟩
end Go.Proofs.Ytjdbmedealhbjaa
