/- The reference's Find, Of, Slot (layer 5), walked. -/
import Derived.Test.YtkchbnojcfkkhaaDoorVc
namespace Go.Proofs.YtkchbnojcfkkhaaDoor
open Go.RowKit Go.Tx Go.Cg

/-- texts, as they lie -/
structure StrL (w : World) (p : Option Addr) (xs : List (List UInt8)) : Prop where
  cells : ∀ j, j < xs.length → ∃ b, p = some ⟨b, 0, none⟩ ∧ w.cell? ⟨b, j, none⟩ = some (strV (xs.getD j []))
theorem strs_lies {w : World} {B : Nat} {E : TypeId} {v : Value} {xs : List (List UInt8)} (h : w.ownsRow B E 1 v xs.length (xs.map strV)) : ∃ p cap, v = .slice p xs.length cap ∧ StrL w p xs := by
  rcases h.2 with ⟨hv, hz⟩ | ⟨g, cap, cur, hv, hB, hg, hc, hc2, r⟩
  · exact ⟨none, 0, by rw [hv, hz], ⟨fun j hj => by omega⟩⟩
  · subst hv
    refine ⟨_, cap, rfl, ⟨fun j hj => ⟨g, rfl, ?_⟩⟩⟩
    rw [h.cellAt j (by omega), List.getElem?_map]
    simp [List.getD, hj]
theorem StrL.on {w w' : World} {p : Option Addr} {xs : List (List UInt8)} (h : StrL w p xs) (hb : Below w.heap.size w w') : StrL w' p xs :=
  ⟨fun j hj => by obtain ⟨b, hp, hc⟩ := h.cells j hj; exact ⟨b, hp, k_al hc hb⟩⟩
theorem nmsC_le (c : Cfg) : (nmsC c).length ≤ 564 := by
  by_cases hR : Right c
  · rw [nmsC_some hR, nms_length]
    obtain ⟨a, b, g, m, t, s, rfl, h1, h2, h3, h4, h5, h6⟩ := hR.small
    have hm := Nat.mul_le_mul h1 (show 6 + b ≤ 70 by omega)
    show 4 + a * (6 + b) ≤ 564
    omega
  · rw [nmsC_none hR]; simp

set_option maxHeartbeats 400000 in
theorem find_any (c : Cfg) (x : List UInt8) (w : World) : Calls Tryd.prog 24 #[cVal c, .string ⟨x.toArray⟩] w (Ans (.int .i64 (fst1 (nmsC c) x)) w) := by
  obtain ⟨n, q, g, m, t, s⟩ := c
  show Calls _ _ #[.agg #[.int .i64 n, .int .i64 q, .int .i64 g, .int .i64 m, .int .i64 t, .int .i64 s], _] _ _
  go_enter Tryd.func24, Tryd.ntmps24
  go_wp2_with fail
  refine (names_any ⟨n, q, g, m, t, s⟩ _).mono ?_
  rintro e W1 ⟨v, rfl, hown, hb1⟩
  have hlen := nmsC_le ⟨n, q, g, m, t, s⟩
  obtain ⟨xs, hxs⟩ : ∃ xs, nmsC ⟨n, q, g, m, t, s⟩ = xs := ⟨_, rfl⟩
  rw [hxs] at hown hlen
  have HXs := Lib.hid hxs
  clear hxs
  obtain ⟨p, cap, rfl, hL⟩ := strs_lies hown
  have HB := Lib.hid (((Below.refl w.heap.size w).alloc (Nat.le_refl _) (.cells #[.int .i64 n, .int .i64 q, .int .i64 g, .int .i64 m, .int .i64 t, .int .i64 s] 25)).trans (hb1.mono (by simp)))
  have HL := Lib.hid hL
  clear hown hb1 hL
  go_wp2_with fail
  go_loopw [6] (fun vi wr => ∃ i : Nat, i ≤ xs.length ∧ vi = .int .i64 i ∧ wr = W1 ∧ Hid (∀ j, j < i → xs[j]? ≠ some x)) (fun vi _ => xs.length - (intOf vi).toNat)
  case atStart => exact ⟨0, by omega, rfl, rfl, fun j hj => by omega⟩
  case round =>
    obtain ⟨i, hi, rfl, rfl, HI⟩ := hrel
    by_cases hlt : i < xs.length
    · obtain ⟨b, rfl, hc⟩ := HL.out.cells i hlt
      obtain ⟨y, hy⟩ : ∃ y, xs.getD i [] = y := ⟨_, rfl⟩
      rw [hy] at hc
      have hget : xs[i]? = some y := by rw [← hy]; simp [List.getD, hlt]
      have HG := Lib.hid hget
      change wr.cell? ⟨b, i, none⟩ = some (.string ⟨y.toArray⟩) at hc
      have i1 : (0 : Int) ≤ i := by omega
      have i2 : (i : Int) < xs.length := by omega
      clear hy hget
      cases hyx : (y == x)
      · have HI2 : Hid (∀ j, j < i + 1 → xs[j]? ≠ some x) := fun j hj => by
          by_cases e : j = i
          · subst e
            rw [HG.out]
            intro e2
            rw [Option.some.inj e2] at hyx
            simp at hyx
          · exact HI.out j (by omega)
        have hi7 : i + 1 ≤ xs.length := hlt
        go_wp2_with fail
        go_roundw
        case rel => exact ⟨i + 1, hi7, by go_num, trivial, HI2⟩
        case measure =>
          show _ < _
          simp only [intOf]; omega
      · have e : fst1 xs x = i := by
          refine fst1_hit ?_ HI.out
          rw [HG.out, eq_of_beq hyx]
        have HF := Lib.hid e
        clear e
        go_wp2
        go_ret
        exact ⟨by rw [HXs.out, HF.out]; rfl, HB.out⟩
    · have e : fst1 xs x = -1 := fst1_miss (fun j hj => HI.out j (by omega))
      have HF := Lib.hid e
      clear e
      go_wp2
      go_ret
      exact ⟨by rw [HXs.out, HF.out]; rfl, HB.out⟩

set_option maxHeartbeats 400000 in
theorem of_out (c : Cfg) (a : List UInt8) (p : Int) (w : World) (h : p < 0 ∨ 8 < p) : Calls Tryd.prog 19 #[cVal c, .string ⟨a.toArray⟩, .int .i64 p] w (Ans (.int .i64 (-1)) w) := by
  obtain ⟨n, q, g, m, t, s⟩ := c
  show Calls _ _ #[.agg #[.int .i64 n, .int .i64 q, .int .i64 g, .int .i64 m, .int .i64 t, .int .i64 s], _, _] _ _
  have hb := (Below.refl w.heap.size w).alloc (Nat.le_refl _) (.cells #[.int .i64 n, .int .i64 q, .int .i64 g, .int .i64 m, .int .i64 t, .int .i64 s] 25)
  rcases h with h | h
  · go_enter Tryd.func19, Tryd.ntmps19
    go_wp2
    go_ret
    exact ⟨rfl, hb⟩
  · have h' : ¬ p < 0 := by omega
    go_enter Tryd.func19, Tryd.ntmps19
    go_wp2
    go_ret
    exact ⟨rfl, hb⟩
theorem six_in (c : Cfg) (w : World) : (∀ i u, (cCells c)[i]? = some u → (w.alloc (.cells #[.int .i64 c.n, .int .i64 c.q, .int .i64 c.g, .int .i64 c.m, .int .i64 c.t, .int .i64 c.s] 25)).cell? ⟨w.heap.size, i, none⟩ = some u) ∧ Below w.heap.size w (w.alloc (.cells #[.int .i64 c.n, .int .i64 c.q, .int .i64 c.g, .int .i64 c.m, .int .i64 c.t, .int .i64 c.s] 25)) := by
  refine ⟨fun i u hu => ?_, (Below.refl _ _).alloc (Nat.le_refl _) _⟩
  have := (Row.new w 25 (cCells c)).cell i
  rw [hu] at this
  exact this

/-- a config's cells, where it was boxed -/
theorem six_keep {g : Nat} {a0 a1 a2 a3 a4 a5 : Value} {w wr w1 : World} (h : (wr.cell? ⟨g, 0, none⟩ = some a0 ∧ wr.cell? ⟨g, 1, none⟩ = some a1 ∧ wr.cell? ⟨g, 2, none⟩ = some a2 ∧ wr.cell? ⟨g, 3, none⟩ = some a3 ∧ wr.cell? ⟨g, 4, none⟩ = some a4 ∧ wr.cell? ⟨g, 5, none⟩ = some a5) ∧ Below w.heap.size w wr) (hb : Below wr.heap.size wr w1) : (w1.cell? ⟨g, 0, none⟩ = some a0 ∧ w1.cell? ⟨g, 1, none⟩ = some a1 ∧ w1.cell? ⟨g, 2, none⟩ = some a2 ∧ w1.cell? ⟨g, 3, none⟩ = some a3 ∧ w1.cell? ⟨g, 4, none⟩ = some a4 ∧ w1.cell? ⟨g, 5, none⟩ = some a5) ∧ Below w.heap.size w w1 :=
  ⟨⟨k_al h.1.1 hb, k_al h.1.2.1 hb, k_al h.1.2.2.1 hb, k_al h.1.2.2.2.1 hb, k_al h.1.2.2.2.2.1 hb, k_al h.1.2.2.2.2.2 hb⟩, h.2.trans (hb.mono h.2.size)⟩
theorem six_new (n q g m t s : Int) (w : World) : ((w.alloc (.cells #[.int .i64 n, .int .i64 q, .int .i64 g, .int .i64 m, .int .i64 t, .int .i64 s] 25)).cell? ⟨w.heap.size, 0, none⟩ = some (.int .i64 n) ∧ (w.alloc (.cells #[.int .i64 n, .int .i64 q, .int .i64 g, .int .i64 m, .int .i64 t, .int .i64 s] 25)).cell? ⟨w.heap.size, 1, none⟩ = some (.int .i64 q) ∧ (w.alloc (.cells #[.int .i64 n, .int .i64 q, .int .i64 g, .int .i64 m, .int .i64 t, .int .i64 s] 25)).cell? ⟨w.heap.size, 2, none⟩ = some (.int .i64 g) ∧ (w.alloc (.cells #[.int .i64 n, .int .i64 q, .int .i64 g, .int .i64 m, .int .i64 t, .int .i64 s] 25)).cell? ⟨w.heap.size, 3, none⟩ = some (.int .i64 m) ∧ (w.alloc (.cells #[.int .i64 n, .int .i64 q, .int .i64 g, .int .i64 m, .int .i64 t, .int .i64 s] 25)).cell? ⟨w.heap.size, 4, none⟩ = some (.int .i64 t) ∧ (w.alloc (.cells #[.int .i64 n, .int .i64 q, .int .i64 g, .int .i64 m, .int .i64 t, .int .i64 s] 25)).cell? ⟨w.heap.size, 5, none⟩ = some (.int .i64 s)) ∧ Below w.heap.size w (w.alloc (.cells #[.int .i64 n, .int .i64 q, .int .i64 g, .int .i64 m, .int .i64 t, .int .i64 s] 25)) := by
  obtain ⟨h, hb⟩ := six_in ⟨n, q, g, m, t, s⟩ w
  exact ⟨⟨h 0 _ rfl, h 1 _ rfl, h 2 _ rfl, h 3 _ rfl, h 4 _ rfl, h 5 _ rfl⟩, hb⟩
theorem of_join (a : List UInt8) (p : Nat) : ((⟨a.toArray⟩ : ByteArray) ++ ⟨#[32]⟩ ++ ⟨(dc p).toArray⟩) = ⟨(a ++ 32 :: dc p).toArray⟩ := by
  rw [show (⟨#[32]⟩ : ByteArray) = ⟨[32].toArray⟩ from rfl, bapp, bapp]; simp
theorem slot_join' (p i : Nat) : ((⟨#[115, 108, 111, 116, 32]⟩ : ByteArray) ++ ⟨(dc p).toArray⟩ ++ ⟨#[32]⟩ ++ ⟨(dc i).toArray⟩) = ⟨(slotN p i).toArray⟩ := by
  have := slot_join p i
  unfold strV at this
  exact Value.string.inj this

set_option maxRecDepth 10000 in
set_option maxHeartbeats 1000000 in
theorem of_some (c : Cfg) (a : List UInt8) (p : Nat) (w : World) (hp : p ≤ 8) (ha : a.length ≤ 100) : Calls Tryd.prog 19 #[cVal c, .string ⟨a.toArray⟩, .int .i64 p] w (Ans (.int .i64 (fst1 (nmsC c) (a ++ 32 :: dc p))) w) := by
  obtain ⟨n, q, g, m, t, s⟩ := c
  have HS := Lib.hid (six_new n q g m t s w)
  show Calls _ _ #[.agg #[.int .i64 n, .int .i64 q, .int .i64 g, .int .i64 m, .int .i64 t, .int .i64 s], _, _] _ _
  have s1 : ¬ (9223372036854775807 < a.length + 1) := by omega
  have s2 : ¬ (9223372036854775806 < a.length) := by omega
  have p1 : ¬ ((p : Int) < 0) := by omega
  have p2 : ¬ (8 < (p : Int)) := by omega
  go_enter Tryd.func19, Tryd.ntmps19
  go_wp2_with fail
  go_region_held3 (fun w' => (w'.cell? ⟨w.heap.size, 0, none⟩ = some (.int .i64 n) ∧ w'.cell? ⟨w.heap.size, 1, none⟩ = some (.int .i64 q) ∧ w'.cell? ⟨w.heap.size, 2, none⟩ = some (.int .i64 g) ∧ w'.cell? ⟨w.heap.size, 3, none⟩ = some (.int .i64 m) ∧ w'.cell? ⟨w.heap.size, 4, none⟩ = some (.int .i64 t) ∧ w'.cell? ⟨w.heap.size, 5, none⟩ = some (.int .i64 s)) ∧ Below w.heap.size w w') (first | exact six_keep HS.out (Below.refl _ _).drew | exact six_keep (by assumption) (by assumption))
    (first
      | (go_at_call 34; refine (rdig_any _ p rfl (by omega) _).mono ?_; rintro e w3 ⟨l3, hl3, rfl, hb3⟩; have hll3 : l3.length ≤ 4 := (by rw [hl3]; exact dc_len (by omega)); have HD3 := Lib.hid hl3; clear hl3; have s3 : ¬ (9223372036854775807 < a.length + 1 + l3.length) := (by omega))
      | (go_at_call 24; have HJ := of_join a p; rw [← HD3.out] at HJ; rw [HJ]; refine (find_any ⟨n, q, g, m, t, s⟩ _ _).mono ?_; rintro e w4 ⟨rfl, hb4⟩))
  rename_i hh
  have HB := Lib.hid hh.2
  clear hh
  go_wp2
  go_ret
  exact ⟨by rw [HD3.out]; rfl, HB.out⟩

set_option maxHeartbeats 1000000 in
theorem slot_out (c : Cfg) (p : Int) (i : Int) (w : World) (h : p < 0 ∨ 8 < p) : Calls Tryd.prog 21 #[cVal c, .int .i64 p, .int .u32 i] w (Ans (.int .i64 (-1)) w) := by
  obtain ⟨n, q, g, m, t, s⟩ := c
  show Calls _ _ #[.agg #[.int .i64 n, .int .i64 q, .int .i64 g, .int .i64 m, .int .i64 t, .int .i64 s], _, _] _ _
  have hb := (Below.refl w.heap.size w).alloc (Nat.le_refl _) (.cells #[.int .i64 n, .int .i64 q, .int .i64 g, .int .i64 m, .int .i64 t, .int .i64 s] 25)
  rcases h with h | h
  · go_enter Tryd.func21, Tryd.ntmps21
    go_wp2
    go_ret
    exact ⟨rfl, hb⟩
  · have h' : ¬ p < 0 := by omega
    go_enter Tryd.func21, Tryd.ntmps21
    go_wp2
    go_ret
    exact ⟨rfl, hb⟩
set_option maxRecDepth 10000 in
set_option maxHeartbeats 1000000 in
theorem slot_none (c : Cfg) (p : Nat) (i : Int) (w : World) (hp : p ≤ 8) (hR : ¬ Right c) : Calls Tryd.prog 21 #[cVal c, .int .i64 p, .int .u32 i] w (Ans (.int .i64 (-1)) w) := by
  have HRt := Lib.hid (rt_no hR)
  clear hR
  obtain ⟨n, q, g, m, t, s⟩ := c
  have HS := Lib.hid (six_new n q g m t s w)
  show Calls _ _ #[.agg #[.int .i64 n, .int .i64 q, .int .i64 g, .int .i64 m, .int .i64 t, .int .i64 s], _, _] _ _
  have p1 : ¬ ((p : Int) < 0) := by omega
  have p2 : ¬ (8 < (p : Int)) := by omega
  go_enter Tryd.func21, Tryd.ntmps21
  go_wp2_with (go_at_call 10; refine (right_any ⟨n, q, g, m, t, s⟩ _).mono ?_; rintro e w3 ⟨rfl, hb3⟩; rw [HRt.out])
  have HB := Lib.hid (HS.out.2.trans (hb3.mono HS.out.2.size))
  clear hb3
  go_ret
  exact ⟨rfl, HB.out⟩

set_option maxRecDepth 10000 in
set_option maxHeartbeats 1000000 in
theorem slot_some (N Q G M T S : Nat) (hQ : 0 < Q) (hQ2 : Q ≤ 64) (hR : Right ⟨N, Q, G, M, T, S⟩) (p i : Nat) (w : World) (hp : p ≤ 8) (hi : i < 4294967296) : Calls Tryd.prog 21 #[cVal ⟨N, Q, G, M, T, S⟩, .int .i64 p, .int .u32 i] w (Ans (.int .i64 (fst1 (nmsC ⟨N, Q, G, M, T, S⟩) (slotN p (i % Q)))) w) := by
  have HRt := Lib.hid (rt_yes hR)
  clear hR
  have HS := Lib.hid (six_new N Q G M T S w)
  show Calls _ _ #[.agg #[.int .i64 N, .int .i64 Q, .int .i64 G, .int .i64 M, .int .i64 T, .int .i64 S], _, _] _ _
  have p1 : ¬ ((p : Int) < 0) := by omega
  have p2 : ¬ (8 < (p : Int)) := by omega
  have q1 : ¬ ((Q : Int) = 0) := by omega
  have q2 : ¬ (Q = 0) := by omega
  obtain ⟨r, hr⟩ : ∃ r, i % Q = r := ⟨_, rfl⟩
  have hrm : (i : Int).tmod (Q : Int) = (r : Int) := by rw [← hr]; rfl
  have hre : (i : Int) % (Q : Int) = (r : Int) := by rw [← hr]; rfl
  have hrl : r < 64 := by rw [← hr]; exact Nat.lt_of_lt_of_le (Nat.mod_lt _ hQ) hQ2
  have hiw : IntKind.i64.wrap (i : Int) = i := IntWalk.i64_in _ (by omega)
  rw [hr]
  go_enter Tryd.func21, Tryd.ntmps21
  go_wp2_with (go_at_call 10; refine (right_any ⟨N, Q, G, M, T, S⟩ _).mono ?_; rintro e w3 ⟨rfl, hb3⟩; rw [HRt.out])
  have HS3 := Lib.hid (six_keep HS.out hb3)
  clear hb3 HS
  go_region_held3 (fun w' => (w'.cell? ⟨w.heap.size, 0, none⟩ = some (.int .i64 N) ∧ w'.cell? ⟨w.heap.size, 1, none⟩ = some (.int .i64 Q) ∧ w'.cell? ⟨w.heap.size, 2, none⟩ = some (.int .i64 G) ∧ w'.cell? ⟨w.heap.size, 3, none⟩ = some (.int .i64 M) ∧ w'.cell? ⟨w.heap.size, 4, none⟩ = some (.int .i64 T) ∧ w'.cell? ⟨w.heap.size, 5, none⟩ = some (.int .i64 S)) ∧ Below w.heap.size w w') (first | exact six_keep HS3.out (Below.refl _ _).drew | exact six_keep (by assumption) (by assumption))
    (first
      | (go_at_call 34; first | ((with_reducible refine (rdig_any _ p rfl (by omega) _).mono ?_); rintro e w4 ⟨l4, hl4, rfl, hb4⟩; have hll4 : l4.length ≤ 4 := (by rw [hl4]; exact dc_len (by omega)); have HD4 := Lib.hid hl4; clear hl4; have s4 : ¬ (9223372036854775807 < 5 + l4.length) := (by omega); have s4' : ¬ (9223372036854775807 < 5 + l4.length + 1) := (by omega)) | ((with_reducible refine (rdig_any _ r rfl (by omega) _).mono ?_); rintro e w5 ⟨l5, hl5, rfl, hb5⟩; have hll5 : l5.length ≤ 4 := (by rw [hl5]; exact dc_len (by omega)); have HD5 := Lib.hid hl5; clear hl5; have s5 : ¬ (9223372036854775807 < 5 + l4.length + 1 + l5.length) := (by omega)))
      | (go_at_call 24; have HJ := slot_join' p r; rw [← HD4.out, ← HD5.out] at HJ; rw [HJ]; refine (find_any ⟨N, Q, G, M, T, S⟩ _ _).mono ?_; rintro e w6 ⟨rfl, hb6⟩))
  rename_i hh
  have HB := Lib.hid hh.2
  clear hh
  go_wp2
  go_ret
  exact ⟨by rw [HD4.out, HD5.out]; rfl, HB.out⟩
/-- the reference's Of and Slot, of any P -/
noncomputable def ofV (c : Cfg) (a : List UInt8) (p : Int) : Int := if p < 0 ∨ 8 < p then -1 else fst1 (nmsC c) (a ++ 32 :: dc p.toNat)
open Classical in
noncomputable def slV (c : Cfg) (p : Int) (i : Nat) : Int := if p < 0 ∨ 8 < p ∨ ¬ Right c then -1 else fst1 (nmsC c) (slotN p.toNat (i % c.q.toNat))
theorem rof_any (c : Cfg) (a : List UInt8) (p : Int) (w : World) (ha : a.length ≤ 100) : Calls Tryd.prog 19 #[cVal c, .string ⟨a.toArray⟩, .int .i64 p] w (Ans (.int .i64 (ofV c a p)) w) := by
  unfold ofV
  by_cases h : p < 0 ∨ 8 < p
  · rw [if_pos h]; exact of_out c a p w h
  · rw [if_neg h]
    obtain ⟨n, rfl⟩ : ∃ n : Nat, p = n := ⟨p.toNat, by omega⟩
    exact of_some c a n w (by omega) ha
theorem rslot_any (c : Cfg) (p : Int) (i : Nat) (w : World) (hi : i < 4294967296) : Calls Tryd.prog 21 #[cVal c, .int .i64 p, .int .u32 i] w (Ans (.int .i64 (slV c p i)) w) := by
  unfold slV
  by_cases h : p < 0 ∨ 8 < p
  · rw [if_pos (by rcases h with h | h; exact .inl h; exact .inr (.inl h))]; exact slot_out c p i w h
  · obtain ⟨n, rfl⟩ : ∃ n : Nat, p = n := ⟨p.toNat, by omega⟩
    by_cases hR : Right c
    · rw [if_neg (by rintro (h1 | h1 | h1); exact h (.inl h1); exact h (.inr h1); exact h1 hR)]
      have hq := hR.q
      obtain ⟨a, b, g, m, t, s, rfl, h1, h2, h3, h4, h5, h6⟩ := hR.small
      exact slot_some a b g m t s (by simp only at hq; omega) h2 hR n i w (by omega) hi
    · rw [if_pos (.inr (.inr hR))]; exact slot_none c n i w (by omega) hR
open Classical in
/-- closed -/
theorem ofV_cell {c : Cfg} {r : Nat} (hr : r < 6) (p : Int) : ofV c (W6.getD r []) p = if Right c ∧ 0 ≤ p ∧ p < c.n then 4 + p * (6 + c.q) + r else -1 := by
  unfold ofV
  by_cases hR : Right c
  · have hn := hR.n
    by_cases h : p < 0 ∨ 8 < p
    · rw [if_pos h, if_neg (by rintro ⟨-, h1, h2⟩; omega)]
    · rw [if_neg h]
      obtain ⟨n, rfl⟩ : ∃ n : Nat, p = n := ⟨p.toNat, by omega⟩
      show fst1 (nmsC c) (cellN r n) = _
      rw [fst1_cell hR hr]
      by_cases hp : (n : Int) < c.n
      · rw [if_pos hp, if_pos ⟨hR, by omega, hp⟩]
      · rw [if_neg hp, if_neg (by rintro ⟨-, h1, h2⟩; exact hp h2)]
  · rw [if_neg (show ¬ (Right c ∧ 0 ≤ p ∧ p < c.n) from fun h => hR h.1)]
    split
    · rfl
    · exact fst1_wrong hR _
open Classical in
theorem slV_slot {c : Cfg} (p : Int) (i : Nat) : slV c p i = if Right c ∧ 0 ≤ p ∧ p < c.n then 4 + p * (6 + c.q) + 6 + (i : Int) % c.q else -1 := by
  unfold slV
  by_cases hR : Right c
  · have hn := hR.n
    have hq := hR.q
    by_cases h : p < 0 ∨ 8 < p
    · rw [if_pos (by rcases h with h | h; exact .inl h; exact .inr (.inl h)), if_neg (by rintro ⟨-, h1, h2⟩; omega)]
    · rw [if_neg (by rintro (h1 | h1 | h1); exact h (.inl h1); exact h (.inr h1); exact h1 hR)]
      obtain ⟨n, rfl⟩ : ∃ n : Nat, p = n := ⟨p.toNat, by omega⟩
      have hm : ((i % c.q.toNat : Nat) : Int) = (i : Int) % c.q := by
        rw [Int.natCast_emod, Int.toNat_of_nonneg (by omega)]
      have hl : ((i % c.q.toNat : Nat) : Int) < c.q := by rw [hm]; exact Int.emod_lt_of_pos _ (by omega)
      rw [show ((n : Nat) : Int).toNat = n from rfl, fst1_slot hR hl, hm]
      by_cases hp : (n : Int) < c.n
      · rw [if_pos hp, if_pos ⟨hR, by omega, hp⟩]
      · rw [if_neg hp, if_neg (by rintro ⟨-, h1, h2⟩; exact hp h2)]
  · rw [if_neg (show ¬ (Right c ∧ 0 ≤ p ∧ p < c.n) from fun h => hR h.1)]
    split
    · rfl
    · exact fst1_wrong hR _
end Go.Proofs.YtkchbnojcfkkhaaDoor
