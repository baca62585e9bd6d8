/- The code's Name and Find (layer 5), walked. -/
import Derived.Test.YtkchbnojcfkkhaaDoorQc
namespace Go.Proofs.YtkchbnojcfkkhaaDoor
open Go.RowKit Go.Tx Go.Cg

set_option maxRecDepth 10000 in
set_option maxHeartbeats 2000000 in
theorem pname_slot (c : Cfg) (p i : Nat) (z : Int) (hp : p ≤ 8) (hz : z = 6 + i) (hi : i ≤ 64) {B : Nat} (w : World) (hE : EnvC B w) : Calls Tryd.prog 37 #[pVal c p, .int .i64 z] w (Tells (· = slotN p i) w) := by
  have HE := Lib.hid hE
  have hnm := hE.nm 6 (by omega)
  have hwk : W7.getD 6 [] = WS := by decide
  rw [hwk] at hnm
  change w.cell? ⟨1, 6, none⟩ = some (.string ⟨#[115, 108, 111, 116]⟩) at hnm
  clear hwk hE
  obtain ⟨n, q, g, m, t, s⟩ := c
  have HV := Lib.hid (sev_at n q g m t s p 57 w)
  have HS : Hid (((w.alloc (.cells #[.int .i64 n, .int .i64 q, .int .i64 g, .int .i64 m, .int .i64 t, .int .i64 s, .int .i64 p] 57)).cell? ⟨w.heap.size, 6, none⟩ = some (.int .i64 p) ∧ (w.alloc (.cells #[.int .i64 n, .int .i64 q, .int .i64 g, .int .i64 m, .int .i64 t, .int .i64 s, .int .i64 p] 57)).cell? ⟨1, 6, none⟩ = some (.string ⟨#[115, 108, 111, 116]⟩)) ∧ Below w.heap.size w (w.alloc (.cells #[.int .i64 n, .int .i64 q, .int .i64 g, .int .i64 m, .int .i64 t, .int .i64 s, .int .i64 p] 57))) :=
    ⟨⟨HV.out.1.2.2.2.2.2.2, k_al hnm HV.out.2⟩, HV.out.2⟩
  clear hnm HV
  have k6 : ¬ (z < 6) := by omega
  have k7 : IntKind.i64.wrap (z - 6) = (i : Int) := by rw [IntWalk.i64_in _ (by omega)]; omega
  clear hz
  show Calls _ _ #[.agg #[.int .i64 n, .int .i64 q, .int .i64 g, .int .i64 m, .int .i64 t, .int .i64 s, .int .i64 p], _] _ _
  go_enter Tryd.func37, Tryd.ntmps37
  go_wp2_with fail
  go_region_held3 (fun w' => (w'.cell? ⟨w.heap.size, 6, none⟩ = some (.int .i64 p) ∧ w'.cell? ⟨1, 6, none⟩ = some (.string ⟨#[115, 108, 111, 116]⟩)) ∧ Below w.heap.size w w') (first | with_reducible exact k2_keep HS.out (Below.refl _ _).drew | with_reducible exact k2_keep (by assumption) (by assumption) | with_reducible exact k2_keep (by assumption) ((Below.refl _ _).alloc (Nat.le_refl _) _))
    (first
      | (go_at_call 39; first | ((with_reducible refine (cdig_any _ p rfl (by omega) _ (HE.out.at (by assumption))).mono ?_); rintro e w3 ⟨l3, hl3, rfl, hb3⟩; have hll3 : l3.length ≤ 4 := (by rw [hl3]; exact dc_len (by omega)); have HD3 := Lib.hid hl3; clear hl3) | ((with_reducible refine (cdig_any _ i rfl (by omega) _ (HE.out.at (by assumption))).mono ?_); rintro e w5 ⟨l5, hl5, rfl, hb5⟩; have hll5 : l5.length ≤ 4 := (by rw [hl5]; exact dc_len (by omega)); have HD5 := Lib.hid hl5; clear hl5))
      | (go_at_call 38; refine (words_three [115, 108, 111, 116] l3 l5 _ _ (by decide) (by omega) (by omega)).mono ?_; rintro e w4 ⟨l4, hl4, rfl, hb4⟩; have HD4 := Lib.hid hl4; clear hl4))
  rename_i hh
  have HB := Lib.hid hh.2
  clear hh
  go_wp2
  go_ret
  exact ⟨l4, by rw [HD4.out, HD3.out, HD5.out]; rfl, rfl, HB.out⟩

/-- the name of an address, of any config -/
noncomputable def nmV (c : Cfg) (a : Int) : List UInt8 := if 0 ≤ a then (nmsC c).getD a.toNat [] else []
theorem nmV_out {c : Cfg} {a : Int} (h : ¬ (0 ≤ a ∧ a < (nmsC c).length)) : nmV c a = [] := by
  unfold nmV
  by_cases h0 : 0 ≤ a
  · rw [if_pos h0, List.getD_eq_getElem?_getD, List.getElem?_eq_none (by omega)]; rfl
  · rw [if_neg h0]
theorem nmV_in {c : Cfg} {a : Nat} (hR : Right c) (h : a < (nmsC c).length) : nmV c a = nameAt c.q.toNat a := by
  unfold nmV
  rw [if_pos (by omega), Int.toNat_natCast, List.getD_eq_getElem?_getD]
  rw [nmsC_len hR] at h
  rw [nmsC_at hR h]; rfl
theorem sub_one (n : Nat) (h : n ≤ 1000) : IntKind.i64.wrap ((n : Int) - 1) = (n : Int) - 1 := IntWalk.i64_in _ (by omega)

set_option maxHeartbeats 1000000 in
theorem cname_out (c : Cfg) (a : Int) (h : ¬ (0 ≤ a ∧ a < (nmsC c).length)) (w : World) : Calls Tryd.prog 25 #[cVal c, .int .i64 a] w (Tells (· = []) w) := by
  have hcel := ccells_any c
  have hle := nmsC_le c
  obtain ⟨L, hL⟩ : ∃ L, (nmsC c).length = L := ⟨_, rfl⟩
  rw [hL] at hcel h hle
  clear hL
  have h2 : ¬ (0 ≤ a ∧ a ≤ (L : Int) - 1) := by omega
  obtain ⟨n, q, g, m, t, s⟩ := c
  have HS := Lib.hid (six_at n q g m t s 23 w)
  have H0 := HS.out.1
  obtain ⟨c0, c1, c2, c3, c4, c5⟩ := H0
  show Calls _ _ #[.agg #[.int .i64 n, .int .i64 q, .int .i64 g, .int .i64 m, .int .i64 t, .int .i64 s], _] _ _
  go_enter Tryd.func25, Tryd.ntmps25
  go_wp2_with fail
  refine (hcel _).mono ?_
  rintro e w1 ⟨rfl, hb1⟩
  have HB := Lib.hid (HS.out.2.trans (hb1.mono HS.out.2.size))
  clear hb1 c0 c1 c2 c3 c4 c5
  go_wp2_with (go_at_call 31; refine (within_no h2 _).mono ?_; rintro e w4 ⟨rfl, rfl⟩)
  go_ret
  exact ⟨[], rfl, rfl, HB.out⟩
set_option maxHeartbeats 1000000 in
theorem cname_four (c : Cfg) (a : Nat) (h : a < (nmsC c).length) (h4 : a < 4) {B : Nat} (w : World) (hE : EnvC B w) : Calls Tryd.prog 25 #[cVal c, .int .i64 a] w (Tells (· = W4.getD a []) w) := by
  have hcel := ccells_any c
  have hle := nmsC_le c
  obtain ⟨L, hL⟩ : ∃ L, (nmsC c).length = L := ⟨_, rfl⟩
  rw [hL] at hcel h hle
  clear hL
  have h2 : 0 ≤ (a : Int) ∧ (a : Int) ≤ (L : Int) - 1 := by omega
  have i0 : (0 : Int) ≤ a := by omega
  have i4 : (a : Int) < 4 := by omega
  have hsh := hE.sh a h4
  obtain ⟨x, hx⟩ : ∃ x, W4.getD a [] = x := ⟨_, rfl⟩
  rw [hx] at hsh ⊢
  change w.cell? ⟨0, a, none⟩ = some (.string ⟨x.toArray⟩) at hsh
  clear hx hE
  obtain ⟨n, q, g, m, t, s⟩ := c
  have HS := Lib.hid (six_at n q g m t s 23 w)
  have H0 := HS.out.1
  obtain ⟨c0, c1, c2, c3, c4, c5⟩ := H0
  show Calls _ _ #[.agg #[.int .i64 n, .int .i64 q, .int .i64 g, .int .i64 m, .int .i64 t, .int .i64 s], _] _ _
  go_enter Tryd.func25, Tryd.ntmps25
  go_wp2_with fail
  refine (hcel _).mono ?_
  rintro e w1 ⟨rfl, hb1⟩
  have HB := Lib.hid (HS.out.2.trans (hb1.mono HS.out.2.size))
  have hsh1 := k_al hsh HB.out
  clear hb1 c0 c1 c2 c3 c4 c5 hsh
  go_wp2_with (go_at_call 31; refine (within_yes h2 _).mono ?_; rintro e w4 ⟨rfl, rfl⟩)
  go_ret
  exact ⟨x, rfl, rfl, HB.out⟩
theorem pname_any (c : Cfg) (p k : Nat) (hp : p ≤ 8) (hk : k < 70) {B : Nat} (w : World) (hE : EnvC B w) : Calls Tryd.prog 37 #[pVal c p, .int .i64 k] w (Tells (· = if k < 6 then cellN k p else slotN p (k - 6)) w) := by
  by_cases h : k < 6
  · rw [if_pos h]; exact pname_cell c p k (by omega) h w hE
  · rw [if_neg h]; exact pname_slot c p (k - 6) k hp (by omega) (by omega) w hE

set_option maxRecDepth 10000 in
set_option maxHeartbeats 2000000 in
theorem cname_more (N Q G M T S a : Nat) (hN : N ≤ 8) (hQ : Q ≤ 64) (hR : Right ⟨N, Q, G, M, T, S⟩) (h : a < (nmsC ⟨N, Q, G, M, T, S⟩).length) (h4 : ¬ a < 4) {B : Nat} (w : World) (hE : EnvC B w) : Calls Tryd.prog 25 #[cVal ⟨N, Q, G, M, T, S⟩, .int .i64 a] w (Tells (· = nameAt Q a) w) := by
  have HE := Lib.hid hE
  clear hE
  have hcel := ccells_any ⟨N, Q, G, M, T, S⟩
  have hln : (nmsC ⟨N, Q, G, M, T, S⟩).length = 4 + N * (6 + Q) := nmsC_len hR
  have hle := nmsC_le ⟨N, Q, G, M, T, S⟩
  have hdv : (a - 4) / (6 + Q) < N := by
    rw [Nat.div_lt_iff_lt_mul (by omega)]; omega
  clear hR
  obtain ⟨L, hL⟩ : ∃ L, (nmsC ⟨N, Q, G, M, T, S⟩).length = L := ⟨_, rfl⟩
  rw [hL] at hcel h hle
  clear hL hln
  have h2 : 0 ≤ (a : Int) ∧ (a : Int) ≤ (L : Int) - 1 := by omega
  have i4 : ¬ (a : Int) < 4 := by omega
  have hname : nameAt Q a = if (a - 4) % (6 + Q) < 6 then cellN ((a - 4) % (6 + Q)) ((a - 4) / (6 + Q)) else slotN ((a - 4) / (6 + Q)) ((a - 4) % (6 + Q) - 6) := by unfold nameAt; rw [if_neg h4]
  have hrl : (a - 4) % (6 + Q) < 6 + Q := Nat.mod_lt _ (by omega)
  have e4 : (a : Int) - 4 = ((a - 4 : Nat) : Int) := by omega
  have e6 : 6 + (Q : Int) = ((6 + Q : Nat) : Int) := by push_cast; rfl
  obtain ⟨d, hd⟩ : ∃ d, (a - 4) / (6 + Q) = d := ⟨_, rfl⟩
  obtain ⟨r, hr⟩ : ∃ r, (a - 4) % (6 + Q) = r := ⟨_, rfl⟩
  have t1 : ((a : Int) - 4).tdiv (6 + (Q : Int)) = (d : Int) := by rw [e4, e6, ← hd]; rfl
  have t2 : ((a : Int) - 4).tmod (6 + (Q : Int)) = (r : Int) := by rw [e4, e6, ← hr]; rfl
  have t3 : ((a : Int) - 4) / (6 + (Q : Int)) = (d : Int) := by rw [e4, e6, ← hd]; rfl
  have t4 : ((a : Int) - 4) % (6 + (Q : Int)) = (r : Int) := by rw [e4, e6, ← hr]; rfl
  have q1 : ¬ (6 + (Q : Int) = 0) := by omega
  have hwd : IntKind.i64.wrap (d : Int) = d := IntWalk.i64_in _ (by rw [hd] at hdv; omega)
  rw [hd] at hdv
  rw [hr] at hrl
  rw [hd, hr] at hname
  rw [hname]
  clear hname e4 e6 hd hr
  have hpn := pname_any ⟨N, Q, G, M, T, S⟩ d r (by omega) (by omega) (B := B)
  obtain ⟨nm, hnm⟩ : ∃ nm, (if r < 6 then cellN r d else slotN d (r - 6)) = nm := ⟨_, rfl⟩
  rw [hnm] at hpn ⊢
  clear hnm
  have HS := Lib.hid (six_at N Q G M T S 23 w)
  have H0 := HS.out.1
  obtain ⟨c0, c1, c2, c3, c4, c5⟩ := H0
  show Calls _ _ #[.agg #[.int .i64 N, .int .i64 Q, .int .i64 G, .int .i64 M, .int .i64 T, .int .i64 S], _] _ _
  go_enter Tryd.func25, Tryd.ntmps25
  go_wp2_with fail
  refine (hcel _).mono ?_
  rintro e w1 ⟨rfl, hb1⟩
  have HS3 := Lib.hid (six_keep HS.out hb1)
  clear hb1 c0 c1 c2 c3 c4 c5 HS
  go_wp2_with (go_at_call 31; refine (within_yes h2 _).mono ?_; rintro e w4 ⟨rfl, rfl⟩)
  go_region_held3 (fun w' => (w'.cell? ⟨w.heap.size, 0, none⟩ = some (.int .i64 N) ∧ w'.cell? ⟨w.heap.size, 1, none⟩ = some (.int .i64 Q) ∧ w'.cell? ⟨w.heap.size, 2, none⟩ = some (.int .i64 G) ∧ w'.cell? ⟨w.heap.size, 3, none⟩ = some (.int .i64 M) ∧ w'.cell? ⟨w.heap.size, 4, none⟩ = some (.int .i64 T) ∧ w'.cell? ⟨w.heap.size, 5, none⟩ = some (.int .i64 S)) ∧ Below w.heap.size w w') (first | with_reducible exact six_keep HS3.out (Below.refl _ _).drew | with_reducible exact six_keep (by assumption) (by assumption))
    (first
      | (go_at_call 33; refine (each_any ⟨N, Q, G, M, T, S⟩ ⟨by show (0 : Int) ≤ (Q : Int); omega, by show (Q : Int) ≤ 64; omega⟩ _).mono ?_; rintro e w4 ⟨rfl, hb4⟩)
      | (go_at_call 37; refine (hpn _ (HE.out.at (by assumption))).mono ?_; rintro e w5 ⟨l5, hl5, rfl, hb5⟩; have HD5 := Lib.hid hl5; clear hl5))
  rename_i hh
  have HB := Lib.hid hh.2
  clear hh
  go_wp2
  go_ret
  exact ⟨l5, HD5.out, rfl, HB.out⟩
theorem cname_any (c : Cfg) (a : Int) {B : Nat} (w : World) (hE : EnvC B w) : Calls Tryd.prog 25 #[cVal c, .int .i64 a] w (Tells (· = nmV c a) w) := by
  by_cases h : 0 ≤ a ∧ a < (nmsC c).length
  · obtain ⟨a, rfl⟩ : ∃ n : Nat, a = n := ⟨a.toNat, by omega⟩
    have ha : a < (nmsC c).length := by omega
    have hR : Right c := by
      by_cases hR : Right c
      · exact hR
      · rw [nmsC_none hR] at ha; exact absurd ha (Nat.not_lt_zero _)
    rw [nmV_in hR ha]
    by_cases h4 : a < 4
    · rw [nameAt_four h4]; exact cname_four c a ha h4 w hE
    · obtain ⟨N, Q, G, M, T, S, rfl, h1, h2, -⟩ := hR.small
      exact cname_more N Q G M T S a h1 h2 hR ha h4 w hE
  · rw [nmV_out h]; exact cname_out c a h w

end Go.Proofs.YtkchbnojcfkkhaaDoor
