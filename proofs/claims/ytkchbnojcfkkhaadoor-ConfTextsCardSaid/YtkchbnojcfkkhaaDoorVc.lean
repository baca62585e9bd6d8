/- The reference's Names (layer 5), walked: its loops. -/
import Derived.Test.YtkchbnojcfkkhaaDoorVb
namespace Go.Proofs.YtkchbnojcfkkhaaDoor
open Go.RowKit Go.Tx Go.Cg

set_option maxRecDepth 10000 in
set_option maxHeartbeats 4000000 in
theorem names_some (N Q G M T S : Nat) (hN : N ≤ 8) (hQ : Q ≤ 64) (hR : Right ⟨N, Q, G, M, T, S⟩) (w : World) : Calls Tryd.prog 12 #[cVal ⟨N, Q, G, M, T, S⟩] w (StrsPost (nms Q (cells N Q)) w) := by
  obtain ⟨i0, hi, hz0, hz1, hz2⟩ := info_parts infoStr
  have HRt := Lib.hid (rt_yes hR)
  clear hR
  show Calls _ _ #[.agg #[.int .i64 N, .int .i64 Q, .int .i64 G, .int .i64 M, .int .i64 T, .int .i64 S]] _ _
  go_enter Tryd.func12, Tryd.ntmps12
  go_wp2_with fail
  refine (right_any ⟨N, Q, G, M, T, S⟩ _).mono ?_
  rintro e W1 ⟨rfl, hb1⟩
  rw [HRt.out]
  have hrow := (Row.new w 25 (cCells ⟨N, Q, G, M, T, S⟩)).on' hb1
  have hbel := ((Below.refl w.heap.size w).alloc (Nat.le_refl _) (.cells #[.int .i64 N, .int .i64 Q, .int .i64 G, .int .i64 M, .int .i64 T, .int .i64 S] 25)).trans (hb1.mono (by simp))
  have c0 : W1.cell? ⟨w.heap.size, 0, none⟩ = some (.int .i64 N) := hrow.cell 0
  have c1 : W1.cell? ⟨w.heap.size, 1, none⟩ = some (.int .i64 Q) := hrow.cell 1
  have HB := Lib.hid hbel
  have HB2 := Lib.hid hbel
  have HC := Lib.hid (And.intro c0 c1)
  clear hrow hbel hb1 c0 c1 HRt
  generalize w.heap.size = g0 at HB HC ⊢
  go_wp2_with fail
  have HS0 := Lib.hid (NSt.four W1 Q)
  obtain ⟨W2, hW2⟩ : ∃ W2, W1.alloc (.cells #[.string ⟨#[116, 105, 99, 107, 101, 116]⟩, .string ⟨#[115, 101, 114, 118, 105, 110, 103]⟩, .string ⟨#[105, 100, 108, 101]⟩, .string ⟨#[115, 105, 122, 101]⟩] 9) = W2 := ⟨_, rfl⟩
  rw [hW2] at HS0 ⊢
  clear hW2
  go_loopw [3, 4] (fun vo vp wr => ∃ p : Nat, p ≤ N ∧ vp = .int .i64 p ∧ Hid (NSt W1 Q (4 + p * (6 + Q)) vo wr)) (fun _ vp _ => N - (intOf vp).toNat)
  case atStart => exact ⟨0, by omega, rfl, by rw [Nat.zero_mul, Nat.add_zero]; exact HS0⟩
  case round =>
    obtain ⟨p, hp, rfl, HS⟩ := hrel
    clear HS0
    obtain ⟨vo, rfl⟩ : ∃ v, v = u3 := ⟨_, rfl⟩
    have c0 := k_al HC.out.1 HS.out.bel
    by_cases hpN : p < N
    · have hpNi : (p : Int) < N := by omega
      have hm := Nat.mul_le_mul_right (6 + Q) hp
      have hm2 := Nat.mul_le_mul_right (6 + Q) hN
      have HK0 := Lib.hid (show 4 + p * (6 + Q) ≤ 564 by omega)
      clear hm hm2
      go_wp2_with fail
      have HSix := Lib.hid (SixW.new wr)
      have HS1 := Lib.hid (HS.out.on ((Below.refl _ _).alloc (Nat.le_refl _) (.cells #[.string ⟨#[119, 111, 114, 100]⟩, .string ⟨#[110, 101, 120, 116]⟩, .string ⟨#[115, 116, 97, 116]⟩, .string ⟨#[116, 105, 99, 107]⟩, .string ⟨#[115, 121, 115]⟩, .string ⟨#[102, 108, 97, 103]⟩] 9)))
      have HV : Hid (vo.ownBlock ≠ some wr.heap.size) := fun e => by have := (HS.out.own.lt _ e).2; omega
      obtain ⟨W3, hW3⟩ : ∃ W3, wr.alloc (.cells #[.string ⟨#[119, 111, 114, 100]⟩, .string ⟨#[110, 101, 120, 116]⟩, .string ⟨#[115, 116, 97, 116]⟩, .string ⟨#[116, 105, 99, 107]⟩, .string ⟨#[115, 121, 115]⟩, .string ⟨#[102, 108, 97, 103]⟩] 9) = W3 := ⟨_, rfl⟩
      rw [hW3] at HSix HS1 ⊢
      have HG : Hid (wr.heap.size < W3.heap.size) := by show _ < _; rw [← hW3]; simp
      clear hW3 HS c0
      generalize wr.heap.size = g6 at HSix HV HG ⊢
      go_loopw [3, 6] (fun vo vi wx => ∃ i : Nat, i ≤ 6 ∧ vi = .int .i64 i ∧ Hid (NSt W1 Q (4 + p * (6 + Q) + i) vo wx) ∧ Hid (SixW g6 wx) ∧ Hid (vo.ownBlock ≠ some g6) ∧ Hid (g6 < wx.heap.size)) (fun _ vi _ => 6 - (intOf vi).toNat)
      case atStart => exact ⟨0, by omega, rfl, HS1, HSix, HV, HG⟩
      case round =>
        obtain ⟨i, hi6, rfl, HS, HSix, HV, HG⟩ := hrel
        clear HS1
        obtain ⟨vo, rfl⟩ : ∃ v, v = u3 := ⟨_, rfl⟩
        by_cases hi6 : i < 6
        · have hc := HSix.out i hi6
          have hla := w6_len i
          obtain ⟨a, ha⟩ : ∃ a, W6.getD i [] = a := ⟨_, rfl⟩
          rw [ha] at hc hla
          have HCell : Hid (wr.cell? ⟨g6, i, none⟩ = some (.string ⟨a.toArray⟩)) := hc
          have HA := Lib.hid ha
          have HX := Lib.hid (And.intro (show 4 + p * (6 + Q) + i + 1 ≤ maxLen by have := HK0.out; unfold maxLen; omega) (show (4 + p * (6 + Q) + i + 1) * 16 ≤ 140737488355328 by have := HK0.out; omega))
          have s1 : ¬ (9223372036854775807 < a.length + 1) := by omega
          have s2 : ¬ (9223372036854775806 < a.length) := by omega
          have f1 : (0 : Int) ≤ i := by omega
          have f2 : (i : Int) < 6 := by omega
          clear hc ha
          go_wp2_with fail
          go_region_held3 (fun w' => w'.cell? ⟨g6, i, none⟩ = some (.string ⟨a.toArray⟩)) (first | exact HCell.out | exact k_al (by assumption) (by assumption) | exact k_al (by assumption) ((Below.refl _ _).alloc (Nat.le_refl _) _) | exact k_gr (by assumption) (by assumption) HV.out)
            (first
              | (go_at_call 34; refine (rdig_any _ p rfl (by omega) _).mono ?_; rintro e w3 ⟨l3, hl3, rfl, hb3⟩; have hll3 : l3.length ≤ 4 := (by rw [hl3]; exact dc_len (by omega)); have HD3 := Lib.hid hl3; clear hl3; have s3 : ¬ (9223372036854775807 < a.length + 1 + l3.length) := (by omega); have HS3 := Lib.hid (HS.out.on (Below.trans (Below.refl _ _).drew hb3)); have HSix3 := Lib.hid (HSix.out.on (Below.trans (Below.refl _ _).drew hb3)))
              | (refine step_append_lies _ rfl (.tmp 25) (.tmp 34) 30 (by rfl) W1.heap.size 9 i0 (.string ⟨#[]⟩) 1 16 Tryd.underlying30 hi hz0 hz1 hz2 rfl (by decide) vo (4 + p * (6 + Q) + i) ((nms Q (4 + p * (6 + Q) + i)).map strV) (by kernel_rfl) (HS3.out.own.alloc _) ⟨w3.heap.size, 0, none⟩ 1 1 [.string _] (by kernel_rfl) rfl (str_new _ w3 _) (str_one _) (by decide) HX.out.1 HX.out.2 (Nat.le_trans HS3.out.bel.size (by simp)) (w3.heap.size + 1) (by simp) ?_; intro g4 cap4 w4 hown4 hgrow4 hat4 hlt4))
          have hj : Value.string ((⟨a.toArray⟩ : ByteArray) ++ ⟨#[32]⟩ ++ ⟨l3.toArray⟩) = strV (nameAt Q (4 + p * (6 + Q) + i)) := by rw [nameAt_cell hi6, ← cell_join, HA.out, HD3.out]
          have HN := Lib.hid ((HS3.out.on ((Below.refl _ _).alloc (Nat.le_refl _) _)).push hj hown4 hgrow4)
          have HNS := Lib.hid ((HSix3.out.on ((Below.refl _ _).alloc (Nat.le_refl _) _)).grown hgrow4 HV.out)
          have hg63 : g6 < w3.heap.size := block_lt_of_cell (HSix3.out 0 (by decide))
          have HNV : Hid ((Value.slice (some ⟨g4, 0, none⟩) (4 + p * (6 + Q) + i + 1) cap4).ownBlock ≠ some g6) := fun e => by
            have e' : g4 = g6 := Option.some.inj e
            subst e'
            rcases hat4 with e | e
            · exact HV.out e
            · omega
          have HNG : Hid (g6 < w4.heap.size) := block_lt_of_cell (HNS.out 0 (by decide))
          have hi7 : i + 1 ≤ 6 := hi6
          clear hj hown4 hgrow4 hat4 hlt4 hg63 HS3 HSix3 HD3 HA HCell HS HSix HV HG s1 s2 s3 hla hll3
          go_wp2_with fail
          go_roundw
          case rel => exact ⟨i + 1, hi7, by go_num, HN, HNS, HNV, HNG⟩
          case measure =>
            show _ < _
            simp only [intOf]; omega
        · have hin : ¬ ((i : Int) < 6) := by omega
          clear HSix HV HG
          have HS0 : Hid (NSt W1 Q (4 + p * (6 + Q) + (6 + 0)) vo wr) := by
            obtain rfl : i = 6 := by omega
            exact HS
          clear HS
          go_wp2_with fail
          go_loopw [3, 7] (fun vo vi wx => ∃ i : Nat, i ≤ Q ∧ vi = .int .i64 i ∧ Hid (NSt W1 Q (4 + p * (6 + Q) + (6 + i)) vo wx)) (fun _ vi _ => Q - (intOf vi).toNat)
          case atStart => exact ⟨0, by omega, rfl, HS0⟩
          case round =>
            obtain ⟨i, hiQ, rfl, HS⟩ := hrel
            clear HS0
            obtain ⟨vo, rfl⟩ : ∃ v, v = u3 := ⟨_, rfl⟩
            have c1 := k_al HC.out.2 HS.out.bel
            by_cases hiq : i < Q
            · have hiqi : (i : Int) < Q := by omega
              have HX := Lib.hid (And.intro (show 4 + p * (6 + Q) + (6 + i) + 1 ≤ maxLen by have := HK0.out; unfold maxLen; omega) (show (4 + p * (6 + Q) + (6 + i) + 1) * 16 ≤ 140737488355328 by have := HK0.out; omega))
              go_wp2_with fail
              refine (rdig_any _ p rfl (by omega) _).mono ?_
              rintro e w3 ⟨l3, hl3, rfl, hb3⟩
              have hll3 : l3.length ≤ 4 := by rw [hl3]; exact dc_len (by omega)
              have HD3 := Lib.hid hl3
              have HS3 := Lib.hid (HS.out.on hb3)
              clear hl3 hb3 HS c1
              go_wp2_with fail
              refine (rdig_any _ i rfl (by omega) _).mono ?_
              rintro e w5 ⟨l5, hl5, rfl, hb5⟩
              have hll5 : l5.length ≤ 4 := by rw [hl5]; exact dc_len (by omega)
              have HD5 := Lib.hid hl5
              have HS5 := Lib.hid (HS3.out.on hb5)
              clear hl5 hb5 HS3
              go_wp2_with (at_builtin; refine wpList_append_lies _ rfl (.tmp 42) (.tmp 50) 30 (by rfl) W1.heap.size 9 i0 (.string ⟨#[]⟩) 1 16 Tryd.underlying30 hi hz0 hz1 hz2 rfl (by decide) vo (4 + p * (6 + Q) + (6 + i)) ((nms Q (4 + p * (6 + Q) + (6 + i))).map strV) (by kernel_rfl) (HS5.out.own.alloc _) ⟨w5.heap.size, 0, none⟩ 1 1 [.string _] (by kernel_rfl) rfl (str_new _ w5 _) (str_one _) (by decide) HX.out.1 HX.out.2 (Nat.le_trans HS5.out.bel.size (by simp)) (w5.heap.size + 1) (by simp) ?_; intro g4 cap4 w4 hown4 hgrow4 hat4 hlt4)
              have hj : Value.string ((⟨#[115, 108, 111, 116, 32]⟩ : ByteArray) ++ ⟨l3.toArray⟩ ++ ⟨#[32]⟩ ++ ⟨l5.toArray⟩) = strV (nameAt Q (4 + p * (6 + Q) + (6 + i))) := by rw [nameAt_slot hiq, ← slot_join, HD3.out, HD5.out]
              have HN := Lib.hid ((HS5.out.on ((Below.refl _ _).alloc (Nat.le_refl _) _)).push hj hown4 hgrow4)
              clear hj hown4 hgrow4 hat4 hlt4 HS5 HD3 HD5 hll3 hll5
              go_wp2_with fail
              go_roundw
              case rel => exact ⟨i + 1, hiq, by go_num, HN⟩
              case measure =>
                show _ < _
                simp only [intOf]; omega
            · obtain rfl : i = Q := by omega
              have HN : Hid (NSt W1 i (4 + (p + 1) * (6 + i)) vo wr) := by
                have e : 4 + (p + 1) * (6 + i) = 4 + p * (6 + i) + (6 + i) := by rw [Nat.add_mul]; omega
                show NSt _ _ _ _ _
                rw [e]; exact HS.out
              have hp1 : p + 1 ≤ N := hpN
              go_wp2_with fail
              go_roundw
              case rel => exact ⟨p + 1, hp1, by go_num, HN⟩
              case measure =>
                show _ < _
                simp only [intOf]; omega
    · obtain rfl : p = N := by omega
      go_wp2_with fail
      go_ret
      refine ⟨_, rfl, ?_, ?_⟩
      · rw [nms_length]
        exact own_base1 HS.out.own HB2.out.size
      · exact HB2.out.trans (HS.out.bel.mono HB2.out.size)

set_option maxHeartbeats 400000 in
theorem names_none (c : Cfg) (hR : ¬ Right c) (w : World) : Calls Tryd.prog 12 #[cVal c] w (StrsPost [] w) := by
  have HRt := Lib.hid (rt_no hR)
  clear hR
  obtain ⟨n, q, g, m, t, s⟩ := c
  show Calls _ _ #[.agg #[.int .i64 n, .int .i64 q, .int .i64 g, .int .i64 m, .int .i64 t, .int .i64 s]] _ _
  go_enter Tryd.func12, Tryd.ntmps12
  go_wp2_with fail
  refine (right_any ⟨n, q, g, m, t, s⟩ _).mono ?_
  rintro e W1 ⟨rfl, hb1⟩
  rw [HRt.out]
  have HB := Lib.hid (((Below.refl w.heap.size w).alloc (Nat.le_refl _) (.cells #[.int .i64 n, .int .i64 q, .int .i64 g, .int .i64 m, .int .i64 t, .int .i64 s] 25)).trans (hb1.mono (by simp)))
  clear hb1
  go_wp2
  go_ret
  exact ⟨_, rfl, World.ownsRow_nil _ _ _ _, HB.out⟩
theorem names_any (c : Cfg) (w : World) : Calls Tryd.prog 12 #[cVal c] w (StrsPost (nmsC c) w) := by
  by_cases hR : Right c
  · rw [nmsC_some hR]
    obtain ⟨a, b, g, m, t, s, rfl, h1, h2, h3, h4, h5, h6⟩ := hR.small
    exact names_some a b g m t s h1 h2 hR w
  · rw [nmsC_none hR]
    exact names_none c hR w
end Go.Proofs.YtkchbnojcfkkhaaDoor
