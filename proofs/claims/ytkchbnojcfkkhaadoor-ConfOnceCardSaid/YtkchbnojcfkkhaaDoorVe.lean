/- The reference's Text (layer 5), walked. -/
import Derived.Test.YtkchbnojcfkkhaaDoorVd
namespace Go.Proofs.YtkchbnojcfkkhaaDoor
open Go.RowKit Go.Tx Go.Cg

theorem txt6_join (a b c d e f : Nat) : Ending.returned (.string ((⟨#[110, 32]⟩ : ByteArray) ++ ⟨(dc a).toArray⟩ ++ ⟨#[32, 113, 32]⟩ ++ ⟨(dc b).toArray⟩ ++ ⟨#[32, 103, 32]⟩ ++ ⟨(dc c).toArray⟩ ++ ⟨#[32, 109, 32]⟩ ++ ⟨(dc d).toArray⟩ ++ ⟨#[32, 116, 32]⟩ ++ ⟨(dc e).toArray⟩ ++ ⟨#[32, 115, 32]⟩ ++ ⟨(dc f).toArray⟩)) = Ending.returned (.string ⟨(txt6 a b c d e f).toArray⟩) := by
  rw [show (⟨#[110, 32]⟩ : ByteArray) = ⟨[110, 32].toArray⟩ from rfl, show (⟨#[32, 113, 32]⟩ : ByteArray) = ⟨[32, 113, 32].toArray⟩ from rfl, show (⟨#[32, 103, 32]⟩ : ByteArray) = ⟨[32, 103, 32].toArray⟩ from rfl, show (⟨#[32, 109, 32]⟩ : ByteArray) = ⟨[32, 109, 32].toArray⟩ from rfl, show (⟨#[32, 116, 32]⟩ : ByteArray) = ⟨[32, 116, 32].toArray⟩ from rfl, show (⟨#[32, 115, 32]⟩ : ByteArray) = ⟨[32, 115, 32].toArray⟩ from rfl]
  simp only [bapp]
  unfold txt6
  simp

set_option maxRecDepth 10000 in
set_option maxHeartbeats 4000000 in
theorem rtextc_some (N Q G M T S : Nat) (h1 : N ≤ 8) (h2 : Q ≤ 64) (h3 : G ≤ 256) (h4 : M ≤ 16) (h5 : T ≤ 200) (h6 : S ≤ 1000) (hR : Right ⟨N, Q, G, M, T, S⟩) (w : World) : Calls Tryd.prog 29 #[cVal ⟨N, Q, G, M, T, S⟩] w (Tells (· = txt6 N Q G M T S) w) := by
  have HRt := Lib.hid (rt_yes hR)
  clear hR
  have HS := Lib.hid (six_new N Q G M T S w)
  show Calls _ _ #[.agg #[.int .i64 N, .int .i64 Q, .int .i64 G, .int .i64 M, .int .i64 T, .int .i64 S]] _ _
  go_enter Tryd.func29, Tryd.ntmps29
  go_wp2_with (go_at_call 10; refine (right_any ⟨N, Q, G, M, T, S⟩ _).mono ?_; rintro e w3 ⟨rfl, hb3⟩; rw [HRt.out])
  have HS3 := Lib.hid (six_keep HS.out hb3)
  clear hb3 HS
  go_region_held3 (fun w' => (w'.cell? ⟨w.heap.size, 0, none⟩ = some (.int .i64 N) ∧ w'.cell? ⟨w.heap.size, 1, none⟩ = some (.int .i64 Q) ∧ w'.cell? ⟨w.heap.size, 2, none⟩ = some (.int .i64 G) ∧ w'.cell? ⟨w.heap.size, 3, none⟩ = some (.int .i64 M) ∧ w'.cell? ⟨w.heap.size, 4, none⟩ = some (.int .i64 T) ∧ w'.cell? ⟨w.heap.size, 5, none⟩ = some (.int .i64 S)) ∧ Below w.heap.size w w') (first | exact six_keep HS3.out (Below.refl _ _).drew | exact six_keep (by assumption) (by assumption))
    (first | (go_at_call 34; first | ((with_reducible refine (rdig_any _ N rfl (by omega) _).mono ?_); rintro e y1 ⟨l1, hl1, rfl, hb1⟩; have hll1 : l1.length ≤ 4 := (by rw [hl1]; exact dc_len (by omega)); have HD1 := Lib.hid hl1; clear hl1; have s1 : ¬ (9223372036854775807 < 2 + l1.length) := (by omega); have s1' : ¬ (9223372036854775807 < 2 + l1.length + 3) := (by omega)) | ((with_reducible refine (rdig_any _ Q rfl (by omega) _).mono ?_); rintro e y2 ⟨l2, hl2, rfl, hb2⟩; have hll2 : l2.length ≤ 4 := (by rw [hl2]; exact dc_len (by omega)); have HD2 := Lib.hid hl2; clear hl2; have s2 : ¬ (9223372036854775807 < 2 + l1.length + 3 + l2.length) := (by omega); have s2' : ¬ (9223372036854775807 < 2 + l1.length + 3 + l2.length + 3) := (by omega)) | ((with_reducible refine (rdig_any _ G rfl (by omega) _).mono ?_); rintro e y3 ⟨l3, hl3, rfl, hb3⟩; have hll3 : l3.length ≤ 4 := (by rw [hl3]; exact dc_len (by omega)); have HD3 := Lib.hid hl3; clear hl3; have s3 : ¬ (9223372036854775807 < 2 + l1.length + 3 + l2.length + 3 + l3.length) := (by omega); have s3' : ¬ (9223372036854775807 < 2 + l1.length + 3 + l2.length + 3 + l3.length + 3) := (by omega)) | ((with_reducible refine (rdig_any _ M rfl (by omega) _).mono ?_); rintro e y4 ⟨l4, hl4, rfl, hb4⟩; have hll4 : l4.length ≤ 4 := (by rw [hl4]; exact dc_len (by omega)); have HD4 := Lib.hid hl4; clear hl4; have s4 : ¬ (9223372036854775807 < 2 + l1.length + 3 + l2.length + 3 + l3.length + 3 + l4.length) := (by omega); have s4' : ¬ (9223372036854775807 < 2 + l1.length + 3 + l2.length + 3 + l3.length + 3 + l4.length + 3) := (by omega)) | ((with_reducible refine (rdig_any _ T rfl (by omega) _).mono ?_); rintro e y5 ⟨l5, hl5, rfl, hb5⟩; have hll5 : l5.length ≤ 4 := (by rw [hl5]; exact dc_len (by omega)); have HD5 := Lib.hid hl5; clear hl5; have s5 : ¬ (9223372036854775807 < 2 + l1.length + 3 + l2.length + 3 + l3.length + 3 + l4.length + 3 + l5.length) := (by omega); have s5' : ¬ (9223372036854775807 < 2 + l1.length + 3 + l2.length + 3 + l3.length + 3 + l4.length + 3 + l5.length + 3) := (by omega)) | ((with_reducible refine (rdig_any _ S rfl (by omega) _).mono ?_); rintro e y6 ⟨l6, hl6, rfl, hb6⟩; have hll6 : l6.length ≤ 4 := (by rw [hl6]; exact dc_len (by omega)); have HD6 := Lib.hid hl6; clear hl6; have s6 : ¬ (9223372036854775807 < 2 + l1.length + 3 + l2.length + 3 + l3.length + 3 + l4.length + 3 + l5.length + 3 + l6.length) := (by omega))))
  rename_i hh
  have HB := Lib.hid hh.2
  clear hh
  go_wp2
  go_ret
  refine ⟨_, rfl, ?_, HB.out⟩
  have e := txt6_join N Q G M T S
  rw [← HD1.out, ← HD2.out, ← HD3.out, ← HD4.out, ← HD5.out, ← HD6.out] at e
  exact e
theorem rtextc_none (c : Cfg) (hR : ¬ Right c) (w : World) : Calls Tryd.prog 29 #[cVal c] w (Tells (· = []) w) := by
  have HRt := Lib.hid (rt_no hR)
  clear hR
  obtain ⟨n, q, g, m, t, s⟩ := c
  have HS := Lib.hid (six_new n q g m t s w)
  show Calls _ _ #[.agg #[.int .i64 n, .int .i64 q, .int .i64 g, .int .i64 m, .int .i64 t, .int .i64 s]] _ _
  go_enter Tryd.func29, Tryd.ntmps29
  go_wp2_with (go_at_call 10; refine (right_any ⟨n, q, g, m, t, s⟩ _).mono ?_; rintro e w3 ⟨rfl, hb3⟩; rw [HRt.out])
  have HB := Lib.hid (HS.out.2.trans (hb3.mono HS.out.2.size))
  clear hb3
  go_ret
  exact ⟨_, rfl, rfl, HB.out⟩
theorem rtextc_any (c : Cfg) (w : World) : Calls Tryd.prog 29 #[cVal c] w (Tells (· = txtC c) w) := by
  by_cases hR : Right c
  · rw [txtC_some hR]
    obtain ⟨a, b, g, m, t, s, rfl, h1, h2, h3, h4, h5, h6⟩ := hR.small
    exact rtextc_some a b g m t s h1 h2 h3 h4 h5 h6 hR w
  · rw [txtC_none hR]; exact rtextc_none c hR w
end Go.Proofs.YtkchbnojcfkkhaaDoor
