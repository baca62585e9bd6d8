/- The law ConfNames (layer 5), walked. -/
import Derived.Test.YtkchbnojcfkkhaaDoorLa
namespace Go.Proofs.YtkchbnojcfkkhaaDoor
open Go.RowKit Go.Tx Go.Cg

theorem names_lies (c : Cfg) (w : World) : Calls Tryd.prog 12 #[cVal c] w (fun e w' => ∃ p cap, e = .returned (.slice p (nmsC c).length cap) ∧ StrL w' p (nmsC c) ∧ Below w.heap.size w w') := by
  refine (names_any c w).mono ?_
  rintro e w1 ⟨v, rfl, hown, hb⟩
  obtain ⟨p, cap, rfl, hl⟩ := strs_lies hown
  exact ⟨p, cap, rfl, hl, hb⟩

set_option maxRecDepth 10000 in
set_option maxHeartbeats 4000000 in
theorem law_names_short (c : Cfg) (a : Int) (x : List UInt8) (hx : x.length ≤ 60) (w : World) (hE : EnvC w.heap.size w) : Calls Tryd.prog 4 #[cVal c, .int .i64 a, .string ⟨x.toArray⟩] w (Ans (.bool true) w) := by
  have HE := Lib.hid hE
  clear hE
  have hxi : ¬ (60 < (x.length : Int)) := by omega
  have hxn : ¬ (60 < x.length) := by omega
  have k4 := names_lies c
  have hle := nmsC_le c
  have k1 (w' : World) (h : Below w.heap.size w w') := cname_any c a w' (HE.out.on' h)
  have k2 (w' : World) (h : Below w.heap.size w w') := cfind_any c x w' (HE.out.on' h)
  have k3 := find_any c x
  obtain ⟨f, hf⟩ : ∃ f, fst1 (nmsC c) x = f := ⟨_, rfl⟩
  simp only [hf] at k2 k3
  clear hf
  obtain ⟨ez, hez⟩ : ∃ z : Int, (if f < 0 then 2 else 0) = z := ⟨_, rfl⟩
  simp only [hez] at k2
  have HEZ : Hid ((f < 0 ∧ ez = 2) ∨ (0 ≤ f ∧ ez = 0)) := by
    by_cases hf : f < 0
    · rw [if_pos hf] at hez; exact .inl ⟨hf, hez.symm⟩
    · rw [if_neg hf] at hez; exact .inr ⟨by omega, hez.symm⟩
  clear hez
  have hout : ¬ (0 ≤ a ∧ a < (nmsC c).length) → nmV c a = [] := nmV_out
  have hin : ∀ n : Nat, a = n → nmV c a = (nmsC c).getD n [] := fun n e => by subst e; unfold nmV; rw [if_pos (by omega), Int.toNat_natCast]
  obtain ⟨y, hy⟩ : ∃ y, nmV c a = y := ⟨_, rfl⟩
  simp only [hy] at k1 hout hin
  clear hy
  obtain ⟨xs, hxs⟩ : ∃ xs, nmsC c = xs := ⟨_, rfl⟩
  rw [hxs] at k4 hle hout
  simp only [hxs] at hin
  clear hxs
  have kw (w' : World) (h : Below w.heap.size w w') := works_any w' (HE.out.on' h)
  obtain ⟨n, q, g, m, t, s⟩ := c
  have kd (w : World) : Calls Tryd.prog 8 #[.agg #[.int .i64 n, .int .i64 q, .int .i64 g, .int .i64 m, .int .i64 t, .int .i64 s]] w (Ans (.agg #[.int .i64 n, .int .i64 q, .int .i64 g, .int .i64 m, .int .i64 t, .int .i64 s]) w) := docs_any ⟨n, q, g, m, t, s⟩ w
  show Calls _ _ #[.agg #[.int .i64 n, .int .i64 q, .int .i64 g, .int .i64 m, .int .i64 t, .int .i64 s], _, _] _ _
  have HS0 := Lib.hid (six_at n q g m t s 23 w)
  have H0 := HS0.out.1
  obtain ⟨c0, c1, c2, c3, c4, c5⟩ := H0
  go_enter Tryd.func4, Tryd.ntmps4
  go_wp2_with fail
  refine (kd _).mono ?_
  rintro e w2 ⟨rfl, hb2⟩
  have HS := Lib.hid (two_boxes n q g m t s w _ w2 rfl hb2)
  clear c0 c1 c2 c3 c4 c5 hb2 HS0
  go_wp2_with fail
  generalize w2.alloc (.cells #[.int .i64 n, .int .i64 q, .int .i64 g, .int .i64 m, .int .i64 t, .int .i64 s] 25) = W at HS ⊢
  generalize w2.heap.size = g7 at HS ⊢
  have H0 := HS.out.1
  obtain ⟨⟨c0, c1, c2, c3, c4, c5⟩, d0, d1, d2, d3, d4, d5⟩ := H0
  go_wp2_with fail
  refine (k4 _).mono ?_
  rintro e w3 ⟨pn, capn, rfl, hl, hb3⟩
  have HS3 := Lib.hid (t12_keep HS.out hb3)
  have HL := Lib.hid hl
  clear c0 c1 c2 c3 c4 c5 d0 d1 d2 d3 d4 d5 hb3 hl HS k4
  have H0 := HS3.out.1
  obtain ⟨⟨c0, c1, c2, c3, c4, c5⟩, d0, d1, d2, d3, d4, d5⟩ := H0
  by_cases ha : 0 ≤ a
  · by_cases hal : a < xs.length
    · obtain ⟨k, rfl⟩ : ∃ k : Nat, a = k := ⟨a.toNat, by omega⟩
      have hk : k < xs.length := by omega
      obtain ⟨b, rfl, hc⟩ := HL.out.cells k hk
      rw [← hin k rfl] at hc
      change w3.cell? ⟨b, k, none⟩ = some (.string ⟨y.toArray⟩) at hc
      clear hin hout HL
      go_wp2_with fail
      refine (k2 _ HS3.out.2).mono ?_
      rintro e v1 ⟨rfl, hb⟩
      have HV1 := Lib.hid (t12_keep HS3.out hb)
      clear hb c0 c1 c2 c3 c4 c5 d0 d1 d2 d3 d4 d5
      have H0 := HV1.out.1
      obtain ⟨⟨c0, c1, c2, c3, c4, c5⟩, d0, d1, d2, d3, d4, d5⟩ := H0
      go_wp2_with fail
      refine (k3 _).mono ?_
      rintro e v2 ⟨rfl, hb⟩
      have HV2 := Lib.hid (t12_keep HV1.out hb)
      clear hb c0 c1 c2 c3 c4 c5 d0 d1 d2 d3 d4 d5
      have H0 := HV2.out.1
      obtain ⟨⟨c0, c1, c2, c3, c4, c5⟩, d0, d1, d2, d3, d4, d5⟩ := H0
      go_wp2_with fail
      refine (k1 _ HV2.out.2).mono ?_
      rintro e v3 ⟨y', rfl, rfl, hb⟩
      have HV3 := Lib.hid (t12_keep HV2.out hb)
      clear hb c0 c1 c2 c3 c4 c5 d0 d1 d2 d3 d4 d5
      have H0 := HV3.out.1
      obtain ⟨⟨c0, c1, c2, c3, c4, c5⟩, d0, d1, d2, d3, d4, d5⟩ := H0
      rcases HEZ.out with ⟨hf, rfl⟩ | ⟨hf, rfl⟩
      · have hfd : decide (0 ≤ f) = false := decide_eq_false (by omega)
        go_wp2_with fail
        refine (kw _ HV3.out.2).mono ?_
        rintro e v4 ⟨rfl, hb⟩
        have HV4 := Lib.hid (t12_keep HV3.out hb)
        clear hb c0 c1 c2 c3 c4 c5 d0 d1 d2 d3 d4 d5
        have H0 := HV4.out.1
        obtain ⟨⟨c0, c1, c2, c3, c4, c5⟩, d0, d1, d2, d3, d4, d5⟩ := H0
        go_wp2_with fail
        go_ret
        exact ⟨rfl, HV4.out.2⟩
      · go_wp2_with fail
        refine (kw _ HV3.out.2).mono ?_
        rintro e v4 ⟨rfl, hb⟩
        have HV4 := Lib.hid (t12_keep HV3.out hb)
        clear hb c0 c1 c2 c3 c4 c5 d0 d1 d2 d3 d4 d5
        have H0 := HV4.out.1
        obtain ⟨⟨c0, c1, c2, c3, c4, c5⟩, d0, d1, d2, d3, d4, d5⟩ := H0
        go_wp2_with fail
        go_ret
        exact ⟨rfl, HV4.out.2⟩
    · obtain rfl := hout (fun h => hal h.2)
      clear hin hout HL
      go_wp2_with fail
      refine (k2 _ HS3.out.2).mono ?_
      rintro e v1 ⟨rfl, hb⟩
      have HV1 := Lib.hid (t12_keep HS3.out hb)
      clear hb c0 c1 c2 c3 c4 c5 d0 d1 d2 d3 d4 d5
      have H0 := HV1.out.1
      obtain ⟨⟨c0, c1, c2, c3, c4, c5⟩, d0, d1, d2, d3, d4, d5⟩ := H0
      go_wp2_with fail
      refine (k3 _).mono ?_
      rintro e v2 ⟨rfl, hb⟩
      have HV2 := Lib.hid (t12_keep HV1.out hb)
      clear hb c0 c1 c2 c3 c4 c5 d0 d1 d2 d3 d4 d5
      have H0 := HV2.out.1
      obtain ⟨⟨c0, c1, c2, c3, c4, c5⟩, d0, d1, d2, d3, d4, d5⟩ := H0
      go_wp2_with fail
      refine (k1 _ HV2.out.2).mono ?_
      rintro e v3 ⟨y', rfl, rfl, hb⟩
      have HV3 := Lib.hid (t12_keep HV2.out hb)
      clear hb c0 c1 c2 c3 c4 c5 d0 d1 d2 d3 d4 d5
      have H0 := HV3.out.1
      obtain ⟨⟨c0, c1, c2, c3, c4, c5⟩, d0, d1, d2, d3, d4, d5⟩ := H0
      rcases HEZ.out with ⟨hf, rfl⟩ | ⟨hf, rfl⟩
      · have hfd : decide (0 ≤ f) = false := decide_eq_false (by omega)
        go_wp2_with fail
        refine (kw _ HV3.out.2).mono ?_
        rintro e v4 ⟨rfl, hb⟩
        have HV4 := Lib.hid (t12_keep HV3.out hb)
        clear hb c0 c1 c2 c3 c4 c5 d0 d1 d2 d3 d4 d5
        have H0 := HV4.out.1
        obtain ⟨⟨c0, c1, c2, c3, c4, c5⟩, d0, d1, d2, d3, d4, d5⟩ := H0
        go_wp2_with fail
        go_ret
        exact ⟨rfl, HV4.out.2⟩
      · go_wp2_with fail
        refine (kw _ HV3.out.2).mono ?_
        rintro e v4 ⟨rfl, hb⟩
        have HV4 := Lib.hid (t12_keep HV3.out hb)
        clear hb c0 c1 c2 c3 c4 c5 d0 d1 d2 d3 d4 d5
        have H0 := HV4.out.1
        obtain ⟨⟨c0, c1, c2, c3, c4, c5⟩, d0, d1, d2, d3, d4, d5⟩ := H0
        go_wp2_with fail
        go_ret
        exact ⟨rfl, HV4.out.2⟩
  · obtain rfl := hout (fun h => ha h.1)
    clear hin hout HL
    go_wp2_with fail
    refine (k2 _ HS3.out.2).mono ?_
    rintro e v1 ⟨rfl, hb⟩
    have HV1 := Lib.hid (t12_keep HS3.out hb)
    clear hb c0 c1 c2 c3 c4 c5 d0 d1 d2 d3 d4 d5
    have H0 := HV1.out.1
    obtain ⟨⟨c0, c1, c2, c3, c4, c5⟩, d0, d1, d2, d3, d4, d5⟩ := H0
    go_wp2_with fail
    refine (k3 _).mono ?_
    rintro e v2 ⟨rfl, hb⟩
    have HV2 := Lib.hid (t12_keep HV1.out hb)
    clear hb c0 c1 c2 c3 c4 c5 d0 d1 d2 d3 d4 d5
    have H0 := HV2.out.1
    obtain ⟨⟨c0, c1, c2, c3, c4, c5⟩, d0, d1, d2, d3, d4, d5⟩ := H0
    go_wp2_with fail
    refine (k1 _ HV2.out.2).mono ?_
    rintro e v3 ⟨y', rfl, rfl, hb⟩
    have HV3 := Lib.hid (t12_keep HV2.out hb)
    clear hb c0 c1 c2 c3 c4 c5 d0 d1 d2 d3 d4 d5
    have H0 := HV3.out.1
    obtain ⟨⟨c0, c1, c2, c3, c4, c5⟩, d0, d1, d2, d3, d4, d5⟩ := H0
    rcases HEZ.out with ⟨hf, rfl⟩ | ⟨hf, rfl⟩
    · have hfd : decide (0 ≤ f) = false := decide_eq_false (by omega)
      go_wp2_with fail
      refine (kw _ HV3.out.2).mono ?_
      rintro e v4 ⟨rfl, hb⟩
      have HV4 := Lib.hid (t12_keep HV3.out hb)
      clear hb c0 c1 c2 c3 c4 c5 d0 d1 d2 d3 d4 d5
      have H0 := HV4.out.1
      obtain ⟨⟨c0, c1, c2, c3, c4, c5⟩, d0, d1, d2, d3, d4, d5⟩ := H0
      go_wp2_with fail
      go_ret
      exact ⟨rfl, HV4.out.2⟩
    · go_wp2_with fail
      refine (kw _ HV3.out.2).mono ?_
      rintro e v4 ⟨rfl, hb⟩
      have HV4 := Lib.hid (t12_keep HV3.out hb)
      clear hb c0 c1 c2 c3 c4 c5 d0 d1 d2 d3 d4 d5
      have H0 := HV4.out.1
      obtain ⟨⟨c0, c1, c2, c3, c4, c5⟩, d0, d1, d2, d3, d4, d5⟩ := H0
      go_wp2_with fail
      go_ret
      exact ⟨rfl, HV4.out.2⟩

theorem law_names (c : Cfg) (a : Int) (s : ByteArray) (hs : s.size ≤ 9223372036854775807) (w : World) (hE : EnvC w.heap.size w) : Calls Tryd.prog 4 #[cVal c, .int .i64 a, .string s] w (Ans (.bool true) w) := by
  by_cases h : s.size ≤ 60
  · have e : s = ⟨s.data.toList.toArray⟩ := by simp
    have h2 := law_names_short c a s.data.toList (by rw [← Lib.size_eq]; exact h) w hE
    rw [← e] at h2; exact h2
  · have hi : 60 < (s.size : Int) := by omega
    have HE := Lib.hid hE
    clear hE
    have kw (w' : World) (h : Below w.heap.size w w') := works_any w' (HE.out.on' h)
    obtain ⟨n, q, g, m, t, s'⟩ := c
    have HS := Lib.hid (six_at n q g m t s' 23 w)
    show Calls _ _ #[.agg #[.int .i64 n, .int .i64 q, .int .i64 g, .int .i64 m, .int .i64 t, .int .i64 s'], _, _] _ _
    go_enter Tryd.func4, Tryd.ntmps4
    go_wp2_with fail
    refine (kw _ HS.out.2).mono ?_
    rintro e w1 ⟨rfl, hb⟩
    have HB := Lib.hid (HS.out.2.trans (hb.mono HS.out.2.size))
    clear hb
    go_wp2
    go_ret
    exact ⟨rfl, HB.out⟩
end Go.Proofs.YtkchbnojcfkkhaaDoor
