/- The law ClockOrders: its walk. -/
import Derived.Test.YtfigkoknhiabnaaDoorLo
import Derived.BigQuiet
import Derived.Deep.QuietTactic
namespace Go.Proofs.YtfigkoknhiabnaaDoor
open Go.RowKit Go.Fm Go.Sm Go.Tx

set_option maxRecDepth 100000 in
set_option maxHeartbeats 8000000 in
theorem law_orders (zs os : List Int) (p q : Option Addr) (l c m cq : Nat) (t d : Int) (ht : t ≤ 9223372036854775807) (w : World) (hlz : l = zs.length) (hmz : m = os.length) (hlm : l ≤ 9223372036854775807) (hmm : m ≤ 9223372036854775807)
    (hL : l ≤ 60 → Lies .i64 w p zs) (hO : m ≤ 60 → Lies .i64 w q os) (henv : Env w.heap.size w) :
    Calls Tryd.prog 4 #[.slice p l c, .slice q m cq, .int .i64 t, .int .i64 d] w (Ans (.bool true) w) := by
  obtain ⟨i0, hi, hy0, hy1, hy2⟩ := info_parts infoI64
  have HE := Lib.hid henv
  have HL0 := Lib.hid hL
  have HO0 := Lib.hid hO
  have HLZ := Lib.hid hlz
  have HMZ := Lib.hid hmz
  clear henv hL hO hlz hmz
  by_cases hbig : l ≤ 60 ∧ m ≤ 60
  · obtain ⟨hl60, hm60⟩ := hbig
    have HL := Lib.hid (HL0.out hl60)
    have HO := Lib.hid (HO0.out hm60)
    clear HL0 HO0
    have hab := ((Clk.new' w w.heap.size rfl).on' ((Below.refl _ _).alloc (Nat.le_refl _) (.cells Tryd.zeroCells29 29)))
    have hbb := Clk.new' (w.alloc (.cells Tryd.zeroCells29 29)) (w.heap.size + 1) (by simp)
    have HS0 : Hid (OSt w t d zs 0 [] (.slice none 0 0) false false ((w.alloc (.cells Tryd.zeroCells29 29)).alloc (.cells Tryd.zeroCells29 29))) :=
      ⟨hab, .nil _, hbb, World.ownsRow_nil _ _ _ _, (fun h => by cases h), (fun h => by cases h), grow2 _ _ (.refl _ _)⟩
    clear hab hbb
    go_enter Tryd.func4, Tryd.ntmps4
    go_wp2_with fail
    obtain ⟨W, hW⟩ : ∃ W, (w.alloc (.cells Tryd.zeroCells29 29)).alloc (.cells Tryd.zeroCells29 29) = W := ⟨_, rfl⟩
    rw [hW] at HS0 ⊢
    clear hW
    go_loopw [11, 12, 13, 14] (fun vg vd vf vi wr => ∃ k : Nat, k ≤ l ∧ vi = .int .i64 k ∧ ∃ laps du fu, vd = .bool du ∧ vf = .bool fu ∧ Hid (OSt w t d zs k laps vg du fu wr)) (fun _ _ _ vi _ => l - (intOf vi).toNat)
    case atStart => exact ⟨0, by omega, rfl, [], false, false, rfl, rfl, HS0⟩
    case round =>
      obtain ⟨k, hk, rfl, laps, du, fu, rfl, rfl, HS⟩ := hrel
      clear HS0
      by_cases hkl : k < l
      · have hkz : k < zs.length := by rw [← HLZ.out]; exact hkl
        obtain ⟨b, o, rfl, hcell⟩ := (HL.out.on HS.out.bel).cells k hkz
        obtain ⟨z, hz⟩ : ∃ z, zs.getD k 0 = z := ⟨_, rfl⟩
        have htb := tA_bd zs k
        have hle := tA_le hkz
        have hmore := tA_more hkz
        rw [hz] at hcell hmore
        obtain ⟨T, hT⟩ : ∃ T, tA zs k = T := ⟨_, rfl⟩
        obtain ⟨T2, hT2⟩ : ∃ T2, tA zs (k + 1) = T2 := ⟨_, rfl⟩
        have hca := HS.out.a
        rw [hT] at htb hle hmore hca
        rw [hT2] at hle hmore
        have HZ := Lib.hid hz
        have HT := Lib.hid hT
        have HT2 := Lib.hid hT2
        have HMO := Lib.hid hmore
        have HCA := Lib.hid hca
        clear hz hT hT2 hmore hca
        have i1 : (0 : Int) ≤ (k : Int) := by omega
        have i2 : (k : Int) < (l : Int) := by omega
        obtain ⟨du2, hdu2⟩ : ∃ b : Bool, decide (d ≤ since T2 t) = b := ⟨_, rfl⟩
        obtain ⟨fu2, hfu2⟩ : ∃ b : Bool, (T2 == 4611686018427387904) = b := ⟨_, rfl⟩
        have hD : du = true → du2 = true := fun e => by
          have h1 := HS.out.due e
          rw [HT.out] at h1
          rw [← hdu2]; simp only [decide_eq_true_eq]; exact Int.le_trans h1 (since_mono hle)
        have hF : fu = true → fu2 = true := fun e => by
          have h1 := HS.out.full e
          rw [HT.out] at h1
          have h2 : T2 ≤ 4611686018427387904 := by rw [← HT2.out]; exact (tA_bd zs (k + 1)).2
          rw [← hfu2]; simp only [beq_iff_eq]; omega
        have cD := fun w' (h : Clk w.heap.size T2 (mark laps T2) w') => due_any (n := t) (d := d) w' ht h
        have cF := fun w' (h : Clk w.heap.size T2 (mark laps T2) w') => full_any w' h
        have cF' : ∀ (w' : World), Clk w.heap.size T2 (mark laps T2) w' → Calls Tryd.prog 16 #[.pointer (some ⟨w.heap.size, 0, none⟩)] w' fun e w'' => e = .returned (.bool fu2) ∧ w' = w'' := by rw [← hfu2]; exact cF
        have cD' : ∀ (w' : World), Clk w.heap.size T2 (mark laps T2) w' → Calls Tryd.prog 15 #[.pointer (some ⟨w.heap.size, 0, none⟩), .int .i64 t, .int .i64 d] w' fun e w'' => e = .returned (.bool du2) ∧ w' = w'' := by rw [← hdu2]; exact cD
        have HDU : Hid (decide (d ≤ since (tA zs (k + 1)) t) = du2) := by rw [HT2.out]; exact hdu2
        have HFU : Hid ((tA zs (k + 1) == 4611686018427387904) = fu2) := by rw [HT2.out]; exact hfu2
        obtain ⟨ez, hez⟩ : ∃ ez : Int, (if z < 0 then (2 : Int) else 0) = ez := ⟨_, rfl⟩
        have hzc : (z < 0 ∧ ez = 2 ∧ T2 = T) ∨ (0 ≤ z ∧ ez = 0) := by
          by_cases h : z < 0
          · refine .inl ⟨h, by rw [← hez, if_pos h], by rw [← HMO.out, plus_neg h]⟩
          · exact .inr ⟨by omega, by rw [← hez, if_neg h]⟩
        have cA := fun w' (h : Clk w.heap.size T laps w') => add_at z w' h HMO.out hez
        clear cD cF hdu2 hfu2 hez
        have nlt : ¬ T2 < T := by omega
        go_wp2_with fail
        refine (now_any _ HCA.out).mono ?_
        rintro e w' ⟨rfl, rfl⟩
        go_wp2_with fail
        refine (cA _ HCA.out).mono ?_
        rintro e w1 ⟨rfl, hc1, ht1⟩
        have HT1 := Lib.hid ht1
        have cM := mark_any _ hc1
        clear cA hc1 ht1
        go_wp2_with fail
        refine cM.mono ?_
        rintro e w2 ⟨rfl, hc2, ht2⟩
        have HG := Lib.hid (HS.out.goes (w2 := w1) (w3 := w2) (by rw [HT2.out]; exact hc2) HT1.out ht2 (by rw [HT.out, HT2.out]; exact hle))
        have HC2 := Lib.hid hc2
        clear hc2 ht2 cM HT1 HCA
        obtain ⟨b2, o2, e2, hcell2⟩ := (HL.out.on HG.out.2.2.2.2).cells k hkz
        cases e2
        rw [HZ.out] at hcell2
        clear hcell
        rcases hzc with ⟨hz0, rfl, rfl⟩ | ⟨hz0, rfl⟩
        · have hz1 : ¬ 0 ≤ z := by omega
          cases du <;> cases fu
          all_goals
            try obtain rfl : du2 = true := hD rfl
            try obtain rfl : fu2 = true := hF rfl
            clear hD hF
            go_wp2_with (first
              | (go_at_call 12; (with_reducible refine (now_any _ HC2.out).mono ?_); rintro e w' ⟨rfl, rfl⟩)
              | (go_at_call 15; (with_reducible refine (cD' _ HC2.out).mono ?_); rintro e w' ⟨rfl, rfl⟩)
              | (go_at_call 16; (with_reducible refine (cF' _ HC2.out).mono ?_); rintro e w' ⟨rfl, rfl⟩))
            go_roundw
            case rel => exact ⟨k + 1, by omega, by go_num, _, _, _, rfl, rfl, OSt.no HG.out hkz (by rw [HZ.out]; exact hz0) HDU.out HFU.out⟩
            case measure =>
              show _ < _
              simp only [intOf]; omega
        · have hgl := goodU_le zs k
          have HN3 : Hid ((goodU zs k).length + 1 ≤ maxLen) := by show _ ≤ _; unfold maxLen; omega
          have HN4 : Hid (((goodU zs k).length + 1) * 8 ≤ 140737488355328) := by show _ ≤ _; omega
          have HN5 : Hid (w.heap.size + 1 + 1 ≤ (w2.alloc (.cells #[.int .i64 z] 2)).heap.size) := by have := HG.out.2.2.1.lt; show _ ≤ _; simp; omega
          clear hgl
          cases du <;> cases fu
          all_goals
            try obtain rfl : du2 = true := hD rfl
            try obtain rfl : fu2 = true := hF rfl
            clear hD hF
            go_wp2_with (first
              | (go_at_call 12; (with_reducible refine (now_any _ HC2.out).mono ?_); rintro e w' ⟨rfl, rfl⟩)
              | (go_at_call 15; (with_reducible refine (cD' _ HC2.out).mono ?_); rintro e w' ⟨rfl, rfl⟩)
              | (go_at_call 16; (with_reducible refine (cF' _ HC2.out).mono ?_); rintro e w' ⟨rfl, rfl⟩)
              | (at_builtin; refine wpList_append_own _ rfl (.tmp 92) (.tmp 97) 30 rfl (w.heap.size + 1 + 1) 2 i0 (.int .i64 0) 1 8 Tryd.underlying30 hi hy0 hy1 hy2 rfl (by decide) _ _ _ rfl (HG.out.2.2.2.1.alloc _) ⟨w2.heap.size, 0, none⟩ 1 1 [.int .i64 z] rfl rfl (one_new z w2 _) (one_one z) HN3.out HN4.out HN5.out ?_; intro v4 w4 hO4 hg4 _))
            have HN := Lib.hid (OSt.yes HG.out hkz (by rw [HZ.out]; exact hz0) HZ.out HDU.out HFU.out hO4 hg4)
            clear hO4 hg4
            go_wp2_with fail
            go_roundw
            case rel => exact ⟨k + 1, by omega, by go_num, _, _, _, rfl, rfl, HN⟩
            case measure =>
              show _ < _
              simp only [intOf]; omega
      · obtain rfl : k = l := by omega
        obtain ⟨pv, cap1, hv⟩ := ownk_form HS.out.good
        subst hv
        have HG : Hid (Clk w.heap.size (S (goodU zs k)) laps wr ∧ Rise laps (S (goodU zs k)) ∧ Clk (w.heap.size + 1) 0 [] wr ∧ wr.ownsRow (w.heap.size + 1 + 1) 2 1 (.slice pv (goodU zs k).length cap1) (goodU zs k).length ((goodU zs k).map (Value.int .i64)) ∧ Below w.heap.size w wr) := ⟨HS.out.a, HS.out.rise, HS.out.b, HS.out.good, HS.out.bel⟩
        obtain ⟨gs, hgs⟩ : ∃ gs, goodU zs k = gs := ⟨_, rfl⟩
        have HPOS := Lib.hid (goodU_pos zs k)
        have hn60 := goodU_le zs k
        clear HS
        rw [hgs] at HG HPOS hn60 ⊢
        obtain ⟨n, hn⟩ : ∃ n, gs.length = n := ⟨_, rfl⟩
        rw [hn] at HG hn60 ⊢
        have HN := Lib.hid hn
        clear hn hgs
        go_wp2_with fail
        refine (laps_any _ HG.out.1).mono ?_
        rintro e w1 ⟨vl, rfl, hLo, hb1⟩
        obtain ⟨pl, capl, hvl⟩ := ownk_form hLo
        subst hvl
        have hl64 := HG.out.1.le
        obtain ⟨nl, hnl⟩ : ∃ nl, laps.length = nl := ⟨_, rfl⟩
        rw [hnl] at hLo hl64 ⊢
        have HNL := Lib.hid hnl
        have HB1 := Lib.hid hb1
        have HLA := Lib.hid (show Lies .i64 w1 pl laps by obtain ⟨_, _, e, h⟩ := ownk_lies hLo HNL.out.symm (by omega); cases e; exact h)
        clear hLo hb1 hnl
        go_wp2_with fail
        go_loopw [18] (fun vi wj => ∃ i : Nat, 1 ≤ i ∧ vi = .int .i64 i ∧ Hid (Below w1.heap.size w1 wj)) (fun vi _ => 64 - (intOf vi).toNat)
        case atStart => exact ⟨1, by omega, rfl, Lib.hid (.refl _ _)⟩
        case round =>
          obtain ⟨i, hi, rfl, HD⟩ := hrel
          by_cases hil : i < nl
          · obtain ⟨b, o, rfl, e1⟩ := (HLA.out.on HD.out).cells i (by rw [HNL.out]; exact hil)
            obtain ⟨b', o', e2, e3⟩ := (HLA.out.on HD.out).cells (i - 1) (by rw [HNL.out]; omega)
            cases e2
            have hup := HG.out.2.1.up (i - 1) (by rw [HNL.out]; omega)
            rw [show i - 1 + 1 = i by omega] at hup
            generalize laps.getD i 0 = x at e1 hup
            generalize laps.getD (i - 1) 0 = y at e3 hup
            have i1 : (0 : Int) ≤ (i : Int) := by omega
            have i2 : (i : Int) < (nl : Int) := by omega
            have i3 : (0 : Int) ≤ (i : Int) - 1 := by omega
            have i4 : (i : Int) - 1 < (nl : Int) := by omega
            have i5 : IntKind.i64.wrap ((i : Int) - 1) = (i : Int) - 1 := IntWalk.i64_in _ (by omega)
            have i6 : ((i : Int) - 1).toNat = i - 1 := by omega
            have nlt : ¬ x < y := by omega
            have HD1 := Lib.hid (fun nq => (HD.out.trans (⟨rfl, rfl, rfl, Nat.le_refl _, fun _ _ => rfl⟩ : Below w1.heap.size wr (wr.drewN nq))))
            go_wp2_with fail
            go_quiet (fail)
            clear i5
            go_wp2
            go_roundw
            case rel => exact ⟨i + 1, by omega, by go_num, HD1.out _⟩
            case measure =>
              show _ < _
              simp only [intOf]; omega
          · have hb2 := HB1.out.trans (HD.out.mono HB1.out.size)
            have HG2 := Lib.hid (And.intro (HG.out.1.on' hb2) (And.intro (HG.out.2.2.1.on' hb2) (And.intro (ownk_on HG.out.2.2.2.1 hb2) (HG.out.2.2.2.2.trans (hb2.mono HG.out.2.2.2.2.size)))))
            clear hb2 HD HB1 HLA HG
            obtain ⟨j0, hj, hj0, hj1, hj2⟩ := info_parts infoBool
            go_wp2_with (at_make; refine wpList_make_full _ rfl _ _ 49 rfl wr.heap.size 4 j0 (.bool false) 1 Tryd.underlying49 hj hj0 hj1 _ _ _ _ n rfl rfl (by omega) (by omega) ?b2 ?b3 ?b4 ?_)
            case b2 => rw [hj2]; omega
            case b3 => unfold maxLen; omega
            case b4 => exact Nat.le_refl _
            intro w7 hown hgrow
            have hb7 := (Below.refl wr.heap.size wr).grown hgrow (Nat.le_refl _) (fun k hk => by cases hk)
            rw [toList_madeCells_one] at hown
            have HO3 : Hid (O3 w (S gs) gs n wr.heap.size laps (.slice pv n cap1) (List.replicate n false) (List.replicate n false) w7) := by
              have hlt := HG2.out.2.2.1.lt
              have hsz := HG2.out.2.1.lt
              refine ⟨HG2.out.1.on' hb7, ?_, ownk_on HG2.out.2.2.1 hb7, ownk_base (by rw [List.map_replicate]; exact hown) (by omega), (fun e => by have := (hlt _ e).2; omega), List.length_replicate, List.length_replicate, HN.out, HG2.out.2.2.2.trans (hb7.mono HG2.out.2.2.2.size)⟩
              have := HG2.out.2.1.on' hb7
              rw [uT_none]; exact this
            obtain ⟨gu, hgu⟩ : ∃ gu, wr.heap.size = gu := ⟨_, rfl⟩
            rw [hgu] at HO3 ⊢
            clear hown hgrow hb7 HG2 hj hj0 hj1 hj2 hgu
            go_wp2_with fail
            go_loopw [20] (fun vi wj => ∃ i : Nat, i ≤ m ∧ vi = .int .i64 i ∧ ∃ us, Hid (O3 w (S gs) gs n gu laps (.slice pv n cap1) us us wj)) (fun vi _ => m - (intOf vi).toNat)
            case atStart => exact ⟨0, by omega, rfl, _, HO3⟩
            case round =>
              obtain ⟨i, hi, rfl, us, HU⟩ := hrel
              clear HO3
              by_cases him : i < m ∧ 0 < n
              · obtain ⟨him, hn0⟩ := him
                obtain ⟨b, o, rfl, hx⟩ := (HO.out.on HU.out.bel).cells i (by rw [← HMZ.out]; exact him)
                generalize os.getD i 0 = x at hx
                obtain ⟨r, kk, hr, hkk, hkn, hr1, hr2⟩ := pick_ex x n hn0 (by omega)
                have hnz : ¬ n = 0 := by omega
                have hnz' : ¬ (n : Int) = 0 := by omega
                have i1 : (0 : Int) ≤ (i : Int) := by omega
                have i2 : (i : Int) < (m : Int) := by omega
                have i3 : (0 : Int) < (n : Int) := by omega
                have hu := used_at HU.out hkn
                obtain ⟨u, hu0⟩ : ∃ u, us.getD kk false = u := ⟨_, rfl⟩
                rw [hu0] at hu
                obtain ⟨gg, rfl, hgg, hgu, hge⟩ := good_at HU.out hkn
                obtain ⟨z, hz⟩ : ∃ z, gs.getD kk 0 = z := ⟨_, rfl⟩
                rw [hz] at hgg
                have hz0 : 0 ≤ z := by rw [← hz]; exact HPOS.out _ (getD_mem (by rw [HN.out]; exact hkn))
                have hfr := HU.out.used.frozenAt kk
                cases u with
                | true =>
                  go_wp2_with fail
                  go_roundw
                  case rel => exact ⟨i + 1, by omega, by go_num, us, HU⟩
                  case measure =>
                    show _ < _
                    simp only [intOf]; omega
                | false =>
                  have HM := Lib.hid (HU.out.mark (k := kk))
                  have c := add_at z _ HM.out.b (cap_set (by rw [HN.out]; exact hkn) (by rw [HU.out.lu]; exact hkn) hu0 hz0 hz) rfl
                  have HL0 := Lib.hid (show (us.set kk true).length = n by rw [List.length_set]; exact HU.out.lu)
                  generalize (if z < 0 then (2 : Int) else 0) = ez at c
                  clear hz hu0 hz0
                  go_wp2_with fail
                  refine c.mono ?_
                  rintro e w9 ⟨rfl, hc9, ht9⟩
                  have HU9 := Lib.hid (HM.out.add hc9 ht9 HL0.out)
                  clear hc9 ht9 c HM hgg hgu hge hfr hu
                  go_wp2_with fail
                  go_roundw
                  case rel => exact ⟨i + 1, by omega, by go_num, _, HU9⟩
                  case measure =>
                    show _ < _
                    simp only [intOf]; omega
              · have hx : ¬ i < m ∨ (i < m ∧ n = 0) := by omega
                clear him
                rcases hx with hx | ⟨hx, hx0⟩
                ·
                  go_wp2_with fail
                  go_loopw [22] (fun vi wj => ∃ j : Nat, j ≤ n ∧ vi = .int .i64 j ∧ ∃ vs, Hid (O3 w (S gs) gs n gu laps (.slice pv n cap1) us vs wj) ∧ Hid (∀ i, j ≤ i → vs.getD i false = us.getD i false) ∧ Hid (∀ i, i < j → vs.getD i false = true)) (fun vi _ => n - (intOf vi).toNat)
                  case atStart => exact ⟨0, by omega, rfl, us, HU, Lib.hid (fun i _ => rfl), Lib.hid (fun i h => absurd h (Nat.not_lt_zero _))⟩
                  case round =>
                    obtain ⟨j, hj, rfl, vs, HV, HV1, HV2⟩ := hrel
                    clear HU
                    by_cases hjn : j < n
                    · have hu := used_at HV.out hjn
                      have hv := HV1.out j (Nat.le_refl _)
                      obtain ⟨u, hu0⟩ : ∃ u, us.getD j false = u := ⟨_, rfl⟩
                      rw [hu0] at hu hv
                      obtain ⟨gg, rfl, hgg, hgu, hge⟩ := good_at HV.out hjn
                      obtain ⟨z, hz⟩ : ∃ z, gs.getD j 0 = z := ⟨_, rfl⟩
                      rw [hz] at hgg
                      have hz0 : 0 ≤ z := by rw [← hz]; exact HPOS.out _ (getD_mem (by rw [HN.out]; exact hjn))
                      have i1 : (0 : Int) ≤ (j : Int) := by omega
                      have i2 : (j : Int) < (n : Int) := by omega
                      cases u with
                      | true =>
                        have HW1 : Hid (∀ i, j + 1 ≤ i → vs.getD i false = us.getD i false) := fun i hi => HV1.out i (by omega)
                        have HW2 : Hid (∀ i, i < j + 1 → vs.getD i false = true) := fun i hi => by
                          by_cases e : i = j
                          · rw [e]; exact hv
                          · exact HV2.out i (by omega)
                        clear hv hu0
                        go_wp2_with fail
                        go_roundw
                        case rel => exact ⟨j + 1, by omega, by go_num, vs, HV, HW1, HW2⟩
                        case measure =>
                          show _ < _
                          simp only [intOf]; omega
                      | false =>
                        have c := add_at z _ HV.out.b (cap_set (by rw [HN.out]; exact hjn) (by rw [HV.out.lv]; exact hjn) hv hz0 hz) rfl
                        have HL0 := Lib.hid (show (vs.set j true).length = n by rw [List.length_set]; exact HV.out.lv)
                        generalize (if z < 0 then (2 : Int) else 0) = ez at c
                        have HW1 : Hid (∀ i, j + 1 ≤ i → (vs.set j true).getD i false = us.getD i false) := fun i hi => by
                          rw [← HV1.out i (by omega)]
                          simp [List.getD, List.getElem?_set, show ¬ j = i by omega]
                        have HW2 : Hid (∀ i, i < j + 1 → (vs.set j true).getD i false = true) := fun i hi => by
                          by_cases e : i = j
                          · subst e; simp [List.getD, show i < vs.length by rw [HV.out.lv]; exact hjn]
                          · rw [← HV2.out i (by omega)]; simp [List.getD, List.getElem?_set, show ¬ j = i by omega]
                        clear hz hu0 hz0 hv
                        go_wp2_with fail
                        refine c.mono ?_
                        rintro e w9 ⟨rfl, hc9, ht9⟩
                        have HU9 := Lib.hid (HV.out.add hc9 ht9 HL0.out)
                        clear hc9 ht9 c hgg hgu hge hu
                        go_wp2_with fail
                        go_roundw
                        case rel => exact ⟨j + 1, by omega, by go_num, _, HU9, HW1, HW2⟩
                        case measure =>
                          show _ < _
                          simp only [intOf]; omega
                    · obtain rfl : j = n := by omega
                      have hall : uT gs vs = T gs := uT_all (by rw [HV.out.lv, HN.out]) (fun i hi => HV2.out i (by rw [HN.out] at hi; exact hi))
                      have hb := HV.out.b
                      rw [hall, ← S_cap] at hb
                      have HB9 := Lib.hid hb
                      have HLG := Lib.hid (show Lies .i64 wr pv gs by obtain ⟨_, _, e, h⟩ := ownk_lies HV.out.good HN.out.symm (by omega); cases e; exact h)
                      have cS := rsum_any pv cap1 gs wr HLG.out
                      rw [HN.out] at cS
                      generalize S gs = sg at cS HB9 HV
                      clear hall hb
                      go_wp2_with fail
                      refine (now_any _ HV.out.a).mono ?_
                      rintro e w' ⟨rfl, rfl⟩
                      go_wp2_with fail
                      refine (now_any _ HB9.out).mono ?_
                      rintro e w' ⟨rfl, rfl⟩
                      go_wp2_with fail
                      refine (now_any _ HV.out.a).mono ?_
                      rintro e w' ⟨rfl, rfl⟩
                      go_wp2_with fail
                      refine cS.mono ?_
                      rintro e w' ⟨rfl, rfl⟩
                      go_wp2_with fail
                      refine (works_any _ (HE.out.on' HV.out.bel)).mono ?_
                      rintro e w2 ⟨rfl, hb2⟩
                      go_wp2
                      go_ret
                      exact ⟨rfl, HV.out.bel.trans (hb2.mono HV.out.bel.size)⟩
                · have hx1 : ¬ (0 : Int) < (n : Int) := by omega
                  have HX0 := Lib.hid hx0
                  clear hx0
                  go_wp2_with fail
                  clear hx1
                  go_loopw [22] (fun vi wj => ∃ j : Nat, j ≤ n ∧ vi = .int .i64 j ∧ ∃ vs, Hid (O3 w (S gs) gs n gu laps (.slice pv n cap1) us vs wj) ∧ Hid (∀ i, j ≤ i → vs.getD i false = us.getD i false) ∧ Hid (∀ i, i < j → vs.getD i false = true)) (fun vi _ => n - (intOf vi).toNat)
                  case atStart => exact ⟨0, by omega, rfl, us, HU, Lib.hid (fun i _ => rfl), Lib.hid (fun i h => absurd h (Nat.not_lt_zero _))⟩
                  case round =>
                    obtain ⟨j, hj, rfl, vs, HV, HV1, HV2⟩ := hrel
                    clear HU
                    by_cases hjn : j < n
                    · exact absurd hjn (by have := HX0.out; omega)
                    · obtain rfl : j = n := by omega
                      have hall : uT gs vs = T gs := uT_all (by rw [HV.out.lv, HN.out]) (fun i hi => HV2.out i (by rw [HN.out] at hi; exact hi))
                      have hb := HV.out.b
                      rw [hall, ← S_cap] at hb
                      have HB9 := Lib.hid hb
                      have HLG := Lib.hid (show Lies .i64 wr pv gs by obtain ⟨_, _, e, h⟩ := ownk_lies HV.out.good HN.out.symm (by omega); cases e; exact h)
                      have cS := rsum_any pv cap1 gs wr HLG.out
                      rw [HN.out] at cS
                      generalize S gs = sg at cS HB9 HV
                      clear hall hb
                      go_wp2_with fail
                      refine (now_any _ HV.out.a).mono ?_
                      rintro e w' ⟨rfl, rfl⟩
                      go_wp2_with fail
                      refine (now_any _ HB9.out).mono ?_
                      rintro e w' ⟨rfl, rfl⟩
                      go_wp2_with fail
                      refine (now_any _ HV.out.a).mono ?_
                      rintro e w' ⟨rfl, rfl⟩
                      go_wp2_with fail
                      refine cS.mono ?_
                      rintro e w' ⟨rfl, rfl⟩
                      go_wp2_with fail
                      refine (works_any _ (HE.out.on' HV.out.bel)).mono ?_
                      rintro e w2 ⟨rfl, hb2⟩
                      go_wp2
                      go_ret
                      exact ⟨rfl, HV.out.bel.trans (hb2.mono HV.out.bel.size)⟩
  · have hx : 60 < l ∨ (l ≤ 60 ∧ 60 < m) := by omega
    clear hbig
    rcases hx with hx | ⟨hx, hx2⟩
    all_goals
      go_enter Tryd.func4, Tryd.ntmps4
      go_wp2_with fail
      refine (works_any _ HE.out).mono ?_
      rintro e w2 ⟨rfl, hb2⟩
      go_wp2
      go_ret
      exact ⟨rfl, hb2⟩
end Go.Proofs.YtfigkoknhiabnaaDoor
