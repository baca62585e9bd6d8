/- The law CellKnown, walked. -/
import Derived.Test.YtnakaifnalojeaaLq
set_option linter.unusedSimpArgs false
set_option linter.unusedVariables false
namespace Go.Proofs.Ytnakaifnalojeaa
open Go.RowKit Go.Ce

theorem infoAct : (Try.prog.info? 36).map (fun i => (i.zero, i.size, i.bytes)) = some (some (.agg #[.int .i64 0, .int .i64 0, .int .u64 0, .int .u64 0]), 4, 32) := by kernel_rfl

theorem wrap_u8 (x : Int) : 0 ≤ IntKind.u8.wrap x ∧ IntKind.u8.wrap x ≤ 255 := by
  simp [IntKind.wrap, IntKind.bits, IntKind.signed]
  omega

set_option maxRecDepth 100000 in
set_option maxHeartbeats 8000000 in
theorem known_any (w : World) : Calls Try.prog 7 #[] w (Ans (.bool true) w) := by
  go_enter Try.func7, Try.ntmps7
  go_wp2_with fail
  go_loopw [1, 2] (fun vk vn wr => ∃ k n : Nat, k < 100003 ∧ n ≤ 50 ∧ vk = .int .i64 k ∧ vn = .int .i64 n ∧ Hid (Below w.heap.size w wr)) (fun _ vn _ => 50 - (intOf vn).toNat)
  case atStart => exact ⟨1, 0, by omega, by omega, rfl, rfl, Lib.hid (.refl _ _)⟩
  case round =>
    obtain ⟨k0, n, hk0, hn, rfl, rfl, HD⟩ := hrel
    obtain ⟨wo, rfl⟩ : ∃ wo : World, wo = wr := ⟨_, rfl⟩
    by_cases hn50 : n < 50
    · have hn50i : (n : Int) < 50 := by omega
      go_wp2_with fail
      go_loopw [1, 3, 4, 5] (fun vk v3 v4 vi wr => ∃ k i : Nat, k < 100003 ∧ i ≤ 200 ∧ vk = .int .i64 k ∧ vi = .int .i64 i ∧ ∃ xs ys, Hid (xs.length = i ∧ ys.length = i) ∧ Hid (Kw wo wr v3 v4 xs ys)) (fun _ _ _ vi _ => 200 - (intOf vi).toNat)
      case atStart => exact ⟨k0, 0, hk0, by omega, rfl, rfl, [], [], Lib.hid ⟨rfl, rfl⟩, Lib.hid (Kw.nil (.refl _ _))⟩
      case round =>
        obtain ⟨k, i, hk, hi, rfl, rfl, xs, ys, HLn, HK⟩ := hrel
        obtain ⟨v3, rfl⟩ : ∃ v, v = u3 := ⟨_, rfl⟩
        obtain ⟨v4, rfl⟩ : ∃ v, v = u4 := ⟨_, rfl⟩
        by_cases hi200 : i < 200
        · obtain ⟨d6, hd6⟩ : ∃ j : Nat, (k : Int).tmod 6 = (j : Int) := ⟨k % 6, by rw [Int.tmod_eq_emod_of_nonneg (by omega)]; omega⟩
          obtain ⟨kd6, hkd6⟩ : ∃ j : Nat, IntKind.i64.wrap ((k : Int) / 6) = (j : Int) := ⟨k / 6, by rw [IntWalk.i64_in _ (by omega)]; omega⟩
          obtain ⟨j7, hj7⟩ : ∃ j : Nat, (kd6 : Int).tmod 7 = (j : Int) := ⟨kd6 % 7, by rw [Int.tmod_eq_emod_of_nonneg (by omega)]; omega⟩
          obtain ⟨z7, hz7⟩ : ∃ z : Int, IntKind.i64.wrap ((j7 : Int) - 1) = z := ⟨_, rfl⟩
          obtain ⟨d3, hd3⟩ : ∃ j : Nat, (k : Int).tmod 3 = (j : Int) := ⟨k % 3, by rw [Int.tmod_eq_emod_of_nonneg (by omega)]; omega⟩
          obtain ⟨kd5, hkd5⟩ : ∃ j : Nat, IntKind.i64.wrap ((k : Int) / 5) = (j : Int) := ⟨k / 5, by rw [IntWalk.i64_in _ (by omega)]; omega⟩
          obtain ⟨j3, hj3⟩ : ∃ j : Nat, (kd5 : Int).tmod 3 = (j : Int) := ⟨kd5 % 3, by rw [Int.tmod_eq_emod_of_nonneg (by omega)]; omega⟩
          obtain ⟨q3, hq3⟩ : ∃ z : Int, IntKind.u64.wrap (d3 : Int) = z := ⟨_, rfl⟩
          obtain ⟨q33, hq33⟩ : ∃ z : Int, IntKind.u64.wrap (j3 : Int) = z := ⟨_, rfl⟩
          obtain ⟨d5, hd5⟩ : ∃ j : Nat, (k : Int).tmod 5 = (j : Int) := ⟨k % 5, by rw [Int.tmod_eq_emod_of_nonneg (by omega)]; omega⟩
          obtain ⟨j5, hj5⟩ : ∃ j : Nat, (kd5 : Int).tmod 5 = (j : Int) := ⟨kd5 % 5, by rw [Int.tmod_eq_emod_of_nonneg (by omega)]; omega⟩
          obtain ⟨d2, hd2⟩ : ∃ j : Nat, (k : Int).tmod 2 = (j : Int) := ⟨k % 2, by rw [Int.tmod_eq_emod_of_nonneg (by omega)]; omega⟩
          obtain ⟨kd2, hkd2⟩ : ∃ j : Nat, IntKind.i64.wrap ((k : Int) / 2) = (j : Int) := ⟨k / 2, by rw [IntWalk.i64_in _ (by omega)]; omega⟩
          obtain ⟨j2, hj2⟩ : ∃ j : Nat, (kd2 : Int).tmod 2 = (j : Int) := ⟨kd2 % 2, by rw [Int.tmod_eq_emod_of_nonneg (by omega)]; omega⟩
          obtain ⟨q2, hq2⟩ : ∃ z : Int, IntKind.u64.wrap (d2 : Int) = z := ⟨_, rfl⟩
          obtain ⟨q22, hq22⟩ : ∃ z : Int, IntKind.u64.wrap (j2 : Int) = z := ⟨_, rfl⟩
          obtain ⟨iA, hA, hA0, hA1, hA2⟩ := info_parts infoAct
          obtain ⟨iC, hC, hC0, hC1, hC2⟩ := info_parts infoCA
          have HX := Lib.hid (And.intro (show xs.length + 1 ≤ maxLen by have := HLn.out.1; unfold maxLen; omega) (And.intro (show (xs.length + 1) * 32 ≤ 140737488355328 by have := HLn.out.1; omega) (And.intro (show ys.length + 1 ≤ maxLen by have := HLn.out.2; unfold maxLen; omega) (And.intro (show (ys.length + 1) * 32 ≤ 140737488355328 by have := HLn.out.2; omega) (HK.out.bel.size)))))
          go_wp2_with (at_builtin; first
            | (refine wpList_append_lies _ rfl (.tmp 21) (.tmp 36) 22 rfl wo.heap.size 36 iA (.agg #[.int .i64 0, .int .i64 0, .int .u64 0, .int .u64 0]) 4 32 Try.underlying22 hA hA0 hA1 hA2 rfl (by decide) v3 xs.length (xs.flatMap accC) (by kernel_rfl) (HK.out.o3.alloc _) ⟨wr.heap.size, 0, none⟩ 1 1 (accC ⟨d6, z7, q3, q33⟩) (by kernel_rfl) rfl (acc_new ⟨d6, z7, q3, q33⟩ wr _) (acc_one _) (by decide) HX.out.1 HX.out.2.1 (Nat.le_trans HX.out.2.2.2.2 (by simp)) (wr.heap.size + 1) (by simp) ?_; intro g4 cap4 W4 hown4 hgrow4 hat4 hlt4; have HN := Lib.hid (HK.out.push3 _ ⟨d6, z7, q3, q33⟩ g4 cap4 hown4 hgrow4); clear hown4 hgrow4 hat4 hlt4)
            | (refine wpList_append_lies _ rfl (.tmp 38) (.tmp 52) 51 rfl wo.heap.size 38 iC (.agg #[.int .i64 0, .int .i64 0, .int .u64 0, .int .u64 0]) 4 32 Try.underlying51 hC hC0 hC1 hC2 rfl (by decide) v4 ys.length (ys.flatMap accC) (by kernel_rfl) (HN.out.o4.alloc _) ⟨W4.heap.size, 0, none⟩ 1 1 (accC ⟨d5, j5, q2, q22⟩) (by kernel_rfl) rfl (acc_new ⟨d5, j5, q2, q22⟩ W4 _) (acc_one _) (by decide) HX.out.2.2.1 HX.out.2.2.2.1 (Nat.le_trans HN.out.bel.size (by simp)) (W4.heap.size + 1) (by simp) ?_; intro g5 cap5 W5 hown5 hgrow5 hat5 hlt5; have HN2 := Lib.hid (HN.out.push4 _ ⟨d5, j5, q2, q22⟩ g5 cap5 hown5 hgrow5); clear hown5 hgrow5 hat5 hlt5))
          clear hd6 hkd6 hj7 hz7 hd3 hkd5 hj3 hq3 hq33 hd5 hj5 hd2 hkd2 hj2 hq2 hq22 HK HN HX
          obtain ⟨k2, hk2⟩ : ∃ k2 : Nat, ((k : Int) * 31 + 7 * (i : Int) + 11) % 100003 = (k2 : Int) := ⟨(k * 31 + 7 * i + 11) % 100003, by omega⟩
          have hk2' : k2 < 100003 := by omega
          go_wp2_with fail
          go_roundw
          case rel => exact ⟨k2, i + 1, hk2', by omega, congrArg (Value.int .i64) hk2, by go_num, _, _, Lib.hid ⟨by rw [List.length_append, HLn.out.1]; rfl, by rw [List.length_append, HLn.out.2]; rfl⟩, HN2⟩
          case measure =>
            show _ < _
            simp only [intOf]; omega
        · obtain rfl : i = 200 := by omega
          have ho3 := HK.out.o3
          have ho4 := HK.out.o4
          rw [HLn.out.1] at ho3
          rw [HLn.out.2] at ho4
          obtain ⟨p3, c3, rfl⟩ := own4_form ho3
          obtain ⟨p4, c4, rfl⟩ := own4_form ho4
          obtain ⟨hl3, hc3, -⟩ := own_lies4 ho3 HLn.out.1.symm
          obtain ⟨hl4, hc4, -⟩ := own_lies4 ho4 HLn.out.2.symm
          have HWr := Lib.hid (HD.out.trans (HK.out.bel.mono HD.out.size))
          have HL3 := Lib.hid hl3
          have HL4 := Lib.hid hl4
          obtain ⟨r40, hr40, HR40⟩ : ∃ r : Nat, (n : Int).tmod 40 = (r : Int) ∧ Hid (r ≤ 40) := ⟨n % 40, by rw [Int.tmod_eq_emod_of_nonneg (by omega)]; omega, by show _ ≤ _; omega⟩
          obtain ⟨c8, hc8, HC8⟩ : ∃ c : Int, IntKind.u8.wrap ((n : Int) * 5) = c ∧ Hid (0 ≤ c ∧ c ≤ 255) := ⟨_, rfl, wrap_u8 _⟩
          have b1 : 60 ≤ c3 := by omega
          have b1i : (60 : Int) ≤ (c3 : Int) := by omega
          have b2 : r40 ≤ c3 := by have := HR40.out; omega
          have b2i : (r40 : Int) ≤ (c3 : Int) := by omega
          have b3 : 40 ≤ c4 := by omega
          have b3i : (40 : Int) ≤ (c4 : Int) := by omega
          have b4 : r40 ≤ c4 := by have := HR40.out; omega
          have b4i : (r40 : Int) ≤ (c4 : Int) := by omega
          have hn5 : IntKind.i64.wrap ((n : Int) * 5) = (n : Int) * 5 := IntWalk.i64_in _ (by omega)
          have cP : Hid (∀ (x : Int) d os, Calls Try.prog 3 #[.int .i64 x, .slice p3 60 c3] (Sort.grow (redrawn wr d) os) fun e w' => e = .returned (.bool true) ∧ ∃ p : Regrown, w' = Sort.grow (redrawn wr p.d) p.os) := fun x d os => by
            have e : (xs.take 60).length = 60 := by rw [List.length_take, HLn.out.1]; rfl
            have := plays_any x p3 c3 (xs.take 60) _ ((HL3.out.take 60).on (below_regrown wr d os)) (by rw [e]; exact b1)
            rw [e] at this
            exact Calls.regrown_of this
          have cR1 : Hid (∀ (x : Int) d os, Calls Try.prog 4 #[.int .i64 x, .slice p3 r40 c3, .slice p4 40 c4] (Sort.grow (redrawn wr d) os) fun e w' => e = .returned (.bool true) ∧ ∃ p : Regrown, w' = Sort.grow (redrawn wr p.d) p.os) := fun x d os => by
            have e : (xs.take r40).length = r40 := by rw [List.length_take, HLn.out.1]; have := HR40.out; omega
            have e4 : (ys.take 40).length = 40 := by rw [List.length_take, HLn.out.2]; rfl
            have := redoes_any x p3 p4 c3 c4 (xs.take r40) (ys.take 40) _ ((HL3.out.take r40).on (below_regrown wr d os)) ((HL4.out.take 40).on (below_regrown wr d os))
            rw [e, e4] at this
            exact Calls.regrown_of this
          have cR2 : Hid (∀ d os, Calls Try.prog 4 #[.int .i64 5, .slice none 0 0, .slice p4 r40 c4] (Sort.grow (redrawn wr d) os) fun e w' => e = .returned (.bool true) ∧ ∃ p : Regrown, w' = Sort.grow (redrawn wr p.d) p.os) := fun d os => by
            have e4 : (ys.take r40).length = r40 := by rw [List.length_take, HLn.out.2]; have := HR40.out; omega
            have := redoes_any 5 none p4 0 c4 [] (ys.take r40) _ (LiesA.nil _ _) ((HL4.out.take r40).on (below_regrown wr d os))
            rw [e4] at this
            exact Calls.regrown_of this
          have cL : Hid (∀ (x : Int) d os, Calls Try.prog 5 #[.int .i64 x, .slice p3 200 c3, .int .u8 c8] (Sort.grow (redrawn wr d) os) fun e w' => e = .returned (.bool true) ∧ ∃ p : Regrown, w' = Sort.grow (redrawn wr p.d) p.os) := fun x d os => by
            have := logs_any x c8 HC8.out p3 c3 xs _ (HL3.out.on (below_regrown wr d os))
            rw [HLn.out.1] at this
            exact Calls.regrown_of this
          have cT : Hid (∀ (x y z u : Int) d os, Calls Try.prog 6 #[.int .u64 x, .int .u64 y, .int .u64 z, .int .u64 u] (Sort.grow (redrawn wr d) os) fun e w' => e = .returned (.bool true) ∧ ∃ p : Regrown, w' = Sort.grow (redrawn wr p.d) p.os) := fun x y z u d os => Calls.regrown_of (twice_any x y z u _)
          clear hl3 hc3 hl4 hc4 ho3 ho4 HK
          go_wp2_with fail
          refine wp_region_quiet_below (by kernel_rfl) (by kernel_rfl) ?_
          repeat (go_big_quiet_step (first | (with_reducible exact cP.out _ _ _) | (with_reducible exact cR1.out _ _ _) | (with_reducible exact cR2.out _ _) | (with_reducible exact cL.out _ _ _) | (with_reducible exact cT.out _ _ _ _ _ _)))
          refine wpQuiet_nil ?_
          intro W7 hw'
          obtain ⟨⟨dq, osq⟩, hw2⟩ := hw'
          have HDN : Hid (Below w.heap.size w W7) := HWr.out.trans ((show Below wr.heap.size wr W7 by rw [hw2]; exact below_regrown wr dq osq).mono HWr.out.size)
          clear hw2 cP cR1 cR2 cL cT HWr HL3 HL4
          go_wp2_with fail
          go_roundw
          case rel => exact ⟨k, n + 1, hk, by omega, rfl, by go_num, HDN⟩
          case measure =>
            show _ < _
            simp only [intOf]; omega
    · go_wp2_with fail
      refine (new_any 2 2 rfl wo).mono ?_
      rintro e w1 ⟨b, g, rfl, hm1, hb1, hg1, hbe1⟩
      have HS0 : Hid (Sofar w w1 b g (runM (PM.new 2) (addsK 0))) := ⟨hm1, HD.out.trans (hbe1.mono HD.out.size), Nat.le_trans HD.out.size hb1, Nat.le_trans HD.out.size hg1⟩
      clear hm1 hb1 hg1 hbe1 hn50 hn HD
      go_wp2_with fail
      go_loopw [7] (fun vi wr => ∃ i : Nat, i ≤ 300 ∧ vi = .int .i64 i ∧ Hid (Sofar w wr b g (runM (PM.new 2) (addsK i)))) (fun vi _ => 300 - (intOf vi).toNat)
      case atStart => exact ⟨0, by omega, rfl, HS0⟩
      case round =>
        clear HS0
        obtain ⟨i, hi, rfl, HR⟩ := hrel
        by_cases hlt : i < 300
        · have hlti : (i : Int) < 300 := by omega
          obtain ⟨d2, hd2, HD2⟩ : ∃ r : Nat, (i : Int).tmod 2 = (r : Int) ∧ Hid (i % 2 = r) := ⟨i % 2, by rw [Int.tmod_eq_emod_of_nonneg (by omega)]; omega, rfl⟩
          have HOp := Lib.hid (addsK_ops 2 i)
          have HRun := Lib.hid (addsK_run 2 i)
          go_wp2_with fail
          refine (add_any d2 1 wr HR.out.mem (by have := HOp.out; omega)).mono ?_
          rintro e w2 ⟨rfl, hm2, ht2⟩
          have HR2 : Hid (Sofar w w2 b g (runM (PM.new 2) (addsK (i + 1)))) := by
            show Sofar _ _ _ _ _
            rw [HRun.out, HD2.out]
            exact HR.out.step hm2 ht2
          clear hm2 ht2
          go_wp2_with fail
          go_roundw
          case rel => exact ⟨i + 1, hlt, by go_num, HR2⟩
          case measure =>
            show _ < _
            simp only [intOf]; omega
        · obtain rfl : i = 300 := by omega
          have htie := run_tied (addsK 300) (Tied.new 2)
          have hops := htie.ops
          rw [show (runX ((2 : Nat) : Int) [] (addsK 300)).length = 300 from adds_len] at hops
          have hans := htie.ans 1 0 0 0 (by decide)
          rw [show (doE ((2 : Nat) : Int) (runX ((2 : Nat) : Int) [] (addsK 300)) 1 0 0 0).o = 150 from adds_ans] at hans
          obtain ⟨zs, hz1, hz2, hz3, hz4, hz5⟩ := adds_logK htie
          have hlen2 := (htie.go 1 0 0 0).len
          generalize runM (PM.new 2) (addsK 300) = m at HR htie hops hans hz2 hlen2
          have HM := Lib.hid (And.intro hops (And.intro hans hlen2))
          have HZ := Lib.hid (And.intro hz1 (And.intro hz3 (And.intro hz4 hz5)))
          have hlog := clog_any HR.out.mem
          rw [hz2] at hlog
          clear htie hops hans hlen2 hz2 hz3 hz4 hz5
          go_wp2_with fail
          refine hlog.mono ?_
          rintro e w3 ⟨v, rfl, ho, hb⟩
          rw [hz1] at ho
          obtain ⟨p8, c8, rfl⟩ := own4_form ho
          obtain ⟨hl8, -, -, -, hpl⟩ := own_lies4 ho hz1.symm
          obtain ⟨gb, go, rfl, -, -, e2, e3⟩ := hl8.at (i := 0) (by rw [hz1]; decide)
          rw [HZ.out.2.1] at e2
          rw [HZ.out.2.2.1] at e3
          rw [Nat.zero_mul, Nat.add_zero] at e2 e3
          have HNe : Hid (¬ Own b g gb) := by
            have h1 := hpl gb go rfl
            have h2 := HR.out.mem.lt
            show ¬ (_ ∨ _)
            omega
          have HL := Lib.hid hl8
          have HS3 := Lib.hid (HR.out.ans hb)
          clear ho hl8 hb hlog HR hz1 hpl
          go_wp2_with fail
          have hop := ops_any HS3.out.mem
          rw [HM.out.1] at hop
          refine hop.mono ?_
          rintro e w4 ⟨rfl, hb⟩
          have HS4 := Lib.hid (HS3.out.ans hb)
          have HL4 := Lib.hid (HL.out.on hb)
          clear hb hop HL HS3 e2 e3
          go_wp2_with fail
          have hld := load_any 0 w4 HS4.out.mem (by rw [HM.out.1]; decide)
          rw [HM.out.2.1] at hld
          refine hld.mono ?_
          rintro e w5 ⟨rfl, hm5, ht5⟩
          have HS5 := Lib.hid (HS4.out.step hm5 ht5)
          have HL5 := Lib.hid (HL4.out.tch ht5 (fun x o e => by cases e; exact HNe.out))
          have HC5 : Hid ((m.load 0).cs.length = 2) := HM.out.2.2
          generalize m.load 0 = m5 at HS5 HC5
          clear hm5 ht5 hld HL4 HS4 HM
          go_wp2_with fail
          refine (store_nil 0 1 _).mono ?_
          rintro e w6 ⟨rfl, hb⟩
          have HS6 := Lib.hid (HS5.out.ans hb)
          have HL6 := Lib.hid (HL5.out.on hb)
          clear hb HS5 HL5
          go_wp2_with fail
          refine (last_nil _).mono ?_
          rintro e w7 ⟨rfl, hb⟩
          have HS7 := Lib.hid (HS6.out.ans hb)
          have HL7 := Lib.hid (HL6.out.on hb)
          clear hb HS6 HL6
          have hba := (Below.refl w7.heap.size w7).alloc (Nat.le_refl _) (.cells #[.int .i64 0, .int .i64 0, .int .u64 0, .int .u64 0] 38)
          have HSa := Lib.hid (HS7.out.ans hba)
          have HLa := Lib.hid (HL7.out.on hba)
          clear hba HS7 HL7
          go_upto_region 26 with (fail)
          obtain ⟨wa, hwa⟩ : ∃ wa, w7.alloc (.cells #[.int .i64 0, .int .i64 0, .int .u64 0, .int .u64 0] 38) = wa := ⟨_, rfl⟩
          obtain ⟨ba, hba⟩ : ∃ ba, w7.heap.size = ba := ⟨_, rfl⟩
          rw [hwa] at HSa HLa
          rw [hwa, hba]
          clear hwa hba
          have HS8 := HSa
          have HL8 := HLa
          clear HSa HLa
          go_wp2_with fail
          refine (load_nil 0 _).mono ?_
          rintro e w9 ⟨rfl, hb⟩
          have HS9 := Lib.hid (HS8.out.ans hb)
          have HL9 := Lib.hid (HL8.out.on hb)
          clear hb HS8 HL8
          go_wp2_with fail
          refine (cas_nil 0 0 0 _).mono ?_
          rintro e w10 ⟨rfl, hb⟩
          have HS10 := Lib.hid (HS9.out.ans hb)
          have HL10 := Lib.hid (HL9.out.on hb)
          clear hb HS9 HL9
          go_wp2_with fail
          refine (add_nil 0 1 _).mono ?_
          rintro e w11 ⟨rfl, hb⟩
          have HS11 := Lib.hid (HS10.out.ans hb)
          have HL11 := Lib.hid (HL10.out.on hb)
          clear hb HS10 HL10
          go_wp2_with fail
          refine (ops_nil _).mono ?_
          rintro e w12 ⟨rfl, hb⟩
          have HS12 := Lib.hid (HS11.out.ans hb)
          have HL12 := Lib.hid (HL11.out.on hb)
          clear hb HS11 HL11
          go_wp2_with fail
          refine (count_nil _).mono ?_
          rintro e w13 ⟨rfl, hb⟩
          have HS13 := Lib.hid (HS12.out.ans hb)
          have HL13 := Lib.hid (HL12.out.on hb)
          clear hb HS12 HL12
          go_wp2_with fail
          refine (clog_nil _).mono ?_
          rintro e w14 ⟨rfl, hb⟩
          have HS14 := Lib.hid (HS13.out.ans hb)
          have HL14 := Lib.hid (HL13.out.on hb)
          clear hb HS13 HL13
          go_wp2_with fail
          refine (len_nil _).mono ?_
          rintro e w15 ⟨rfl, hb⟩
          have HS15 := Lib.hid (HS14.out.ans hb)
          have HL15 := Lib.hid (HL14.out.on hb)
          clear hb HS14 HL14
          go_wp2_with fail
          refine (all_nil _).mono ?_
          rintro e w16 ⟨rfl, hb⟩
          have HS16 := Lib.hid (HS15.out.ans hb)
          have HL16 := Lib.hid (HL15.out.on hb)
          clear hb HS15 HL15
          go_wp2_with fail
          refine (copy_nil _).mono ?_
          rintro e w17 ⟨rfl, hb⟩
          have HS17 := Lib.hid (HS16.out.ans hb)
          have HL17 := Lib.hid (HL16.out.on hb)
          clear hb HS16 HL16
          go_wp2_with fail
          have hrd := redo_nil _ c8 zs _ HL17.out (by rw [HZ.out.1]; decide) HZ.out.2.2.2
          rw [HZ.out.1] at hrd
          refine hrd.mono ?_
          rintro e w18 ⟨rfl, hb⟩
          have HS18 := Lib.hid (HS17.out.ans hb)
          clear hb hrd HS17 HL17
          go_wp2_with fail
          have hs1 := same_any (.none w18) (.none w18)
          rw [decide_eq_true (rfl : ([] : List Int) = [])] at hs1
          refine hs1.mono ?_
          rintro e w19 ⟨rfl, hb⟩
          have HS19 := Lib.hid (HS18.out.ans hb)
          clear hb HS18
          go_wp2_with fail
          refine (new_any (-5) 0 rfl _).mono ?_
          rintro e w20 ⟨b2, g2, rfl, hm2, -, -, hb⟩
          have HS20 := Lib.hid (HS19.out.ans hb)
          have HM2 := Lib.hid hm2
          clear hb HS19 hm2
          go_wp2_with fail
          have hs2 := same_any (.none _) (.some HM2.out)
          rw [decide_eq_true (show ([] : List Int) = (PM.new 0).cs from rfl)] at hs2
          refine hs2.mono ?_
          rintro e w21 ⟨rfl, hb⟩
          have HS21 := Lib.hid (HS20.out.ans hb)
          clear hb HS20
          go_wp2_with fail
          have hsm := same_any (.some HS21.out.mem) (.none w21)
          rw [decide_eq_false (show ¬ m5.cs = [] from fun e => by have := HC5.out; rw [e] at this; cases this)] at hsm
          refine hsm.mono ?_
          rintro e w22 ⟨rfl, hb⟩
          have HS22 := Lib.hid (HS21.out.ans hb)
          clear hb hsm HS21
          go_wp2_with fail
          refine (plays_any 70000 none 0 [] _ (LiesA.nil _ _) (Nat.le_refl _)).mono ?_
          rintro e w23 ⟨rfl, hb⟩
          have HS23 := Lib.hid (HS22.out.ans hb)
          clear hb HS22
          go_wp2_with fail
          refine (plays_any (-9223372036854775808) none 0 [] _ (LiesA.nil _ _) (Nat.le_refl _)).mono ?_
          rintro e w24 ⟨rfl, hb⟩
          have HS24 := Lib.hid (HS23.out.ans hb)
          clear hb HS23
          go_wp2_with fail
          refine (works_any _).mono ?_
          rintro e w25 ⟨rfl, hb⟩
          have HS25 := Lib.hid (HS24.out.ans hb)
          clear hb HS24
          go_wp2
          go_ret
          exact ⟨rfl, HS25.out.bel⟩
end Go.Proofs.Ytnakaifnalojeaa
