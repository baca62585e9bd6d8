/- The law DequeKnown, walked: its rows (layer 8). -/
import Derived.Test.YtjdbmedealhbjaaKb
import Derived.Test.YtjdbmedealhbjaaLw
import Derived.Test.YtjdbmedealhbjaaNo
import Derived.Test.YtjdbmedealhbjaaAh
import Derived.Test.YtjdbmedealhbjaaWk
import Derived.Deep.DeepCutAuto
import Derived.Deep.Cut
import Derived.Lib.QuietBelow
import Derived.BigQuiet
import Derived.Deep.QuietTactic
set_option linter.unusedSimpArgs false
set_option linter.unusedVariables false
namespace Go.Proofs.Ytjdbmedealhbjaa
open Go.RowKit Go.Wd Go.Dk

theorem wrap_u8 (x : Int) : 0 ≤ IntKind.u8.wrap x ∧ IntKind.u8.wrap x ≤ 255 := by
  simp [IntKind.wrap, IntKind.bits, IntKind.signed]
  omega
theorem lo_facts {xs : List Int} {z : Int} {cap lo i : Nat} (h : (xs ++ [z]).length ≤ cap) (hl : lo ≤ i) (hx : xs.length = i) : lo ≤ cap ∧ (lo : Int) ≤ (cap : Int) ∧ ¬ (cap - lo = 0) ∧ ¬ (cap ≤ lo) := by
  rw [List.length_append] at h
  have : ([z] : List Int).length = 1 := rfl
  omega
theorem nxt {w a b : World} (h : Below w.heap.size w a) (hb : Below a.heap.size a b) : Below w.heap.size w b := h.trans (hb.mono h.size)
theorem nxa {w a b : World} {o : Obj} (h : Below w.heap.size w a) (hb : Below (a.alloc o).heap.size (a.alloc o) b) : Below w.heap.size w b := nxt (nxt h ((Below.refl _ _).alloc (Nat.le_refl _) o)) hb
theorem acts_nil (w : World) : ActsIs w none [] := ⟨by simp, fun i hi => by simp at hi⟩
/-- the second loop's acts -/
def litA : List ActV := [⟨0, 7, .slice none 0 0, []⟩, ⟨4, 0, .slice none 0 0, []⟩, ⟨5, 0, .slice none 0 0, []⟩, ⟨6, 0, .slice none 0 0, []⟩]
theorem acts_lit (W : World) : ActsIs (W.alloc (.cells #[.int .i64 0, .int .i64 7, .slice none 0 0, .int .i64 4, .int .i64 0, .slice none 0 0, .int .i64 5, .int .i64 0, .slice none 0 0, .int .i64 6, .int .i64 0, .slice none 0 0] 38)) (some ⟨W.heap.size, 0, none⟩) litA := by
  refine ⟨by simp [litA], fun i hi => ⟨W.heap.size, 0, rfl, by simp, ?_⟩⟩
  have h4 : i < 4 := hi
  have h : i = 0 ∨ i = 1 ∨ i = 2 ∨ i = 3 := by omega
  rcases h with rfl | rfl | rfl | rfl
  · exact ⟨by rw [World.cell?_alloc_new]; rfl, by rw [World.cell?_alloc_new]; rfl, by rw [World.cell?_alloc_new]; rfl, (SlIs.nil _ _).ins⟩
  · exact ⟨by rw [World.cell?_alloc_new]; rfl, by rw [World.cell?_alloc_new]; rfl, by rw [World.cell?_alloc_new]; rfl, (SlIs.nil _ _).ins⟩
  · exact ⟨by rw [World.cell?_alloc_new]; rfl, by rw [World.cell?_alloc_new]; rfl, by rw [World.cell?_alloc_new]; rfl, (SlIs.nil _ _).ins⟩
  · exact ⟨by rw [World.cell?_alloc_new]; rfl, by rw [World.cell?_alloc_new]; rfl, by rw [World.cell?_alloc_new]; rfl, (SlIs.nil _ _).ins⟩
theorem nine_lit (W : World) : SlIs (fun _ => False) (W.alloc (.cells #[.int .i64 1, .int .i64 2, .int .i64 3, .int .i64 4, .int .i64 5, .int .i64 6, .int .i64 7, .int .i64 8, .int .i64 9] 3)) (.slice (some ⟨W.heap.size, 0, none⟩) 9 9) [1, 2, 3, 4, 5, 6, 7, 8, 9] := sl_lit [1, 2, 3, 4, 5, 6, 7, 8, 9] W _ _ rfl id (by simp)
theorem uno_lit (W : World) : SlIs (fun _ => False) (W.alloc (.cells #[.int .i64 1] 3)) (.slice (some ⟨W.heap.size, 0, none⟩) 1 1) [1] := sl_lit [1] W _ _ rfl id (by simp)
set_option maxRecDepth 100000 in
set_option maxHeartbeats 8000000 in
theorem known_any (D : DqApi) (w : World) : Calls Try.prog 6 #[] w (Ans (.bool true) w) := by
  go_enter Try.func6, Try.ntmps6
  go_wp2_with fail
  go_loopw [1, 2] (fun vk vn wr => ∃ k n : Nat, k < 100003 ∧ n ≤ 60 ∧ vk = .int .i64 k ∧ vn = .int .i64 n ∧ Hid (Below w.heap.size w wr)) (fun _ vn _ => 60 - (intOf vn).toNat)
  case atStart => exact ⟨1, 0, by omega, by omega, rfl, rfl, Lib.hid (.refl _ _)⟩
  case round =>
    obtain ⟨k0, n, hk0, hn, rfl, rfl, HD⟩ := hrel
    obtain ⟨wo, rfl⟩ : ∃ wo : World, wo = wr := ⟨_, rfl⟩
    by_cases hn60 : n < 60
    · have hn60i : (n : Int) < 60 := by omega
      go_wp2_with fail
      go_loopw [1, 3, 4, 5, 6] (fun vk v3 v4 v5 vi wr => ∃ k i : Nat, k < 100003 ∧ i ≤ 100 ∧ vk = .int .i64 k ∧ vi = .int .i64 i ∧ ∃ xs ys zs, Hid (xs.length = i ∧ ys.length = i ∧ zs.length = i ∧ ∀ z ∈ zs, -9223372036854775808 ≤ z ∧ z ≤ 9223372036854775807) ∧ Hid (KSt wo xs ys zs v4 v3 v5 wr)) (fun _ _ _ _ vi _ => 100 - (intOf vi).toNat)
      case atStart => exact ⟨k0, 0, hk0, by omega, rfl, rfl, [], [], [], Lib.hid ⟨rfl, rfl, rfl, by simp⟩, Lib.hid (KSt.nil _ _ (.refl _ _))⟩
      case round =>
        obtain ⟨k, i, hk, hi, rfl, rfl, xs, ys, zs, HLn, HK⟩ := hrel
        obtain ⟨v3, rfl⟩ : ∃ v, v = u3 := ⟨_, rfl⟩
        obtain ⟨v4, rfl⟩ : ∃ v, v = u4 := ⟨_, rfl⟩
        obtain ⟨v5, rfl⟩ : ∃ v, v = u5 := ⟨_, rfl⟩
        by_cases hi100 : i < 100
        · obtain ⟨k30, hk30⟩ : ∃ j : Nat, (k : Int).tmod 30 = (j : Int) := ⟨k % 30, by rw [Int.tmod_eq_emod_of_nonneg (by omega)]; omega⟩
          obtain ⟨k3, hk3⟩ : ∃ j : Nat, IntKind.i64.wrap ((k : Int) / 3) = (j : Int) := ⟨k / 3, by rw [IntWalk.i64_in _ (by omega)]; omega⟩
          obtain ⟨d8, hd8⟩ : ∃ j : Nat, (k3 : Int).tmod 8 = (j : Int) := ⟨k3 % 8, by rw [Int.tmod_eq_emod_of_nonneg (by omega)]; omega⟩
          obtain ⟨k31, hk31, HK31⟩ : ∃ j : Nat, (k : Int).tmod 31 = (j : Int) ∧ Hid (j ≤ 100003) := ⟨k % 31, by rw [Int.tmod_eq_emod_of_nonneg (by omega)]; omega, by show _ ≤ _; omega⟩
          obtain ⟨i7, hi7, HI7⟩ : ∃ j : Nat, (i : Int).tmod 7 = (j : Int) ∧ Hid (j ≤ i) := ⟨i % 7, by rw [Int.tmod_eq_emod_of_nonneg (by omega)]; omega, by show _ ≤ _; omega⟩
          obtain ⟨lo, hlo, HLo⟩ : ∃ j : Nat, IntKind.i64.wrap ((i : Int) - (i7 : Int)) = (j : Int) ∧ Hid (j ≤ i) := ⟨i - i7, by have := HI7.out; rw [IntWalk.i64_in _ (by omega)]; omega, by show _ ≤ _; omega⟩
          have hlo1 : lo ≤ xs.length + 1 := by have := HLo.out; have := HLn.out.1; omega
          have hx1000 : xs.length + 1 ≤ 1000 := by have := HLn.out.1; omega
          have hlo1i : (lo : Int) ≤ (xs.length : Int) + 1 := by omega
          obtain ⟨iA, hA, hA0, hA1, hA2⟩ := info_parts infoAct
          have HX := Lib.hid (And.intro (show xs.length + 1 ≤ 1000000 by have := HLn.out.1; omega) (And.intro (show ys.length + 1 ≤ maxLen by have := HLn.out.2.1; unfold maxLen; omega) (And.intro (show (ys.length + 1) * 40 ≤ 140737488355328 by have := HLn.out.2.1; omega) (And.intro (show zs.length + 1 ≤ 1000000 by have := HLn.out.2.2.1; omega) (HK.out.bel.size)))))
          go_wp2_with (at_builtin; first
            | (refine wpList_append_keep _ rfl (.tmp 21) (.tmp 24) rfl wo.heap.size v4 xs.length (xs.map (Value.int .i64)) (by kernel_rfl) (HK.out.on ((Below.refl _ _).alloc (Nat.le_refl _) _)).r ⟨wr.heap.size, 0, none⟩ 1 k30 (by kernel_rfl) (one_new _ wr _) HX.out.1 (Nat.le_trans HX.out.2.2.2.2 (by simp)) (wr.heap.size + 1) (by simp) ?_; intro g4 cap4 W4 hown4 hgrow4 hat4 hkeep4; have HN := Lib.hid ((HK.out.on ((Below.refl _ _).alloc (Nat.le_refl _) _)).pushR _ g4 cap4 hown4 hgrow4 (hat4.imp id fun e => by rw [e]; simp) hkeep4); clear hown4 hgrow4 hat4 hkeep4; obtain ⟨hc1, hc1i, hc2, hc3⟩ := lo_facts HN.out.capR HLo.out HLn.out.1)
            | (refine wpList_append_lies _ rfl (.tmp 26) (.tmp 39) 23 rfl wo.heap.size 38 iA (.agg #[.int .i64 0, .int .i64 0, .slice none 0 0]) 3 40 Try.underlying23 hA hA0 hA1 hA2 rfl (by decide) v3 ys.length (ys.flatMap actC) (by kernel_rfl) (HN.out.on ((Below.refl _ _).alloc (Nat.le_refl _) _)).a ⟨W4.heap.size, 0, none⟩ 1 1 (actC ⟨d8, k30, .slice (some ⟨g4, lo, none⟩) (xs.length + 1 - lo) (cap4 - lo), (xs ++ [(k30 : Int)]).drop lo⟩) (by kernel_rfl) rfl (act_new _ W4 _) (act_one _ rfl) (by decide) HX.out.2.1 HX.out.2.2.1 (Nat.le_trans HN.out.bel.size (by simp)) (W4.heap.size + 1) (by simp) ?_; intro g5 cap5 W5 hown5 hgrow5 hat5 hlt5; have HN2 := Lib.hid (KSt.pushA (HN.out.on ((Below.refl _ _).alloc (Nat.le_refl _) _)) _ g5 cap5 (KSt.tail (HN.out.on ((Below.refl _ _).alloc (Nat.le_refl _) _)) (by rw [List.length_append]; rfl) _ _ lo _ (by omega) (by omega)) hown5 hgrow5 (hat5.imp id fun e => by rw [e]; simp)); clear hown5 hgrow5 hat5 hlt5)
            | (refine wpList_append_keep _ rfl (.tmp 41) (.tmp 44) rfl wo.heap.size v5 zs.length (zs.map (Value.int .i64)) (by kernel_rfl) (HN2.out.on ((Below.refl _ _).alloc (Nat.le_refl _) _)).m ⟨W5.heap.size, 0, none⟩ 1 k31 (by kernel_rfl) (one_new _ W5 _) HX.out.2.2.2.1 (Nat.le_trans HN2.out.bel.size (by simp)) (W5.heap.size + 1) (by simp) ?_; intro g6 cap6 W6 hown6 hgrow6 hat6 hkeep6; have HN3 := Lib.hid ((HN2.out.on ((Below.refl _ _).alloc (Nat.le_refl _) _)).pushM _ g6 cap6 hown6 hgrow6 (hat6.imp id fun e => by rw [e]; simp)); clear hown6 hgrow6 hat6 hkeep6))
          clear hk30 hk3 hd8 hk31 hi7 hlo hlo1 hlo1i hx1000 hc1 hc1i hc2 hc3 HK HN HN2 HX HI7 HLo
          obtain ⟨k2, hk2⟩ : ∃ k2 : Nat, ((k : Int) * 31 + 7 * (i : Int) + 11) % 100003 = (k2 : Int) := ⟨(k * 31 + 7 * i + 11) % 100003, by omega⟩
          have hk2' : k2 < 100003 := by omega
          go_wp2_with fail
          go_roundw
          case rel =>
            refine ⟨k2, i + 1, hk2', by omega, congrArg (Value.int .i64) hk2, by go_num, _, _, _, Lib.hid ⟨?_, ?_, ?_, ?_⟩, HN3⟩
            · rw [List.length_append, HLn.out.1]; rfl
            · rw [List.length_append, HLn.out.2.1]; rfl
            · rw [List.length_append, HLn.out.2.2.1]; rfl
            · intro z hz
              rcases List.mem_append.1 hz with hz | hz
              · exact HLn.out.2.2.2 z hz
              · have hz2 : z = (k31 : Int) := by simpa using hz
                have := HK31.out
                omega
          case measure =>
            show _ < _
            simp only [intOf]; omega
        · obtain rfl : i = 100 := by omega
          have e1 : xs.length = 100 := HLn.out.1
          have e2 : ys.length = 100 := HLn.out.2.1
          have e3 : zs.length = 100 := HLn.out.2.2.1
          have hr := HK.out.r.sl (S := fun _ => False) (by omega) (fun _ _ e => e)
          have hm := HK.out.m.sl (S := fun _ => False) (by omega) (fun _ _ e => e)
          obtain ⟨pA, nA, cA, rfl, hnA, ha⟩ := HK.out.acts (by omega)
          rw [e2] at hnA
          subst hnA
          obtain ⟨pR, cR, rfl, hcR, hR⟩ : ∃ p c, v4 = .slice p 100 c ∧ 100 ≤ c ∧ SlIs (fun _ => False) wr (.slice p 100 c) xs := by
            obtain ⟨p, c, e, h1, h2⟩ := hr
            rw [e1] at e h1
            subst e
            exact ⟨p, c, rfl, h1, p, c, by rw [e1], by rw [e1]; exact h1, h2⟩
          obtain ⟨pM, cM, rfl, hcM, hM⟩ : ∃ p c, v5 = .slice p 100 c ∧ 100 ≤ c ∧ SlIs (fun _ => False) wr (.slice p 100 c) zs := by
            obtain ⟨p, c, e, h1, h2⟩ := hm
            rw [e3] at e h1
            subst e
            exact ⟨p, c, rfl, h1, p, c, by rw [e3], by rw [e3]; exact h1, h2⟩
          have HWr := Lib.hid (HD.out.trans (HK.out.bel.mono HD.out.size))
          obtain ⟨r6, hr6⟩ : ∃ r : Nat, (n : Int).tmod 6 = (r : Int) := ⟨n % 6, by rw [Int.tmod_eq_emod_of_nonneg (by omega)]; omega⟩
          obtain ⟨k9, hk9⟩ : ∃ j : Nat, (k : Int).tmod 9 = (j : Int) := ⟨k % 9, by rw [Int.tmod_eq_emod_of_nonneg (by omega)]; omega⟩
          obtain ⟨k30, hk30⟩ : ∃ j : Nat, (k : Int).tmod 30 = (j : Int) := ⟨k % 30, by rw [Int.tmod_eq_emod_of_nonneg (by omega)]; omega⟩
          obtain ⟨c9, hc9, HC9⟩ : ∃ c : Int, IntKind.u8.wrap (k9 : Int) = c ∧ Hid (0 ≤ c ∧ c ≤ 255) := ⟨_, rfl, wrap_u8 _⟩
          obtain ⟨cn, hcn, HCn⟩ : ∃ c : Int, IntKind.u8.wrap (n : Int) = c ∧ Hid (0 ≤ c ∧ c ≤ 255) := ⟨_, rfl, wrap_u8 _⟩
          have b1 : n ≤ cR := by omega
          have b1i : (n : Int) ≤ (cR : Int) := by omega
          have cP : Hid (∀ (x : Int) d os, Calls Try.prog 3 #[.int .i64 x, .int .u8 c9, .slice pR n cR, .slice pA 100 cA, .int .i64 k30] (Sort.grow (redrawn wr d) os) fun e w' => e = .returned (.bool true) ∧ ∃ p : Regrown, w' = Sort.grow (redrawn wr p.d) p.os) := fun x d os =>
            Calls.regrown_of (plays_any D x c9 HC9.out _ _ ys pA 100 cA k30 _ ((hR.take (k := n) (by omega)).on (below_regrown wr d os)) (ha.on (below_regrown wr d os)) e2.symm)
          have cN : Hid (∀ d os, Calls Try.prog 4 #[.int .u8 cn, .slice pM 100 cM] (Sort.grow (redrawn wr d) os) fun e w' => e = .returned (.bool true) ∧ ∃ p : Regrown, w' = Sort.grow (redrawn wr p.d) p.os) := fun d os =>
            Calls.regrown_of (nobody_any D cn HCn.out _ zs _ (hM.on (below_regrown wr d os)) HLn.out.2.2.2)
          have cH : Hid (∀ d os, Calls Try.prog 5 #[.int .u8 cn, .slice pM 100 cM] (Sort.grow (redrawn wr d) os) fun e w' => e = .returned (.bool true) ∧ ∃ p : Regrown, w' = Sort.grow (redrawn wr p.d) p.os) := fun d os =>
            Calls.regrown_of (aheadlaw_any D cn HCn.out _ zs _ (hM.on (below_regrown wr d os)) HLn.out.2.2.2)
          clear hr hm ha hR hM hcR hcM HK e1 e2 e3
          go_wp2_with fail
          refine wp_region_quiet_below (by kernel_rfl) (by kernel_rfl) ?_
          repeat (go_big_quiet_step (first | (with_reducible exact cP.out _ _ _) | (with_reducible exact cN.out _ _) | (with_reducible exact cH.out _ _)))
          refine wpQuiet_nil ?_
          intro W7 hw'
          obtain ⟨⟨dq, osq⟩, hw2⟩ := hw'
          have HDN : Hid (Below w.heap.size w W7) := HWr.out.trans ((show Below wr.heap.size wr W7 by rw [hw2]; exact below_regrown wr dq osq).mono HWr.out.size)
          clear hw2 cP cN cH HWr
          go_wp2_with fail
          go_roundw
          case rel => exact ⟨k, n + 1, hk, by omega, rfl, by go_num, HDN⟩
          case measure =>
            show _ < _
            simp only [intOf]; omega
    · have hn60i : ¬ ((n : Int) < 60) := by omega
      clear hn hk0
      have HB0 : Hid (Below w.heap.size w wo) := HD
      clear HD
      go_wp2_with fail
      go_loopw [7] (fun vi wr => ∃ q : Int, -2 ≤ q ∧ q ≤ 20 ∧ vi = .int .i64 q ∧ Hid (Below w.heap.size w wr)) (fun vi _ => (20 - intOf vi).toNat)
      case atStart => exact ⟨-2, by omega, by omega, rfl, HB0⟩
      case round =>
        clear HB0
        obtain ⟨q, hq1, hq2, rfl, HR⟩ := hrel
        by_cases hlt : q < 20
        · have HP : Hid (Calls Try.prog 3 #[.int .i64 q, .int .u8 1, .slice (some ⟨wr.heap.size, 0, none⟩) 9 9, .slice (some ⟨wr.heap.size + 1, 0, none⟩) 4 4, .int .i64 3] ((wr.alloc (.cells #[.int .i64 1, .int .i64 2, .int .i64 3, .int .i64 4, .int .i64 5, .int .i64 6, .int .i64 7, .int .i64 8, .int .i64 9] 3)).alloc (.cells #[.int .i64 0, .int .i64 7, .slice none 0 0, .int .i64 4, .int .i64 0, .slice none 0 0, .int .i64 5, .int .i64 0, .slice none 0 0, .int .i64 6, .int .i64 0, .slice none 0 0] 38)) (fun e w' => e = .returned (.bool true) ∧ Hid (Below w.heap.size w w'))) := by
            have h1 := acts_lit (wr.alloc (.cells #[.int .i64 1, .int .i64 2, .int .i64 3, .int .i64 4, .int .i64 5, .int .i64 6, .int .i64 7, .int .i64 8, .int .i64 9] 3))
            rw [show (wr.alloc (.cells #[.int .i64 1, .int .i64 2, .int .i64 3, .int .i64 4, .int .i64 5, .int .i64 6, .int .i64 7, .int .i64 8, .int .i64 9] 3)).heap.size = wr.heap.size + 1 by simp] at h1
            refine (plays_any D q 1 (by omega) _ _ litA _ 4 4 3 _ ((nine_lit wr).on ((Below.refl _ _).alloc (Nat.le_refl _) _)) h1 rfl).mono ?_
            rintro e w' ⟨rfl, hb⟩
            exact ⟨rfl, nxa (nxt HR.out ((Below.refl _ _).alloc (Nat.le_refl _) _)) hb⟩
          go_wp2_with fail
          refine HP.out.mono ?_
          rintro e w2 ⟨rfl, HB2⟩
          clear HP HR
          go_wp2_with fail
          go_roundw
          case rel => exact ⟨q + 1, by omega, by omega, by go_num, HB2⟩
          case measure =>
            show _ < _
            simp only [intOf]; omega
        · obtain rfl : q = 20 := by omega
          clear hq1 hq2 hlt
          go_wp2_with fail
          refine (D.get_nil _).mono ?_
          rintro e w1 ⟨rfl, hb⟩
          have H1 := Lib.hid (nxt HR.out hb)
          clear hb HR
          go_wp2_with fail
          refine (D.move_nil _).mono ?_
          rintro e w2 ⟨rfl, hb⟩
          have H2 := Lib.hid (nxt H1.out hb)
          clear hb H1
          go_wp2_with fail
          refine (D.put_nil 1 _).mono ?_
          rintro e w3 ⟨p3, n3, c3, rfl, hn3, -, hb⟩
          have H3 := Lib.hid (nxt H2.out hb)
          obtain rfl : n3 = 0 := hn3.out
          clear hb H2 hn3
          go_wp2_with fail
          refine (D.lay_nil _ _ _ (uno_lit w3)).mono ?_
          rintro e w4 ⟨rfl, hb⟩
          have H4 := Lib.hid (nxa H3.out hb)
          clear hb H3
          go_wp2_with fail
          refine (D.steal_nil _).mono ?_
          rintro e w5 ⟨p5, n5, c5, rfl, hn5, -, hb⟩
          have H5 := Lib.hid (nxt H4.out hb)
          obtain rfl : n5 = 0 := hn5.out
          clear hb H4 hn5
          go_wp2_with fail
          refine (D.room_nil _).mono ?_
          rintro e w6 ⟨rfl, hb⟩
          have H6 := Lib.hid (nxt H5.out hb)
          clear hb H5
          go_wp2_with fail
          refine (D.len_nil _).mono ?_
          rintro e w7 ⟨rfl, hb⟩
          have H7 := Lib.hid (nxt H6.out hb)
          clear hb H6
          go_wp2_with fail
          refine (D.all_nil _).mono ?_
          rintro e w8 ⟨p8, n8, c8, rfl, hn8, -, hb⟩
          have H8 := Lib.hid (nxt H7.out hb)
          obtain rfl : n8 = 0 := hn8.out
          clear hb H7 hn8
          go_wp2_with fail
          refine (D.ahead_nil 1 _).mono ?_
          rintro e w9 ⟨rfl, hb⟩
          have H9 := Lib.hid (nxt H8.out hb)
          clear hb H8
          go_wp2_with fail
          refine (D.copy_nil _).mono ?_
          rintro e w10 ⟨rfl, hb⟩
          have H10 := Lib.hid (nxt H9.out hb)
          clear hb H9
          go_wp2_with fail
          refine (D.same_nil _).mono ?_
          rintro e w11 ⟨rfl, hb⟩
          have H11 := Lib.hid (nxt H10.out hb)
          clear hb H10
          go_wp2_with fail
          refine (plays_any D 131072 0 (by omega) _ _ [] none 0 0 0 _ (SlIs.nil _ _) (acts_nil _) rfl).mono ?_
          rintro e w12 ⟨rfl, hb⟩
          have H12 := Lib.hid (nxt H11.out hb)
          clear hb H11
          go_wp2_with fail
          refine (works_any D _).mono ?_
          rintro e w13 ⟨rfl, hb⟩
          have H13 := Lib.hid (nxt H12.out hb)
          clear hb H12
          go_wp2
          go_ret
          exact ⟨rfl, H13.out⟩
end Go.Proofs.Ytjdbmedealhbjaa
