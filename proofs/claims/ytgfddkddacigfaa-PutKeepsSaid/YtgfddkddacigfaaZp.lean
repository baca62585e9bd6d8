/- The law PutNone (layer 9), walked. -/
import Derived.Test.YtgfddkddacigfaaZo
import Derived.Test.YtgfddkddacigfaaDc
set_option linter.unusedSimpArgs false
set_option linter.unusedVariables false
namespace Go.Proofs.Ytgfddkddacigfaa
open Go.RowKit Go.Cg Go.Pu Go.Wd Go.Ce

set_option maxRecDepth 20000 in
set_option maxHeartbeats 2000000 in
theorem none_any (n : Int) (hn : -9223372036854775808 ≤ n ∧ n ≤ 9223372036854775807) (w : World) : Calls Try.prog 7 #[.int .i64 n] w (Ans (.bool true) w) := by
  obtain ⟨S, R, W, hW, hP, hL, hB⟩ := zeros w
  obtain ⟨k, hk, HPk0⟩ := pick_det n 30 hn (by omega)
  have HPk : Hid (∀ W, Calls Try.prog 31 #[.int .i64 n, .int .i64 30] W (fun e w' => e = .returned (.int .i64 k) ∧ w' = W)) := HPk0
  clear HPk0
  have HO : Hid (∀ (b g : Nat) (W : World), MemIs W b g (PM.new k) → Calls Try.prog 20 #[pptr b] W (Ans (.int .u64 0) W)) := fun b g W h => ops_any h
  have HNw := Lib.hid (fun W => new_any (k : Int) k (by unfold nN; omega) W)
  have HWk := Lib.hid (fun W => works_any thePut W)
  have hz := zero_fits
  have zl : LS.zero.a = 0 := rfl
  have HS := Lib.hid (fun (a : Nat) (W : World) (h : PutIs S W a PS.zero) (v : Value) => pstep_done h hz.2.1 v)
  have HD := Lib.hid (fun (a : Nat) (W : World) (h : PutIs S W a PS.zero) => (pdone_any h))
  have HH := Lib.hid (fun (a : Nat) (W : World) (h : PutIs S W a PS.zero) => (phands_any h))
  have HLS := Lib.hid (fun (a : Nat) (W : World) (h : LayIs R W a LS.zero) (v : Value) => lstep_done h zl v)
  have HLD := Lib.hid (fun (a : Nat) (W : World) (h : LayIs R W a LS.zero) => (ldone_any h))
  have HNs := Lib.hid (fun W q => pstep_nil q W)
  have HNd := Lib.hid (fun W => pdone_nil W)
  have HNo := Lib.hid (fun W => pover_nil W)
  have HNh := Lib.hid (fun W => phands_nil W)
  have HMs := Lib.hid (fun W q => lstep_nil q W)
  have HMd := Lib.hid (fun W => ldone_nil W)
  have HMh := Lib.hid (fun W => lhands_nil W)
  rw [decide_eq_true hz.2.1] at HD
  rw [decide_eq_true zl] at HLD
  have HP := Lib.hid hP
  have HL := Lib.hid hL
  have HB := Lib.hid hB
  clear hP hL hB hz zl
  go_enter Try.func7, Try.ntmps7
  go_upto_region 5 with (fail)
  change Code.wp _ _ _ _ ((w.alloc (.cells (ptV cfg0 0 0 0 0 0 (List.replicate 32 0) (.slice none 0 0)).toArray 78)).alloc (.cells (lyV cfg0 0 (0 : Nat) 0 0 (.slice none 0 0) 0).toArray 80))
  rw [hW]
  clear hW
  go_wp2_with (first
    | (go_at_call 31; (with_reducible refine (HPk.out _).mono ?_); rintro e w1 ⟨rfl, rfl⟩)
    | (go_at_call 34; (with_reducible refine (HNw.out _).mono ?_); rintro e w1 ⟨mb, mg, rfl, hm, -, -, hb⟩; have HP := Lib.hid (HP.out.on hb); have HL := Lib.hid (HL.out.on hb); have HB := Lib.hid (HB.out.trans (hb.mono HB.out.size)); have HM := Lib.hid hm; clear hm hb)
    | (go_at_call 22; (with_reducible refine (HNs.out _ _).mono ?_); rintro e w1 ⟨rfl, hb⟩; have HP := Lib.hid (HP.out.on hb); have HL := Lib.hid (HL.out.on hb); have HB := Lib.hid (HB.out.trans (hb.mono HB.out.size)); have HM := Lib.hid (HM.out.on hb); clear hb)
    | (go_at_call 18; (with_reducible refine (HNd.out _).mono ?_); rintro e w1 ⟨rfl, rfl⟩)
    | (go_at_call 16; (with_reducible refine (HNo.out _).mono ?_); rintro e w1 ⟨p1, n1, c1, rfl, hn1, -, hb⟩; obtain rfl : n1 = 0 := hn1.out; have HP := Lib.hid (HP.out.on hb); have HL := Lib.hid (HL.out.on hb); have HB := Lib.hid (HB.out.trans (hb.mono HB.out.size)); have HM := Lib.hid (HM.out.on hb); clear hb)
    | (go_at_call 15; (with_reducible refine (HNh.out _).mono ?_); rintro e w1 ⟨p1, n1, c1, rfl, hn1, -, hb⟩; obtain rfl : n1 = 0 := hn1.out; have HP := Lib.hid (HP.out.on hb); have HL := Lib.hid (HL.out.on hb); have HB := Lib.hid (HB.out.trans (hb.mono HB.out.size)); have HM := Lib.hid (HM.out.on hb); clear hb)
    | (go_at_call 29; (with_reducible refine (HMs.out _ _).mono ?_); rintro e w1 ⟨rfl, hb⟩; have HP := Lib.hid (HP.out.on hb); have HL := Lib.hid (HL.out.on hb); have HB := Lib.hid (HB.out.trans (hb.mono HB.out.size)); have HM := Lib.hid (HM.out.on hb); clear hb)
    | (go_at_call 27; (with_reducible refine (HMd.out _).mono ?_); rintro e w1 ⟨rfl, rfl⟩)
    | (go_at_call 26; (with_reducible refine (HMh.out _).mono ?_); rintro e w1 ⟨p1, n1, c1, rfl, hn1, -, hb⟩; obtain rfl : n1 = 0 := hn1.out; have HP := Lib.hid (HP.out.on hb); have HL := Lib.hid (HL.out.on hb); have HB := Lib.hid (HB.out.trans (hb.mono HB.out.size)); have HM := Lib.hid (HM.out.on hb); clear hb)
    | (go_at_call 22; (with_reducible refine (HS.out _ _ HP.out _).mono ?_); rintro e w1 ⟨rfl, hb⟩; have HP := Lib.hid (HP.out.on hb); have HL := Lib.hid (HL.out.on hb); have HB := Lib.hid (HB.out.trans (hb.mono HB.out.size)); have HM := Lib.hid (HM.out.on hb); clear hb)
    | (go_at_call 18; (with_reducible refine (HD.out _ _ HP.out).mono ?_); rintro e w1 ⟨rfl, rfl⟩)
    | (go_at_call 15; (with_reducible refine (HH.out _ _ HP.out).mono ?_); rintro e w1 ⟨p1, n1, c1, rfl, hn1, -, hb⟩; obtain rfl : n1 = 0 := hn1.out; have HP := Lib.hid (HP.out.on hb); have HL := Lib.hid (HL.out.on hb); have HB := Lib.hid (HB.out.trans (hb.mono HB.out.size)); have HM := Lib.hid (HM.out.on hb); clear hb)
    | (go_at_call 29; (with_reducible refine (HLS.out _ _ HL.out _).mono ?_); rintro e w1 ⟨rfl, hb⟩; have HP := Lib.hid (HP.out.on hb); have HL := Lib.hid (HL.out.on hb); have HB := Lib.hid (HB.out.trans (hb.mono HB.out.size)); have HM := Lib.hid (HM.out.on hb); clear hb)
    | (go_at_call 27; (with_reducible refine (HLD.out _ _ HL.out).mono ?_); rintro e w1 ⟨rfl, rfl⟩)
    | (go_at_call 20; (with_reducible refine (HO.out _ _ _ HM.out).mono ?_); rintro e w1 ⟨rfl, hb⟩; have HB := Lib.hid (HB.out.trans (hb.mono HB.out.size)); clear hb)
    | (go_at_call 9; (with_reducible refine (HWk.out _).mono ?_); rintro e w1 ⟨rfl, hb⟩; have HB := Lib.hid (HB.out.trans (hb.mono HB.out.size)); clear hb))
  go_ret
  exact ⟨rfl, HB.out⟩
end Go.Proofs.Ytgfddkddacigfaa
