/- The documents' Accesses (layer 6), walked. -/
import Derived.Test.YtnakaifnalojeaaNi
namespace Go.Proofs.Ytnakaifnalojeaa
open Go.RowKit Go.Ce

def OwnRef (xs : List Acc) (w : World) (e : Ending) (w' : World) : Prop := ∃ v, e = .returned v ∧ w'.ownsRow w.heap.size 43 4 v xs.length (xs.flatMap accC) ∧ Below w.heap.size w w'
theorem take_snocA (xs : List Acc) (k : Nat) (h : k < xs.length) : xs.take (k + 1) = xs.take k ++ [xs.getD k default] := by
  rw [List.take_succ_eq_append_getElem h]; simp [List.getD, h]
set_option maxHeartbeats 1000000 in
theorem accesses_any (p : Option Addr) (c : Nat) (xs : List Acc) (w : World) (h : LiesA w p xs) (hn : xs.length ≤ 1000000) : Calls Try.prog 22 #[.slice p xs.length c] w (OwnRef xs w) := by
  obtain ⟨n, hnn⟩ : ∃ n, xs.length = n := ⟨_, rfl⟩
  obtain ⟨i0, hi, hz0, hz1, hz2⟩ := info_parts infoAcc
  have HN := Lib.hid (And.intro hnn hn)
  have HL := Lib.hid h
  rw [hnn]
  clear h hn hnn
  go_enter Try.func22, Try.ntmps22
  go_wp2_with fail
  go_loopw [3, 4] (fun v vi wr => ∃ k : Nat, k ≤ n ∧ vi = .int .i64 k ∧ Hid (wr.ownsRow w.heap.size 43 4 v k ((xs.take k).flatMap accC)) ∧ Hid (Below w.heap.size w wr)) (fun _ vi _ => n - (intOf vi).toNat)
  case atStart => exact ⟨0, by omega, rfl, World.ownsRow_nil _ _ _ _, Lib.hid (.refl _ _)⟩
  case round =>
    obtain ⟨k, hk, rfl, HO, HB⟩ := hrel
    obtain ⟨pp, cap2, rfl⟩ := own4_form HO.out
    by_cases hlt : k < n
    · have hkx : k < xs.length := by rw [HN.out.1]; exact hlt
      obtain ⟨b, o, rfl, e0, e1, e2, e3⟩ := (HL.out.on HB.out).at hkx
      obtain ⟨x, hx⟩ : ∃ x, xs.getD k default = x := ⟨_, rfl⟩
      rw [hx] at e0 e1 e2 e3
      have HX := Lib.hid (show xs.take (k + 1) = xs.take k ++ [x] by rw [← hx]; exact take_snocA xs k hkx)
      have HK := Lib.hid hlt
      have i2 : (k : Int) < (n : Int) := by omega
      have hw : IntKind.i64.wrap ((k : Int) + 1) = (k : Int) + 1 := IntWalk.i64_in _ (by have := HN.out; omega)
      have HKM := Lib.hid (And.intro (show k + 1 ≤ maxLen by have := HN.out; unfold maxLen; omega) (show (k + 1) * 32 ≤ 140737488355328 by have := HN.out; omega))
      have hso := HB.out.size
      clear hx hkx hlt hk
      go_wp2_with fail
      refine (dacc_any x wr).mono ?_
      rintro e w1 ⟨rfl, hb1⟩
      have HO1 : Hid (w1.ownsRow w.heap.size 43 4 (.slice pp k cap2) k ((xs.take k).flatMap accC)) := by
        refine ⟨HO.out.1, ?_⟩
        rcases HO.out.2 with h2 | ⟨g, cap, cur, hv, hB, hg, r⟩
        · exact .inl h2
        · exact .inr ⟨g, cap, cur, hv, hB, Below.obj hb1 hg (lt_of_block hg), r⟩
      have HB1 := Lib.hid (HB.out.trans (hb1.mono hso))
      have hs1 := hb1.size
      simp only [accG]
      clear hb1
      go_wp2_with (at_builtin; refine wpList_append_lies _ rfl (.tmp 11) (.tmp 17) 27 (by rfl) w.heap.size 43 i0 (.agg #[.int .i64 0, .int .i64 0, .int .u64 0, .int .u64 0]) 4 32 Try.underlying27 hi hz0 hz1 hz2 rfl (by decide) _ k ((xs.take k).flatMap accC) (by kernel_rfl) (HO1.out.alloc _) ⟨w1.heap.size, 0, none⟩ 1 1 (accC x) (by kernel_rfl) rfl (acc_new x w1 _) (acc_one _) (by decide) HKM.out.1 HKM.out.2 (by simp; omega) (w1.heap.size + 1) (by simp) ?_; intro g4 cap4 W4 hown4 hgrow4 hat4 hlt4)
      have HB2 : Hid (Below w.heap.size w W4) := (HB1.out.alloc (by omega) _).grown hgrow4 (by simp; omega) (fun j hj => (HO1.out.lt j hj).1)
      have HO2 : Hid (W4.ownsRow w.heap.size 43 4 (.slice (some ⟨g4, 0, none⟩) (k + 1) cap4) (k + 1) ((xs.take (k + 1)).flatMap accC)) := by
        show World.ownsRow _ _ _ _ _ _ _
        rw [HX.out, List.flatMap_append, show [x].flatMap accC = accC x from List.append_nil _]; exact hown4
      clear hown4 hgrow4 hat4 hlt4
      go_wp2_with fail
      go_roundw
      case rel => exact ⟨k + 1, HK.out, by go_num, HO2, HB2⟩
      case measure =>
        show _ < _
        have := HK.out
        simp only [intOf]; omega
    · obtain rfl : k = n := by omega
      have HF : Hid (OwnRef xs w (.returned (.slice pp k cap2)) wr) := by
        refine ⟨_, rfl, ?_, HB.out⟩
        have := HO.out
        rw [List.take_of_length_le (by have := HN.out; omega)] at this
        rw [HN.out.1]; exact this
      clear HO
      go_wp2
      go_ret
      exact HF.out
end Go.Proofs.Ytnakaifnalojeaa
