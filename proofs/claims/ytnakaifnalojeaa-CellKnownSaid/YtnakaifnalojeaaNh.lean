/- The reference's All (layer 6), walked. -/
import Derived.Test.YtnakaifnalojeaaNe
import Derived.StillTailTactics
namespace Go.Proofs.Ytnakaifnalojeaa
open Go.RowKit Go.Ce

theorem row_own {w : World} {B n g : Nat} {E : TypeId} {xs : List Value} (h : Row g E xs w) (hn : xs.length = n) (hB : B ≤ g) (hm : n ≤ maxLen) : w.ownsRow B E 1 (.slice (some ⟨g, 0, none⟩) n n) n xs :=
  ⟨by rw [hn, Nat.mul_one], .inr ⟨g, n, xs.toArray, rfl, hB, h, Nat.le_refl _, hm, by rw [List.size_toArray, hn, Nat.mul_one], by rw [Nat.mul_one]; exact List.take_of_length_le (Nat.le_of_eq hn)⟩⟩
theorem allV_take (N : Nat) (xs : List Acc) (i : Nat) (hi : i < xs.length) : allV N (xs.take (i + 1)) = setV (allV N (xs.take i)) (xs.getD i default).a (xs.getD i default).n := by
  have h1 : xs.take (i + 1) = xs.take i ++ [xs.getD i default] := by
    rw [List.take_succ_eq_append_getElem hi]; simp [List.getD, hi]
  rw [h1, allV_more]
set_option maxHeartbeats 1000000 in
set_option maxRecDepth 20000 in
theorem rall_any {N : Nat} (p : Option Addr) (l c : Nat) (xs : List Acc) (w : World) (h : BookIs w p l c xs) (hin : InN N xs) (hN : N ≤ 65536) : Calls Try.prog 41 #[.agg #[.int .i64 N, .slice p l c]] w (OwnNums (allV N xs) w) := by
  have hl := h.len
  have hlm := h.lm
  have HBk := Lib.hid h
  have HXL := Lib.hid hl
  have HIn := Lib.hid hin
  obtain ⟨i0, hi, hz0, hz1, hz2⟩ := info_parts infoU
  have hbox := (Below.refl w.heap.size w).alloc (Nat.le_refl _) (.cells #[.int .i64 N, .slice p l c] 29)
  have hr0 := Row.new w 29 [.int .i64 N, .slice p l c]
  have hmake : ∀ (w : World), (Instr.makeSlice 65 (.int .i64 N) (.int .i64 N)).run Try.prog w = .ok (.slice (some ⟨w.heap.size, 0, none⟩) N N) (w.alloc (.cells ((List.replicate N (0 : Int)).map (Value.int .u64) ++ []).toArray 34)) := fun w => by
    have := run_make (P := Try.prog) w 65 34 i0 _ under_row hi hz0 .i64 .i64 N N (by omega) (Int.le_refl _) (by rw [hz2]; omega) (by omega)
    rw [hz1] at this
    rw [this]
    simp only [Int.toNat_natCast]
    rw [show (Value.int IntKind.u64 0).cells = #[.int .u64 0] from rfl, make_cells]
  have hm0 := hmake (w.alloc (.cells #[.int .i64 N, .slice p l c] 29))
  have hr1 : Row (w.heap.size + 1) 34 ((List.replicate N (0 : Int)).map (Value.int .u64) ++ []) ((w.alloc (.cells #[.int .i64 N, .slice p l c] 29)).alloc (.cells ((List.replicate N (0 : Int)).map (Value.int .u64) ++ []).toArray 34)) := Row.new' _ _ _ _ (by simp)
  have hbox2 := (Below.refl _ (w.alloc (.cells #[.int .i64 N, .slice p l c] 29))).alloc (Nat.le_refl _) (.cells ((List.replicate N (0 : Int)).map (Value.int .u64) ++ []).toArray 34)
  have hr0' := hr0.on' hbox2
  have hb := hbox.trans (hbox2.mono hbox.size)
  generalize (w.alloc (.cells #[.int .i64 N, .slice p l c] 29)).alloc (.cells ((List.replicate N (0 : Int)).map (Value.int .u64) ++ []).toArray 34) = W at hm0 hr0' hr1 hb
  rw [List.append_nil] at hr1
  have HR1 : Hid (Row (w.heap.size + 1) 34 ((allV N (xs.take 0)).map (Value.int .u64)) W) := hr1
  have HR0 := Lib.hid hr0'
  have HB := Lib.hid hb
  clear h hl hin hi hz0 hz1 hz2 hbox hr0 hmake hr1 hbox2 hr0' hb
  have HNN := Lib.hid hN
  have HLM := Lib.hid hlm
  clear hN hlm
  simp only [World.size_alloc] at hm0
  go_enter Try.func41, Try.ntmps41
  go_wp2_with fail
  clear hm0
  go_loopw [4] (fun vi wr => ∃ i : Nat, i ≤ l ∧ vi = .int .i64 i ∧ Hid (Row (w.heap.size + 1) 34 ((allV N (xs.take i)).map (Value.int .u64)) wr) ∧ Hid (Row w.heap.size 29 [.int .i64 N, .slice p l c] wr) ∧ Hid (Below w.heap.size w wr)) (fun vi _ => l - (intOf vi).toNat)
  case atStart => exact ⟨0, by omega, rfl, HR1, HR0, HB⟩
  case round =>
    obtain ⟨i, hi, rfl, HA, HC, HB2⟩ := hrel
    clear HR1 HR0 HB
    have c1 := HC.out.cell 1
    have HWr : Hid (IntKind.i64.wrap ((i : Int) + 1) = (i : Int) + 1) := IntWalk.i64_in _ (by have := HLM.out; omega)
    simp only [List.getElem?_cons_zero, List.getElem?_cons_succ] at c1
    by_cases hlt : i < l
    · have hix : i < xs.length := by have := HXL.out; omega
      obtain ⟨b, o, rfl, e0, e1, e2, e3⟩ := (HBk.out.lies.on HB2.out).at hix
      have HX := Lib.hid (allV_take N xs i hix)
      have hmem : xs.getD i default ∈ xs := by rw [List.getD_eq_getElem?_getD, List.getElem?_eq_getElem hix]; exact List.getElem_mem hix
      have hax := HIn.out _ hmem
      obtain ⟨x, hx⟩ : ∃ x, xs.getD i default = x := ⟨_, rfl⟩
      rw [hx] at e0 e1 e2 e3 hax HX
      obtain ⟨xk, xa, xo, xn⟩ := x
      simp only at e0 e1 e2 e3 hax HX
      obtain ⟨j, rfl⟩ : ∃ j : Nat, xa = j := ⟨xa.toNat, by omega⟩
      have hj : j < N := by omega
      have hj2 : (j : Int) < (N : Int) := by omega
      have hj3 : j < ((allV N (xs.take i)).map (Value.int .u64)).length := by rw [List.length_map, allV_length]; exact hj
      have g0 : wr.cell? ⟨w.heap.size + 1, j, none⟩ = some ((allV N (xs.take i)).map (Value.int .u64))[j] := by rw [HA.out.cell, List.getElem?_eq_getElem hj3]
      generalize ((allV N (xs.take i)).map (Value.int .u64))[j] = old at g0
      have f0 := HA.out.frozen j
      have i2 : (i : Int) < (l : Int) := by omega
      have HK := Lib.hid hlt
      have HA2 : Hid (Row (w.heap.size + 1) 34 ((allV N (xs.take (i + 1))).map (Value.int .u64)) (wr.setCell ⟨w.heap.size + 1, j, none⟩ (.int .u64 xn))) := by
        show Row _ _ _ _
        rw [HX.out]
        unfold setV
        rw [List.map_set, Int.toNat_natCast]
        exact HA.out.set j _
      have HC2 : Hid (Row w.heap.size 29 [.int .i64 N, .slice (some ⟨b, o, none⟩) l c] (wr.setCell ⟨w.heap.size + 1, j, none⟩ (.int .u64 xn))) := HC.out.far (by show w.heap.size ≠ w.heap.size + 1; omega) _
      have HB3 : Hid (Below w.heap.size w (wr.setCell ⟨w.heap.size + 1, j, none⟩ (.int .u64 xn))) := HB2.out.setCell (p := ⟨w.heap.size + 1, j, none⟩) (by show _ ≤ w.heap.size + 1; omega) _
      clear hx hax hmem hlt hj3
      have hw := HWr.out
      go_wp2_with fail
      go_still_tail 14, (by kernel_rfl)
      change wpList _ _ _ _ _ wr.drew
      go_wp2_with fail
      go_roundw
      case rel => exact ⟨i + 1, HK.out, by go_num, HA2.out.drew, HC2.out.drew, HB3.out.drew⟩
      case measure =>
        show _ < _
        have := HK.out
        simp only [intOf]; omega
    · obtain rfl : i = l := by omega
      have HF : Hid (OwnNums (allV N xs) w (.returned (.slice (some ⟨w.heap.size + 1, 0, none⟩) N N)) wr) := by
        have h1 := HA.out
        rw [List.take_of_length_le (by have := HXL.out; omega)] at h1
        have h2 := row_own h1 (n := N) (B := w.heap.size) (by rw [List.length_map, allV_length]) (by omega) (by have := HNN.out; unfold maxLen; omega)
        refine ⟨_, rfl, ?_, ⟨_, N, by rw [allV_length]⟩, HB2.out⟩
        rw [allV_length]; exact h2
      clear HA
      go_wp2
      go_ret
      exact HF.out
end Go.Proofs.Ytnakaifnalojeaa
