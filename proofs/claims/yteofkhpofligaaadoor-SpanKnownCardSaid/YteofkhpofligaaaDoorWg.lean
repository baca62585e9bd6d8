/- The walk of span.Read. -/
import Derived.Test.YteofkhpofligaaaDoorWf
import Derived.Lib.IndexBytes
import Derived.StillTailTactics
import Derived.Deep.RegionWith
namespace Go.Proofs.YteofkhpofligaaaDoor
open Go.RowKit Go.Tx

/-- strconv.ParseInt(s, 10, 64): a number and nil, or an error that is not nil -/
def ParseIs (s : ByteArray) (v : Int) (er : Value) : Prop := (Lib.parseIntB 64 s.data.toList = .ok v ∧ er = .nilIface) ∨ ((∀ v, Lib.parseIntB 64 s.data.toList ≠ .ok v) ∧ ∃ t p, er = .iface t p)
def ParsePost (s : ByteArray) (w : World) (e : Ending) (w' : World) : Prop := ∃ v er, ParseIs s v er ∧ e = .returned (.tuple #[.int .i64 v, er]) ∧ Below w.heap.size w w'

theorem parse_any {B : Nat} (s : ByteArray) (hs : s.size ≤ 1000) (w : World) (h : Env B w) : Calls Tryd.prog 33 #[.string s, .int .i64 10, .int .i64 64] w (ParsePost s w) := by
  rcases hp : Lib.parseIntB 64 s.data.toList with v | _ | _
  · refine (Tryd.strconv_ParseInt_10_at64_ok s (by omega) v hp w).mono ?_
    rintro e w' ⟨he, hw⟩
    refine ⟨v, .nilIface, .inl ⟨hp, rfl⟩, he, ?_⟩
    rcases hw with rfl | ⟨t, rfl⟩
    · exact Below.refl _ _
    · exact Lib.bytesWorld_below _ _ _
  · obtain ⟨t, p, hv⟩ := h.syn w (Below.refl _ _)
    refine (Tryd.strconv_ParseInt_10_at64_syntax_var s (by omega) hp t p w hv).mono ?_
    rintro e w' ⟨N, he, _, _, hb⟩
    exact ⟨_, _, .inr ⟨fun v hv => (by rw [hp] at hv; cases hv), 90, _, rfl⟩, he, hb⟩
  · obtain ⟨t, p, hv⟩ := h.rng w (Below.refl _ _)
    refine (Tryd.strconv_ParseInt_10_at64_range_var s (by omega) hp t p w hv).mono ?_
    rintro e w' ⟨N, he, _, _, hb⟩
    exact ⟨_, _, .inr ⟨fun v hv => (by rw [hp] at hv; cases hv), 90, _, rfl⟩, he, hb⟩

def ReadPost (s : ByteArray) (w : World) (e : Ending) (w' : World) : Prop := ∃ v x, RS s.data.toList v x ∧ e = .returned (.tuple #[.int .i64 v, .int .i64 x]) ∧ Below w.heap.size w w'

theorem cut_list (s : ByteArray) : (s.extract 0 (s.size - 6 - 1) ++ s.extract (s.size - 6) s.size).data.toList = s.data.toList.take (s.data.toList.length - 7) ++ s.data.toList.drop (s.data.toList.length - 6) := by
  have e : s.size = s.data.toList.length := Lib.size_eq s
  rw [ByteArray.data_append, Array.toList_append, Lib.extract_data, Lib.extract_to_end, e, Nat.sub_zero, Nat.sub_sub, List.drop_zero]
theorem cut_size (s : ByteArray) : (s.extract 0 (s.size - 6 - 1) ++ s.extract (s.size - 6) s.size).size ≤ s.size := by
  have h := congrArg List.length (cut_list s)
  have e : s.size = s.data.toList.length := Lib.size_eq s
  have e2 : ∀ t : ByteArray, t.size = t.data.toList.length := Lib.size_eq
  rw [e2, h, e]
  simp only [List.length_append, List.length_take, List.length_drop]
  omega
theorem ne_of_list {l : List UInt8} {s : ByteArray} (h : (!l == s.toList) = true) : l ≠ s.data.toList := by
  rw [ByteArray.toList_eq] at h; simpa using h
theorem eq_of_list {l : List UInt8} {s : ByteArray} (h : (!l == s.toList) = false) : l = s.data.toList := by
  rw [ByteArray.toList_eq] at h; simpa using h
/-- what was parsed is not what stands there -/
theorem read_no {s : ByteArray} {v : Int} (h : tx v ≠ s.data.toList) (hp : Lib.parseIntB 64 (s.extract 0 (s.size - 6 - 1) ++ s.extract (s.size - 6) s.size).data.toList = .ok v) : RS s.data.toList 0 10 := by
  refine .inr ⟨fun m hm hl => ?_, rfl, rfl⟩
  rw [cut_list, hl, txt_cut, parse_dgs hm] at hp
  have hv : (m : Int) = v := by injection hp
  rw [← hv, tx_nat hm] at h
  exact h hl.symm
theorem read_yes {s : ByteArray} {v : Int} (h : tx v = s.data.toList) (hs : 8 ≤ s.size) : RS s.data.toList v 0 := by
  have hne : tx v ≠ [] := by
    intro h0; rw [h0] at h
    have := Lib.size_eq s
    rw [← h, List.length_nil] at this; omega
  obtain ⟨m, hm, rfl⟩ := tx_ne hne
  rw [tx_nat hm] at h
  exact .inl ⟨m, hm, h.symm, rfl, rfl⟩
theorem read_none {s : ByteArray} (hp : ∀ v, Lib.parseIntB 64 (s.extract 0 (s.size - 6 - 1) ++ s.extract (s.size - 6) s.size).data.toList ≠ .ok v) : RS s.data.toList 0 10 := by
  refine .inr ⟨fun m hm hl => ?_, rfl, rfl⟩
  apply hp m
  rw [cut_list, hl, txt_cut, parse_dgs hm]
theorem read_len {s : ByteArray} (h : s.size < 8 ∨ 20 < s.size) : RS s.data.toList 0 10 := by
  refine .inr ⟨fun m hm hl => ?_, rfl, rfl⟩
  have h1 := txt_length m hm
  rw [← hl, ← Lib.size_eq] at h1
  omega

set_option maxHeartbeats 400000 in
theorem read_out (s : ByteArray) (hs : s.size ≤ maxLen) (h : s.size < 8 ∨ 20 < s.size) (w : World) : Calls Tryd.prog 19 #[.string s] w fun e w' => e = .returned (.tuple #[.int .i64 0, .int .i64 10]) ∧ w = w' := by
  unfold maxLen at hs
  rcases h with h | h
  · go_enter Tryd.func19, Tryd.ntmps19
    go_wp2_with fail
    go_ret2
    exact ⟨rfl, rfl⟩
  · go_enter Tryd.func19, Tryd.ntmps19
    go_wp2_with fail
    go_ret2
    exact ⟨rfl, rfl⟩

set_option maxRecDepth 100000 in
set_option maxHeartbeats 4000000 in
theorem read_any {B : Nat} (s : ByteArray) (hs : s.size ≤ 20) (hs8 : 8 ≤ s.size) (w : World) (h : Env B w) : Calls Tryd.prog 19 #[.string s] w (ReadPost s w) := by
  go_enter Tryd.func19, Tryd.ntmps19
  go_wp2_with fail
  have hd : Env B w.drew := h.on' (Below.refl _ _).drew
  have hsz := Nat.le_trans (cut_size s) (Nat.le_trans hs (show 20 ≤ 1000 by decide))
  have i1 : (0 : Int) ≤ (s.size : Int) - 6 - 1 := by omega
  have i2 : (s.size : Int) - 6 - 1 ≤ (s.size : Int) := by omega
  have i3 : (0 : Int) ≤ (s.size : Int) - 6 := by omega
  have i4 : (s.size : Int) - 6 ≤ (s.size : Int) := by omega
  have i5 : ¬ 9223372036854775807 < s.size - 6 - 1 + (s.size - (s.size - 6)) := by omega
  have j1 : IntKind.i64.wrap ((s.size : Int) - 6) = (s.size : Int) - 6 := IntWalk.i64_in _ (by omega)
  have j1' : IntKind.i64.wrap ((s.size : Int) - 6 - 1 + 1) = (s.size : Int) - 6 := by rw [show (s.size : Int) - 6 - 1 + 1 = (s.size : Int) - 6 by omega]; exact j1
  have j2 : ((s.size : Int) - 6).toNat = s.size - 6 := by omega
  have j3 : ((s.size : Int) - 6 - 1).toNat = s.size - 6 - 1 := by omega
  go_region_with (go_at_call 33; refine (parse_any (B := B) _ hsz _ hd).mono ?_; rintro e w1 ⟨v, er, hpar, rfl, hb1⟩)
  all_goals
    clear i1 i2 i3 i4 i5 j1 j1' j2 j3
    have HP := Lib.hid hpar
    clear hpar
    rcases HP.out with ⟨hok, rfl⟩ | ⟨hno, t, p, rfl⟩
    · have HO := Lib.hid hok
      clear hok HP
      have h1 : Env B w1 := hd.on' hb1
      go_wp2_with (go_at_call 18; refine (text_any (B := B) _ _ h1).mono ?_; rintro e w2 ⟨l, hl, rfl, hb2⟩; have HL := Lib.hid hl; clear hl)
      · go_ret2
        refine ⟨0, 10, read_no (ne_of_list (by rw [← HL.out]; assumption)) HO.out, rfl, ((Below.refl _ _).drew.trans hb1).trans (hb2.mono hb1.size)⟩
      · go_ret2
        refine ⟨v, 0, read_yes (eq_of_list (by rw [← HL.out]; assumption)) hs8, rfl, ((Below.refl _ _).drew.trans hb1).trans (hb2.mono hb1.size)⟩
    · have HN := Lib.hid hno
      clear hno HP
      go_wp2
      go_ret2
      exact ⟨0, 10, read_none HN.out, rfl, (Below.refl _ _).drew.trans hb1⟩
end Go.Proofs.YteofkhpofligaaaDoor
