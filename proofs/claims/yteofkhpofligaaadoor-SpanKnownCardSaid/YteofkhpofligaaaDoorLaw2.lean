/- The walk of SpanTexts. -/
import Derived.Test.YteofkhpofligaaaDoorLaw1
namespace Go.Proofs.YteofkhpofligaaaDoor
open Go.RowKit Go.Fm Go.Tx Go.Sm

set_option maxHeartbeats 400000 in
theorem texts_long {B : Nat} (n : Int) (s : ByteArray) (hl : 60 < s.size) (hs : s.size ≤ 9223372036854775807) (w : World) (h : Env B w) :
    Calls Tryd.prog 5 #[.int .i64 n, .string s] w fun e w' => e = .returned (.bool true) ∧ Below w.heap.size w w' := by
  go_enter Tryd.func5, Tryd.ntmps5
  go_wp2_with (go_at_call 12; refine (works_any _ h).mono ?_; rintro e w1 ⟨rfl, hb1⟩)
  go_ret
  exact ⟨rfl, hb1⟩

/-- what Read tells of what Text told -/
theorem rs_of_text {n : Int} {v e : Int} (h : RS (tx n) v e) : (tx n ≠ [] ∧ v = n ∧ e = 0) ∨ (tx n = [] ∧ v = 0 ∧ e = 10) := by
  by_cases hn : tx n = []
  · right
    have h1 : RS (tx n) 0 10 := by rw [hn]; exact rs_empty
    have := RS_same h h1
    exact ⟨hn, this.1, this.2⟩
  · left
    obtain ⟨m, hm, rfl⟩ := tx_ne hn
    have h1 : RS (tx (m : Int)) (m : Int) 0 := .inl ⟨m, hm, tx_nat hm, rfl, rfl⟩
    have := RS_same h h1
    exact ⟨hn, this.1, this.2⟩
/-- what is told of what was read -/
theorem text_of_rs {l : List UInt8} {v : Int} (h : RS l v 0) : tx v = l := by
  rcases h with ⟨m, hm, hl, rfl, _⟩ | ⟨_, _, h0⟩
  · rw [tx_nat hm, hl]
  · cases h0
theorem rs_kind {l : List UInt8} {v e : Int} (h : RS l v e) : e = 0 ∨ e = 10 := by
  rcases h with ⟨_, _, _, _, h⟩ | ⟨_, _, h⟩
  · exact .inl h
  · exact .inr h

theorem tx_len (n : Int) : (tx n).length ≤ 20 := by
  unfold tx; split
  · exact (txt_length _ (by unfold MOST; omega)).2.1
  · simp
set_option maxHeartbeats 1000000 in
theorem texts_short {B : Nat} (n : Int) (s : ByteArray) (hl : s.size ≤ 60) (w : World) (h : Env B w) :
    Calls Tryd.prog 5 #[.int .i64 n, .string s] w fun e w' => e = .returned (.bool true) ∧ Below w.heap.size w w' := by
  go_enter Tryd.func5, Tryd.ntmps5
  go_wp2_with fail
  refine (text_any n _ h).mono ?_
  rintro e w1 ⟨t, ht, rfl, hb1⟩
  have h1 := h.on' hb1
  have HT := Lib.hid ht
  clear ht
  go_wp2_with fail
  refine (read_all s (by omega) _ h1).mono ?_
  rintro e w2 ⟨x, k, hr, rfl, hb2⟩
  have h2 := h1.on' hb2
  have HR := Lib.hid hr
  clear hr
  go_wp2_with fail
  refine (rread_any s (by omega) _).mono ?_
  rintro e w3 ⟨y, k2, hr2, rfl, hb3⟩
  have h3 := h2.on' hb3
  obtain ⟨rfl, rfl⟩ := RS_same hr2 HR.out
  clear hr2
  go_wp2_with fail
  refine (read_all ⟨t.toArray⟩ (by rw [bsize, HT.out]; have := tx_len n; omega) _ h3).mono ?_
  rintro e w4 ⟨z, g, hz, rfl, hb4⟩
  have h4 := h3.on' hb4
  have HZ := Lib.hid hz
  clear hz
  go_wp2_with fail
  refine (rtext_any n _).mono ?_
  rintro e w5 ⟨t2, ht2, rfl, hb5⟩
  have h5 := h4.on' hb5
  obtain rfl : t2 = t := ht2.trans HT.out.symm
  clear ht2
  have hz := HZ.out
  have hz : RS t2 z g := hz
  rw [HT.out] at hz
  have hk := rs_kind HR.out
  have hb15 : Below w.heap.size w w5 := bt (bt (bt (bt hb1 hb2) hb3) hb4) hb5
  clear HZ h1 h2 h3 h4 hb1 hb2 hb3 hb4 hb5
  have e1 : (t2 == t2) = true := beq_self_eq_true t2
  rcases rs_of_text hz with ⟨hne, rfl, rfl⟩ | ⟨he, rfl, rfl⟩
  · have e2 : t2.isEmpty = false := by rw [HT.out]; cases hh : tx z with | nil => exact absurd hh hne | cons _ _ => rfl
    clear hz hne
    rcases hk with rfl | rfl
    · go_wp2_with fail
      refine (text_any y _ h5).mono ?_
      rintro e w6 ⟨t3, ht3, rfl, hb6⟩
      have h6 := h5.on' hb6
      have e3 : (t3 == s.toList) = true := by
        rw [ht3, text_of_rs HR.out, ByteArray.toList_eq]; exact beq_self_eq_true _
      clear ht3
      go_wp2_with fail
      refine (works_any _ h6).mono ?_
      rintro e w7 ⟨rfl, hb7⟩
      go_wp2
      go_ret
      exact ⟨rfl, bt (bt hb15 hb6) hb7⟩
    · go_wp2_with fail
      refine (works_any _ h5).mono ?_
      rintro e w6 ⟨rfl, hb6⟩
      go_wp2
      go_ret
      exact ⟨rfl, bt hb15 hb6⟩
  · have e2 : t2 = [] := by rw [HT.out]; exact he
    clear hz he
    rcases hk with rfl | rfl
    · go_wp2_with fail
      refine (text_any y _ h5).mono ?_
      rintro e w6 ⟨t3, ht3, rfl, hb6⟩
      have h6 := h5.on' hb6
      have e3 : (t3 == s.toList) = true := by
        rw [ht3, text_of_rs HR.out, ByteArray.toList_eq]; exact beq_self_eq_true _
      clear ht3
      go_wp2_with fail
      refine (works_any _ h6).mono ?_
      rintro e w7 ⟨rfl, hb7⟩
      go_wp2
      go_ret
      exact ⟨rfl, bt (bt hb15 hb6) hb7⟩
    · go_wp2_with fail
      refine (works_any _ h5).mono ?_
      rintro e w6 ⟨rfl, hb6⟩
      go_wp2
      go_ret
      exact ⟨rfl, bt hb15 hb6⟩

theorem law_texts {B : Nat} (n : Int) (s : ByteArray) (hs : s.size ≤ 9223372036854775807) (w : World) (h : Env B w) :
    Calls Tryd.prog 5 #[.int .i64 n, .string s] w fun e w' => e = .returned (.bool true) ∧ Below w.heap.size w w' := by
  by_cases hl : 60 < s.size
  · exact texts_long n s hl hs w h
  · exact texts_short n s (by omega) w h
end Go.Proofs.YteofkhpofligaaaDoor
