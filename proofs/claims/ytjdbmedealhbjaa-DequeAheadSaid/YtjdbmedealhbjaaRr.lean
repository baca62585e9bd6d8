/- The reference's deque (layer 8), walked: New, Ahead. -/
import Derived.Test.YtjdbmedealhbjaaRq
namespace Go.Proofs.Ytjdbmedealhbjaa
open Go.RowKit Go.Wd Go.Dk

theorem ahead_at {xs : List Int} {g : Int} {k : Nat} (h : g ∉ xs.take k) (hk : k < xs.length) (he : xs.getD k 0 = g) : aheadL xs g = (k : Int) := by
  have hx : xs[k] = g := by rw [← he]; simp [List.getD, hk]
  have hm : g ∈ xs := by rw [← hx]; exact List.getElem_mem hk
  unfold aheadL
  rw [if_pos hm]
  have e : xs.take k ++ xs.drop k = xs := List.take_append_drop k xs
  have h1 : xs.idxOf g = k := by
    rw [← e, List.idxOf_append, if_neg h, List.drop_eq_getElem_cons hk, hx]
    simp; omega
  rw [h1]
theorem ahead_none {xs : List Int} {g : Int} {k : Nat} (h : g ∉ xs.take k) (hk : k = xs.length) : aheadL xs g = -1 := by
  subst hk
  rw [List.take_of_length_le (Nat.le_refl _)] at h
  unfold aheadL
  rw [if_neg h]
theorem not_take {xs : List Int} {g : Int} {k : Nat} (h : g ∉ xs.take k) (hk : k < xs.length) (he : ¬ (xs.getD k 0 = g)) : g ∉ xs.take (k + 1) := by
  rw [take_more xs k hk, List.mem_append]
  rintro (h1 | h1)
  · exact h h1
  · simp at h1; exact he (by simpa [List.getD] using h1.symm)
set_option maxHeartbeats 1000000 in
theorem rahead_any {S : Nat → Prop} (q : Nat) (xs : List Int) (g : Int) (u : Value) (w : World) (h : SlIs S w u xs) :
    Calls Try.prog 37 #[.agg #[.int .i64 q, u], .int .i64 g] w (Ans (.int .i64 (aheadL xs g)) w) := by
  obtain ⟨p, n, c, rfl, hn, hc1, hc2⟩ := h.form
  have l1 : n ≤ 1000000000000000 := by have := h.len; omega
  have HC : Hid (∀ k, k < n → ∃ b o, p = some ⟨b, o, none⟩ ∧ b < w.heap.size ∧ w.cell? ⟨b, o + k, none⟩ = some (.int .i64 (xs.getD k 0))) := fun k hk => by
    obtain ⟨b, o, e, _, _, _, _, hc⟩ := h.at (show 0 < n by omega)
    exact ⟨b, o, e, block_lt_of_cell (hc k hk), hc k hk⟩
  have HN := Lib.hid hn
  clear h hn hc1 hc2
  go_enter Try.func37, Try.ntmps37
  go_wp2_with fail
  have b0 := Row.new w 32 [.int .i64 q, .slice p n c]
  have hc0 := b0.cell 1
  simp only [List.getElem?_cons_zero, List.getElem?_cons_succ] at hc0
  have HB : Hid (Below w.heap.size w (w.alloc (.cells #[.int .i64 q, .slice p n c] 32))) := (Below.refl _ _).alloc (Nat.le_refl _) _
  clear b0
  go_loop [5] (fun vi => ∃ k : Nat, k ≤ n ∧ vi = .int .i64 k ∧ Hid (g ∉ xs.take k)) (fun vi => n - (intOf vi).toNat)
  case atStart => exact ⟨0, by omega, rfl, Lib.hid (by simp)⟩
  case round =>
    obtain ⟨k, hk, rfl, HT⟩ := hrel
    by_cases hlt : k < n
    · obtain ⟨b, o, rfl, hbl, hcell⟩ := HC.out k hlt
      have hcc : (w.alloc (.cells #[.int .i64 q, .slice (some ⟨b, o, none⟩) n c] 32)).cell? ⟨b, o + k, none⟩ = some (.int .i64 (xs.getD k 0)) := by rw [HB.out.cell hbl]; exact hcell
      obtain ⟨x, hx⟩ : ∃ x, xs.getD k 0 = x := ⟨_, rfl⟩
      rw [hx] at hcc hcell
      have HX := Lib.hid hx
      have HBl := Lib.hid hbl
      clear hx hcell hbl
      by_cases hxg : x = g
      · subst hxg
        have HF : Hid (aheadL xs x = (k : Int)) := ahead_at HT.out (by rw [← HN.out]; exact hlt) HX.out
        go_wp2
        go_ret
        exact ⟨by rw [HF.out]; rfl, HB.out⟩
      · have hb : (x == g) = false := by simpa using hxg
        have HT2 : Hid (g ∉ xs.take (k + 1)) := not_take HT.out (by rw [← HN.out]; exact hlt) (by rw [HX.out]; exact hxg)
        clear hxg
        go_wp2
        go_round
        case rel => exact ⟨k + 1, by omega, by go_num, HT2⟩
        case measure => simp [intOf]; omega
    · obtain rfl : k = n := by omega
      have HF : Hid (aheadL xs g = -1) := ahead_none HT.out HN.out
      go_wp2
      go_ret
      exact ⟨by rw [HF.out]; rfl, HB.out⟩
/-- what New answers -/
def RN (S : Nat → Prop) (q : Nat) (xs : List Int) (w : World) (e : Ending) (w' : World) : Prop := ∃ p n c, e = .returned (.agg #[.int .i64 q, .slice p n c]) ∧ Hid (n = xs.length) ∧ SlIs S w' (.slice p n c) xs ∧ Below w.heap.size w w'
set_option maxHeartbeats 1000000 in
theorem rnew_any {S R : Nat → Prop} (q : Nat) (l : List Int) (v : Value) (w : World) (hv : SlIs R w v l) (hq : q ≤ 65536) (hl : l.length ≤ 1000) (hS : ∀ k, S k → k < w.heap.size) :
    Calls Try.prog 11 #[.int .i64 q, v] w (RN S q (l.take q) w) := by
  have HV : Hid (∀ W, Below w.heap.size w W → SlIs R W v l) := fun W hb => hv.on hb
  obtain ⟨p, n, c, rfl, hn, hc1, hc2⟩ := hv.form
  obtain ⟨k, hk⟩ : ∃ k, min n q = k := ⟨_, rfl⟩
  have ht : l.take q = l.take k := by rw [← hk, hn, Nat.min_comm, List.take_eq_take_min]
  rw [ht]
  have hcase : (k = n ∧ ¬ ((q : Int) < (n : Int))) ∨ (k = q ∧ (q : Int) < (n : Int)) := by
    by_cases hh : (q : Int) < (n : Int)
    · exact .inr ⟨by omega, hh⟩
    · exact .inl ⟨by omega, hh⟩
  have HK := Lib.hid (show k ≤ n ∧ n = l.length ∧ l.length ≤ 1000 from ⟨by omega, hn, hl⟩)
  have HS := Lib.hid hS
  unfold maxLen at hc2
  have kk0 : (0 : Int) ≤ (k : Int) := by omega
  have kk1 : (k : Int) ≤ (n : Int) := by omega
  have kk2 : (k : Int) ≤ (c : Int) := by omega
  have b1 := (Below.refl w.heap.size w).alloc (Nat.le_refl _) (.cells #[.int .i64 0, .slice none 0 0] 32)
  have HB1 := Lib.hid b1
  have HR1 : Hid (Row w.heap.size 32 [.int .i64 0, .slice none 0 0] (w.alloc (.cells #[.int .i64 0, .slice none 0 0] 32))) := Row.new w _ _
  have HV1 : Hid (SlIs R (w.alloc (.cells #[.int .i64 0, .slice none 0 0] 32)) (.slice p k c) (l.take k)) := (HV.out _ b1).take HK.out.1
  have HLn : Hid (([] : List Int).length + (l.take k).length ≤ 100000) := by have := HK.out; show _ ≤ _; rw [List.length_take]; simp; omega
  clear hv hn hc1 hl hS hk ht b1
  rcases hcase with ⟨he, hlt⟩ | ⟨he, hlt⟩
  · obtain rfl : k = n := he
    go_enter Try.func11, Try.ntmps11
    go_wp2_with fail
    refine (join_any [] (l.take k) _ _ _ (SlIs.nil (fun _ => False) _) HV1.out HLn.out).mono ?_
    rintro e w1 ⟨p1, n1, c1, rfl, HN1, hn1, hb1⟩
    rw [List.nil_append] at hn1 HN1
    have hr := HR1.out.on' hb1
    obtain ⟨rc0, rc1, rf0, rf1⟩ := hr.two
    have HP := Lib.hid (hr.put2 (.int .i64 q) (.slice p1 n1 c1))
    have hB2 := ((HB1.out.trans (hb1.mono HB1.out.size)).setCell (p := ⟨w.heap.size, 0, none⟩) (Nat.le_refl _) (.int .i64 q)).setCell (p := ⟨w.heap.size, 1, none⟩) (Nat.le_refl _) (.slice p1 n1 c1)
    have HB2 := Lib.hid hB2
    have t1 : Tch (fun k => k = w.heap.size) w1 ((w1.setCell ⟨w.heap.size, 0, none⟩ (.int .i64 q)).setCell ⟨w.heap.size, 1, none⟩ (.slice p1 n1 c1)) := ((Tch.refl (fun k => k = w.heap.size) w1).setCell (p := ⟨w.heap.size, 0, none⟩) (.inl rfl) _).setCell (p := ⟨w.heap.size, 1, none⟩) (.inl rfl) _
    have hsl := (hn1.tch t1 (fun j hj e => by have h1 := (hn1.lt j hj).1; simp at h1; omega)).base HB1.out.size
    have HSl := Lib.hid (newrow_sl (S := S) hsl HS.out (by have := HLn.out; simp at this ⊢; omega))
    have HN2 := Lib.hid HN1
    have hp0 := HP.out.cell 0
    have hp1 := HP.out.cell 1
    simp only [List.getElem?_cons_zero, List.getElem?_cons_succ] at hp0 hp1
    clear hn1 hb1 hr hB2 t1 hsl HN1
    go_wp2
    exact bodyPost_ret (v := .agg #[.int .i64 q, .slice p1 n1 c1]) (by simp [results, Try.results11, go_sem, hp0, hp1]) rfl ⟨_, _, _, rfl, HN2, HSl.out, HB2.out⟩
  · obtain rfl : k = q := he
    go_enter Try.func11, Try.ntmps11
    go_wp2_with fail
    refine (join_any [] (l.take k) _ _ _ (SlIs.nil (fun _ => False) _) HV1.out HLn.out).mono ?_
    rintro e w1 ⟨p1, n1, c1, rfl, HN1, hn1, hb1⟩
    rw [List.nil_append] at hn1 HN1
    have hr := HR1.out.on' hb1
    obtain ⟨rc0, rc1, rf0, rf1⟩ := hr.two
    have HP := Lib.hid (hr.put2 (.int .i64 k) (.slice p1 n1 c1))
    have hB2 := ((HB1.out.trans (hb1.mono HB1.out.size)).setCell (p := ⟨w.heap.size, 0, none⟩) (Nat.le_refl _) (.int .i64 k)).setCell (p := ⟨w.heap.size, 1, none⟩) (Nat.le_refl _) (.slice p1 n1 c1)
    have HB2 := Lib.hid hB2
    have t1 : Tch (fun k => k = w.heap.size) w1 ((w1.setCell ⟨w.heap.size, 0, none⟩ (.int .i64 k)).setCell ⟨w.heap.size, 1, none⟩ (.slice p1 n1 c1)) := ((Tch.refl (fun k => k = w.heap.size) w1).setCell (p := ⟨w.heap.size, 0, none⟩) (.inl rfl) _).setCell (p := ⟨w.heap.size, 1, none⟩) (.inl rfl) _
    have hsl := (hn1.tch t1 (fun j hj e => by have h1 := (hn1.lt j hj).1; simp at h1; omega)).base HB1.out.size
    have HSl := Lib.hid (newrow_sl (S := S) hsl HS.out (by have := HLn.out; simp at this ⊢; omega))
    have HN2 := Lib.hid HN1
    have hp0 := HP.out.cell 0
    have hp1 := HP.out.cell 1
    simp only [List.getElem?_cons_zero, List.getElem?_cons_succ] at hp0 hp1
    clear hn1 hb1 hr hB2 t1 hsl HN1
    go_wp2
    exact bodyPost_ret (v := .agg #[.int .i64 k, .slice p1 n1 c1]) (by simp [results, Try.results11, go_sem, hp0, hp1]) rfl ⟨_, _, _, rfl, HN2, HSl.out, HB2.out⟩
end Go.Proofs.Ytjdbmedealhbjaa
