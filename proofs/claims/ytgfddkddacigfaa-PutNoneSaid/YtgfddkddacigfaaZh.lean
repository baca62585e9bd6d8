/- A put: Done, Over, Hands, Step; of nothing (layer 9's code). -/
import Derived.Test.YtgfddkddacigfaaZg
import Derived.Laws.EntriesVeiled
set_option linter.unusedSimpArgs false
set_option linter.unusedVariables false
namespace Go.Proofs.Ytgfddkddacigfaa
open Go.RowKit Go.Cg Go.Pu Go.Wd Go.Ce

section
variable {S : Nat → Prop} {w w' : World} {b mb mg : Nat} {x : PS} {m : PM}
theorem pdone_any (h : PutIs S w b x) : Calls Try.prog 18 #[pptr b] w (fun e w' => e = .returned (.bool (decide (x.a = 0))) ∧ w' = w) := by
  obtain ⟨c, p, s, k, g, L, vo, hx⟩ := h.ex
  have he := rended_any hx.row
  obtain ⟨r, hr⟩ : ∃ r, decide (x.a = 0) = r := ⟨_, rfl⟩
  have hr2 : decide ((x.a : Int) = 0) = r := by rw [← hr]; exact decide_eq_decide.2 (by omega)
  rw [hr2] at he
  rw [hr]
  have HE := Lib.hid he
  clear h hx hr hr2 he
  go_enter Try.func18, Try.ntmps18
  go_wp2_with (go_at_call 52; (with_reducible refine HE.out.mono ?_); rintro e w3 ⟨rfl, rfl⟩)
  go_ret
  exact ⟨rfl, rfl⟩
theorem pdone_nil (w : World) : Calls Try.prog 18 #[.pointer none] w (fun e w' => e = .returned (.bool true) ∧ w' = w) := by
  go_enter Try.func18, Try.ntmps18
  go_wp2_with fail
  go_ret
  exact ⟨rfl, rfl⟩
theorem pover_any (h : PutIs S w b x) : Calls Try.prog 16 #[pptr b] w (RowPost8 x.over w) := by
  obtain ⟨c, p, s, k, g, L, vo, hx⟩ := h.ex
  have c43 := pt_over hx.row hx.len
  have hfew : x.over.length ≤ 65536 := by
    have := hx.fh
    unfold PS.over
    split
    · omega
    · simp
  have HC := Lib.hid (iclone_any hx.ov hfew)
  obtain ⟨pn, n, cn, rfl, -⟩ := hx.ov.form
  clear h hx hfew
  go_enter Try.func16, Try.ntmps16
  go_wp2_with (go_at_call 51; (with_reducible refine HC.out.mono ?_); rintro e w3 ⟨p3, n3, c3, rfl, hn, hO, hB⟩)
  go_ret
  exact ⟨p3, n3, c3, rfl, hn, hO, hB⟩
theorem pover_nil (w : World) : Calls Try.prog 16 #[.pointer none] w (RowPost8 [] w) := by
  go_enter Try.func16, Try.ntmps16
  go_wp2_with fail
  go_ret
  exact ⟨none, 0, 0, rfl, rfl, NewRow.nil _ _, Below.refl _ _⟩
theorem new_one (g : Int) (w : World) : NewRow w.heap.size (w.alloc (.cells #[.int .i64 g] 3)) (.slice (some ⟨w.heap.size, 0, none⟩) 1 1) [g] ∧ Below w.heap.size w (w.alloc (.cells #[.int .i64 g] 3)) := by
  refine ⟨⟨rfl, .inr ⟨_, 1, #[.int .i64 g], rfl, Nat.le_refl _, heap_alloc_new _ _, Nat.le_refl _, by unfold maxLen; omega, rfl, rfl⟩⟩, (Below.refl _ _).alloc (Nat.le_refl _) _⟩
theorem phands_any (h : PutIs S w b x) : Calls Try.prog 15 #[pptr b] w (RowPost8 x.h w) := by
  have HD := Lib.hid (pdone_any h)
  have HO := Lib.hid (pover_any h)
  obtain ⟨c, p, s, k, g, L, vo, hx⟩ := h.ex
  by_cases ha : x.a = 0
  · have ho : x.over = x.h := by unfold PS.over; rw [if_pos ha]
    rw [decide_eq_true ha] at HD
    rw [ho] at HO
    clear h hx ho ha
    go_enter Try.func15, Try.ntmps15
    go_wp2_with (first
      | (go_at_call 18; (with_reducible refine HD.out.mono ?_); rintro e w3 ⟨rfl, rfl⟩)
      | (go_at_call 16; (with_reducible refine HO.out.mono ?_); rintro e w3 ⟨p3, n3, c3, rfl, hn, hO, hB⟩))
    go_ret
    exact ⟨p3, n3, c3, rfl, hn, hO, hB⟩
  · obtain ⟨e1, e2, e3, e4, e5⟩ := hx.live ha
    rw [decide_eq_false ha] at HD
    have c10 := pt_g hx.row
    rw [e5, ← e3]
    have HN := Lib.hid (new_one g w)
    clear h hx HO ha e1 e2 e3 e4 e5
    go_enter Try.func15, Try.ntmps15
    go_wp2_with (go_at_call 18; (with_reducible refine HD.out.mono ?_); rintro e w3 ⟨rfl, rfl⟩)
    go_ret
    exact ⟨_, 1, 1, rfl, rfl, HN.out.1, HN.out.2⟩
theorem phands_nil (w : World) : Calls Try.prog 15 #[.pointer none] w (RowPost8 [] w) := by
  have HD := Lib.hid (fun w => pdone_nil w)
  have HO := Lib.hid (fun w => pover_nil w)
  go_enter Try.func15, Try.ntmps15
  go_wp2_with (first
      | (go_at_call 18; (with_reducible refine (HD.out _).mono ?_); rintro e w3 ⟨rfl, rfl⟩)
      | (go_at_call 16; (with_reducible refine (HO.out _).mono ?_); rintro e w3 ⟨p3, n3, c3, rfl, hn, hO, hB⟩))
  go_ret
  exact ⟨p3, n3, c3, rfl, hn, hO, hB⟩
theorem pstep_nil (q : Option Addr) (w : World) : Calls Try.prog 22 #[.pointer none, .pointer q] w (Ans (.bool true) w) := by
  have HD := Lib.hid (fun w => pdone_nil w)
  go_enter Try.func22, Try.ntmps22
  go_wp2_with (go_at_call 18; (with_reducible refine (HD.out _).mono ?_); rintro e w3 ⟨rfl, rfl⟩)
  go_ret
  exact ⟨rfl, Below.refl _ _⟩
set_option maxHeartbeats 1000000 in
theorem pstep_any (h : PutIs S w b x) (hm : MemIs w mb mg m) (hd : ∀ k, S k → ¬ Own mb mg k) (hu : U64 m) (hk : m.k.ops + 1 ≤ 1000000000) : Calls Try.prog 22 #[pptr b, pptr mb] w (StepPP PutIs S b mb mg x m w) := by
  have HD := Lib.hid (pdone_any h)
  by_cases h0 : x.a = 0
  · rw [decide_eq_true h0] at HD
    have HF : Hid (StepPP PutIs S b mb mg x m w (.returned (.bool true)) w) := by
      refine ⟨S, ?_, ?_, ?_, fun k hk => .inl hk, Tch.refl _ _⟩
      · rw [step0 h0 m, decide_eq_true h0]
      · rw [step0 h0 m]; exact h
      · rw [step0 h0 m]; exact hm
    clear h hm hd hu hk h0
    go_enter Try.func22, Try.ntmps22
    go_wp2_with (go_at_call 18; (with_reducible refine HD.out.mono ?_); rintro e w3 ⟨rfl, rfl⟩)
    go_ret
    exact HF.out
  · rw [decide_eq_false h0] at HD
    have hM1 : x.a = 1 → Hid (∀ w1, Below w.heap.size w w1 → Calls Try.prog 65 #[pptr b, pptr mb] w1 (MidPost S b mb mg (stepP x m).1 (stepP x m).2 w1)) := fun ha w1 hb => mlook_any (h.on hb) (hm.on hb) hd hu hk ha
    have hM2 : x.a = 2 → Hid (∀ w1, Below w.heap.size w w1 → Calls Try.prog 66 #[pptr b, pptr mb] w1 (MidPost S b mb mg (stepP x m).1 (stepP x m).2 w1)) := fun ha w1 hb => mstore_any (h.on hb) (hm.on hb) hd hu hk ha
    have hM3 : x.a = 3 → Hid (∀ w1, Below w.heap.size w w1 → Calls Try.prog 67 #[pptr b, pptr mb] w1 (MidPost S b mb mg (stepP x m).1 (stepP x m).2 w1)) := fun ha w1 hb => mswing_any (h.on hb) (hm.on hb) hd hu hk ha
    have hM4 : x.a = 4 → Hid (∀ w1, Below w.heap.size w w1 → Calls Try.prog 68 #[pptr b, pptr mb] w1 (MidPost S b mb mg (stepP x m).1 (stepP x m).2 w1)) := fun ha w1 hb => mtake_any (h.on hb) (hm.on hb) hd hu hk ha
    have hM5 : x.a = 5 → Hid (∀ w1, Below w.heap.size w w1 → Calls Try.prog 69 #[pptr b, pptr mb] w1 (MidPost S b mb mg (stepP x m).1 (stepP x m).2 w1)) := fun ha w1 hb => mcut_any (h.on hb) (hm.on hb) hd hu hk ha
    have ha5 := h.ok.a
    obtain ⟨c, p, s, k, g, L, vo, hx⟩ := h.ex
    have c7 : w.cell? ⟨b, 7, none⟩ = some (.int .i64 (x.a : Int)) := hx.row.cell 7
    have hbw := hx.row.lt
    obtain ⟨⟨X, M⟩, hXM⟩ : ∃ P, stepP x m = P := ⟨_, rfl⟩
    have HF : Hid (∀ (w1 w2 : World) (S' : Nat → Prop), Below w.heap.size w w1 → PutIs S' w2 b X → MemIs w2 mb mg M → (∀ k, S' k → S k ∨ w1.heap.size ≤ k) → Tch (fun k => S k ∨ Own mb mg k) w1 w2 → StepPP PutIs S b mb mg x m w (.returned (.bool (decide (X.a = 0)))) w2) := fun w1 w2 S' hb i1 i2 i3 i4 => by
      refine ⟨S', ?_, ?_, ?_, fun k hk => (i3 k hk).imp id (fun e => Nat.le_trans hb.size e), (Tch.of _ hb).trans i4⟩
      · rw [hXM]
      · rw [hXM]; exact i1
      · rw [hXM]; exact i2
    rw [hXM] at hM1 hM2 hM3 hM4 hM5
    obtain ⟨a, ha⟩ : ∃ a, x.a = a := ⟨_, rfl⟩
    rw [ha] at hM1 hM2 hM3 hM4 hM5 ha5 c7 h0
    clear h hm hd hu hk hx hXM ha
    have hcases : a = 1 ∨ a = 2 ∨ a = 3 ∨ a = 4 ∨ a = 5 := by omega
    rcases hcases with rfl | rfl | rfl | rfl | rfl
    · have HM := hM1 rfl
      have c7' : w.cell? ⟨b, 7, none⟩ = some (.int .i64 1) := c7
      clear hM1 hM2 hM3 hM4 hM5 ha5 h0 c7
      go_enter Try.func22, Try.ntmps22
      go_wp2_with (first
        | (go_at_call 18; (with_reducible refine HD.out.mono ?_); rintro e w3 ⟨rfl, rfl⟩)
        | (go_at_call 18; (with_reducible refine HD2.out.mono ?_); rintro e w5 ⟨rfl, rfl⟩)
        | (go_at_call 65; (with_reducible refine (HM.out _ ((Below.refl _ _).alloc (Nat.le_refl _) _)).mono ?_); rintro e w4 ⟨S', rfl, i1, i2, i3, i4⟩; have HD2 := Lib.hid (pdone_any i1.out)))
      go_ret
      exact HF.out _ _ _ ((Below.refl _ _).alloc (Nat.le_refl _) _) i1.out i2.out i3.out i4.out
    · have HM := hM2 rfl
      have c7' : w.cell? ⟨b, 7, none⟩ = some (.int .i64 2) := c7
      clear hM1 hM2 hM3 hM4 hM5 ha5 h0 c7
      go_enter Try.func22, Try.ntmps22
      go_wp2_with (first
        | (go_at_call 18; (with_reducible refine HD.out.mono ?_); rintro e w3 ⟨rfl, rfl⟩)
        | (go_at_call 18; (with_reducible refine HD2.out.mono ?_); rintro e w5 ⟨rfl, rfl⟩)
        | (go_at_call 66; (with_reducible refine (HM.out _ ((Below.refl _ _).alloc (Nat.le_refl _) _)).mono ?_); rintro e w4 ⟨S', rfl, i1, i2, i3, i4⟩; have HD2 := Lib.hid (pdone_any i1.out)))
      go_ret
      exact HF.out _ _ _ ((Below.refl _ _).alloc (Nat.le_refl _) _) i1.out i2.out i3.out i4.out
    · have HM := hM3 rfl
      have c7' : w.cell? ⟨b, 7, none⟩ = some (.int .i64 3) := c7
      clear hM1 hM2 hM3 hM4 hM5 ha5 h0 c7
      go_enter Try.func22, Try.ntmps22
      go_wp2_with (first
        | (go_at_call 18; (with_reducible refine HD.out.mono ?_); rintro e w3 ⟨rfl, rfl⟩)
        | (go_at_call 18; (with_reducible refine HD2.out.mono ?_); rintro e w5 ⟨rfl, rfl⟩)
        | (go_at_call 67; (with_reducible refine (HM.out _ ((Below.refl _ _).alloc (Nat.le_refl _) _)).mono ?_); rintro e w4 ⟨S', rfl, i1, i2, i3, i4⟩; have HD2 := Lib.hid (pdone_any i1.out)))
      go_ret
      exact HF.out _ _ _ ((Below.refl _ _).alloc (Nat.le_refl _) _) i1.out i2.out i3.out i4.out
    · have HM := hM4 rfl
      have c7' : w.cell? ⟨b, 7, none⟩ = some (.int .i64 4) := c7
      clear hM1 hM2 hM3 hM4 hM5 ha5 h0 c7
      go_enter Try.func22, Try.ntmps22
      go_wp2_with (first
        | (go_at_call 18; (with_reducible refine HD.out.mono ?_); rintro e w3 ⟨rfl, rfl⟩)
        | (go_at_call 18; (with_reducible refine HD2.out.mono ?_); rintro e w5 ⟨rfl, rfl⟩)
        | (go_at_call 68; (with_reducible refine (HM.out _ ((Below.refl _ _).alloc (Nat.le_refl _) _)).mono ?_); rintro e w4 ⟨S', rfl, i1, i2, i3, i4⟩; have HD2 := Lib.hid (pdone_any i1.out)))
      go_ret
      exact HF.out _ _ _ ((Below.refl _ _).alloc (Nat.le_refl _) _) i1.out i2.out i3.out i4.out
    · have HM := hM5 rfl
      have c7' : w.cell? ⟨b, 7, none⟩ = some (.int .i64 5) := c7
      clear hM1 hM2 hM3 hM4 hM5 ha5 h0 c7
      go_enter Try.func22, Try.ntmps22
      go_wp2_with (first
        | (go_at_call 18; (with_reducible refine HD.out.mono ?_); rintro e w3 ⟨rfl, rfl⟩)
        | (go_at_call 18; (with_reducible refine HD2.out.mono ?_); rintro e w5 ⟨rfl, rfl⟩)
        | (go_at_call 69; (with_reducible refine (HM.out _ ((Below.refl _ _).alloc (Nat.le_refl _) _)).mono ?_); rintro e w4 ⟨S', rfl, i1, i2, i3, i4⟩; have HD2 := Lib.hid (pdone_any i1.out)))
      go_ret
      exact HF.out _ _ _ ((Below.refl _ _).alloc (Nat.le_refl _) _) i1.out i2.out i3.out i4.out
end
end Go.Proofs.Ytgfddkddacigfaa
