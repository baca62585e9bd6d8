/- The laws' example (layer 5), walked. -/
import Derived.Test.YtkchbnojcfkkhaaDoorQe
namespace Go.Proofs.YtkchbnojcfkkhaaDoor
open Go.RowKit Go.Tx Go.Cg

/-- the chapter's config -/
def ex : Cfg := ⟨2, 4, 8, 3, 5, 1⟩
theorem ex_right : Right ex := ⟨.inr (.inl rfl), ⟨by decide, by decide⟩, ⟨by decide, by decide⟩, ⟨by decide, by decide⟩, ⟨by decide, by decide⟩, ⟨by decide, by decide⟩⟩
theorem dc0 : dc 0 = [48] := dc_one (by decide)
theorem dc1 : dc 1 = [49] := dc_one (by decide)
theorem dc2 : dc 2 = [50] := dc_one (by decide)
theorem dc3 : dc 3 = [51] := dc_one (by decide)
theorem dc4 : dc 4 = [52] := dc_one (by decide)
theorem dc5 : dc 5 = [53] := dc_one (by decide)
theorem dc8 : dc 8 = [56] := dc_one (by decide)
theorem ex_len : (nmsC ex).length = 24 := nmsC_len ex_right
theorem ex_word : plV ex 1 0 = 14 := plV_yes ⟨ex_right, by decide, by decide⟩
theorem ex_stat : plV ex 2 2 = -1 := plV_no fun h => absurd h.2.2 (by decide)
theorem ex_slot : slV ex 0 6 = 12 := by rw [slV_slot, if_pos ⟨ex_right, by decide, by decide⟩]; decide
theorem ex_n3 : nmV ex 3 = [115, 105, 122, 101] := (nmV_in (a := 3) ex_right (by rw [ex_len]; decide)).trans (nameAt_four (by decide))
theorem ex_n12 : nmV ex 12 = [115, 108, 111, 116, 32, 48, 32, 50] := (nmV_in (a := 12) ex_right (by rw [ex_len]; decide)).trans ((nameAt_slot (Q := 4) (p := 0) (i := 2) (by decide)).trans (by unfold slotN WS; rw [dc0, dc2]; rfl))
theorem ex_n24 : nmV ex 24 = [] := nmV_out (by rw [ex_len]; decide)
theorem ex_find : fst1 (nmsC ex) [102, 108, 97, 103, 32, 49] = 19 := by
  have h := fst1_cell ex_right (r := 5) (p := 1) (by decide)
  have e : cellN 5 1 = [102, 108, 97, 103, 32, 49] := by unfold cellN; rw [dc1]; rfl
  rw [e] at h
  exact h.trans (by decide)
theorem ex_text : txtC ex = [110, 32, 50, 32, 113, 32, 52, 32, 103, 32, 56, 32, 109, 32, 51, 32, 116, 32, 53, 32, 115, 32, 49] := by
  rw [txtC_some ex_right]
  show txt6 2 4 8 3 5 1 = _
  unfold txt6
  rw [dc2, dc4, dc8, dc3, dc5, dc1]; rfl
theorem tells_is {l : List UInt8} {w : World} {e : Ending} {w' : World} (h : Tells (· = l) w e w') : Ans (.string ⟨l.toArray⟩) w e w' := by
  obtain ⟨x, rfl, he, hb⟩ := h
  exact ⟨he, hb⟩
theorem example_any (w : World) : Calls Tryd.prog 30 #[] w (Ans (.agg #[.int .i64 2, .int .i64 4, .int .i64 8, .int .i64 3, .int .i64 5, .int .i64 1]) w) := by
  go_enter Tryd.func30, Tryd.ntmps30
  go_wp2_with fail
  exact bodyPost_ret (v := .agg #[.int .i64 2, .int .i64 4, .int .i64 8, .int .i64 3, .int .i64 5, .int .i64 1]) (by simp [results, Tryd.results30, go_sem, *]) rfl ⟨rfl, (Below.refl _ _).alloc (Nat.le_refl _) _⟩
set_option maxRecDepth 10000 in
set_option maxHeartbeats 4000000 in
theorem works_any {B : Nat} (w : World) (hE : EnvC B w) : Calls Tryd.prog 22 #[] w (Ans (.bool true) w) := by
  have HE := Lib.hid hE
  clear hE
  have kfind (w : World) (hE : EnvC B w) : Calls Tryd.prog 23 #[cVal ex, .string ⟨#[102, 108, 97, 103, 32, 49]⟩] w (Ans (.tuple #[.int .i64 19, .int .i64 0]) w) := by
    have h := cfind_any ex [102, 108, 97, 103, 32, 49] w hE
    rw [ex_find] at h; exact h
  have kright (w : World) : Calls Tryd.prog 9 #[cVal ex] w (Ans (.bool true) w) := by
    have h := cright_any ex w
    rw [rt_yes ex_right] at h; exact h
  have kcells (w : World) : Calls Tryd.prog 11 #[cVal ex] w (Ans (.int .i64 24) w) := by
    have h := ccells_any ex w
    rw [ex_len] at h; exact h
  have kword (w : World) : Calls Tryd.prog 13 #[cVal ex, .int .i64 1] w (Ans (.int .i64 14) w) := by
    have h := word_any ex 1 w
    rw [ex_word] at h; exact h
  have kslot (w : World) : Calls Tryd.prog 20 #[cVal ex, .int .i64 0, .int .u32 6] w (Ans (.int .i64 12) w) := by
    have h := cslot_any ex 0 6 (by decide) w
    rw [ex_slot] at h; exact h
  have kstat (w : World) : Calls Tryd.prog 15 #[cVal ex, .int .i64 2] w (Ans (.int .i64 (-1)) w) := by
    have h := stat_any ex 2 w
    rw [ex_stat] at h; exact h
  have kn3 (w : World) (hE : EnvC B w) : Calls Tryd.prog 25 #[cVal ex, .int .i64 3] w (Ans (.string ⟨#[115, 105, 122, 101]⟩) w) := by
    have h := cname_any ex 3 w hE
    rw [ex_n3] at h; exact h.mono fun e w' h => tells_is h
  have kn12 (w : World) (hE : EnvC B w) : Calls Tryd.prog 25 #[cVal ex, .int .i64 12] w (Ans (.string ⟨#[115, 108, 111, 116, 32, 48, 32, 50]⟩) w) := by
    have h := cname_any ex 12 w hE
    rw [ex_n12] at h; exact h.mono fun e w' h => tells_is h
  have kn24 (w : World) (hE : EnvC B w) : Calls Tryd.prog 25 #[cVal ex, .int .i64 24] w (Ans (.string ⟨#[]⟩) w) := by
    have h := cname_any ex 24 w hE
    rw [ex_n24] at h; exact h.mono fun e w' h => tells_is h
  have ktext (w : World) (hE : EnvC B w) : Calls Tryd.prog 26 #[cVal ex] w (Ans (.string ⟨#[110, 32, 50, 32, 113, 32, 52, 32, 103, 32, 56, 32, 109, 32, 51, 32, 116, 32, 53, 32, 115, 32, 49]⟩) w) := by
    have h := ctext_any ex w hE
    rw [ex_text] at h; exact h.mono fun e w' h => tells_is h
  go_enter Tryd.func22, Tryd.ntmps22
  go_wp2_with fail
  refine (example_any _).mono ?_
  rintro e w0 ⟨rfl, hb0⟩
  go_wp2_with fail
  have HSa := Lib.hid (six_at 2 4 8 3 5 1 23 w0)
  have HS0 : Hid (((w0.alloc (.cells #[.int .i64 2, .int .i64 4, .int .i64 8, .int .i64 3, .int .i64 5, .int .i64 1] 23)).cell? ⟨w0.heap.size, 0, none⟩ = some (.int .i64 2) ∧ (w0.alloc (.cells #[.int .i64 2, .int .i64 4, .int .i64 8, .int .i64 3, .int .i64 5, .int .i64 1] 23)).cell? ⟨w0.heap.size, 1, none⟩ = some (.int .i64 4) ∧ (w0.alloc (.cells #[.int .i64 2, .int .i64 4, .int .i64 8, .int .i64 3, .int .i64 5, .int .i64 1] 23)).cell? ⟨w0.heap.size, 2, none⟩ = some (.int .i64 8) ∧ (w0.alloc (.cells #[.int .i64 2, .int .i64 4, .int .i64 8, .int .i64 3, .int .i64 5, .int .i64 1] 23)).cell? ⟨w0.heap.size, 3, none⟩ = some (.int .i64 3) ∧ (w0.alloc (.cells #[.int .i64 2, .int .i64 4, .int .i64 8, .int .i64 3, .int .i64 5, .int .i64 1] 23)).cell? ⟨w0.heap.size, 4, none⟩ = some (.int .i64 5) ∧ (w0.alloc (.cells #[.int .i64 2, .int .i64 4, .int .i64 8, .int .i64 3, .int .i64 5, .int .i64 1] 23)).cell? ⟨w0.heap.size, 5, none⟩ = some (.int .i64 1)) ∧ Below w.heap.size w (w0.alloc (.cells #[.int .i64 2, .int .i64 4, .int .i64 8, .int .i64 3, .int .i64 5, .int .i64 1] 23))) :=
    ⟨HSa.out.1, hb0.trans (HSa.out.2.mono hb0.size)⟩
  clear HSa hb0
  generalize w0.alloc (.cells #[.int .i64 2, .int .i64 4, .int .i64 8, .int .i64 3, .int .i64 5, .int .i64 1] 23) = W0 at HS0 ⊢
  generalize w0.heap.size = g0 at HS0 ⊢
  have H0 := HS0.out.1
  obtain ⟨c0, c1, c2, c3, c4, c5⟩ := H0
  go_wp2_with fail
  refine (kfind _ (HE.out.on' HS0.out.2)).mono ?_
  rintro e w1 ⟨rfl, hb⟩
  have HS1 := Lib.hid (six_keep HS0.out hb)
  clear hb c0 c1 c2 c3 c4 c5 kfind HS0
  have H0 := HS1.out.1
  obtain ⟨c0, c1, c2, c3, c4, c5⟩ := H0
  go_wp2_with fail
  refine (kright _).mono ?_
  rintro e w2 ⟨rfl, hb⟩
  have HS2 := Lib.hid (six_keep HS1.out hb)
  clear hb c0 c1 c2 c3 c4 c5 kright HS1
  have H0 := HS2.out.1
  obtain ⟨c0, c1, c2, c3, c4, c5⟩ := H0
  go_wp2_with fail
  refine (kcells _).mono ?_
  rintro e w3 ⟨rfl, hb⟩
  have HS3 := Lib.hid (six_keep HS2.out hb)
  clear hb c0 c1 c2 c3 c4 c5 kcells HS2
  have H0 := HS3.out.1
  obtain ⟨c0, c1, c2, c3, c4, c5⟩ := H0
  go_wp2_with fail
  refine (kword _).mono ?_
  rintro e w4 ⟨rfl, hb⟩
  have HS4 := Lib.hid (six_keep HS3.out hb)
  clear hb c0 c1 c2 c3 c4 c5 kword HS3
  have H0 := HS4.out.1
  obtain ⟨c0, c1, c2, c3, c4, c5⟩ := H0
  go_wp2_with fail
  refine (kslot _).mono ?_
  rintro e w5 ⟨rfl, hb⟩
  have HS5 := Lib.hid (six_keep HS4.out hb)
  clear hb c0 c1 c2 c3 c4 c5 kslot HS4
  have H0 := HS5.out.1
  obtain ⟨c0, c1, c2, c3, c4, c5⟩ := H0
  go_wp2_with fail
  refine (kstat _).mono ?_
  rintro e w6 ⟨rfl, hb⟩
  have HS6 := Lib.hid (six_keep HS5.out hb)
  clear hb c0 c1 c2 c3 c4 c5 kstat HS5
  have H0 := HS6.out.1
  obtain ⟨c0, c1, c2, c3, c4, c5⟩ := H0
  go_wp2_with fail
  refine (kn3 _ (HE.out.on' HS6.out.2)).mono ?_
  rintro e w7 ⟨rfl, hb⟩
  have HS7 := Lib.hid (six_keep HS6.out hb)
  clear hb c0 c1 c2 c3 c4 c5 kn3 HS6
  have H0 := HS7.out.1
  obtain ⟨c0, c1, c2, c3, c4, c5⟩ := H0
  go_wp2_with fail
  refine (kn12 _ (HE.out.on' HS7.out.2)).mono ?_
  rintro e w8 ⟨rfl, hb⟩
  have HS8 := Lib.hid (six_keep HS7.out hb)
  clear hb c0 c1 c2 c3 c4 c5 kn12 HS7
  have H0 := HS8.out.1
  obtain ⟨c0, c1, c2, c3, c4, c5⟩ := H0
  go_wp2_with fail
  refine (kn24 _ (HE.out.on' HS8.out.2)).mono ?_
  rintro e w9 ⟨rfl, hb⟩
  have HS9 := Lib.hid (six_keep HS8.out hb)
  clear hb c0 c1 c2 c3 c4 c5 kn24 HS8
  have H0 := HS9.out.1
  obtain ⟨c0, c1, c2, c3, c4, c5⟩ := H0
  go_wp2_with fail
  refine (ktext _ (HE.out.on' HS9.out.2)).mono ?_
  rintro e w10 ⟨rfl, hb⟩
  have HS10 := Lib.hid (six_keep HS9.out hb)
  clear hb c0 c1 c2 c3 c4 c5 ktext HS9
  have H0 := HS10.out.1
  obtain ⟨c0, c1, c2, c3, c4, c5⟩ := H0
  go_wp2_with fail
  go_ret
  exact ⟨rfl, HS10.out.2⟩
end Go.Proofs.YtkchbnojcfkkhaaDoor
