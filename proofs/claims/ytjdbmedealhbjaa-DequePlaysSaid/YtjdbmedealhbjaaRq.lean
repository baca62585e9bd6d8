/- The reference's deque (layer 8), walked: Get, Steal, Ahead, New. -/
import Derived.Test.YtjdbmedealhbjaaRp
namespace Go.Proofs.Ytjdbmedealhbjaa
open Go.RowKit Go.Wd Go.Dk

theorem SlIs.drew {S : Nat → Prop} {w : World} {v : Value} {xs : List Int} (h : SlIs S w v xs) : SlIs S w.drew v xs := h.on ((Below.refl _ _).drew)
/-- what Get answers -/
def RG (S : Nat → Prop) (q : Nat) (xs : List Int) (v : Int) (ok : Bool) (w : World) (e : Ending) (w' : World) : Prop :=
  ∃ p n c, e = .returned (.tuple #[.agg #[.int .i64 q, .slice p n c], .int .i64 v, .bool ok]) ∧ Hid (n = xs.length) ∧ SlIs S w' (.slice p n c) xs ∧ Below w.heap.size w w'
set_option maxHeartbeats 1000000 in
theorem rget_none {S : Nat → Prop} (q : Nat) (u : Value) (w : World) (h : SlIs S w u []) :
    Calls Try.prog 34 #[.agg #[.int .i64 q, u]] w (RG S q [] 0 false w) := by
  have HX : Hid (∀ W, Below w.heap.size w W → SlIs S W u []) := fun W hb => h.on hb
  obtain ⟨p, n, c, rfl, hn, hc1, hc2⟩ := h.form
  obtain rfl : n = 0 := hn
  clear h
  go_enter Try.func34, Try.ntmps34
  go_wp2
  have HH := Lib.hid (refh_new w q (.slice p 0 c))
  have HP := HH.out.put (.int .i64 q) (.slice p 0 c)
  exact bodyPost_ret (v := .tuple #[.agg #[.int .i64 q, .slice p 0 c], .int .i64 0, .bool false]) (by simp [results, Try.results34, go_sem]) rfl ⟨_, _, _, rfl, Lib.hid rfl, HX.out _ (((Below.refl _ _).alloc (Nat.le_refl _) _).alloc (by simp) _), ((Below.refl _ _).alloc (Nat.le_refl _) _).alloc (by simp) _⟩
set_option maxHeartbeats 1000000 in
theorem rget_some {S : Nat → Prop} (q : Nat) (x : Int) (xs : List Int) (u : Value) (w : World) (h : SlIs S w u (x :: xs)) :
    Calls Try.prog 34 #[.agg #[.int .i64 q, u]] w (RG S q xs x true w) := by
  have HX : Hid (∀ W, Below w.heap.size w W → SlIs S W u (x :: xs)) := fun W hb => h.on hb
  obtain ⟨p, n, c, rfl, hn, hc1, hc2⟩ := h.form
  rw [List.length_cons] at hn
  obtain ⟨b0, o0, rfl, hn2, _, _, hs, hcell⟩ := h.at (by omega)
  have z1 : ¬ ((n : Int) = 0) := by omega
  have z2 : (1 : Int) ≤ (n : Int) := by omega
  have z3 : (0 : Int) < (n : Int) := by omega
  have z4 : 0 < n := by omega
  have z5 : ¬ (n = 0) := by omega
  have HN := Lib.hid hn
  have hb0 : b0 < w.heap.size := block_lt_of_cell (hcell 0 z4)
  have HC := Lib.hid (show w.cell? ⟨b0, o0, none⟩ = some (.int .i64 x) from by have := hcell 0 z4; rw [Nat.add_zero] at this; exact this)
  have HB0 := Lib.hid hb0
  unfold maxLen at hc2
  have z6 : (1 : Int) ≤ (c : Int) := by omega
  clear h hn hn2 hs hcell hb0
  by_cases hc : c = 1
  · subst hc
    obtain rfl : n = 1 := by omega
    go_enter Try.func34, Try.ntmps34
    go_wp2_with fail
    have HH := Lib.hid (refh_new w q (.slice (some ⟨b0, o0, none⟩) 1 1))
    obtain ⟨W, hW⟩ : ∃ W, (w.alloc (.cells #[.int .i64 q, .slice (some ⟨b0, o0, none⟩) 1 1] 32)).alloc (.cells #[.int .i64 0, .slice none 0 0] 32) = W := ⟨_, rfl⟩
    obtain ⟨b, hb⟩ : ∃ b, w.heap.size = b := ⟨_, rfl⟩
    obtain ⟨r, hr⟩ : ∃ r, b + 1 = r := ⟨_, rfl⟩
    rw [hW, hb, hr] at HH
    rw [hW, hb, hr]
    have HBs := Lib.hid hb
    clear hW hb hr
    have HKd : Hid (W.drew.cell? ⟨b, 0, none⟩ = some (.int .i64 q) ∧ W.drew.cell? ⟨b, 1, none⟩ = some (.slice (some ⟨b0, o0, none⟩) 1 1) ∧ W.drew.cell? ⟨b0, o0, none⟩ = some (.int .i64 x)) := ⟨HH.out.cells.1, HH.out.cells.2, by rw [World.cell?_drew, HH.out.below.cell HB0.out]; exact HC.out⟩
    have HKs : Hid (∀ y z, ((W.setCell ⟨r, 0, none⟩ y).setCell ⟨r, 1, none⟩ z).drew.cell? ⟨b, 0, none⟩ = some (.int .i64 q) ∧ ((W.setCell ⟨r, 0, none⟩ y).setCell ⟨r, 1, none⟩ z).drew.cell? ⟨b, 1, none⟩ = some (.slice (some ⟨b0, o0, none⟩) 1 1) ∧ ((W.setCell ⟨r, 0, none⟩ y).setCell ⟨r, 1, none⟩ z).drew.cell? ⟨b0, o0, none⟩ = some (.int .i64 x)) := fun y z => ⟨(HH.out.kept (Below.refl _ _) y z).1, (HH.out.kept (Below.refl _ _) y z).2, by rw [World.cell?_drew, (HH.out.put y z).1.cell HB0.out]; exact HC.out⟩
    have rc := HH.out.resc
    obtain ⟨rc0, rc1, rf0, rf1⟩ := rc
    go_region_held3 (fun w' => w'.cell? ⟨b, 0, none⟩ = some (.int .i64 q) ∧ w'.cell? ⟨b, 1, none⟩ = some (.slice (some ⟨b0, o0, none⟩) 1 1) ∧ w'.cell? ⟨b0, o0, none⟩ = some (.int .i64 x))
      (first | (with_reducible exact HKd.out) | (with_reducible exact HKs.out _ _)) (fail)
    have HP := HH.out.put (.int .i64 q) (.slice (some ⟨b0, o0, none⟩) 0 0)
    have hp0 := HP.2.1.cell 0
    have hp1 := HP.2.1.cell 1
    simp only [List.getElem?_cons_zero, List.getElem?_cons_succ] at hp0 hp1
    have HB2 := Lib.hid HP.1
    have h1 := (HX.out _ HB2.out).cut (k := 1) (Nat.le_refl 1)
    have h2 : (x :: xs).drop 1 = xs := rfl
    rw [h2] at h1
    have HS2 := Lib.hid (h1.2.2 rfl).drew
    clear h1 h2
    clear HP rc0 rc1 rf0 rf1
    go_wp2
    exact bodyPost_ret (v := .tuple #[.agg #[.int .i64 q, .slice (some ⟨b0, o0, none⟩) 0 0], .int .i64 x, .bool true]) (by simp [results, Try.results34, go_sem, hp0, hp1]) rfl ⟨_, _, _, rfl, Lib.hid (by have := HN.out; omega), HS2.out, HB2.out.drew⟩
  · go_enter Try.func34, Try.ntmps34
    go_wp2_with fail
    have HH := Lib.hid (refh_new w q (.slice (some ⟨b0, o0, none⟩) n c))
    obtain ⟨W, hW⟩ : ∃ W, (w.alloc (.cells #[.int .i64 q, .slice (some ⟨b0, o0, none⟩) n c] 32)).alloc (.cells #[.int .i64 0, .slice none 0 0] 32) = W := ⟨_, rfl⟩
    obtain ⟨b, hb⟩ : ∃ b, w.heap.size = b := ⟨_, rfl⟩
    obtain ⟨r, hr⟩ : ∃ r, b + 1 = r := ⟨_, rfl⟩
    rw [hW, hb, hr] at HH
    rw [hW, hb, hr]
    have HBs := Lib.hid hb
    clear hW hb hr
    have HKd : Hid (W.drew.cell? ⟨b, 0, none⟩ = some (.int .i64 q) ∧ W.drew.cell? ⟨b, 1, none⟩ = some (.slice (some ⟨b0, o0, none⟩) n c) ∧ W.drew.cell? ⟨b0, o0, none⟩ = some (.int .i64 x)) := ⟨HH.out.cells.1, HH.out.cells.2, by rw [World.cell?_drew, HH.out.below.cell HB0.out]; exact HC.out⟩
    have HKs : Hid (∀ y z, ((W.setCell ⟨r, 0, none⟩ y).setCell ⟨r, 1, none⟩ z).drew.cell? ⟨b, 0, none⟩ = some (.int .i64 q) ∧ ((W.setCell ⟨r, 0, none⟩ y).setCell ⟨r, 1, none⟩ z).drew.cell? ⟨b, 1, none⟩ = some (.slice (some ⟨b0, o0, none⟩) n c) ∧ ((W.setCell ⟨r, 0, none⟩ y).setCell ⟨r, 1, none⟩ z).drew.cell? ⟨b0, o0, none⟩ = some (.int .i64 x)) := fun y z => ⟨(HH.out.kept (Below.refl _ _) y z).1, (HH.out.kept (Below.refl _ _) y z).2, by rw [World.cell?_drew, (HH.out.put y z).1.cell HB0.out]; exact HC.out⟩
    have rc := HH.out.resc
    obtain ⟨rc0, rc1, rf0, rf1⟩ := rc
    go_region_held3 (fun w' => w'.cell? ⟨b, 0, none⟩ = some (.int .i64 q) ∧ w'.cell? ⟨b, 1, none⟩ = some (.slice (some ⟨b0, o0, none⟩) n c) ∧ w'.cell? ⟨b0, o0, none⟩ = some (.int .i64 x))
      (first | (with_reducible exact HKd.out) | (with_reducible exact HKs.out _ _)) (fail)
    have HP := HH.out.put (.int .i64 q) (.slice (some ⟨b0, o0 + 1, none⟩) (n - 1) (c - 1))
    have hp0 := HP.2.1.cell 0
    have hp1 := HP.2.1.cell 1
    simp only [List.getElem?_cons_zero, List.getElem?_cons_succ] at hp0 hp1
    have HB2 := Lib.hid HP.1
    have h1 := (HX.out _ HB2.out).cut (k := 1) z4
    have h2 : (x :: xs).drop 1 = xs := rfl
    rw [h2] at h1
    have HS2 := Lib.hid (h1.2.1).drew
    clear h1 h2
    clear HP rc0 rc1 rf0 rf1
    go_wp2
    exact bodyPost_ret (v := .tuple #[.agg #[.int .i64 q, .slice (some ⟨b0, o0 + 1, none⟩) (n - 1) (c - 1)], .int .i64 x, .bool true]) (by simp [results, Try.results34, go_sem, hp0, hp1]) rfl ⟨_, _, _, rfl, Lib.hid (by have := HN.out; omega), HS2.out, HB2.out.drew⟩
theorem rsteal_none {S : Nat → Prop} (q : Nat) (u : Value) (w : World) (h : SlIs S w u []) :
    Calls Try.prog 35 #[.agg #[.int .i64 q, u]] w (RP S q [] [] w) := by
  have HX : Hid (∀ W, Below w.heap.size w W → SlIs S W u []) := fun W hb => h.on hb
  obtain ⟨p, n, c, rfl, hn, hc1, hc2⟩ := h.form
  obtain rfl : n = 0 := hn
  clear h
  have z6 : (0 : Int) ≤ (c : Int) := by omega
  unfold maxLen at hc2
  go_enter Try.func35, Try.ntmps35
  go_wp2_with fail
  have HH := Lib.hid (refh_new w q (.slice p 0 c))
  obtain ⟨W, hW⟩ : ∃ W, (w.alloc (.cells #[.int .i64 q, .slice p 0 c] 32)).alloc (.cells #[.int .i64 0, .slice none 0 0] 32) = W := ⟨_, rfl⟩
  obtain ⟨b, hb⟩ : ∃ b, w.heap.size = b := ⟨_, rfl⟩
  obtain ⟨r, hr⟩ : ∃ r, b + 1 = r := ⟨_, rfl⟩
  rw [hW, hb, hr] at HH
  rw [hW, hb, hr]
  have HBs := Lib.hid hb
  clear hW hb hr
  have HKd : Hid (W.drew.cell? ⟨b, 0, none⟩ = some (.int .i64 q) ∧ W.drew.cell? ⟨b, 1, none⟩ = some (.slice p 0 c)) := ⟨HH.out.cells.1, HH.out.cells.2⟩
  have HKs : Hid (∀ y z, ((W.setCell ⟨r, 0, none⟩ y).setCell ⟨r, 1, none⟩ z).drew.cell? ⟨b, 0, none⟩ = some (.int .i64 q) ∧ ((W.setCell ⟨r, 0, none⟩ y).setCell ⟨r, 1, none⟩ z).drew.cell? ⟨b, 1, none⟩ = some (.slice p 0 c)) := fun y z => HH.out.kept (Below.refl _ _) y z
  have rc := HH.out.resc
  obtain ⟨rc0, rc1, rf0, rf1⟩ := rc
  go_region_held3 (fun w' => w'.cell? ⟨b, 0, none⟩ = some (.int .i64 q) ∧ w'.cell? ⟨b, 1, none⟩ = some (.slice p 0 c))
    (first | (with_reducible exact HKd.out) | (with_reducible exact HKs.out _ _)) (fail)
  have HP := HH.out.put (.int .i64 q) (.slice p 0 c)
  have hp0 := HP.2.1.cell 0
  have hp1 := HP.2.1.cell 1
  simp only [List.getElem?_cons_zero, List.getElem?_cons_succ] at hp0 hp1
  have HB2 := Lib.hid HP.1
  have HS2 := Lib.hid (HX.out _ HB2.out).drew
  clear HP rc0 rc1 rf0 rf1
  go_wp2
  exact bodyPost_ret (v := .tuple #[.agg #[.int .i64 q, .slice p 0 c], .slice p 0 c]) (by simp [results, Try.results35, go_sem, hp0, hp1]) rfl ⟨_, _, _, _, _, _, rfl, Lib.hid rfl, Lib.hid rfl, HS2.out, HS2.out, HB2.out.drew⟩
set_option maxHeartbeats 1000000 in
theorem rsteal_some {S : Nat → Prop} (q : Nat) (xs : List Int) (u : Value) (w : World) (h : SlIs S w u xs) (hpos : 0 < xs.length) :
    Calls Try.prog 35 #[.agg #[.int .i64 q, u]] w (RP S q (stL xs) (stO xs) w) := by
  have HX : Hid (∀ W, Below w.heap.size w W → SlIs S W u xs) := fun W hb => h.on hb
  obtain ⟨p, n, c, rfl, hn, hc1, hc2⟩ := h.form
  obtain ⟨b0, o0, rfl, hn2, _, _, hs, hcell⟩ := h.at (by omega)
  unfold stL stO stN
  obtain ⟨k, hk⟩ : ∃ k, xs.length - xs.length / 2 = k := ⟨_, rfl⟩
  rw [hk]
  have hk1 : 0 < k ∧ k ≤ n := by omega
  have HK := Lib.hid hk1
  have HN := Lib.hid hn
  have k1 : (n : Int) - (n : Int) / 2 = (k : Int) := by omega
  have kk0 : (0 : Int) ≤ (k : Int) := by omega
  have kk1 : (k : Int) ≤ (n : Int) := by omega
  have kk2 : (k : Int) ≤ (c : Int) := by omega
  have kk3 : (n : Int) ≤ (c : Int) := by omega
  unfold maxLen at hc2
  clear h hn hn2 hs hcell hk hpos hk1
  by_cases hc : c = k
  · obtain rfl : n = k := by have := HK.out; omega
    subst hc
    go_enter Try.func35, Try.ntmps35
    go_wp2_with fail
    have HH := Lib.hid (refh_new w q (.slice (some ⟨b0, o0, none⟩) c c))
    obtain ⟨W, hW⟩ : ∃ W, (w.alloc (.cells #[.int .i64 q, .slice (some ⟨b0, o0, none⟩) c c] 32)).alloc (.cells #[.int .i64 0, .slice none 0 0] 32) = W := ⟨_, rfl⟩
    obtain ⟨b, hb⟩ : ∃ b, w.heap.size = b := ⟨_, rfl⟩
    obtain ⟨r, hr⟩ : ∃ r, b + 1 = r := ⟨_, rfl⟩
    rw [hW, hb, hr] at HH
    rw [hW, hb, hr]
    have HBs := Lib.hid hb
    clear hW hb hr
    have HKd : Hid (W.drew.cell? ⟨b, 0, none⟩ = some (.int .i64 q) ∧ W.drew.cell? ⟨b, 1, none⟩ = some (.slice (some ⟨b0, o0, none⟩) c c)) := ⟨HH.out.cells.1, HH.out.cells.2⟩
    have HKs : Hid (∀ y z, ((W.setCell ⟨r, 0, none⟩ y).setCell ⟨r, 1, none⟩ z).drew.cell? ⟨b, 0, none⟩ = some (.int .i64 q) ∧ ((W.setCell ⟨r, 0, none⟩ y).setCell ⟨r, 1, none⟩ z).drew.cell? ⟨b, 1, none⟩ = some (.slice (some ⟨b0, o0, none⟩) c c)) := fun y z => HH.out.kept (Below.refl _ _) y z
    have rc := HH.out.resc
    obtain ⟨rc0, rc1, rf0, rf1⟩ := rc
    go_region_held3 (fun w' => w'.cell? ⟨b, 0, none⟩ = some (.int .i64 q) ∧ w'.cell? ⟨b, 1, none⟩ = some (.slice (some ⟨b0, o0, none⟩) c c))
      (first | (with_reducible exact HKd.out) | (with_reducible exact HKs.out _ _)) (fail)
    have HP := HH.out.put (.int .i64 q) (.slice (some ⟨b0, o0, none⟩) 0 0)
    have hp0 := HP.2.1.cell 0
    have hp1 := HP.2.1.cell 1
    simp only [List.getElem?_cons_zero, List.getElem?_cons_succ] at hp0 hp1
    have HB2 := Lib.hid HP.1
    have h1 := (HX.out _ HB2.out).cut (k := c) HK.out.2
    have HS2 := Lib.hid (show SlIs S _ (.slice (some ⟨b0, o0, none⟩) 0 0) (xs.drop c) from by have h3 := h1.2.2 (Nat.sub_self c); rw [Nat.sub_self] at h3; exact h3).drew
    have HS3 := Lib.hid (h1.1).drew
    clear h1
    clear HP rc0 rc1 rf0 rf1
    go_wp2
    exact bodyPost_ret (v := .tuple #[.agg #[.int .i64 q, .slice (some ⟨b0, o0, none⟩) 0 0], .slice (some ⟨b0, o0, none⟩) c c]) (by simp [results, Try.results35, go_sem, hp0, hp1]) rfl ⟨_, _, _, _, _, _, rfl, Lib.hid (by rw [List.length_drop]; have := HN.out; have := HK.out; omega), Lib.hid (by rw [List.length_take]; have := HN.out; have := HK.out; omega), HS2.out, HS3.out, HB2.out.drew⟩
  · go_enter Try.func35, Try.ntmps35
    go_wp2_with fail
    have HH := Lib.hid (refh_new w q (.slice (some ⟨b0, o0, none⟩) n c))
    obtain ⟨W, hW⟩ : ∃ W, (w.alloc (.cells #[.int .i64 q, .slice (some ⟨b0, o0, none⟩) n c] 32)).alloc (.cells #[.int .i64 0, .slice none 0 0] 32) = W := ⟨_, rfl⟩
    obtain ⟨b, hb⟩ : ∃ b, w.heap.size = b := ⟨_, rfl⟩
    obtain ⟨r, hr⟩ : ∃ r, b + 1 = r := ⟨_, rfl⟩
    rw [hW, hb, hr] at HH
    rw [hW, hb, hr]
    have HBs := Lib.hid hb
    clear hW hb hr
    have HKd : Hid (W.drew.cell? ⟨b, 0, none⟩ = some (.int .i64 q) ∧ W.drew.cell? ⟨b, 1, none⟩ = some (.slice (some ⟨b0, o0, none⟩) n c)) := ⟨HH.out.cells.1, HH.out.cells.2⟩
    have HKs : Hid (∀ y z, ((W.setCell ⟨r, 0, none⟩ y).setCell ⟨r, 1, none⟩ z).drew.cell? ⟨b, 0, none⟩ = some (.int .i64 q) ∧ ((W.setCell ⟨r, 0, none⟩ y).setCell ⟨r, 1, none⟩ z).drew.cell? ⟨b, 1, none⟩ = some (.slice (some ⟨b0, o0, none⟩) n c)) := fun y z => HH.out.kept (Below.refl _ _) y z
    have rc := HH.out.resc
    obtain ⟨rc0, rc1, rf0, rf1⟩ := rc
    go_region_held3 (fun w' => w'.cell? ⟨b, 0, none⟩ = some (.int .i64 q) ∧ w'.cell? ⟨b, 1, none⟩ = some (.slice (some ⟨b0, o0, none⟩) n c))
      (first | (with_reducible exact HKd.out) | (with_reducible exact HKs.out _ _)) (fail)
    have HP := HH.out.put (.int .i64 q) (.slice (some ⟨b0, o0 + k, none⟩) (n - k) (c - k))
    have hp0 := HP.2.1.cell 0
    have hp1 := HP.2.1.cell 1
    simp only [List.getElem?_cons_zero, List.getElem?_cons_succ] at hp0 hp1
    have HB2 := Lib.hid HP.1
    have h1 := (HX.out _ HB2.out).cut (k := k) HK.out.2
    have HS2 := Lib.hid (h1.2.1).drew
    have HS3 := Lib.hid (h1.1).drew
    clear h1
    clear HP rc0 rc1 rf0 rf1
    go_wp2
    exact bodyPost_ret (v := .tuple #[.agg #[.int .i64 q, .slice (some ⟨b0, o0 + k, none⟩) (n - k) (c - k)], .slice (some ⟨b0, o0, none⟩) k c]) (by simp [results, Try.results35, go_sem, hp0, hp1]) rfl ⟨_, _, _, _, _, _, rfl, Lib.hid (by rw [List.length_drop]; have := HN.out; have := HK.out; omega), Lib.hid (by rw [List.length_take]; have := HN.out; have := HK.out; omega), HS2.out, HS3.out, HB2.out.drew⟩
theorem rsteal_any {S : Nat → Prop} (q : Nat) (xs : List Int) (u : Value) (w : World) (h : SlIs S w u xs) :
    Calls Try.prog 35 #[.agg #[.int .i64 q, u]] w (RP S q (stL xs) (stO xs) w) := by
  rcases Nat.eq_zero_or_pos xs.length with h0 | h0
  · have : xs = [] := List.eq_nil_of_length_eq_zero h0
    subst this
    exact rsteal_none q u w h
  · exact rsteal_some q xs u w h h0
theorem rget_any {S : Nat → Prop} (q : Nat) (xs : List Int) (u : Value) (w : World) (h : SlIs S w u xs) :
    Calls Try.prog 34 #[.agg #[.int .i64 q, u]] w (RG S q xs.tail (xs.headD 0) (decide (0 < xs.length)) w) := by
  cases xs with
  | nil => exact rget_none q u w h
  | cons x r => exact rget_some q x r u w h
end Go.Proofs.Ytjdbmedealhbjaa
