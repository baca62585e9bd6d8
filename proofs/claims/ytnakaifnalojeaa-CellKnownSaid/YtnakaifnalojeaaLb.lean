/- The law CellTwice, walked. -/
import Derived.Test.YtnakaifnalojeaaLa
namespace Go.Proofs.Ytnakaifnalojeaa
open Go.RowKit Go.Ce

theorem one_has {m : PM} {x : Int} (h : m.cs = [x]) : m.Has 0 ∧ m.at 0 = x ∧ m.ans 0 = x := by
  have h1 : m.Has 0 := by unfold PM.Has; rw [h]; exact ⟨by decide, by simp⟩
  have h2 : m.at 0 = x := by unfold PM.at; rw [h]; rfl
  exact ⟨h1, h2, by unfold PM.ans; rw [if_pos h1, h2]⟩
theorem one_store {m : PM} {x : Int} (h : m.cs = [x]) (v : Int) : (m.store 0 v).cs = [v] := by
  rw [store_yes (one_has h).1]; show m.cs.set 0 v = _; rw [h]; rfl
theorem one_hit {m : PM} {x : Int} (h : m.cs = [x]) (v : Int) : (m.cas 0 x v).cs = [v] := by
  rw [cas_hit (one_has h).1 (one_has h).2.1]; show m.cs.set 0 v = _; rw [h]; rfl
theorem one_miss {m : PM} {x old : Int} (h : m.cs = [x]) (hne : x ≠ old) (v : Int) : (m.cas 0 old v).cs = [x] := by
  rw [cas_miss (one_has h).1 (by rw [(one_has h).2.1]; exact hne)]; show m.cs.set 0 (m.at 0) = _; rw [(one_has h).2.1, h]; rfl
theorem one_dec {m : PM} {x : Int} (h : m.cs = [x]) (old : Int) : decide (m.hit 0 old) = decide (x = old) := by
  refine decide_eq_decide.2 ⟨fun hh => ?_, fun hh => ⟨(one_has h).1, ?_⟩⟩
  · rw [← (one_has h).2.1]; exact hh.2
  · rw [(one_has h).2.1]; exact hh
theorem cas_ops (m : PM) (a o v : Int) : (m.cas a o v).k.ops ≤ m.k.ops + 1 := by
  have := (go_ops m 3 a o v).1
  rwa [show m.go 3 a o v = m.cas a o v by unfold PM.go; rw [if_neg (by decide), if_neg (by decide), if_pos rfl]] at this
theorem store_ops (m : PM) (a v : Int) : (m.store a v).k.ops ≤ m.k.ops + 1 := by
  have := (go_ops m 2 a 0 v).1
  rwa [show m.go 2 a 0 v = m.store a v by unfold PM.go; rw [if_neg (by decide), if_pos rfl]] at this
theorem add_ops (m : PM) (a v : Int) : (m.add a v).k.ops ≤ m.k.ops + 1 := by
  have := (go_ops m 4 a 0 v).1
  rwa [show m.go 4 a 0 v = m.add a v by unfold PM.go; rw [if_neg (by decide), if_neg (by decide), if_neg (by decide), if_pos rfl]] at this

/-- the three ways through it -/
theorem twice_walk (was old a b : Int) (x y z : Int) (t1 t2 : Bool) (hx : ∀ m : PM, m.cs = [was] → (m.cas 0 old a).cs = [x] ∧ decide (m.hit 0 old) = t1) (hy : ∀ m : PM, m.cs = [x] → (m.cas 0 old b).cs = [y] ∧ decide (m.hit 0 old) = t2)
    (hway : (t1 = true ∧ t2 = true ∧ was = old ∧ a = old ∧ y = b) ∨ (t1 = true ∧ t2 = false ∧ was = old ∧ a ≠ old ∧ y = a) ∨ (t1 = false ∧ t2 = false ∧ was ≠ old ∧ y = was)) (w : World) :
    Calls Try.prog 6 #[.int .u64 was, .int .u64 old, .int .u64 a, .int .u64 b] w (Ans (.bool true) w) := by
  have HX := Lib.hid hx
  have HY := Lib.hid hy
  have HWay := Lib.hid hway
  clear hx hy hway
  go_enter Try.func6, Try.ntmps6
  go_wp2_with fail
  refine (new_any 1 1 rfl _).mono ?_
  rintro e w1 ⟨b1, g1, rfl, hm1, hb1, hg1, hbe1⟩
  have HS1 := Lib.hid (show Sofar w w1 b1 g1 (PM.new 1) from ⟨hm1, hbe1, hb1, hg1⟩)
  have HC1 : Hid ((PM.new 1).cs = [0]) := rfl
  have HO1 : Hid ((PM.new 1).k.ops = 0) := rfl
  clear hm1 hb1 hg1 hbe1
  generalize PM.new 1 = m0 at HS1 HC1 HO1
  go_wp2_with fail
  refine (store_any 0 was w1 HS1.out.mem (by rw [HO1.out]; decide)).mono ?_
  rintro e w2 ⟨rfl, hm2, ht2⟩
  have HS2 := Lib.hid (HS1.out.step hm2 ht2)
  have HC2 := Lib.hid (one_store HC1.out was)
  have HO2 : Hid ((m0.store 0 was).k.ops ≤ 1) := by have := store_ops m0 0 was; rw [HO1.out] at this; exact this
  clear hm2 ht2
  generalize m0.store 0 was = m1 at HS2 HC2 HO2
  go_wp2_with fail
  refine (cas_any 0 old a w2 HS2.out.mem (by have := HO2.out; omega)).mono ?_
  rintro e w3 ⟨rfl, hm3, ht3⟩
  have HS3 := Lib.hid (HS2.out.step hm3 ht3)
  have HC3 := Lib.hid (HX.out m1 HC2.out).1
  have HO3 : Hid ((m1.cas 0 old a).k.ops ≤ 2) := by have := cas_ops m1 0 old a; have := HO2.out; show _ ≤ _; omega
  rw [(HX.out m1 HC2.out).2]
  clear hm3 ht3
  generalize m1.cas 0 old a = m2 at HS3 HC3 HO3
  go_wp2_with fail
  refine (cas_any 0 old b w3 HS3.out.mem (by have := HO3.out; omega)).mono ?_
  rintro e w4 ⟨rfl, hm4, ht4⟩
  have HS4 := Lib.hid (HS3.out.step hm4 ht4)
  have HC4 := Lib.hid (HY.out m2 HC3.out).1
  have HO4 : Hid ((m2.cas 0 old b).k.ops ≤ 3) := by have := cas_ops m2 0 old b; have := HO3.out; show _ ≤ _; omega
  rw [(HY.out m2 HC3.out).2]
  clear hm4 ht4
  generalize m2.cas 0 old b = m3 at HS4 HC4 HO4
  have hload := load_any 0 w4 HS4.out.mem (by have := HO4.out; omega)
  rw [(one_has HC4.out).2.2] at hload
  rcases HWay.out with ⟨rfl, rfl, rfl, rfl, rfl⟩ | ⟨rfl, rfl, rfl, hne, rfl⟩ | ⟨rfl, rfl, hne, rfl⟩
  · clear HX HY HWay HC1 HC2 HC3 HS1 HS2 HS3 HO1 HO2 HO3
    go_wp2_with fail
    refine hload.mono ?_
    rintro e w5 ⟨rfl, hm5, ht5⟩
    have HB5 := Lib.hid (HS4.out.step hm5 ht5).bel
    clear hm5 ht5 hload
    go_wp2_with fail
    refine (works_any w5).mono ?_
    rintro e w6 ⟨rfl, hb6⟩
    have HB6 := Lib.hid (HB5.out.trans (hb6.mono HB5.out.size))
    clear hb6
    go_wp2
    go_ret
    exact ⟨rfl, HB6.out⟩
  · have z1 := beq_eq_false_iff_ne.2 hne
    have z2 := decide_eq_false hne
    clear HX HY HWay HC1 HC2 HC3 HS1 HS2 HS3 HO1 HO2 HO3
    go_wp2_with fail
    refine hload.mono ?_
    rintro e w5 ⟨rfl, hm5, ht5⟩
    have HB5 := Lib.hid (HS4.out.step hm5 ht5).bel
    clear hm5 ht5 hload
    go_wp2_with fail
    refine (works_any w5).mono ?_
    rintro e w6 ⟨rfl, hb6⟩
    have HB6 := Lib.hid (HB5.out.trans (hb6.mono HB5.out.size))
    clear hb6
    go_wp2
    go_ret
    exact ⟨rfl, HB6.out⟩
  · have z1 := beq_eq_false_iff_ne.2 hne
    have z2 := decide_eq_false hne
    clear HX HY HWay HC1 HC2 HC3 HS1 HS2 HS3 HO1 HO2 HO3
    go_wp2_with fail
    refine hload.mono ?_
    rintro e w5 ⟨rfl, hm5, ht5⟩
    have HB5 := Lib.hid (HS4.out.step hm5 ht5).bel
    clear hm5 ht5 hload
    go_wp2_with fail
    refine (works_any w5).mono ?_
    rintro e w6 ⟨rfl, hb6⟩
    have HB6 := Lib.hid (HB5.out.trans (hb6.mono HB5.out.size))
    clear hb6
    go_wp2
    go_ret
    exact ⟨rfl, HB6.out⟩
theorem twice_any (was old a b : Int) (w : World) : Calls Try.prog 6 #[.int .u64 was, .int .u64 old, .int .u64 a, .int .u64 b] w (Ans (.bool true) w) := by
  by_cases h1 : was = old
  · subst h1
    by_cases h2 : a = was
    · subst h2
      exact twice_walk a a a b a b 0 true true (fun m h => ⟨one_hit h a, by rw [one_dec h]; simp⟩) (fun m h => ⟨one_hit h b, by rw [one_dec h]; simp⟩) (.inl ⟨rfl, rfl, rfl, rfl, rfl⟩) w
    · exact twice_walk was was a b a a 0 true false (fun m h => ⟨one_hit h a, by rw [one_dec h]; simp⟩) (fun m h => ⟨one_miss h h2 b, by rw [one_dec h]; simp [h2]⟩) (.inr (.inl ⟨rfl, rfl, rfl, h2, rfl⟩)) w
  · exact twice_walk was old a b was was 0 false false (fun m h => ⟨one_miss h h1 a, by rw [one_dec h]; simp [h1]⟩) (fun m h => ⟨one_miss h h1 b, by rw [one_dec h]; simp [h1]⟩) (.inr (.inr ⟨rfl, rfl, h1, rfl⟩)) w
end Go.Proofs.Ytnakaifnalojeaa
