/- The documents' Ring where there is no such P; the law GetAll (layer 10), walked. -/
import Derived.Test.YtkhfanhboooilaaHg
import Derived.Test.YtkhfanhboooilaaGs
import Derived.Test.YtkhfanhboooilaaGn
import Derived.Test.YtkhfanhboooilaaBf
import Derived.Deep.Cut
set_option linter.unusedSimpArgs false
set_option linter.unusedVariables false
namespace Go.Proofs.Ytkhfanhboooilaa
open Go.RowKit Go.Cg Go.Pu Go.Wd Go.Ce

set_option maxRecDepth 100000 in
set_option maxHeartbeats 4000000 in
theorem ring_none {w : World} {b g : Nat} {m : PM} (c : Cfg) (p : Int) (hth : ¬ (Right c ∧ 0 ≤ p ∧ p < c.n)) (hl : m.cs.length = ccN c) (h : MemIs w b g m) :
    Calls Try.prog 46 #[cVal c, .pointer (some ⟨b, 0, none⟩), .int .i64 p] w (RowPost8 [] w) := by
  have HWd : Hid (∀ W, Calls Try.prog 33 #[cVal c, .int .i64 p] W (Ans (.int .i64 (-1)) W)) := fun W => by
    have := word_any c p W
    rw [plV_no hth] at this
    exact this
  have HCl : Hid (∀ W, Calls Try.prog 57 #[cVal c] W (Ans (.int .i64 (m.cs.length : Nat)) W)) := fun W => by rw [hl]; exact ccells_any c W
  obtain ⟨CN, hCN⟩ : ∃ CN, m.cs.length = CN := ⟨_, rfl⟩
  have hbx := (Below.refl w.heap.size w).alloc (Nat.le_refl _) (.cells (cCells c).toArray 23)
  have hrx := Row.new w 23 (cCells c)
  obtain ⟨W0, hW0⟩ : ∃ W, w.alloc (.cells (cCells c).toArray 23) = W := ⟨_, rfl⟩
  rw [hW0] at hbx hrx
  have HAl : Hid (Calls Try.prog 72 #[.pointer (some ⟨b, 0, none⟩)] W0 (fun e w1 => ∃ q ac, e = .returned (.slice q CN ac) ∧ Below W0.heap.size W0 w1)) := by
    refine (all_any (h.on hbx)).mono ?_
    rintro e w1 ⟨v, rfl, hO, ⟨ag, ac, rfl⟩, hb⟩
    exact ⟨_, _, by rw [hCN], hb⟩
  rw [hCN] at HCl
  obtain ⟨cb, hcb⟩ : ∃ z, w.heap.size = z := ⟨_, rfl⟩
  rw [hcb] at hrx
  have HR := Lib.hid hrx
  have HB := Lib.hid hbx
  have HW0 := Lib.hid (And.intro hW0 hcb)
  have hcc : ¬ ((CN : Int) < (CN : Int)) := by omega
  obtain ⟨N, Q, G, M, T, U⟩ := c
  change Hid (∀ W, Calls Try.prog 33 #[.agg #[.int .i64 N, .int .i64 Q, .int .i64 G, .int .i64 M, .int .i64 T, .int .i64 U], .int .i64 p] W _) at HWd
  change Hid (∀ W, Calls Try.prog 57 #[.agg #[.int .i64 N, .int .i64 Q, .int .i64 G, .int .i64 M, .int .i64 T, .int .i64 U]] W _) at HCl
  show Calls _ _ #[.agg #[.int .i64 N, .int .i64 Q, .int .i64 G, .int .i64 M, .int .i64 T, .int .i64 U], _, _] _ _
  clear hth hl h hCN hbx hrx hW0 hcb
  go_enter Try.func46, Try.ntmps46
  go_upto_region 1 with fail
  change Code.wp _ _ _ _ (w.alloc (.cells (cCells ⟨N, Q, G, M, T, U⟩).toArray 23))
  rw [HW0.out.1, HW0.out.2]
  go_wp2_with (first
    | (go_at_call 72; refine HAl.out.mono ?_; rintro e w1 ⟨q1, ac, rfl, hb⟩; have HR1 := Lib.hid (HR.out.on' hb); have HB1 := Lib.hid (HB.out.trans (hb.mono HB.out.size)); clear hb; obtain ⟨c0, c1, c2, c3, c4, c5⟩ := cf_cells HR1.out)
    | (go_at_call 57; (with_reducible refine (HCl.out _).mono ?_); rintro e w2 ⟨rfl, hb⟩; have HR1 := Lib.hid (HR1.out.on' hb); have HB1 := Lib.hid (HB1.out.trans (hb.mono HB1.out.size)); clear hb; obtain ⟨c0, c1, c2, c3, c4, c5⟩ := cf_cells HR1.out)
    | (go_at_call 33; (with_reducible refine (HWd.out _).mono ?_); rintro e w3 ⟨rfl, hb⟩; have HR1 := Lib.hid (HR1.out.on' hb); have HB1 := Lib.hid (HB1.out.trans (hb.mono HB1.out.size)); clear hb; obtain ⟨c0, c1, c2, c3, c4, c5⟩ := cf_cells HR1.out))
  go_ret
  exact ⟨none, 0, 0, rfl, rfl, NewRow.nil _ _, HB1.out⟩
/-- what Ring answers of a filled memory: what gets get -/
theorem ring_got {w : World} {b g : Nat} {m : PM} (c : Cfg) (p : Int) (hl : m.cs.length = ccN c) (hu : U64 m) (hs : Right c ∧ 0 ≤ p ∧ p < c.n → ln (wdN c p m) ≤ c.q.toNat) (h : MemIs w b g m) :
    Calls Try.prog 46 #[cVal c, .pointer (some ⟨b, 0, none⟩), .int .i64 p] w (RowPost8 (gotN c p 65536 m).1 w) := by
  by_cases hth : Right c ∧ 0 ≤ p ∧ p < c.n
  · have hk : Mk c p m := ⟨hth, hl, hu⟩
    have hq := q_le hth.1
    have hsz := hs hth
    rw [got_rng 65536 m hk hsz (by omega)]
    obtain ⟨a1, a2, a3, a4, a5, a6, rfl, -⟩ := hth.1.small
    obtain ⟨P, rfl⟩ : ∃ P : Nat, p = P := ⟨p.toNat, by omega⟩
    exact ring_any a1 a2 a3 a4 a5 a6 P hk h
  · rw [got_none c p (by cases h : thB c p with | false => rfl | true => exact absurd (thB_iff.1 h) hth)]
    exact ring_none c p hth hl h
theorem got_few {m : PM} (c : Cfg) (p : Int) (hl : m.cs.length = ccN c) (hu : U64 m) (hs : Right c ∧ 0 ≤ p ∧ p < c.n → ln (wdN c p m) ≤ c.q.toNat) : (gotN c p 65536 m).1.length ≤ 64 := by
  by_cases hth : Right c ∧ 0 ≤ p ∧ p < c.n
  · have hk : Mk c p m := ⟨hth, hl, hu⟩
    have hq := q_le hth.1
    have hsz := hs hth
    rw [got_rng 65536 m hk hsz (by omega), rng_length hsz]
    omega
  · rw [got_none c p (by cases h : thB c p with | false => rfl | true => exact absurd (thB_iff.1 h) hth)]
    exact Nat.zero_le _
end Go.Proofs.Ytkhfanhboooilaa
