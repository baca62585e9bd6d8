/- The law's does (layer 8), whole; the law's is, walked. -/
import Derived.Test.YtjdbmedealhbjaaDu
import Derived.Test.YtjdbmedealhbjaaDr
import Derived.Test.YtjdbmedealhbjaaDp
import Derived.Lib.QuietBelow
import Derived.BigQuiet
set_option linter.unusedSimpArgs false
set_option linter.unusedVariables false
namespace Go.Proofs.Ytjdbmedealhbjaa
open Go.RowKit Go.Wd Go.Dk

theorem does_any (D : DqApi) {T S R : Nat → Prop} {w : World} {a b q p : Nat} {xs ys : List Int} {u v vl : Value} (d g : Int) (l : List Int) (h : DS D T S R w a b q p xs ys u v xs ys) (hT : ∀ k, T k → k < w.heap.size) (hvl : SlIs (fun k => T k ∨ S k ∨ R k) w vl l) (hll : l.length ≤ 80) (h64 : q ≤ 64 ∧ p ≤ 64) :
    Calls Try.prog 13 #[dptr a, dptr b, .agg #[.int .i64 q, u], .agg #[.int .i64 p, v], .agg #[.int .i64 d, .int .i64 g, vl]] w (DoesPost D T S R a b q p (stepX q xs ys d g l) (stepY p xs ys d) w) := by
  have hf : ∃ pl nl cl, vl = .slice pl nl cl := by obtain ⟨p', n', c', e, _⟩ := hvl.form; exact ⟨p', n', c', e⟩
  by_cases hd : 0 ≤ d ∧ d ≤ 6
  · have h7 : d = 0 ∨ d = 1 ∨ d = 2 ∨ d = 3 ∨ d = 4 ∨ d = 5 ∨ d = 6 := by omega
    rcases h7 with rfl | rfl | rfl | rfl | rfl | rfl | rfl
    · exact does_put0 D g h hT hf
    · exact does_put1 D g h hT hf
    · exact does_lay D g h hT l hvl hll
    · exact does_get D g h hT hf
    · exact does_steal D g h hT hf
    · exact does_move5 D g h hT hf h64
    · exact does_move6 D g h hT hf h64
  · have e1 : stepX q xs ys d g l = xs := by
      unfold stepX
      rw [if_neg (by omega), if_neg (by omega), if_neg (by omega), if_neg (by omega), if_neg (by omega), if_neg (by omega)]
    have e2 : stepY p xs ys d = ys := by
      unfold stepY
      rw [if_neg (by omega), if_neg (by omega)]
    rw [e1, e2]
    exact does_none D g h hT hf d hd
set_option maxRecDepth 20000 in
set_option maxHeartbeats 4000000 in
theorem is_any (D : DqApi) {S : Nat → Prop} {w : World} {a q : Nat} {xs : List Int} {u : Value} (g : Int) (h : D.Is S w a q xs) (hu : SlIs (fun _ => False) w u xs) :
    Calls Try.prog 14 #[dptr a, .agg #[.int .i64 q, u], .int .i64 g] w (Ans (.bool true) w) := by
  obtain ⟨p1, n1, c1, rfl, hn1, _⟩ := hu.form
  have HI := Lib.hid h
  have HU := Lib.hid hu
  have HN := Lib.hid hn1
  have HQ := Lib.hid (And.intro (room_le (D.room h)) (D.len h))
  clear h hu hn1
  unfold dptr
  go_enter Try.func14, Try.ntmps14
  go_wp2_with fail
  have HB0 : Hid (Below w.heap.size w (w.alloc (.cells #[.int .i64 q, .slice p1 n1 c1] 32))) := (Below.refl _ _).alloc (Nat.le_refl _) _
  have HR0 : Hid (Row w.heap.size 32 [.int .i64 q, .slice p1 n1 c1] (w.alloc (.cells #[.int .i64 q, .slice p1 n1 c1] 32))) := Row.new w _ _
  obtain ⟨W, hW⟩ : ∃ W, w.alloc (.cells #[.int .i64 q, .slice p1 n1 c1] 32) = W := ⟨_, rfl⟩
  obtain ⟨f, hf⟩ : ∃ f, w.heap.size = f := ⟨_, rfl⟩
  rw [hW] at HB0
  rw [hW, hf] at HR0
  rw [hW, hf]
  clear hW hf
  go_loopw [7] (fun vi wr => ∃ k : Nat, k ≤ 2 ∧ vi = .int .i64 k ∧ Hid (Below W.heap.size W wr)) (fun vi _ => 2 - (intOf vi).toNat)
  case atStart => exact ⟨0, by omega, rfl, Below.refl _ _⟩
  case round =>
    obtain ⟨k, hk, rfl, HB⟩ := hrel
    by_cases hlt : k < 2
    · have i2 : (k : Int) < 2 := by omega
      have HK := Lib.hid hlt
      have HIr := Lib.hid (D.on (D.on (D.on HI.out HB0.out) HB.out) ((Below.refl wr.heap.size wr).drew))
      have HAll := Lib.hid (D.all_any HIr.out)
      have HUr := Lib.hid ((HU.out.on HB0.out).on HB.out)
      have HBd : Hid (Below wr.heap.size wr wr.drew) := (Below.refl _ _).drew
      have HCr : Hid (∀ W', Below wr.heap.size wr W' → W'.cell? ⟨f, 1, none⟩ = some (.slice p1 n1 c1)) := fun W' hb => ((HR0.out.on' HB.out).on' hb).cell 1
      have HXl : Hid (xs.length ≤ 1000000) := by have := HQ.out; show _ ≤ _; omega
      clear hlt
      go_wp2_with fail
      go_region_held3 (fun w' => w'.cell? ⟨f, 1, none⟩ = some (.slice p1 n1 c1))
        (first | (with_reducible exact HCr.out _ HBd.out) | (with_reducible exact HCr.out _ HB1.out) | (with_reducible exact HCr.out _ HB2.out))
        (first
          | (go_at_call 22; (with_reducible refine HAll.out.mono ?_); rintro e w1 ⟨p3, n3, c3, rfl, hn3, hrow, hb1⟩; have HB1 := Lib.hid (HBd.out.trans (hb1.mono HBd.out.size)); have HRow := Lib.hid hrow; have HU1 := Lib.hid (HUr.out.on HB1.out); clear hn3 hrow hb1)
          | (go_at_call 27; (with_reducible refine (row_same xs _ _ _ HRow.out HXl.out HU1.out).mono ?_); rintro e w2 ⟨rfl, ht2⟩; have HB2 : Hid (Below wr.heap.size wr w2) := HB1.out.trans (ht2.below HB1.out.size (fun k e => (HRow.out.lt k e).1)); clear ht2))
      go_wp2_with fail
      go_roundw
      case rel => exact ⟨k + 1, HK.out, by go_num, Lib.hid (HB.out.trans (HB2.out.mono HB.out.size))⟩
      case measure =>
        show _ < _
        have := HK.out
        simp only [intOf]; omega
    · obtain rfl : k = 2 := by omega
      obtain ⟨z, hz⟩ : ∃ z, aheadL xs g = z := ⟨_, rfl⟩
      have HBe := Lib.hid (HB0.out.trans (HB.out.mono HB0.out.size))
      have HCr : Hid (∀ W', Below wr.heap.size wr W' → W'.cell? ⟨f, 0, none⟩ = some (.int .i64 q) ∧ W'.cell? ⟨f, 1, none⟩ = some (.slice p1 n1 c1)) := fun W' hb => ⟨((HR0.out.on' HB.out).on' hb).cell 0, ((HR0.out.on' HB.out).on' hb).cell 1⟩
      have HLen : Hid (∀ W', Below wr.heap.size wr W' → Calls Try.prog 26 #[.pointer (some ⟨a, 0, none⟩)] W' (Ans (.int .i64 n1) W')) := fun W' hb => by have := D.len_any (D.on (D.on HI.out HBe.out) hb); rw [← HN.out] at this; exact this
      have HRoom : Hid (∀ W', Below wr.heap.size wr W' → Calls Try.prog 25 #[.pointer (some ⟨a, 0, none⟩)] W' (Ans (.int .i64 q) W')) := fun W' hb => D.room_any (D.on (D.on HI.out HBe.out) hb)
      have HAh : Hid (∀ W', Below wr.heap.size wr W' → Calls Try.prog 24 #[.pointer (some ⟨a, 0, none⟩), .int .i64 g] W' (Ans (.int .i64 z) W')) := fun W' hb => by have := D.ahead_any g (D.on (D.on HI.out HBe.out) hb); rw [hz] at this; exact this
      have HRa : Hid (∀ W', Below wr.heap.size wr W' → Calls Try.prog 37 #[.agg #[.int .i64 q, .slice p1 n1 c1], .int .i64 g] W' (Ans (.int .i64 z) W')) := fun W' hb => by have := rahead_any q xs g _ _ ((HU.out.on HBe.out).on hb); rw [hz] at this; exact this
      have HBd : Hid (Below wr.heap.size wr wr.drew) := (Below.refl _ _).drew
      clear hz
      go_wp2_with fail
      go_region_held3 (fun w' => w'.cell? ⟨f, 0, none⟩ = some (.int .i64 q) ∧ w'.cell? ⟨f, 1, none⟩ = some (.slice p1 n1 c1))
        (first | (with_reducible exact HCr.out _ HBd.out) | (with_reducible exact HCr.out _ HB1.out) | (with_reducible exact HCr.out _ HB2.out) | (with_reducible exact HCr.out _ HB3.out) | (with_reducible exact HCr.out _ HB4.out))
        (first
          | (go_at_call 26; (with_reducible refine (HLen.out _ HBd.out).mono ?_); rintro e w1 ⟨rfl, hb1⟩; have HB1 := Lib.hid (HBd.out.trans (hb1.mono HBd.out.size)); clear hb1)
          | (go_at_call 25; (with_reducible refine (HRoom.out _ HB1.out).mono ?_); rintro e w2 ⟨rfl, hb1⟩; have HB2 := Lib.hid (HB1.out.trans (hb1.mono HB1.out.size)); clear hb1)
          | (go_at_call 24; (with_reducible refine (HAh.out _ HB2.out).mono ?_); rintro e w3 ⟨rfl, hb1⟩; have HB3 := Lib.hid (HB2.out.trans (hb1.mono HB2.out.size)); clear hb1)
          | (go_at_call 37; (with_reducible refine (HRa.out _ HB3.out).mono ?_); rintro e w4 ⟨rfl, hb1⟩; have HB4 := Lib.hid (HB3.out.trans (hb1.mono HB3.out.size)); clear hb1))
      go_wp2
      go_ret
      exact ⟨rfl, HBe.out.trans (HB4.out.mono HBe.out.size)⟩
end Go.Proofs.Ytjdbmedealhbjaa
