/- The law's acts, and its few (layer 8), walked. -/
import Derived.Test.YtjdbmedealhbjaaDq
import Derived.WalkSpells
import Derived.WalkLawsBesides
import Derived.Deep.RegionHeld3
import Derived.BigQuiet
import Derived.Deep.QuietTactic
import Derived.LoopTactic
namespace Go.Proofs.Ytjdbmedealhbjaa
open Go.RowKit Go.Wd Go.Dk

/-- an act: what, a number, a row of numbers -/
structure ActV where
  d : Int
  g : Int
  v : Value
  l : List Int
instance : Inhabited ActV := ⟨⟨0, 0, .slice none 0 0, []⟩⟩
/-- numbers in a slice, of whatever length; where there are few of them they are known -/
def InSl (w : World) (v : Value) (l : List Int) : Prop := ∃ p n c, v = .slice p n c ∧ n = l.length ∧ n ≤ 9223372036854775807 ∧ (n ≤ 1000 → SlIs (fun _ => False) w v l)
theorem InSl.on {w w' : World} {v : Value} {l : List Int} (h : InSl w v l) (hb : Below w.heap.size w w') : InSl w' v l := by
  obtain ⟨p, n, c, e, h1, h2, h3⟩ := h
  exact ⟨p, n, c, e, h1, h2, fun hn => (h3 hn).on hb⟩
theorem InSl.sl {w : World} {v : Value} {l : List Int} (h : InSl w v l) (hl : l.length ≤ 1000) : SlIs (fun _ => False) w v l := by
  obtain ⟨p, n, c, e, h1, h2, h3⟩ := h
  exact h3 (by omega)
theorem SlIs.ins {w : World} {v : Value} {l : List Int} (h : SlIs (fun _ => False) w v l) : InSl w v l := by
  have hl := h.len
  have h0 := h
  obtain ⟨p, c, e, h1, h2, _⟩ := h
  exact ⟨p, _, c, e, rfl, by omega, fun _ => h0⟩
/-- acts, ls they lie -/
structure ActsIs (w : World) (p : Option Addr) (ls : List ActV) : Prop where
  len : ls.length ≤ 9223372036854775807
  cells : ∀ i, i < ls.length → ∃ b o, p = some ⟨b, o, none⟩ ∧ b < w.heap.size ∧ w.cell? ⟨b, o + i * 3, none⟩ = some (.int .i64 (ls.getD i default).d) ∧ w.cell? ⟨b, o + i * 3 + 1, none⟩ = some (.int .i64 (ls.getD i default).g) ∧ w.cell? ⟨b, o + i * 3 + 2, none⟩ = some (ls.getD i default).v ∧ InSl w (ls.getD i default).v (ls.getD i default).l
theorem ActsIs.on {w w' : World} {p : Option Addr} {ls : List ActV} (h : ActsIs w p ls) (hb : Below w.heap.size w w') : ActsIs w' p ls := by
  refine ⟨h.len, fun i hi => ?_⟩
  obtain ⟨b, o, e, hl, c0, c1, c2, hs⟩ := h.cells i hi
  exact ⟨b, o, e, Nat.lt_of_lt_of_le hl hb.size, by rw [hb.cell hl]; exact c0, by rw [hb.cell hl]; exact c1, by rw [hb.cell hl]; exact c2, hs.on hb⟩
/-- at most so many, of at most 80 numbers each -/
def fewB (ls : List ActV) (m : Nat) : Bool := decide (ls.length ≤ m ∧ ∀ i, i < ls.length → (ls.getD i default).l.length ≤ 80)
theorem few_no {ls : List ActV} {m k : Nat} (hk : k < ls.length) (h : ¬ ((ls.getD k default).l.length ≤ 80)) : fewB ls m = false := decide_eq_false fun e => h (e.2 k hk)
theorem few_long {ls : List ActV} {m : Nat} (h : m < ls.length) : fewB ls m = false := decide_eq_false fun e => by omega
theorem few_yes {ls : List ActV} {m k : Nat} (h : ∀ i, i < k → (ls.getD i default).l.length ≤ 80) (hk : k = ls.length) (hm : ls.length ≤ m) : fewB ls m = true := decide_eq_true ⟨hm, fun i hi => h i (by omega)⟩
set_option maxHeartbeats 1000000 in
theorem few_any (ls : List ActV) (m : Nat) (p : Option Addr) (n c : Nat) (w : World) (h : ActsIs w p ls) (hn : n = ls.length) (hm : m ≤ 1000) :
    Calls Try.prog 7 #[.slice p n c, .int .i64 m] w (fun e w' => e = .returned (.bool (fewB ls m)) ∧ w = w') := by
  have HC := Lib.hid h
  have HN := Lib.hid hn
  have l1 : n ≤ 9223372036854775807 := by have := h.len; omega
  clear h hn
  go_enter Try.func7, Try.ntmps7
  go_wp2_with fail
  go_loop [5] (fun vi => ∃ k : Nat, k ≤ n ∧ k ≤ m + 1 ∧ vi = .int .i64 k ∧ Hid (∀ i, i < k → (ls.getD i default).l.length ≤ 80)) (fun vi => n - (intOf vi).toNat)
  case atStart => exact ⟨0, by omega, by omega, rfl, Lib.hid (fun i hi => by omega)⟩
  case round =>
    obtain ⟨k, hk, hkm, rfl, HL⟩ := hrel
    by_cases hlt : k < n
    · by_cases hlm : k ≤ m
      · obtain ⟨b, o, rfl, hbl, c0, c1, c2, hs⟩ := HC.out.cells k (by rw [← HN.out]; exact hlt)
        obtain ⟨x, hx⟩ : ∃ x, ls.getD k default = x := ⟨_, rfl⟩
        have HX := Lib.hid hx
        rw [hx] at c2 hs
        obtain ⟨p2, n2, c2', e2, hn2, _⟩ : ∃ p2 n2 c2', x.v = .slice p2 n2 c2' ∧ n2 = x.l.length ∧ n2 ≤ 9223372036854775807 := by
          obtain ⟨p2, n2, c2', e, h1, h2, _⟩ := hs
          exact ⟨p2, n2, c2', e, h1, h2⟩
        rw [e2] at c2
        have HN2 := Lib.hid hn2
        clear hx hs hn2 e2 c0 c1 hbl
        have i2 : (k : Int) ≤ (m : Int) := by omega
        by_cases h80 : n2 ≤ 80
        · have HL2 : Hid (∀ i, i < k + 1 → (ls.getD i default).l.length ≤ 80) := fun i hi => by
            rcases Nat.lt_or_ge i k with h | h
            · exact HL.out i h
            · obtain rfl : i = k := by omega
              rw [HX.out]; have := HN2.out; omega
          go_wp2
          go_round
          case rel => exact ⟨k + 1, by omega, by omega, by go_num, HL2⟩
          case measure => simp [intOf]; omega
        · have HF : Hid (fewB ls m = false) := few_no (k := k) (by rw [← HN.out]; exact hlt) (by rw [HX.out]; have := HN2.out; omega)
          have j80 : (80 : Int) < (n2 : Int) := by omega
          go_wp2
          go_ret
          exact ⟨by rw [HF.out]; rfl, rfl⟩
      · have HF : Hid (fewB ls m = false) := few_long (by have := HN.out; omega)
        have i2 : ¬ ((k : Int) ≤ (m : Int)) := by omega
        have i3 : ¬ ((n : Int) ≤ (m : Int)) := by omega
        have i4 : decide ((n : Int) ≤ (m : Int)) = false := decide_eq_false i3
        have i5 : decide (n ≤ m) = false := decide_eq_false (by omega)
        go_wp2
        go_ret
        exact ⟨by rw [HF.out]; rfl, rfl⟩
    · obtain rfl : k = n := by omega
      by_cases hm2 : k ≤ m
      · have HF : Hid (fewB ls m = true) := few_yes HL.out HN.out (by have := HN.out; omega)
        have i3 : (k : Int) ≤ (m : Int) := by omega
        have i4 : decide ((k : Int) ≤ (m : Int)) = true := decide_eq_true i3
        have i5 : decide (k ≤ m) = true := decide_eq_true (by omega)
        go_wp2
        go_ret
        exact ⟨by rw [HF.out]; rfl, rfl⟩
      · have HF : Hid (fewB ls m = false) := few_long (by have := HN.out; omega)
        have i3 : ¬ ((k : Int) ≤ (m : Int)) := by omega
        have i4 : decide ((k : Int) ≤ (m : Int)) = false := decide_eq_false i3
        have i5 : decide (k ≤ m) = false := decide_eq_false (by omega)
        go_wp2
        go_ret
        exact ⟨by rw [HF.out]; rfl, rfl⟩
end Go.Proofs.Ytjdbmedealhbjaa
