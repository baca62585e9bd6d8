/- Plain: what Read's twelve words tell (layer 5). -/
import Derived.Test.YtkchbnojcfkkhaaDoorQp
namespace Go.Cg
open Go.Lib Go.Tx

/-- the words of a text, at most thirteen -/
def wordsOf (s : List UInt8) : List (List UInt8) := splitK [32] 0 (min 13 (s.length + 1) - 1) s
theorem wordsOf_some {s : List UInt8} {c : Cfg} (h : rdC s = some c) : wordsOf s = [[110], dc c.n.toNat, [113], dc c.q.toNat, [103], dc c.g.toNat, [109], dc c.m.toNat, [116], dc c.t.toNat, [115], dc c.s.toNat] := by
  obtain ⟨hR, ht⟩ := rdC_is h
  rw [txtC_some hR] at ht
  subst ht
  unfold wordsOf
  have hl : 12 ≤ (txt6 c.n.toNat c.q.toNat c.g.toNat c.m.toNat c.t.toNat c.s.toNat).length := by
    unfold txt6; simp only [List.length_append, List.length_cons]; omega
  rw [show min 13 ((txt6 c.n.toNat c.q.toNat c.g.toNat c.m.toNat c.t.toNat c.s.toNat).length + 1) - 1 = 0 + 12 by omega, split_txt6]
theorem wordsOf_none {s : List UInt8} (h : (wordsOf s).length ≠ 12) : rdC s = none := by
  cases hc : rdC s with
  | none => rfl
  | some c => rw [wordsOf_some hc] at h; exact absurd rfl h
/-- the numbers that were read, so far -/
def Vals (l : List (List UInt8)) (zs : List Int) (k : Nat) : Prop := ∀ j, j < k → ∀ n : Nat, n < 1000000 → l.getD (2 * j + 1) [] = dc n → zs.getD j 0 = n
theorem Vals.zero (l : List (List UInt8)) (zs : List Int) : Vals l zs 0 := fun j hj => absurd hj (Nat.not_lt_zero j)
theorem Vals.step {l : List (List UInt8)} {zs : List Int} {k : Nat} {v : Int} (h : Vals l zs k) (hk : k < zs.length) (hv : ∀ n : Nat, n < 1000000 → l.getD (2 * k + 1) [] = dc n → v = n) : Vals l (zs.set k v) (k + 1) := by
  intro j hj n hn e
  by_cases hjk : j = k
  · subst hjk
    rw [List.getD_eq_getElem?_getD, List.getElem?_set_self hk]
    exact hv n hn e
  · rw [List.getD_eq_getElem?_getD, List.getElem?_set_ne (fun e => hjk e.symm), ← List.getD_eq_getElem?_getD]
    exact h j (by omega) n hn e
theorem rdC_vals {s : List UInt8} {a b c d e f : Int} (hl : (wordsOf s).length = 12) (hv : Vals (wordsOf s) [a, b, c, d, e, f] 6) (h : txtC ⟨a, b, c, d, e, f⟩ ≠ s) : rdC s = none := by
  cases hc : rdC s with
  | none => rfl
  | some x =>
    have hw := wordsOf_some hc
    obtain ⟨hR, ht⟩ := rdC_is hc
    obtain ⟨n, q, g, m, t, s', rfl, h1, h2, h3, h4, h5, h6⟩ := hR.small
    rw [hw] at hv
    have e0 : a = n := hv 0 (by omega) n (by omega) rfl
    have e1 : b = q := hv 1 (by omega) q (by omega) rfl
    have e2 : c = g := hv 2 (by omega) g (by omega) rfl
    have e3 : d = m := hv 3 (by omega) m (by omega) rfl
    have e4 : e = t := hv 4 (by omega) t (by omega) rfl
    have e5 : f = s' := hv 5 (by omega) s' (by omega) rfl
    rw [e0, e1, e2, e3, e4, e5] at h
    exact absurd ht h
theorem rdC_got {s : List UInt8} {x : Cfg} (hl : (wordsOf s).length = 12) (h : txtC x = s) : rdC s = some x := by
  by_cases hR : Right x
  · rw [← h]; exact rdC_some hR
  · rw [txtC_none hR] at h
    subst h
    exact absurd hl (by decide)
end Go.Cg
