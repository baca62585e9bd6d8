/- The law's mems (layer 6): the reference's memory of cells, call by call. -/
import Derived.Test.YtnakaifnalojeaaNn
import Derived.Test.YtnakaifnalojeaaLd
import Derived.Test.YtnakaifnalojeaaMs
import Derived.Deep.RegionWith
namespace Go.Proofs.Ytnakaifnalojeaa
open Go.RowKit Go.Ce

/-- what a call of the reference's memory answers -/
def MPost (m : PM) (w : World) (e : Ending) (w' : World) : Prop := ∃ p l c, e = .returned (.agg #[.slice p l c, .int .u64 m.k.ops]) ∧ RM w' p l c m.cs ∧ Below w.heap.size w w'
def MPost2 (m : PM) (w : World) (e : Ending) (w' : World) : Prop := ∃ p l c v, e = .returned (.tuple #[.agg #[.slice p l c, .int .u64 m.k.ops], v]) ∧ RM w' p l c m.cs ∧ Below w.heap.size w w'
section
variable {m : PM} {p : Option Addr} {l c : Nat} {w : World}
theorem has_there (m : PM) (a : Int) : There m.cs a ↔ m.Has a := Iff.rfl
theorem rpost2 {m' : PM} {cs : List Int} {n : Int} {v : Value} {e : Ending} {w' : World} (h : RPost2 cs n v w e w') (h1 : m'.cs = cs) (h2 : ((m'.k.ops : Nat) : Int) = n) : MPost2 m' w e w' := by
  subst h1 h2
  obtain ⟨p, l, c, he, hm, hb⟩ := h
  exact ⟨p, l, c, v, he, hm, hb⟩
theorem mload (a o x : Int) (h : RM w p l c m.cs) (hn : m.k.ops ≤ 1000000) : Calls Try.prog 35 #[.agg #[.slice p l c, .int .u64 m.k.ops], .int .i64 a] w (MPost2 (m.go 1 a o x) w) := by
  by_cases ha : m.Has a
  · obtain ⟨j, rfl⟩ : ∃ j : Nat, a = j := ⟨a.toNat, by have := ha.1; omega⟩
    have hg := go_load (o := o) (x := x) ha
    refine (rload_yes m.k.ops j w h (by have := ha.2; omega) (by omega)).mono fun e w' hp => rpost2 hp hg.1 (by rw [hg.2]; simp)
  · have hg := go_not (k := 1) (o := o) (x := x) (.inl ha)
    refine (rload_no m.k.ops a w h ha).mono fun e w' hp => rpost2 hp (by rw [hg]) (by rw [hg])
theorem mstore (a o x : Int) (h : RM w p l c m.cs) (hn : m.k.ops ≤ 1000000) : Calls Try.prog 36 #[.agg #[.slice p l c, .int .u64 m.k.ops], .int .i64 a, .int .u64 x] w (MPost (m.go 2 a o x) w) := by
  refine (rstore_any m.k.ops a x w h (by omega)).mono ?_
  rintro e w' ⟨q, l2, c2, rfl, hm, hb⟩
  by_cases ha : m.Has a
  · have hg := go_store (o := o) (x := x) ha
    rw [if_pos ((has_there m a).2 ha)] at hm
    exact ⟨q, l2, c2, by rw [if_pos ((has_there m a).2 ha), hg.2]; simp, by rw [hg.1]; exact hm, hb⟩
  · have hg := go_not (k := 2) (o := o) (x := x) (.inl ha)
    rw [if_neg (fun ht => ha ((has_there m a).1 ht))] at hm
    exact ⟨q, l2, c2, by rw [if_neg (fun ht => ha ((has_there m a).1 ht)), hg], by rw [hg]; exact hm, hb⟩
theorem mcas (a o x : Int) (h : RM w p l c m.cs) (hn : m.k.ops ≤ 1000000) : Calls Try.prog 37 #[.agg #[.slice p l c, .int .u64 m.k.ops], .int .i64 a, .int .u64 o, .int .u64 x] w (MPost2 (m.go 3 a o x) w) := by
  by_cases ha : m.Has a
  · obtain ⟨j, rfl⟩ : ∃ j : Nat, a = j := ⟨a.toNat, by have := ha.1; omega⟩
    have hat : m.at (j : Int) = m.cs.getD j 0 := by unfold PM.at; rw [Int.toNat_natCast]
    by_cases he : m.at (j : Int) = o
    · have hg := go_hit (x := x) ha he
      refine (rcas_hit m.k.ops j o x w h (by have := ha.2; omega) (by omega) (by rw [← hat]; exact he)).mono fun e w' hp => rpost2 hp (by rw [hg.1, Int.toNat_natCast]) (by rw [hg.2]; simp)
    · have hg := go_miss (x := x) ha he
      refine (rcas_miss m.k.ops j o x w h (by have := ha.2; omega) (by omega) (by rw [← hat]; exact he)).mono fun e w' hp => rpost2 hp hg.1 (by rw [hg.2]; simp)
  · have hg := go_not (k := 3) (o := o) (x := x) (.inl ha)
    refine (rcas_no m.k.ops a o x w h ha).mono fun e w' hp => rpost2 hp (by rw [hg]) (by rw [hg])
theorem madd (a o x : Int) (h : RM w p l c m.cs) (hn : m.k.ops ≤ 1000000) : Calls Try.prog 38 #[.agg #[.slice p l c, .int .u64 m.k.ops], .int .i64 a, .int .u64 x] w (MPost2 (m.go 4 a o x) w) := by
  by_cases ha : m.Has a
  · obtain ⟨j, rfl⟩ : ∃ j : Nat, a = j := ⟨a.toNat, by have := ha.1; omega⟩
    have hat : m.at (j : Int) = m.cs.getD j 0 := by unfold PM.at; rw [Int.toNat_natCast]
    have hg := go_add (o := o) (x := x) ha
    refine (radd_yes m.k.ops j x w h (by have := ha.2; omega) (by omega)).mono fun e w' hp => rpost2 hp (by rw [hg.1, Int.toNat_natCast, hat]) (by rw [hg.2]; simp)
  · have hg := go_not (k := 4) (o := o) (x := x) (.inl ha)
    refine (radd_no m.k.ops a x w h ha).mono fun e w' hp => rpost2 hp (by rw [hg]) (by rw [hg])
end
end Go.Proofs.Ytnakaifnalojeaa
