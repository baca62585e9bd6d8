/- What came in, read cell by cell: slices of whatever elements, structs of whatever fields. -/
import Derived.Test.YtkhfanhboooilaaRows
import Derived.ProofKit
import Derived.OpenShut
import Derived.Deep.Slices
namespace Go.Proofs.Ytkhfanhboooilaa
open Go.ChangeShapes Go.WideShapes Go.RowKit

section
variable {H : Type} {enc : TypeId × Value → H} {P : Program} {w : World} {base : Nat} {spare : Nat → Bool} {held : Bool}

theorem trod_flt {k : FloatKind} {t : TypeId} {fuel : Nat} {cs : List Value} {x : DataW H × List MemPlace} (ht : P.underlying t = some (.float k)) (h : DataW.trod enc P w base spare held fuel t cs = some x) : ∃ b, cs = [.float k b] ∧ (Lit.float k b).wf = true := by
  cases fuel with
  | zero => simp [DataW.trod] at h
  | succ n =>
    unfold DataW.trod at h
    rw [ht] at h
    split at h <;> simp_all
/-- a slice that came in, element by element -/
theorem slice_elems {t e : TypeId} {fuel : Nat} {p : Option Addr} {l c : Nat} {x : DataW H × List MemPlace} (ht : P.underlying t = some (.slice e)) (h : DataW.trod enc P w base spare held fuel t [.slice p l c] = some x) (h1 : 0 < P.cellsOf e) :
    (p = none → l = 0 ∧ c = 0) ∧ l ≤ c ∧ c ≤ maxLen ∧ ∀ i, i < l → ∃ b o cs n y, p = some ⟨b, o, none⟩ ∧ cs.length = P.cellsOf e ∧ (∀ j, j < P.cellsOf e → w.cell? ⟨b, o + i * P.cellsOf e + j, none⟩ = cs[j]?) ∧ DataW.trod enc P w base spare held n e cs = some y := by
  rcases DataW.trod_slice ht h with ⟨hc, _⟩ | ⟨a, len, cap, elems, rest, n, _, hc, _, hb, hl, hm, hlen, hel, _⟩
  · simp at hc
    obtain ⟨rfl, rfl, rfl⟩ := hc
    exact ⟨fun _ => ⟨rfl, rfl⟩, Nat.le_refl _, Nat.zero_le _, fun i hi => absurd hi (Nat.not_lt_zero _)⟩
  · simp at hc
    obtain ⟨rfl, rfl, rfl⟩ := hc
    refine ⟨(fun hh => by cases hh), hl, hm, fun i hi => ?_⟩
    have he := hel i hi
    rw [List.getElem?_eq_getElem (show i < elems.length by omega)] at he
    obtain ⟨cs, hcs, hy⟩ := Option.bind_eq_some_iff.1 he
    obtain ⟨_, hlen2, hcell⟩ := World.cells?_some hcs
    obtain ⟨b, off, spot⟩ := a
    have hspot : spot = none := by
      have he0 := hel 0 (by omega)
      rw [List.getElem?_eq_getElem (show 0 < elems.length by omega)] at he0
      obtain ⟨cs0, hcs0, _⟩ := Option.bind_eq_some_iff.1 he0
      obtain ⟨_, hl0, hc0⟩ := World.cells?_some hcs0
      have h0 := hc0 0 h1
      rw [List.getElem?_eq_getElem (show 0 < cs0.length by omega)] at h0
      simpa [Addr.add] using World.cell?_spot h0
    subst hspot
    refine ⟨b, off, cs, n, _, rfl, hlen2, fun j hj => ?_, hy⟩
    have := hcell j hj
    rw [Go.WideShapes.add_plain, Go.WideShapes.add_plain] at this
    exact this
/-- a struct that came in, field by field -/
theorem struct_fields {t : TypeId} {fs : Array Field} {fuel : Nat} {cs : List Value} {x : DataW H × List MemPlace} (ht : P.underlying t = some (.struct fs)) (h : DataW.trod enc P w base spare held fuel t cs = some x) :
    cs.length = P.cellsOf t ∧ ∀ (i : Nat) (f : Field), fs[i]? = some f → ∃ n y, DataW.trod enc P w base spare held n f.type ((cs.drop f.offset).take (P.cellsOf f.type)) = some y := by
  obtain ⟨xs, n, _, _, hl, hlen, hf⟩ := DataW.trod_struct ht h
  refine ⟨hl, fun i f hi => ?_⟩
  have := hf i f hi
  have hlt : i < fs.size := by
    rcases Nat.lt_or_ge i fs.size with h' | h'
    · exact h'
    · rw [Array.getElem?_eq_none h'] at hi; cases hi
  rw [List.getElem?_eq_getElem (show i < xs.length by omega)] at this
  exact ⟨n, _, this⟩
end
end Go.Proofs.Ytkhfanhboooilaa
