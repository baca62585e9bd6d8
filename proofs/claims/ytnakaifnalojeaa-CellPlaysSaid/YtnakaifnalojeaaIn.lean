/- Calls, and accesses, that came in. -/
import Derived.Test.YtnakaifnalojeaaDn
import Derived.Test.YtnakaifnalojeaaMa
namespace Go.Proofs.Ytnakaifnalojeaa
open Go.ChangeShapes Go.WideShapes Go.RowKit Go.Ce

/-- a slice of them that came in -/
structure IsAccs (W : World) (p : Option Addr) (l c : Nat) (xs : List Acc) : Prop where
  len : l = xs.length
  lm : l ≤ maxLen
  nl : p = none → c = 0
  lies : LiesA W p xs
theorem four_of {α : Type} {cs : List α} (hl : cs.length = 4) : ∃ a b c d, cs = [a, b, c, d] := by
  rcases cs with _ | ⟨a, _ | ⟨b, _ | ⟨c, _ | ⟨d, _ | ⟨e, r⟩⟩⟩⟩⟩ <;> simp at hl
  exact ⟨a, b, c, d, rfl⟩
theorem cellsInt : Try.prog.cellsOf 3 = 1 := by kernel_rfl
theorem cellsU : Try.prog.cellsOf 34 = 1 := by kernel_rfl
theorem cells_act : Try.prog.cellsOf 36 = 4 := by kernel_rfl
theorem one_act {H : Type} {enc : TypeId × Value → H} {W : World} {base : Nat} {spare : Nat → Bool} {held : Bool} {n : Nat} {cs : List Value} {y : DataW H × List MemPlace} (hl : cs.length = 4) (h : DataW.trod enc Try.prog W base spare held n 36 cs = some y) : ∃ x : Acc, cs = accC x := by
  obtain ⟨_, hf⟩ := struct_fields Try.underlying36 h
  obtain ⟨v0, v1, v2, v3, rfl⟩ := four_of hl
  obtain ⟨n0, y0, t0⟩ := hf 0 _ rfl
  obtain ⟨n1, y1, t1⟩ := hf 1 _ rfl
  obtain ⟨n2, y2, t2⟩ := hf 2 _ rfl
  obtain ⟨n3, y3, t3⟩ := hf 3 _ rfl
  change DataW.trod enc Try.prog W base spare held n0 3 ([v0, v1, v2, v3].take (Try.prog.cellsOf 3)) = _ at t0
  change DataW.trod enc Try.prog W base spare held n1 3 ([v1, v2, v3].take (Try.prog.cellsOf 3)) = _ at t1
  change DataW.trod enc Try.prog W base spare held n2 34 ([v2, v3].take (Try.prog.cellsOf 34)) = _ at t2
  change DataW.trod enc Try.prog W base spare held n3 34 ([v3].take (Try.prog.cellsOf 34)) = _ at t3
  rw [cellsInt] at t0 t1
  rw [cellsU] at t2 t3
  obtain ⟨a, e0, _, _⟩ := DataW.trod_int Try.underlying3 t0
  obtain ⟨b, e1, _, _⟩ := DataW.trod_int Try.underlying3 t1
  obtain ⟨c, e2, _, _⟩ := DataW.trod_int Try.underlying34 t2
  obtain ⟨d, e3, _, _⟩ := DataW.trod_int Try.underlying34 t3
  obtain rfl : v0 = .int .i64 a := by simpa using e0
  obtain rfl : v1 = .int .i64 b := by simpa using e1
  obtain rfl : v2 = .int .u64 c := by simpa using e2
  obtain rfl : v3 = .int .u64 d := by simpa using e3
  exact ⟨⟨a, b, c, d⟩, rfl⟩
theorem act_in {H : Type} {enc : TypeId × Value → H} {W : World} {base : Nat} {spare : Nat → Bool} {held : Bool} {p : Option Addr} {l c : Nat} {d : DataW H} {ps : List MemPlace} (h : DataW.Trod enc Try.prog W base spare held 22 (.slice p l c) d ps) : ∃ xs, IsAccs W p l c xs := by
  obtain ⟨fuel, hf⟩ := h
  have hf' : DataW.trod enc Try.prog W base spare held fuel 22 [.slice p l c] = some (d, ps) := by simpa [Value.cells] using hf
  obtain ⟨h1, h2, h3, h4⟩ := slice_elems Try.underlying22 hf' (by rw [cells_act]; decide)
  rw [cells_act] at h4
  have each : ∀ i, i < l → ∃ x : Acc, ∃ b o, p = some ⟨b, o, none⟩ ∧ ∀ j, j < 4 → W.cell? ⟨b, o + i * 4 + j, none⟩ = (accC x)[j]? := by
    intro i hi
    obtain ⟨b, o, cs, n, y, hp, hl, hc, ht⟩ := h4 i hi
    obtain ⟨x, rfl⟩ := one_act hl ht
    exact ⟨x, b, o, hp, hc⟩
  obtain ⟨f, hf2⟩ := Go.Deep.choose_lt each
  refine ⟨(List.range l).map f, ⟨by simp, by omega, fun hp => (h1 hp).2, ⟨fun i hi => ?_⟩⟩⟩
  have hi' : i < l := by simpa using hi
  obtain ⟨b, o, hp, hx⟩ := hf2 i hi'
  have e : ((List.range l).map f).getD i default = f i := by simp [List.getD, hi']
  exact ⟨b, o, hp, by rw [e]; exact hx⟩
theorem cells_access : Try.prog.cellsOf 38 = 4 := by kernel_rfl
theorem one_access {H : Type} {enc : TypeId × Value → H} {W : World} {base : Nat} {spare : Nat → Bool} {held : Bool} {n : Nat} {cs : List Value} {y : DataW H × List MemPlace} (hl : cs.length = 4) (h : DataW.trod enc Try.prog W base spare held n 38 cs = some y) : ∃ x : Acc, cs = accC x := by
  obtain ⟨_, hf⟩ := struct_fields Try.underlying38 h
  obtain ⟨v0, v1, v2, v3, rfl⟩ := four_of hl
  obtain ⟨n0, y0, t0⟩ := hf 0 _ rfl
  obtain ⟨n1, y1, t1⟩ := hf 1 _ rfl
  obtain ⟨n2, y2, t2⟩ := hf 2 _ rfl
  obtain ⟨n3, y3, t3⟩ := hf 3 _ rfl
  change DataW.trod enc Try.prog W base spare held n0 3 ([v0, v1, v2, v3].take (Try.prog.cellsOf 3)) = _ at t0
  change DataW.trod enc Try.prog W base spare held n1 3 ([v1, v2, v3].take (Try.prog.cellsOf 3)) = _ at t1
  change DataW.trod enc Try.prog W base spare held n2 34 ([v2, v3].take (Try.prog.cellsOf 34)) = _ at t2
  change DataW.trod enc Try.prog W base spare held n3 34 ([v3].take (Try.prog.cellsOf 34)) = _ at t3
  rw [cellsInt] at t0 t1
  rw [cellsU] at t2 t3
  obtain ⟨a, e0, _, _⟩ := DataW.trod_int Try.underlying3 t0
  obtain ⟨b, e1, _, _⟩ := DataW.trod_int Try.underlying3 t1
  obtain ⟨c, e2, _, _⟩ := DataW.trod_int Try.underlying34 t2
  obtain ⟨d, e3, _, _⟩ := DataW.trod_int Try.underlying34 t3
  obtain rfl : v0 = .int .i64 a := by simpa using e0
  obtain rfl : v1 = .int .i64 b := by simpa using e1
  obtain rfl : v2 = .int .u64 c := by simpa using e2
  obtain rfl : v3 = .int .u64 d := by simpa using e3
  exact ⟨⟨a, b, c, d⟩, rfl⟩
theorem access_in {H : Type} {enc : TypeId × Value → H} {W : World} {base : Nat} {spare : Nat → Bool} {held : Bool} {p : Option Addr} {l c : Nat} {d : DataW H} {ps : List MemPlace} (h : DataW.Trod enc Try.prog W base spare held 51 (.slice p l c) d ps) : ∃ xs, IsAccs W p l c xs := by
  obtain ⟨fuel, hf⟩ := h
  have hf' : DataW.trod enc Try.prog W base spare held fuel 51 [.slice p l c] = some (d, ps) := by simpa [Value.cells] using hf
  obtain ⟨h1, h2, h3, h4⟩ := slice_elems Try.underlying51 hf' (by rw [cells_access]; decide)
  rw [cells_access] at h4
  have each : ∀ i, i < l → ∃ x : Acc, ∃ b o, p = some ⟨b, o, none⟩ ∧ ∀ j, j < 4 → W.cell? ⟨b, o + i * 4 + j, none⟩ = (accC x)[j]? := by
    intro i hi
    obtain ⟨b, o, cs, n, y, hp, hl, hc, ht⟩ := h4 i hi
    obtain ⟨x, rfl⟩ := one_access hl ht
    exact ⟨x, b, o, hp, hc⟩
  obtain ⟨f, hf2⟩ := Go.Deep.choose_lt each
  refine ⟨(List.range l).map f, ⟨by simp, by omega, fun hp => (h1 hp).2, ⟨fun i hi => ?_⟩⟩⟩
  have hi' : i < l := by simpa using hi
  obtain ⟨b, o, hp, hx⟩ := hf2 i hi'
  have e : ((List.range l).map f).getD i default = f i := by simp [List.getD, hi']
  exact ⟨b, o, hp, by rw [e]; exact hx⟩
end Go.Proofs.Ytnakaifnalojeaa
