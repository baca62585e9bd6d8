/- The acts that the laws of layer 4 are handed, cell by cell. -/
import Derived.Test.YtfigkoknhiabnaaDoorDn
namespace Go.Proofs.YtfigkoknhiabnaaDoor
open Go.ChangeShapes Go.WideShapes Go.RowKit

/-- an act: what to do, its number, its floats -/
structure ActV where
  d : Int
  n : Int
  p : Option Addr
  l : Nat
  c : Nat
  fs : List Nat
instance : Inhabited ActV := ⟨⟨0, 0, none, 0, 0, []⟩⟩
structure IsAct (W : World) (b o : Nat) (x : ActV) : Prop where
  c0 : W.cell? ⟨b, o, none⟩ = some (.int .i64 x.d)
  c1 : W.cell? ⟨b, o + 1, none⟩ = some (.int .i64 x.n)
  c2 : W.cell? ⟨b, o + 2, none⟩ = some (.slice x.p x.l x.c)
  wd : (Lit.int .i64 x.d).wf = true
  wn : (Lit.int .i64 x.n).wf = true
  fl : x.l = x.fs.length
  lm : x.l ≤ maxLen
  nl : x.p = none → x.c = 0
  fc : ∀ j, j < x.fs.length → ∃ b o, x.p = some ⟨b, o, none⟩ ∧ W.cell? ⟨b, o + j, none⟩ = some (.float .f64 (x.fs.getD j 0))
structure IsActs (W : World) (p : Option Addr) (l c : Nat) (xs : List ActV) : Prop where
  len : l = xs.length
  lm : l ≤ maxLen
  nl : p = none → c = 0
  act : ∀ i, i < xs.length → ∃ b o, p = some ⟨b, o, none⟩ ∧ IsAct W b (o + i * 3) (xs.getD i default)

theorem three_of {α : Type} {cs : List α} (hl : cs.length = 3) : ∃ a b c, cs = [a, b, c] := by
  rcases cs with _ | ⟨a, _ | ⟨b, _ | ⟨c, _ | ⟨d, r⟩⟩⟩⟩ <;> simp at hl
  exact ⟨a, b, c, rfl⟩
theorem cellsAct : Tryd.prog.cellsOf 39 = 3 := by kernel_rfl
theorem cellsF64 : Tryd.prog.cellsOf 52 = 1 := by kernel_rfl
theorem cellsInt : Tryd.prog.cellsOf 3 = 1 := by kernel_rfl
theorem cellsI64 : Tryd.prog.cellsOf 2 = 1 := by kernel_rfl
theorem cellsFs : Tryd.prog.cellsOf 37 = 1 := by kernel_rfl

section
variable {H : Type} {enc : TypeId × Value → H} {W : World} {base : Nat} {spare : Nat → Bool} {held : Bool}
theorem floats_in {fuel : Nat} {p : Option Addr} {l c : Nat} {x : DataW H × List MemPlace} (h : DataW.trod enc Tryd.prog W base spare held fuel 37 [.slice p l c] = some x) :
    ∃ fs : List Nat, l = fs.length ∧ l ≤ maxLen ∧ (p = none → c = 0) ∧ ∀ j, j < fs.length → ∃ b o, p = some ⟨b, o, none⟩ ∧ W.cell? ⟨b, o + j, none⟩ = some (.float .f64 (fs.getD j 0)) := by
  obtain ⟨h1, h2, h3, h4⟩ := slice_elems Tryd.underlying37 h (by rw [cellsF64]; decide)
  rw [cellsF64] at h4
  have each : ∀ i, i < l → ∃ z : Nat, ∃ b o, p = some ⟨b, o, none⟩ ∧ W.cell? ⟨b, o + i, none⟩ = some (.float .f64 z) := by
    intro i hi
    obtain ⟨b, o, cs, n, y, hp, hl, hc, ht⟩ := h4 i hi
    obtain ⟨z, rfl, _⟩ := trod_flt Tryd.underlying52 ht
    exact ⟨z, b, o, hp, by have := hc 0 (by decide); simpa using this⟩
  obtain ⟨f, hf⟩ := Go.Deep.choose_lt each
  refine ⟨(List.range l).map f, by simp, by omega, fun hp => (h1 hp).2, fun j hj => ?_⟩
  have hj' : j < l := by simpa using hj
  obtain ⟨b, o, hp, hc⟩ := hf j hj'
  exact ⟨b, o, hp, by rw [hc]; simp [List.getD, hj']⟩
theorem act_in {n : Nat} {b o : Nat} {cs : List Value} {y : DataW H × List MemPlace} (hl : cs.length = 3) (hc : ∀ j, j < 3 → W.cell? ⟨b, o + j, none⟩ = cs[j]?) (h : DataW.trod enc Tryd.prog W base spare held n 39 cs = some y) : ∃ x : ActV, IsAct W b o x := by
  obtain ⟨_, hf⟩ := struct_fields Tryd.underlying39 h
  obtain ⟨v0, v1, v2, rfl⟩ := three_of hl
  obtain ⟨n0, y0, t0⟩ := hf 0 _ rfl
  obtain ⟨n1, y1, t1⟩ := hf 1 _ rfl
  obtain ⟨n2, y2, t2⟩ := hf 2 _ rfl
  change DataW.trod enc Tryd.prog W base spare held n0 3 ([v0, v1, v2].take (Tryd.prog.cellsOf 3)) = _ at t0
  change DataW.trod enc Tryd.prog W base spare held n1 2 ([v1, v2].take (Tryd.prog.cellsOf 2)) = _ at t1
  change DataW.trod enc Tryd.prog W base spare held n2 37 ([v2].take (Tryd.prog.cellsOf 37)) = _ at t2
  rw [cellsInt] at t0
  rw [cellsI64] at t1
  rw [cellsFs] at t2
  obtain ⟨d, e0, _, wd⟩ := DataW.trod_int Tryd.underlying3 t0
  obtain ⟨m, e1, _, wm⟩ := DataW.trod_int Tryd.underlying2 t1
  obtain ⟨p, l, c, rfl⟩ : ∃ p l c, v2 = .slice p l c := by
    rcases DataW.trod_slice Tryd.underlying37 t2 with ⟨e, _⟩ | ⟨a, len, cap, _, _, _, _, e, _⟩
    · simp at e; exact ⟨none, 0, 0, e⟩
    · simp at e; exact ⟨some a, len, cap, e⟩
  obtain ⟨fs, f1, f2, f3, f4⟩ := floats_in t2
  obtain rfl : v0 = .int .i64 d := by simpa using e0
  obtain rfl : v1 = .int .i64 m := by simpa using e1
  exact ⟨⟨d, m, p, l, c, fs⟩, ⟨by simpa using hc 0 (by decide), by simpa using hc 1 (by decide), by simpa using hc 2 (by decide), wd, wm, f1, f2, f3, f4⟩⟩
theorem acts_in {p : Option Addr} {l c : Nat} {d : DataW H} {ps : List MemPlace} (h : DataW.Trod enc Tryd.prog W base spare held 22 (.slice p l c) d ps) : ∃ xs, IsActs W p l c xs := by
  obtain ⟨fuel, hf⟩ := h
  have hf' : DataW.trod enc Tryd.prog W base spare held fuel 22 [.slice p l c] = some (d, ps) := by simpa [Value.cells] using hf
  obtain ⟨h1, h2, h3, h4⟩ := slice_elems Tryd.underlying22 hf' (by rw [cellsAct]; decide)
  rw [cellsAct] at h4
  have each : ∀ i, i < l → ∃ x : ActV, ∃ b o, p = some ⟨b, o, none⟩ ∧ IsAct W b (o + i * 3) x := by
    intro i hi
    obtain ⟨b, o, cs, n, y, hp, hl, hc, ht⟩ := h4 i hi
    obtain ⟨x, hx⟩ := act_in hl hc ht
    exact ⟨x, b, o, hp, hx⟩
  obtain ⟨f, hf2⟩ := Go.Deep.choose_lt each
  refine ⟨(List.range l).map f, ⟨by simp, by omega, fun hp => (h1 hp).2, fun i hi => ?_⟩⟩
  have hi' : i < l := by simpa using hi
  obtain ⟨b, o, hp, hx⟩ := hf2 i hi'
  have e : ((List.range l).map f).getD i default = f i := by simp [List.getD, hi']
  exact ⟨b, o, hp, by rw [e]; exact hx⟩
end
end Go.Proofs.YtfigkoknhiabnaaDoor
