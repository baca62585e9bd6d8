/- Rows of numbers, and acts, that came in (layer 8). -/
import Derived.Test.YtjdbmedealhbjaaLaid
import Derived.Test.YtjdbmedealhbjaaDn
import Derived.Test.YtjdbmedealhbjaaFw
namespace Go.Proofs.Ytjdbmedealhbjaa
open Go.ChangeShapes Go.WideShapes Go.ChangeAt Go.RowKit Go.Wd Go.Dk

/-- a row of numbers that came in, as the walks want it -/
theorem row_ins {W : World} {p : Option Addr} {len cap : Nat} {zs : List Int} (h : IsRow .i64 W p len cap zs) : ∃ ys, InSl W (.slice p len cap) ys ∧ ∀ y ∈ ys, -9223372036854775808 ≤ y ∧ y ≤ 9223372036854775807 := by
  rcases h with ⟨rfl, rfl, rfl, rfl⟩ | ⟨x, rfl, hl, hm, hz, hc, hw⟩
  · exact ⟨[], (SlIs.nil _ _).ins, fun y hy => by cases hy⟩
  · have hm' : cap ≤ 9223372036854775807 := by unfold maxLen at hm; omega
    have e : (zs.take len).length = len := by rw [List.length_take]; omega
    refine ⟨zs.take len, ⟨_, len, cap, rfl, e.symm, by omega, fun hn => ⟨_, cap, by rw [e], by rw [e]; exact hl, hm, (fun e => by cases e), ⟨by omega, fun j hj => ?_⟩⟩⟩, fun y hy => wf_i64 (hw y (List.mem_of_mem_take hy))⟩
    rw [e] at hj
    obtain ⟨b, o, hx, hcell⟩ := ints_at hc (by omega)
    refine ⟨b, o, by rw [hx], fun e => e, ?_⟩
    rw [hcell j (by omega)]
    simp [List.getD, hj]

theorem three_of {α : Type} {cs : List α} (hl : cs.length = 3) : ∃ a b c, cs = [a, b, c] := by
  rcases cs with _ | ⟨a, _ | ⟨b, _ | ⟨c, _ | ⟨d, r⟩⟩⟩⟩ <;> simp at hl
  exact ⟨a, b, c, rfl⟩
theorem cellsAct : Try.prog.cellsOf 38 = 3 := by kernel_rfl
theorem cellsInt : Try.prog.cellsOf 3 = 1 := by kernel_rfl
theorem cellsIs : Try.prog.cellsOf 22 = 1 := by kernel_rfl
section
variable {H : Type} {enc : TypeId × Value → H} {W : World} {base : Nat} {spare : Nat → Bool} {held : Bool}
theorem ints_in {fuel : Nat} {p : Option Addr} {l c : Nat} {x : DataW H × List MemPlace} (h : DataW.trod enc Try.prog W base spare held fuel 22 [.slice p l c] = some x) : ∃ zs, InSl W (.slice p l c) zs := by
  obtain ⟨h1, h2, h3, h4⟩ := slice_elems Try.underlying22 h (by rw [cellsInt]; decide)
  rw [cellsInt] at h4
  have each : ∀ i, i < l → ∃ z : Int, ∃ b o, p = some ⟨b, o, none⟩ ∧ W.cell? ⟨b, o + i, none⟩ = some (.int .i64 z) := by
    intro i hi
    obtain ⟨b, o, cs, n, y, hp, hl, hc, ht⟩ := h4 i hi
    obtain ⟨z, rfl, _, _⟩ := DataW.trod_int Try.underlying3 ht
    exact ⟨z, b, o, hp, by have := hc 0 (by decide); simpa using this⟩
  obtain ⟨f, hf⟩ := Go.Deep.choose_lt each
  have e : ((List.range l).map f).length = l := by simp
  have hm' : c ≤ 9223372036854775807 := by unfold maxLen at h3; omega
  refine ⟨(List.range l).map f, p, l, c, rfl, e.symm, by omega, fun hn => ⟨p, c, by rw [e], by rw [e]; exact h2, h3, (fun hp => (h1 hp).2), ⟨by omega, fun j hj => ?_⟩⟩⟩
  have hj' : j < l := by simpa using hj
  obtain ⟨b, o, hp, hc⟩ := hf j hj'
  exact ⟨b, o, hp, fun e => e, by rw [hc]; simp [List.getD, hj']⟩
theorem one_act {n : Nat} {cs : List Value} {y : DataW H × List MemPlace} (hl : cs.length = 3) (h : DataW.trod enc Try.prog W base spare held n 38 cs = some y) : ∃ x : ActV, cs = [.int .i64 x.d, .int .i64 x.g, x.v] ∧ InSl W x.v x.l := by
  obtain ⟨_, hf⟩ := struct_fields Try.underlying38 h
  obtain ⟨v0, v1, v2, rfl⟩ := three_of hl
  obtain ⟨n0, y0, t0⟩ := hf 0 _ rfl
  obtain ⟨n1, y1, t1⟩ := hf 1 _ rfl
  obtain ⟨n2, y2, t2⟩ := hf 2 _ rfl
  change DataW.trod enc Try.prog W base spare held n0 3 ([v0, v1, v2].take (Try.prog.cellsOf 3)) = _ at t0
  change DataW.trod enc Try.prog W base spare held n1 3 ([v1, v2].take (Try.prog.cellsOf 3)) = _ at t1
  change DataW.trod enc Try.prog W base spare held n2 22 ([v2].take (Try.prog.cellsOf 22)) = _ at t2
  rw [cellsInt] at t0 t1
  rw [cellsIs] at t2
  obtain ⟨d, e0, _, _⟩ := DataW.trod_int Try.underlying3 t0
  obtain ⟨m, e1, _, _⟩ := DataW.trod_int Try.underlying3 t1
  obtain ⟨p, l, c, rfl⟩ : ∃ p l c, v2 = .slice p l c := by
    rcases DataW.trod_slice Try.underlying22 t2 with ⟨e, _⟩ | ⟨a, len, cap, _, _, _, _, e, _⟩
    · simp at e; exact ⟨none, 0, 0, e⟩
    · simp at e; exact ⟨some a, len, cap, e⟩
  obtain ⟨zs, hz⟩ := ints_in t2
  obtain rfl : v0 = .int .i64 d := by simpa using e0
  obtain rfl : v1 = .int .i64 m := by simpa using e1
  exact ⟨⟨d, m, .slice p l c, zs⟩, rfl, hz⟩
/-- acts that came in -/
theorem act_in {p : Option Addr} {l c : Nat} {d : DataW H} {ps : List MemPlace} (h : DataW.Trod enc Try.prog W base spare held 23 (.slice p l c) d ps) : ∃ xs, ActsIs W p xs ∧ l = xs.length := by
  obtain ⟨fuel, hf⟩ := h
  have hf' : DataW.trod enc Try.prog W base spare held fuel 23 [.slice p l c] = some (d, ps) := by simpa [Value.cells] using hf
  obtain ⟨h1, h2, h3, h4⟩ := slice_elems Try.underlying23 hf' (by rw [cellsAct]; decide)
  rw [cellsAct] at h4
  have each : ∀ i, i < l → ∃ x : ActV, ∃ b o, p = some ⟨b, o, none⟩ ∧ b < W.heap.size ∧ W.cell? ⟨b, o + i * 3, none⟩ = some (.int .i64 x.d) ∧ W.cell? ⟨b, o + i * 3 + 1, none⟩ = some (.int .i64 x.g) ∧ W.cell? ⟨b, o + i * 3 + 2, none⟩ = some x.v ∧ InSl W x.v x.l := by
    intro i hi
    obtain ⟨b, o, cs, n, y, hp, hl, hc, ht⟩ := h4 i hi
    obtain ⟨x, rfl, hx⟩ := one_act hl ht
    have c0 := hc 0 (by decide)
    exact ⟨x, b, o, hp, block_lt_of_cell (show W.cell? ⟨b, o + i * 3 + 0, none⟩ = some (.int .i64 x.d) from c0), c0, hc 1 (by decide), hc 2 (by decide), hx⟩
  obtain ⟨f, hf2⟩ := Go.Deep.choose_lt each
  have hm' : c ≤ 9223372036854775807 := by unfold maxLen at h3; omega
  refine ⟨(List.range l).map f, ⟨by simp; omega, fun i hi => ?_⟩, by simp⟩
  have hi' : i < l := by simpa using hi
  obtain ⟨b, o, hp, hb, hx⟩ := hf2 i hi'
  have e : ((List.range l).map f).getD i default = f i := by simp [List.getD, hi']
  exact ⟨b, o, hp, hb, by rw [e]; exact hx⟩
end
end Go.Proofs.Ytjdbmedealhbjaa
