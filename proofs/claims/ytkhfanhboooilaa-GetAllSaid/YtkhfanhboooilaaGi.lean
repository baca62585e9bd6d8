/- Configs, and bytes, that came in (layer 10). -/
import Derived.Test.YtkhfanhboooilaaLaid
import Derived.Test.YtkhfanhboooilaaDn
import Derived.Test.YtkhfanhboooilaaGs
namespace Go.Proofs.Ytkhfanhboooilaa
open Go.ChangeShapes Go.WideShapes Go.ChangeAt Go.RowKit Go.Cg Go.Pu

/-- bytes that came in, as the walks want them -/
theorem by_ins {W : World} {p : Option Addr} {len cap : Nat} {zs : List Int} (h : IsRow .u8 W p len cap zs) : ∃ ys, InBy W (.slice p len cap) ys := by
  rcases h with ⟨rfl, rfl, rfl, rfl⟩ | ⟨x, rfl, hl, hm, hz, hc, hw⟩
  · exact ⟨[], none, 0, 0, rfl, rfl, by omega, fun _ => ⟨⟨by simp, fun j hj => absurd hj (Nat.not_lt_zero _)⟩, fun z hz => (by cases hz)⟩⟩
  · have hm' : cap ≤ 9223372036854775807 := by unfold maxLen at hm; omega
    have e : (zs.take len).length = len := by rw [List.length_take]; omega
    refine ⟨zs.take len, _, len, cap, rfl, e.symm, by omega, fun hn => ⟨⟨by omega, fun j hj => ?_⟩, fun y hy => wf_u8 (hw y (List.mem_of_mem_take hy))⟩⟩
    rw [e] at hj
    obtain ⟨b, o, hx, hcell⟩ := ints_at hc (by omega)
    refine ⟨b, o, by rw [hx], ?_⟩
    rw [hcell j (by omega)]
    simp [List.getD, hj]
theorem cellsInt5 : Try.prog.cellsOf 3 = 1 := by kernel_rfl
theorem cellsConf : Try.prog.cellsOf 23 = 6 := by kernel_rfl
/-- its numbers are ints -/
structure CfgWf (c : Cfg) : Prop where
  n : (Lit.int .i64 c.n).wf = true
  q : (Lit.int .i64 c.q).wf = true
  g : (Lit.int .i64 c.g).wf = true
  m : (Lit.int .i64 c.m).wf = true
  t : (Lit.int .i64 c.t).wf = true
  s : (Lit.int .i64 c.s).wf = true
theorem six_of {α : Type} {cs : List α} (hl : cs.length = 6) : ∃ a b c d e f, cs = [a, b, c, d, e, f] := by
  match cs, hl with
  | [a, b, c, d, e, f], _ => exact ⟨a, b, c, d, e, f, rfl⟩
set_option maxRecDepth 100000 in
theorem conf_in {H : Type} {enc : TypeId × Value → H} {W : World} {base base2 : Nat} {spare : Nat → Bool} {held : Bool} {v : Value} {d : DataW H} {ps : List MemPlace} (hv : Value.okWide Try.prog W .any base2 23 v) (h : DataW.Trod enc Try.prog W base spare held 23 v d ps) : ∃ c : Cfg, v = cVal c ∧ CfgWf c := by
  obtain ⟨cs, rfl, hsz⟩ : ∃ cs, v = .agg cs ∧ cs.size = 6 := by
    unfold Value.okWide at hv
    rw [Try.underlying23] at hv
    obtain ⟨cs, rfl, hs, -⟩ := hv
    exact ⟨cs, rfl, by rw [hs, cellsConf]⟩
  obtain ⟨fuel, hf⟩ := h
  obtain ⟨_, hfl⟩ := struct_fields Try.underlying23 hf
  obtain ⟨l, rfl⟩ : ∃ l : List Value, cs = l.toArray := ⟨cs.toList, by simp⟩
  have hl : l.length = 6 := by simpa using hsz
  obtain ⟨v0, v1, v2, v3, v4, v5, rfl⟩ := six_of hl
  change ∀ (i : Nat) (f : Field), _ → ∃ n y, DataW.trod enc Try.prog W base spare held n f.type (([v0, v1, v2, v3, v4, v5].drop f.offset).take (Try.prog.cellsOf f.type)) = some y at hfl
  obtain ⟨n0, y0, t0⟩ := hfl 0 _ rfl
  obtain ⟨n1, y1, t1⟩ := hfl 1 _ rfl
  obtain ⟨n2, y2, t2⟩ := hfl 2 _ rfl
  obtain ⟨n3, y3, t3⟩ := hfl 3 _ rfl
  obtain ⟨n4, y4, t4⟩ := hfl 4 _ rfl
  obtain ⟨n5, y5, t5⟩ := hfl 5 _ rfl
  change DataW.trod enc Try.prog W base spare held n0 3 ([v0, v1, v2, v3, v4, v5].take (Try.prog.cellsOf 3)) = _ at t0
  change DataW.trod enc Try.prog W base spare held n1 3 ([v1, v2, v3, v4, v5].take (Try.prog.cellsOf 3)) = _ at t1
  change DataW.trod enc Try.prog W base spare held n2 3 ([v2, v3, v4, v5].take (Try.prog.cellsOf 3)) = _ at t2
  change DataW.trod enc Try.prog W base spare held n3 3 ([v3, v4, v5].take (Try.prog.cellsOf 3)) = _ at t3
  change DataW.trod enc Try.prog W base spare held n4 3 ([v4, v5].take (Try.prog.cellsOf 3)) = _ at t4
  change DataW.trod enc Try.prog W base spare held n5 3 ([v5].take (Try.prog.cellsOf 3)) = _ at t5
  rw [cellsInt5] at t0 t1 t2 t3 t4 t5
  obtain ⟨z0, e0, _, w0⟩ := DataW.trod_int Try.underlying3 t0
  obtain ⟨z1, e1, _, w1⟩ := DataW.trod_int Try.underlying3 t1
  obtain ⟨z2, e2, _, w2⟩ := DataW.trod_int Try.underlying3 t2
  obtain ⟨z3, e3, _, w3⟩ := DataW.trod_int Try.underlying3 t3
  obtain ⟨z4, e4, _, w4⟩ := DataW.trod_int Try.underlying3 t4
  obtain ⟨z5, e5, _, w5⟩ := DataW.trod_int Try.underlying3 t5
  obtain rfl : v0 = .int .i64 z0 := by simpa using e0
  obtain rfl : v1 = .int .i64 z1 := by simpa using e1
  obtain rfl : v2 = .int .i64 z2 := by simpa using e2
  obtain rfl : v3 = .int .i64 z3 := by simpa using e3
  obtain rfl : v4 = .int .i64 z4 := by simpa using e4
  obtain rfl : v5 = .int .i64 z5 := by simpa using e5
  exact ⟨⟨z0, z1, z2, z3, z4, z5⟩, rfl, ⟨w0, w1, w2, w3, w4, w5⟩⟩

theorem conf_wf {c : Cfg} (h : CfgWf c) : ∀ z ∈ [c.n, c.q, c.g, c.m, c.t, c.s], -9223372036854775808 ≤ z ∧ z ≤ 9223372036854775807 := by
  intro z hz
  simp only [List.mem_cons, List.not_mem_nil, or_false] at hz
  rcases hz with rfl | rfl | rfl | rfl | rfl | rfl
  · exact wf_i64 h.n
  · exact wf_i64 h.q
  · exact wf_i64 h.g
  · exact wf_i64 h.m
  · exact wf_i64 h.t
  · exact wf_i64 h.s
end Go.Proofs.Ytkhfanhboooilaa
