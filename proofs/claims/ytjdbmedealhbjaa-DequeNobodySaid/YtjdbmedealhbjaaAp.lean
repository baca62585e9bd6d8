/- An append of a row onto a row of one's own (numbers), as one law. -/
import Derived.Test.YtjdbmedealhbjaaDq
namespace Go.Proofs.Ytjdbmedealhbjaa
open Go.RowKit Go.Wd Go.Dk

theorem infoInt : (Try.prog.info? 3).map (fun i => (i.zero, i.size, i.bytes)) = some (some (.int .i64 0), 1, 8) := by kernel_rfl
/-- append(s, x...), s a row of one's own, x any row: behind it a row of one's own -/
theorem append_new {ops : Array Oper} {rest : List Oper} {o : Oper} {a : Act} {Q : Exit → Act → World → Prop} {R : Nat → Prop} {B : Nat} (w : World) (hgd : o.guard = none) (s x : Operand)
    (ho : o.op = .call { callee := .builtin .append, args := #[s, x], argTypes := #[22, 22] }) (u v : Value) (xs ys : List Int) (hs : a.eval s = v) (hv : NewRow B w v xs) (hx : a.eval x = u) (hy : SlIs R w u ys) (hb : xs.length + ys.length ≤ 1000000) (hB : B ≤ w.heap.size)
    (h : ∀ v' w', NewRow B w' v' (xs ++ ys) → w.grownBy w' v.ownBlock → wpList Try.prog ops Q rest (a.put o.dst v') w') : wpList Try.prog ops Q (o :: rest) a w := by
  obtain ⟨i0, hi, hz0, hz1, hz2⟩ := info_parts infoInt
  obtain ⟨p, c, rfl, h1, h2, h3, h4⟩ := hy
  have hU := Try.underlying22
  cases p with
  | none =>
    have hc := h3 rfl
    subst hc
    have h0 : ys = [] := List.eq_nil_of_length_eq_zero (by omega)
    subst h0
    refine wpList_append_own_none hgd s x 22 ho B 3 i0 1 hU hi v xs.length (xs.map (Value.int .i64)) hs hv hx ?_
    refine h _ _ (by rw [List.append_nil]; exact hv) ?_
    exact ⟨rfl, rfl, rfl, Nat.le_refl _, fun _ _ _ => rfl⟩
  | some ad =>
    have hm : (ys.map (Value.int .i64)).length = ys.length * 1 := by rw [List.length_map, Nat.mul_one]
    refine wpList_append_own w hgd s x 22 ho B 3 i0 (.int .i64 0) 1 8 hU hi hz0 hz1 hz2 rfl (by decide) v xs.length (xs.map (Value.int .i64)) hs hv ad ys.length c (ys.map (Value.int .i64)) hx hm ?_ ?_ (by unfold maxLen; omega) (by omega) hB ?_
    · intro j y hj
      rw [List.getElem?_map] at hj
      have hjl : j < ys.length := by
        rcases Nat.lt_or_ge j ys.length with h' | h'
        · exact h'
        · rw [List.getElem?_eq_none h'] at hj; cases hj
      obtain ⟨b, o', hp, _, hc⟩ := h4.cells j hjl
      cases hp
      rw [List.getElem?_eq_getElem hjl] at hj
      cases hj
      rw [Addr.add_mid, hc]
      simp [List.getD, hjl]
    · intro y hy
      obtain ⟨z, _, rfl⟩ := List.mem_map.1 hy
      rfl
    · intro v' w' g1 g2 _
      refine h v' w' ?_ g2
      unfold NewRow
      rw [List.length_append, List.map_append]
      exact g1
theorem grown_tch {w w' : World} {v : Value} (h : w.grownBy w' v.ownBlock) : Tch (fun k => v.ownBlock = some k) w w' := Tch.grown h
/-- a row grows, all else lies -/
theorem SlIs.grown {S R : Nat → Prop} {w w' : World} {u v : Value} {xs : List Int} {B : Nat} (h : SlIs S w u xs) (hg : w.grownBy w' v.ownBlock) (hs : ∀ k, v.ownBlock = some k → S k) : SlIs S w' u xs :=
  h.tch ⟨hg.os, hg.tape, hg.output, hg.size, fun k hk hn => hg.block k hk (fun e => hn (hs k e.symm))⟩
/-- a row is begun: nothing that was has changed -/
theorem nil_begun {w w' : World} (hg : w.grownBy w' (Value.slice none 0 0).ownBlock) : Below w.heap.size w w' := (Below.refl _ _).grown hg (Nat.le_refl _) (fun k e => by simp [Value.ownBlock] at e)
theorem NewRow.begun {B : Nat} {w : World} {v : Value} {xs : List Int} (h : NewRow B w v ([] ++ xs)) : NewRow B w v xs := h
theorem new_below {B : Nat} {w0 w w' : World} {v : Value} {xs : List Int} (h : NewRow B w v xs) (hb : Below B w0 w) (hB : B ≤ w.heap.size) (hg : w.grownBy w' v.ownBlock) : Below B w0 w' := hb.grown hg hB (fun k e => (h.lt k e).1)
end Go.Proofs.Ytjdbmedealhbjaa
