/- The closed law's three rows: numbers whose tails the acts bear, acts, numbers (layer 8). -/
import Derived.Test.YtjdbmedealhbjaaAp
import Derived.Test.YtjdbmedealhbjaaFw
import Derived.Deep.AppendLies
import Derived.ArgAppend
set_option linter.unusedSimpArgs false
set_option linter.unusedVariables false
namespace Go.Proofs.Ytjdbmedealhbjaa
open Go.RowKit Go.Wd Go.Dk

theorem infoAct : (Try.prog.info? 38).map (fun i => (i.zero, i.size, i.bytes)) = some (some (.agg #[.int .i64 0, .int .i64 0, .slice none 0 0]), 3, 40) := by kernel_rfl
/-- an act's cells -/
def actC (x : ActV) : List Value := [.int .i64 x.d, .int .i64 x.g, x.v]
theorem acts_length (xs : List ActV) : (xs.flatMap actC).length = xs.length * 3 := by
  induction xs with
  | nil => rfl
  | cons x r ih => rw [List.flatMap_cons, List.length_append, ih, List.length_cons]; show 3 + _ = _; omega
theorem acts_at (xs : List ActV) (i j : Nat) (hi : i < xs.length) (hj : j < 3) : (xs.flatMap actC)[i * 3 + j]? = (actC (xs.getD i default))[j]? := by
  induction xs generalizing i with
  | nil => simp at hi
  | cons x r ih =>
    rw [List.flatMap_cons]
    cases i with
    | zero => rw [List.getElem?_append_left (by show 0 * 3 + j < 3; omega)]; simp
    | succ i =>
      rw [List.getElem?_append_right (by show 3 ≤ _; omega)]
      show (r.flatMap actC)[(i + 1) * 3 + j - 3]? = _
      rw [show (i + 1) * 3 + j - 3 = i * 3 + j by omega, ih i (by simpa using hi)]
      simp
theorem own_tchs {S : Nat → Prop} {w w' : World} {B n s : Nat} {E : TypeId} {v : Value} {xs : List Value} (h : w.ownsRow B E s v n xs) (ht : Tch S w w') (hs : ∀ b, v.ownBlock = some b → ¬ S b) : w'.ownsRow B E s v n xs := by
  refine ⟨h.1, ?_⟩
  rcases h.2 with h2 | ⟨g, cap, cur, hv, hB, hg, r⟩
  · exact .inl h2
  · exact .inr ⟨g, cap, cur, hv, hB, ht.obj hg (hs g (by rw [hv]; rfl)), r⟩
theorem own_lt {w : World} {B n s : Nat} {E : TypeId} {v : Value} {xs : List Value} (h : w.ownsRow B E s v n xs) : ∀ k, v.ownBlock = some k → B ≤ k ∧ k < w.heap.size := by
  intro k hk
  rcases h.2 with ⟨hv, _⟩ | ⟨g, cap, cur, hv, hB, hg, _⟩
  · rw [hv] at hk; cases hk
  · rw [hv] at hk
    have : g = k := by simpa [Value.ownBlock] using hk
    subst this; exact ⟨hB, lt_of_block hg⟩

/-- a number appended: what stood in the row's old block stays -/
theorem keep_of {w w' : World} {B n g cap H : Nat} {v : Value} {xs : List Value} (ty : TypeId) (hown : w.ownsRow B 3 1 v n xs) (ad : Addr) (c : Nat) (z : Value) (hnew : ∀ j u, [z][j]? = some u → w.cell? (ad.add j) = some u) (h1 : z.oneCell' = true) (h63 : n + 1 ≤ maxLen) (hb : (n + 1) * 8 ≤ 140737488355328) (hH : w.heap.size = H)
    (hrun : (Builtin.append_ #[22, 22] ty #[v, .slice (some ad) 1 c]).run Try.prog w = .ok (.slice (some ⟨g, 0, none⟩) (n + 1) cap) w')
    (hown' : w'.ownsRow B 3 1 (.slice (some ⟨g, 0, none⟩) (n + 1) cap) (n + 1) (xs ++ [z])) (hat : v.ownBlock = some g ∨ g = H) :
    ∀ b j, v.ownBlock = some b → j < n → w'.cell? ⟨b, j, none⟩ = w.cell? ⟨b, j, none⟩ := by
  intro b j hvb hj
  obtain ⟨i0, hi, hz0, hz1, hz2⟩ := info_parts infoInt
  have hU := Try.underlying22
  have hxl : xs.length = n := by rw [hown.1, Nat.mul_one]
  rcases hown.2 with ⟨hv, _⟩ | ⟨g0, cap0, cur, hv, hB, hg, hc, hc2, hs, ht⟩
  · rw [hv] at hvb; cases hvb
  · subst hv
    obtain rfl : g0 = b := by simpa [Value.ownBlock] using hvb
    rcases hat with e | e
    · obtain rfl : g0 = g := by simpa [Value.ownBlock] using e
      rw [hown'.cellAt j (by omega), hown.cellAt j (by omega), List.getElem?_append_left (by omega)]
    · by_cases hr : n + 1 ≤ cap0
      · have hcl : cur.size = cap0 := by rw [hs, Nat.mul_one]
        have hrun2 := run_append_room_cells (P := Try.prog) w 22 ty 3 i0 hU hi g0 0 n cap0 ad 1 c [z] (by rw [hz1]; rfl) hnew (by simpa using h1) hr
          (fun k hk => by
            have hk0 : k = 0 := by simpa using hk
            subst hk0
            rw [cell_of_row w g0 _ cur 3 (0, 0) hg, hz1, Array.getElem?_eq_getElem (by omega)]; rfl)
          (fun k hk => frozen_of_row w g0 _ cur 3 hg)
        rw [hrun] at hrun2
        injection hrun2 with e1 e2
        have hlt := lt_of_block hg
        have : g = g0 := by cases e1; rfl
        omega
      · obtain ⟨v', w2, hrun2, -, hgr⟩ := run_append_arg_grows (P := Try.prog) w 22 ty 3 i0 (.int .i64 0) 1 8 hU hi hz0 hz1 hz2 rfl (by decide) ⟨g0, 0, none⟩ n cap0 xs (by rw [hxl, Nat.mul_one])
          (fun j u hu => by
            have hjl : j < xs.length := by
              rcases Nat.lt_or_ge j xs.length with h' | h'
              · exact h'
              · rw [List.getElem?_eq_none h'] at hu; cases hu
            rw [Addr.add_mid, Nat.zero_add, hown.cellAt j (by omega)]; exact hu)
          ad 1 c [z] rfl hnew (by omega) h63 hb
        rw [hrun] at hrun2
        injection hrun2 with e1 e2
        subst e2
        exact World.cell?_of_block (hgr.block g0 (lt_of_block hg) (by simp))

/-- the law of it for the walk -/
theorem wpList_append_keep {ops : Array Oper} {rest : List Oper} {o : Oper} {a : Act} {Q : Exit → Act → World → Prop} (w : World) (hgd : o.guard = none) (s x : Operand)
    (ho : o.op = .call { callee := .builtin .append, args := #[s, x], argTypes := #[22, 22] })
    (B : Nat) (v : Value) (n : Nat) (xs : List Value) (hs : a.eval s = v) (hown : w.ownsRow B 3 1 v n xs) (ad : Addr) (c : Nat) (z : Int) (hx : a.eval x = .slice (some ad) 1 c) (hnew : ∀ j u, [Value.int .i64 z][j]? = some u → w.cell? (ad.add j) = some u)
    (hb : n + 1 ≤ 1000000) (hbase : B ≤ w.heap.size) (H : Nat) (hH : w.heap.size = H)
    (h : ∀ g cap w', w'.ownsRow B 3 1 (.slice (some ⟨g, 0, none⟩) (n + 1) cap) (n + 1) (xs ++ [.int .i64 z]) → w.grownBy w' v.ownBlock → (v.ownBlock = some g ∨ g = H) → (∀ b j, v.ownBlock = some b → j < n → w'.cell? ⟨b, j, none⟩ = w.cell? ⟨b, j, none⟩) → wpList Try.prog ops Q rest (a.put o.dst (.slice (some ⟨g, 0, none⟩) (n + 1) cap)) w') : wpList Try.prog ops Q (o :: rest) a w := by
  refine wpList_plain hgd fun K hK => ?_
  obtain ⟨i0, hi, hz0, hz1, hz2⟩ := info_parts infoInt
  have hU := Try.underlying22
  have h63 : n + 1 ≤ maxLen := by unfold maxLen; omega
  have hby : (n + 1) * 8 ≤ 140737488355328 := by omega
  obtain ⟨g, cap, w', hr, h2, h3, h4, h5⟩ := run_append_lies (P := Try.prog) w 22 o.type B 3 i0 (.int .i64 0) 1 8 hU hi hz0 hz1 hz2 rfl (by decide) v n xs hown ad 1 c [.int .i64 z] rfl hnew (by simp [Value.oneCell']) (by decide) h63 hby hbase H hH
  have hkeep := keep_of o.type hown ad c (.int .i64 z) hnew rfl h63 hby hH hr h2 h4
  unfold Oper.wp execOp
  simp only [ho, resolve, invoke, builtin, Sem.run_bind, Sem.run_pure, Result.andThen_ok, List.map_toArray, List.map_cons, List.map_nil, hs, hx, hr]
  exact hK _ _ (h g cap w' h2 h3 h4 hkeep)
end Go.Proofs.Ytjdbmedealhbjaa
