/- The closed law's rows: acts, spans, orders, each in a row of its own. -/
import Derived.Test.YtfigkoknhiabnaaDoorLo
import Derived.Test.YtfigkoknhiabnaaDoorCb
import Derived.OpenShut
namespace Go.Proofs.YtfigkoknhiabnaaDoor
open Go.RowKit Go.Fm Go.Sm Go.Tx

/-- an act's cells -/
def actC (x : ActV) : List Value := [.int .i64 x.d, .int .i64 x.n, .slice x.p x.l x.c]
theorem acts_length (xs : List ActV) : (xs.flatMap actC).length = xs.length * 3 := by
  induction xs with
  | nil => rfl
  | cons x r ih => rw [List.flatMap_cons, List.length_append, ih, List.length_cons]; show 3 + _ = _; omega
theorem acts_at (xs : List ActV) (i j : Nat) (hi : i < xs.length) (hj : j < 3) : (xs.flatMap actC)[i * 3 + j]? = (actC (xs.getD i default))[j]? := by
  induction xs generalizing i with
  | nil => simp at hi
  | cons x r ih =>
    rw [List.flatMap_cons]
    cases i with
    | zero => rw [List.getElem?_append_left (by show 0 * 3 + j < 3; omega)]; simp
    | succ i =>
      rw [List.getElem?_append_right (by show 3 ≤ _; omega)]
      show (r.flatMap actC)[(i + 1) * 3 + j - 3]? = _
      rw [show (i + 1) * 3 + j - 3 = i * 3 + j by omega, ih i (by simpa using hi)]
      simp

theorem own_tchs {S : Nat → Prop} {w w' : World} {B n s : Nat} {E : TypeId} {v : Value} {xs : List Value} (h : w.ownsRow B E s v n xs) (ht : Tch S w w') (hs : ∀ b, v.ownBlock = some b → ¬ S b) : w'.ownsRow B E s v n xs := by
  refine ⟨h.1, ?_⟩
  rcases h.2 with h2 | ⟨g, cap, cur, hv, hB, hg, r⟩
  · exact .inl h2
  · exact .inr ⟨g, cap, cur, hv, hB, ht.obj hg (hs g (by rw [hv]; rfl)), r⟩
/-- rows that lie apart -/
def Apart (v u : Value) : Prop := ∀ b, v.ownBlock = some b → u.ownBlock ≠ some b
/-- an act whose floats lie in block b -/
structure FOK (x : ActV) (b : Nat) (w : World) : Prop where
  p : x.p = some ⟨b, 0, none⟩
  l : x.l = x.fs.length
  l3 : x.l ≤ 3
  wd : (Lit.int .i64 x.d).wf = true
  wn : (Lit.int .i64 x.n).wf = true
  fc : ∀ j, j < x.fs.length → w.cell? ⟨b, j, none⟩ = some (.float .f64 (x.fs.getD j 0))
  lt : b < w.heap.size
theorem FOK.tch {S : Nat → Prop} {x : ActV} {b : Nat} {w w' : World} (h : FOK x b w) (ht : Tch S w w') (hs : ¬ S b) : FOK x b w' :=
  ⟨h.p, h.l, h.l3, h.wd, h.wn, fun j hj => ht.cell (h.fc j hj) hs, Nat.lt_of_lt_of_le h.lt ht.size⟩

/-- the three rows of a round -/
structure KSt (W : World) (xs : List ActV) (ss os : List Int) (vl vs vo : Value) (w : World) : Prop where
  l : w.ownsRow W.heap.size 39 3 vl xs.length (xs.flatMap actC)
  s : w.ownsRow W.heap.size 2 1 vs ss.length (ss.map (Value.int .i64))
  o : w.ownsRow W.heap.size 3 1 vo os.length (os.map (Value.int .i64))
  ls : Apart vl vs
  lo : Apart vl vo
  so : Apart vs vo
  fl : ∀ x ∈ xs, ∃ b, FOK x b w ∧ vl.ownBlock ≠ some b ∧ vs.ownBlock ≠ some b ∧ vo.ownBlock ≠ some b
  bel : Below W.heap.size W w
theorem KSt.nil (W w : World) (h : Below W.heap.size W w) : KSt W [] [] [] (.slice none 0 0) (.slice none 0 0) (.slice none 0 0) w :=
  ⟨World.ownsRow_nil _ _ _ _, World.ownsRow_nil _ _ _ _, World.ownsRow_nil _ _ _ _, (fun b e => by cases e), (fun b e => by cases e), (fun b e => by cases e), (fun x hx => by cases hx), h⟩
theorem KSt.on {W w w' : World} {xs : List ActV} {ss os : List Int} {vl vs vo : Value} (h : KSt W xs ss os vl vs vo w) (hb : Below w.heap.size w w') : KSt W xs ss os vl vs vo w' :=
  have ht : Tch (fun _ => False) w w' := .of _ hb
  ⟨own_tchs h.l ht (fun _ _ e => e), own_tchs h.s ht (fun _ _ e => e), own_tchs h.o ht (fun _ _ e => e), h.ls, h.lo, h.so, (fun x hx => by obtain ⟨b, h1, h2⟩ := h.fl x hx; exact ⟨b, h1.tch ht (fun e => e), h2⟩), h.bel.trans (hb.mono h.bel.size)⟩

theorem KSt.pushL {W w w' : World} {xs : List ActV} {ss os : List Int} {vl vs vo : Value} (h : KSt W xs ss os vl vs vo w) (x : ActV) (b : Nat) (hx : FOK x b w) (hbl : vl.ownBlock ≠ some b) (hbs : vs.ownBlock ≠ some b) (hbo : vo.ownBlock ≠ some b) (g cap : Nat)
    (hown : w'.ownsRow W.heap.size 39 3 (.slice (some ⟨g, 0, none⟩) (xs.length + 1) cap) (xs.length + 1) (xs.flatMap actC ++ actC x)) (hg : w.grownBy w' vl.ownBlock) (hat : vl.ownBlock = some g ∨ g = w.heap.size) : KSt W (xs ++ [x]) ss os (.slice (some ⟨g, 0, none⟩) (xs.length + 1) cap) vs vo w' := by
  have ht := Tch.grown hg
  have new {u : Value} {B E n s : Nat} {ys : List Value} (hu : w.ownsRow B E s u n ys) (ha : Apart vl u) : Apart (.slice (some ⟨g, 0, none⟩) (xs.length + 1) cap) u := fun b' e => by
    cases e
    rcases hat with e | e
    · exact ha g e
    · intro e2; have := (hu.lt g e2).2; omega
  refine ⟨?_, own_tchs h.s ht (fun b' e e2 => h.ls b' e2 e), own_tchs h.o ht (fun b' e e2 => h.lo b' e2 e), new h.s h.ls, new h.o h.lo, h.so, ?_, h.bel.trans (ht.below h.bel.size (fun k e => (h.l.lt k e).1))⟩
  · rw [List.length_append, List.flatMap_append]
    simpa using hown
  · intro y hy
    have gb {b' : Nat} (h1 : b' < w.heap.size) (h2 : vl.ownBlock ≠ some b') : (Value.slice (some ⟨g, 0, none⟩) (xs.length + 1) cap).ownBlock ≠ some b' := fun e => by
      cases e
      rcases hat with e | e
      · exact h2 e
      · have h1' : g < w.heap.size := h1
        omega
    rcases List.mem_append.1 hy with hy | hy
    · obtain ⟨b', h1, h2, h3⟩ := h.fl y hy
      exact ⟨b', h1.tch ht h2, gb h1.lt h2, h3⟩
    · obtain rfl : y = x := by simpa using hy
      exact ⟨b, hx.tch ht hbl, gb hx.lt hbl, hbs, hbo⟩
theorem KSt.pushS {W w w' : World} {xs : List ActV} {ss os : List Int} {vl vs vo : Value} (h : KSt W xs ss os vl vs vo w) (z : Int) (g cap : Nat)
    (hown : w'.ownsRow W.heap.size 2 1 (.slice (some ⟨g, 0, none⟩) (ss.length + 1) cap) (ss.length + 1) (ss.map (Value.int .i64) ++ [.int .i64 z])) (hg : w.grownBy w' vs.ownBlock) (hat : vs.ownBlock = some g ∨ g = w.heap.size) : KSt W xs (ss ++ [z]) os vl (.slice (some ⟨g, 0, none⟩) (ss.length + 1) cap) vo w' := by
  have ht := Tch.grown hg
  have old {b' : Nat} {u : Value} (h1 : u.ownBlock = some b') (h0 : b' < w.heap.size) (h2 : vs.ownBlock ≠ some b') : (Value.slice (some ⟨g, 0, none⟩) (ss.length + 1) cap).ownBlock ≠ some b' := fun e => by
    cases e
    rcases hat with e | e
    · exact h2 e
    · have h0' : g < w.heap.size := h0
      omega
  refine ⟨own_tchs h.l ht (fun b' e e2 => h.ls b' e e2), ?_, own_tchs h.o ht (fun b' e e2 => h.so b' e2 e), (fun b' e => old e (h.l.lt b' e).2 (h.ls b' e)), h.lo, ?_, ?_, h.bel.trans (ht.below h.bel.size (fun k e => (h.s.lt k e).1))⟩
  · rw [List.length_append, List.map_append]; exact hown
  · intro b' e
    cases e
    rcases hat with e | e
    · exact h.so g e
    · intro e2; have := (h.o.lt g e2).2; omega
  · intro y hy
    obtain ⟨b', h1, h2, h3, h4⟩ := h.fl y hy
    refine ⟨b', h1.tch ht h3, h2, fun e => ?_, h4⟩
    cases e
    rcases hat with e | e
    · exact h3 e
    · have h1' : g < w.heap.size := h1.lt
      omega
theorem KSt.pushO {W w w' : World} {xs : List ActV} {ss os : List Int} {vl vs vo : Value} (h : KSt W xs ss os vl vs vo w) (z : Int) (g cap : Nat)
    (hown : w'.ownsRow W.heap.size 3 1 (.slice (some ⟨g, 0, none⟩) (os.length + 1) cap) (os.length + 1) (os.map (Value.int .i64) ++ [.int .i64 z])) (hg : w.grownBy w' vo.ownBlock) (hat : vo.ownBlock = some g ∨ g = w.heap.size) : KSt W xs ss (os ++ [z]) vl vs (.slice (some ⟨g, 0, none⟩) (os.length + 1) cap) w' := by
  have ht := Tch.grown hg
  have old {b' : Nat} (h0 : b' < w.heap.size) (h2 : vo.ownBlock ≠ some b') : (Value.slice (some ⟨g, 0, none⟩) (os.length + 1) cap).ownBlock ≠ some b' := fun e => by
    cases e
    rcases hat with e | e
    · exact h2 e
    · have h0' : g < w.heap.size := h0
      omega
  refine ⟨own_tchs h.l ht (fun b' e e2 => h.lo b' e e2), own_tchs h.s ht (fun b' e e2 => h.so b' e e2), ?_, h.ls, (fun b' e => old (h.l.lt b' e).2 (h.lo b' e)), (fun b' e => old (h.s.lt b' e).2 (h.so b' e)), ?_, h.bel.trans (ht.below h.bel.size (fun k e => (h.o.lt k e).1))⟩
  · rw [List.length_append, List.map_append]; exact hown
  · intro y hy
    obtain ⟨b', h1, h2, h3, h4⟩ := h.fl y hy
    exact ⟨b', h1.tch ht h4, h2, h3, old h1.lt h4⟩

/-- the acts, as the law is handed them -/
theorem KSt.acts {W w : World} {xs : List ActV} {ss os : List Int} {vl vs vo : Value} (h : KSt W xs ss os vl vs vo w) (hx : xs.length ≤ 1000) : ∃ p c, vl = .slice p xs.length c ∧ IsActs w p xs.length c xs := by
  rcases Joins.ownsRow_forms h.l with ⟨hv, hz⟩ | ⟨g, cap, hv⟩
  · exact ⟨none, 0, by rw [hv, hz], rfl, by unfold maxLen; omega, fun _ => rfl, fun i hi => by omega⟩
  · subst hv
    refine ⟨_, cap, rfl, rfl, by unfold maxLen; omega, (fun e => by cases e), fun i hi => ⟨g, 0, rfl, ?_⟩⟩
    have hm : xs.getD i default ∈ xs := by simp [List.getD, hi]
    obtain ⟨b, h1, -⟩ := h.fl _ hm
    have at_ (j : Nat) (hj : j < 3) : w.cell? ⟨g, 0 + i * 3 + j, none⟩ = (actC (xs.getD i default))[j]? := by
      rw [Nat.zero_add, h.l.cellAt (i * 3 + j) (by omega), acts_at xs i j hi hj]
    exact ⟨at_ 0 (by decide), at_ 1 (by decide), at_ 2 (by decide), h1.wd, h1.wn, h1.l, by have := h1.l3; unfold maxLen; omega, (fun e => by rw [h1.p] at e; cases e), fun j hj => ⟨b, 0, h1.p, by rw [Nat.zero_add]; exact h1.fc j hj⟩⟩
theorem shl_ex (z : Int) (sh : Nat) : ∃ v : Int, (Lit.int .i64 v).wf = true ∧ ∀ w, (Op.shift .shl .i64 z .i64 (sh : Int)).run Tryd.prog w = .ok (.int .i64 v) w := by
  refine ⟨IntKind.i64.wrap (z * 2 ^ min ((sh : Int)).toNat IntKind.i64.bits), wf_wrap _ _, fun w => ?_⟩
  unfold Op.shift
  rw [if_neg (by omega)]
  rfl
end Go.Proofs.YtfigkoknhiabnaaDoor
