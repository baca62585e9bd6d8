/- A round of the laws' loop over calls (layer 6); the documents' Accesses. -/
import Derived.Test.YtnakaifnalojeaaLc
namespace Go.Proofs.Ytnakaifnalojeaa
open Go.RowKit Go.Ce

/-- calls one behind the other -/
def runM (m : PM) (l : List Acc) : PM := l.foldl (fun m x => m.go x.k x.a x.o x.n) m
def runX (N : Int) (xs l : List Acc) : List Acc := l.foldl (fun xs x => doL N xs x.k x.a x.o x.n) xs
theorem run_take (m : PM) (l : List Acc) (i : Nat) (hi : i < l.length) : runM m (l.take (i + 1)) = (runM m (l.take i)).go (l.getD i default).k (l.getD i default).a (l.getD i default).o (l.getD i default).n := by
  have h1 : l.take (i + 1) = l.take i ++ [l.getD i default] := by
    rw [List.take_succ_eq_append_getElem hi]; simp [List.getD, hi]
  rw [h1]; unfold runM; rw [List.foldl_append]; rfl
theorem runX_take (N : Int) (xs l : List Acc) (i : Nat) (hi : i < l.length) : runX N xs (l.take (i + 1)) = doL N (runX N xs (l.take i)) (l.getD i default).k (l.getD i default).a (l.getD i default).o (l.getD i default).n := by
  have h1 : l.take (i + 1) = l.take i ++ [l.getD i default] := by
    rw [List.take_succ_eq_append_getElem hi]; simp [List.getD, hi]
  rw [h1]; unfold runX; rw [List.foldl_append]; rfl
theorem runX_len (N : Int) (xs l : List Acc) : (runX N xs l).length ≤ xs.length + l.length := by
  induction l generalizing xs with
  | nil => simp [runX]
  | cons x r ih =>
    have h1 := ih (doL N xs x.k x.a x.o x.n)
    have h2 := doL_len N xs x.k x.a x.o x.n
    show (runX N (doL N xs x.k x.a x.o x.n) r).length ≤ _
    rw [List.length_cons]; omega
theorem run_tied {N : Nat} (l : List Acc) : ∀ {m : PM} {xs : List Acc}, Tied m N xs → Tied (runM m l) N (runX N xs l) := by
  induction l with
  | nil => intro m xs h; exact h
  | cons x r ih => intro m xs h; exact ih (h.go x.k x.a x.o x.n)

/-- the law's variables: the memory, the reference's row in the box br, calls that came in -/
structure Rd (w0 W : World) (b g br : Nat) (m : PM) (N : Nat) (p : Option Addr) (l c : Nat) (xs : List Acc) : Prop where
  pr : Pair W b g m N p l c xs
  box : Row br 29 [.int .i64 N, .slice p l c] W
  bel : Below w0.heap.size w0 W
  hb : w0.heap.size ≤ b
  hg : w0.heap.size ≤ g
  hr : w0.heap.size ≤ br
theorem Rd.on {w0 W W' : World} {b g br : Nat} {m : PM} {N : Nat} {p : Option Addr} {l c : Nat} {xs : List Acc} (h : Rd w0 W b g br m N p l c xs) (hb : Below W.heap.size W W') : Rd w0 W' b g br m N p l c xs :=
  ⟨h.pr.on hb, h.box.on' hb, h.bel.trans (hb.mono h.bel.size), h.hb, h.hg, h.hr⟩
theorem Rd.ne {w0 W : World} {b g br : Nat} {m : PM} {N : Nat} {p : Option Addr} {l c : Nat} {xs : List Acc} (h : Rd w0 W b g br m N p l c xs) : ¬ Own b g br := by
  obtain ⟨c1, hr, _⟩ := h.pr.mem.blk
  obtain ⟨r, hg⟩ := h.pr.mem.cel
  have hb := h.box
  unfold Row at hr hg hb
  rintro (e | e)
  · subst e; rw [hb] at hr; simp at hr
  · subst e; rw [hb] at hg; simp at hg
/-- six cells that a round reads -/
def K6 (br ab ao : Nat) (N : Nat) (p : Option Addr) (l c : Nat) (x : Acc) (w : World) : Prop :=
  w.cell? ⟨br, 0, none⟩ = some (.int .i64 N) ∧ w.cell? ⟨br, 1, none⟩ = some (.slice p l c) ∧ w.cell? ⟨ab, ao, none⟩ = some (.int .i64 x.k) ∧ w.cell? ⟨ab, ao + 1, none⟩ = some (.int .i64 x.a) ∧ w.cell? ⟨ab, ao + 2, none⟩ = some (.int .u64 x.o) ∧ w.cell? ⟨ab, ao + 3, none⟩ = some (.int .u64 x.n)
section
variable {br ab ao : Nat} {N : Nat} {p : Option Addr} {l c : Nat} {x : Acc} {w w' : World}
theorem K6.tch {S : Nat → Prop} (h : K6 br ab ao N p l c x w) (ht : Tch S w w') (h1 : ¬ S br) (h2 : ¬ S ab) : K6 br ab ao N p l c x w' :=
  ⟨ht.cell h.1 h1, ht.cell h.2.1 h1, ht.cell h.2.2.1 h2, ht.cell h.2.2.2.1 h2, ht.cell h.2.2.2.2.1 h2, ht.cell h.2.2.2.2.2 h2⟩
theorem K6.on (h : K6 br ab ao N p l c x w) (hb : Below w.heap.size w w') : K6 br ab ao N p l c x w' := h.tch (S := fun _ => False) (.of _ hb) id id
theorem K6.alloc (h : K6 br ab ao N p l c x w) (o : Obj) : K6 br ab ao N p l c x (w.alloc o) := h.on ((Below.refl _ _).alloc (Nat.le_refl _) o)
theorem K6.drew (h : K6 br ab ao N p l c x w) : K6 br ab ao N p l c x w.drew := h.on (Below.refl _ _).drew
theorem K6.set2 {tb : Nat} (h : K6 br ab ao N p l c x w) (h1 : br ≠ tb) (h2 : ab ≠ tb) (u v : Value) : K6 br ab ao N p l c x ((w.setCell ⟨tb, 0, none⟩ u).setCell ⟨tb, 1, none⟩ v) :=
  h.tch (S := fun j => j = tb) (((Tch.refl (fun j => j = tb) w).setCell (p := ⟨tb, 0, none⟩) (.inl rfl) u).setCell (p := ⟨tb, 1, none⟩) (.inl rfl) v) h1 h2
end
/-- behind a round's region: the new row in the box tb -/
structure Rf (w0 W : World) (b g br tb : Nat) (m : PM) (N : Nat) (p q : Option Addr) (l c l2 c2 : Nat) (xs : List Acc) : Prop where
  pr : Pair W b g m N q l2 c2 xs
  box : Row br 29 [.int .i64 N, .slice p l c] W
  res : Row tb 29 [.int .i64 N, .slice q l2 c2] W
  bel : Below w0.heap.size w0 W
  hb : w0.heap.size ≤ b
  hg : w0.heap.size ≤ g
  hr : w0.heap.size ≤ br
  ne : ¬ Own b g br
  tr : tb ≠ br
/-- the new row's name is laid into the box -/
theorem Rf.put {w0 W : World} {b g br tb : Nat} {m : PM} {N : Nat} {p q : Option Addr} {l c l2 c2 : Nat} {xs : List Acc} (h : Rf w0 W b g br tb m N p q l c l2 c2 xs) :
    Rd w0 ((W.setCell ⟨br, 0, none⟩ (.int .i64 N)).setCell ⟨br, 1, none⟩ (.slice q l2 c2)) b g br m N q l2 c2 xs := by
  have t1 : Tch (fun j => j = br) W ((W.setCell ⟨br, 0, none⟩ (.int .i64 N)).setCell ⟨br, 1, none⟩ (.slice q l2 c2)) := ((Tch.refl (fun j => j = br) W).setCell (p := ⟨br, 0, none⟩) (.inl rfl) _).setCell (p := ⟨br, 1, none⟩) (.inl rfl) _
  refine ⟨⟨h.pr.mem.tch t1 (fun e => h.ne (.inl e.symm)) (fun e => h.ne (.inr e.symm)), h.pr.tie, (h.pr.bk.put h.box (by simp) _).put (h.box.set 0 (.int .i64 N)) (by simp) _⟩, h.box.put2 _ _, ?_, h.hb, h.hg, h.hr⟩
  exact (h.bel.setCell (p := ⟨br, 0, none⟩) h.hr _).setCell (p := ⟨br, 1, none⟩) h.hr _
/-- does, behind whatever was made ahead of it -/
def DPost (w0 wr w2 : World) (b g br : Nat) (m : PM) (N : Nat) (p : Option Addr) (l c : Nat) (xs : List Acc) (ab ao : Nat) (x : Acc) (e : Ending) (w' : World) : Prop :=
  ∃ q l2 c2, e = .returned (.tuple #[.agg #[.int .i64 N, .slice q l2 c2], .bool true]) ∧ K6 br ab ao N p l c x w' ∧ Tch (Own b g) w2 w' ∧ Pair w' b g (m.go x.k x.a x.o x.n) N q l2 c2 (doL N xs x.k x.a x.o x.n) ∧ Row br 29 [.int .i64 N, .slice p l c] w' ∧ Below w0.heap.size w0 w'
theorem does_round {w0 wr : World} {b g br : Nat} {m : PM} {N : Nat} {p : Option Addr} {l c : Nat} {xs : List Acc} {ab ao : Nat} {x : Acc} (h : Rd w0 wr b g br m N p l c xs) (hk : K6 br ab ao N p l c x wr) (hab : ab < w0.heap.size) (hl : l + 1 ≤ 1000000) (hf : m.k.ops + 1 ≤ 1000000000000) (w2 : World) (hb : Below wr.heap.size wr w2) :
    Calls Try.prog 13 #[.pointer (some ⟨b, 0, none⟩), .agg #[.int .i64 N, .slice p l c], .agg #[.int .i64 x.k, .int .i64 x.a, .int .u64 x.o, .int .u64 x.n]] w2 (DPost w0 wr w2 b g br m N p l c xs ab ao x) := by
  have h2 := h.on hb
  have hown : ¬ Own b g ab := fun e => by have := h.hb; have := h.hg; rcases e with e | e <;> omega
  refine (does_any x.k x.a x.o x.n w2 h2.pr hl hf).mono ?_
  rintro e w' ⟨q, l2, c2, rfl, hp, ht⟩
  exact ⟨q, l2, c2, rfl, (hk.on hb).tch ht h.ne hown, ht, hp, h2.box.tch ht h.ne, h2.bel.trans (ht.below h2.bel.size (fun k hk => by have := h.hb; have := h.hg; rcases hk with hk | hk <;> omega))⟩
/-- the box is made behind it -/
theorem rf_after {w0 wr w2 w3 : World} {b g br : Nat} {m : PM} {N : Nat} {p q : Option Addr} {l c l2 c2 : Nat} {xs : List Acc} (hp : Pair w3 b g m N q l2 c2 xs) (hr : Row br 29 [.int .i64 N, .slice p l c] w3) (hb : Below w0.heap.size w0 w3) (h : w0.heap.size ≤ b ∧ w0.heap.size ≤ g ∧ w0.heap.size ≤ br ∧ ¬ Own b g br) :
    Rf w0 (w3.alloc (.cells #[.int .i64 N, .slice q l2 c2] 29)) b g br w3.heap.size m N p q l c l2 c2 xs := by
  have b1 := (Below.refl w3.heap.size w3).alloc (Nat.le_refl _) (.cells #[.int .i64 N, .slice q l2 c2] 29)
  have := hr.lt
  exact ⟨hp.on b1, hr.on' b1, Row.new w3 _ [.int .i64 N, .slice q l2 c2], hb.trans (b1.mono hb.size), h.1, h.2.1, h.2.2.1, h.2.2.2, by omega⟩
/-- the box was made ahead of it -/
theorem rf_ahead {w0 wr w3 : World} {b g br tb : Nat} {m : PM} {N : Nat} {p q : Option Addr} {l c l2 c2 : Nat} {xs : List Acc} {u v : Value} (hp : Pair w3 b g m N q l2 c2 xs) (hr : Row br 29 [.int .i64 N, .slice p l c] w3) (hb : Below w0.heap.size w0 w3) (h : w0.heap.size ≤ b ∧ w0.heap.size ≤ g ∧ w0.heap.size ≤ br ∧ ¬ Own b g br) (htb : Row tb 29 [u, v] w3) (hne : tb ≠ br ∧ ¬ Own b g tb) (hge : w0.heap.size ≤ tb) :
    Rf w0 ((w3.setCell ⟨tb, 0, none⟩ (.int .i64 N)).setCell ⟨tb, 1, none⟩ (.slice q l2 c2)) b g br tb m N p q l c l2 c2 xs := by
  have t1 : Tch (fun j => j = tb) w3 ((w3.setCell ⟨tb, 0, none⟩ (.int .i64 N)).setCell ⟨tb, 1, none⟩ (.slice q l2 c2)) := ((Tch.refl (fun j => j = tb) w3).setCell (p := ⟨tb, 0, none⟩) (.inl rfl) _).setCell (p := ⟨tb, 1, none⟩) (.inl rfl) _
  refine ⟨⟨hp.mem.tch t1 (fun e => hne.2 (.inl e.symm)) (fun e => hne.2 (.inr e.symm)), hp.tie, (hp.bk.put htb (by simp) _).put (htb.set 0 (.int .i64 N)) (by simp) _⟩, hr.tch t1 (fun e => hne.1 e.symm), htb.put2 _ _, ?_, h.1, h.2.1, h.2.2.1, h.2.2.2, hne.1⟩
  exact (hb.setCell (p := ⟨tb, 0, none⟩) hge _).setCell (p := ⟨tb, 1, none⟩) hge _
end Go.Proofs.Ytnakaifnalojeaa
