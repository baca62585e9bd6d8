/- A memory as it lies: its accesses. -/
import Derived.Test.YtkhfanhboooilaaBb
import Derived.Test.YtkhfanhboooilaaBa
import Derived.WalkSpells
import Derived.WalkLawsBesides
import Derived.Laws.OwnMore
import Derived.Laws.Pointers
import Derived.BigQuiet
import Derived.LoopTactic
import Derived.Deep.QuietTactic
import Derived.Deep.WholeRow
import Derived.Deep.RegionWith
import Derived.BigRegion
set_option linter.unusedSimpArgs false
set_option linter.unusedVariables false
/- Rows of accesses in memory; the reference's NewBook, At, Swapped, Log (layer 6), walked. -/
namespace Go.Proofs.Ytkhfanhboooilaa
open Go.RowKit Go.Ce

/-- an access's cells -/
def accC (x : Acc) : List Value := [.int .i64 x.k, .int .i64 x.a, .int .u64 x.o, .int .u64 x.n]
def accG (x : Acc) : Value := .agg #[.int .i64 x.k, .int .i64 x.a, .int .u64 x.o, .int .u64 x.n]
theorem accs_length (xs : List Acc) : (xs.flatMap accC).length = xs.length * 4 := by
  induction xs with
  | nil => rfl
  | cons x r ih => rw [List.flatMap_cons, List.length_append, ih, List.length_cons]; show 4 + _ = _; omega
theorem accs_at (xs : List Acc) (i j : Nat) (hi : i < xs.length) (hj : j < 4) : (xs.flatMap accC)[i * 4 + j]? = (accC (xs.getD i default))[j]? := by
  induction xs generalizing i with
  | nil => simp at hi
  | cons x r ih =>
    rw [List.flatMap_cons]
    cases i with
    | zero => rw [List.getElem?_append_left (by show 0 * 4 + j < 4; omega)]; simp
    | succ i =>
      rw [List.getElem?_append_right (by show 4 ≤ _; omega)]
      show (r.flatMap accC)[(i + 1) * 4 + j - 4]? = _
      rw [show (i + 1) * 4 + j - 4 = i * 4 + j by omega, ih i (by simpa using hi)]
      simp
theorem accs_one (xs : List Acc) : ∀ u ∈ xs.flatMap accC, u.oneCell' = true := by
  intro u hu
  obtain ⟨x, _, hu⟩ := List.mem_flatMap.1 hu
  simp [accC] at hu
  rcases hu with rfl | rfl | rfl | rfl <;> rfl
/-- accesses, as they lie -/
structure LiesA (w : World) (p : Option Addr) (xs : List Acc) : Prop where
  cells : ∀ i, i < xs.length → ∃ b o, p = some ⟨b, o, none⟩ ∧ ∀ j, j < 4 → w.cell? ⟨b, o + i * 4 + j, none⟩ = (accC (xs.getD i default))[j]?
theorem LiesA.on {w w' : World} {p : Option Addr} {xs : List Acc} (h : LiesA w p xs) (hb : Below w.heap.size w w') : LiesA w' p xs :=
  ⟨fun i hi => by
    obtain ⟨b, o, hp, hc⟩ := h.cells i hi
    have h0 : w.cell? ⟨b, o + i * 4 + 0, none⟩ = some (.int .i64 (xs.getD i default).k) := hc 0 (by decide)
    have hlt : b < w.heap.size := block_lt_of_cell h0
    exact ⟨b, o, hp, fun j hj => by rw [hb.cell (p := ⟨b, o + i * 4 + j, none⟩) hlt]; exact hc j hj⟩⟩
theorem LiesA.at {w : World} {p : Option Addr} {xs : List Acc} (h : LiesA w p xs) {i : Nat} (hi : i < xs.length) : ∃ b o, p = some ⟨b, o, none⟩ ∧ w.cell? ⟨b, o + i * 4, none⟩ = some (.int .i64 (xs.getD i default).k) ∧ w.cell? ⟨b, o + i * 4 + 1, none⟩ = some (.int .i64 (xs.getD i default).a) ∧ w.cell? ⟨b, o + i * 4 + 2, none⟩ = some (.int .u64 (xs.getD i default).o) ∧ w.cell? ⟨b, o + i * 4 + 3, none⟩ = some (.int .u64 (xs.getD i default).n) := by
  obtain ⟨b, o, hp, hc⟩ := h.cells i hi
  exact ⟨b, o, hp, hc 0 (by decide), hc 1 (by decide), hc 2 (by decide), hc 3 (by decide)⟩
theorem LiesA.nil (w : World) (p : Option Addr) : LiesA w p [] := ⟨fun i hi => absurd hi (Nat.not_lt_zero _)⟩
/-- how many cells a new memory has -/
def nN (n : Int) : Int := max 0 (min n 65536)
theorem nN_bd (n : Int) : 0 ≤ nN n ∧ nN n ≤ 65536 := by unfold nN; omega
/-- the log: the last 256 -/
theorem LiesA.drop {w : World} {b o : Nat} {xs : List Acc} (h : LiesA w (some ⟨b, o, none⟩) xs) (d : Nat) : LiesA w (some ⟨b, o + d * 4, none⟩) (xs.drop d) := by
  refine ⟨fun i hi => ?_⟩
  rw [List.length_drop] at hi
  obtain ⟨b', o', e, hc⟩ := h.cells (d + i) (by omega)
  cases e
  refine ⟨b, o + d * 4, rfl, fun j hj => ?_⟩
  rw [show o + d * 4 + i * 4 + j = o + (d + i) * 4 + j by omega, hc j hj]
  simp [List.getD, List.getElem?_drop]
end Go.Proofs.Ytkhfanhboooilaa

/- A memory as it lies (the code's, layer 6); what is asked of it: row, Len, has, ops, Ops, Count, Last. -/
namespace Go.Proofs.Ytkhfanhboooilaa
open Go.RowKit Go.Ce

/-- the memory's cells -/
def memV (k : Cnt) (g n c : Nat) (L : List Acc) : List Value :=
  .int .u64 k.l :: .int .u64 k.s :: .int .u64 k.w :: .int .u64 k.f :: .int .u64 k.a :: .slice (some ⟨g, 0, none⟩) n c :: L.flatMap accC
/-- a memory at b, its cells at g -/
structure MemIs (w : World) (b g : Nat) (m : PM) : Prop where
  blk : ∃ c, Row b 119 (memV m.k g m.cs.length c m.L) w ∧ m.cs.length ≤ c ∧ c ≤ maxLen
  cel : ∃ rest, Row g 29 (m.cs.map (Value.int .u64) ++ rest) w
  ne : b ≠ g
  ll : m.L.length = 256
  few : m.k.ops ≤ 1000000000000
  short : m.cs.length ≤ 65536
theorem MemIs.lt {w : World} {b g : Nat} {m : PM} (h : MemIs w b g m) : b < w.heap.size ∧ g < w.heap.size := by
  obtain ⟨c, hr, _⟩ := h.blk
  obtain ⟨r, hg⟩ := h.cel
  exact ⟨hr.lt, hg.lt⟩
theorem MemIs.tch {S : Nat → Prop} {w w' : World} {b g : Nat} {m : PM} (h : MemIs w b g m) (ht : Tch S w w') (hb : ¬ S b) (hg : ¬ S g) : MemIs w' b g m := by
  obtain ⟨c, hr, hc⟩ := h.blk
  obtain ⟨r, hr2⟩ := h.cel
  exact ⟨⟨c, hr.tch ht hb, hc⟩, ⟨r, hr2.tch ht hg⟩, h.ne, h.ll, h.few, h.short⟩
theorem MemIs.on {w w' : World} {b g : Nat} {m : PM} (h : MemIs w b g m) (hb : Below w.heap.size w w') : MemIs w' b g m := h.tch (S := fun _ => False) (.of _ hb) id id

theorem row_any {b g : Nat} {m : PM} {w : World} (h : MemIs w b g m) : ∃ c, m.cs.length ≤ c ∧ c ≤ maxLen ∧ Calls Try.prog 107 #[.pointer (some ⟨b, 0, none⟩)] w (Ans (.slice (some ⟨g, 0, none⟩) m.cs.length c) w) := by
  obtain ⟨c, hr, hc, hc2⟩ := h.blk
  refine ⟨c, hc, hc2, ?_⟩
  have c5 : w.cell? ⟨b, 5, none⟩ = some (.slice (some ⟨g, 0, none⟩) m.cs.length c) := hr.cell 5
  clear h hr
  go_enter Try.func107, Try.ntmps107
  go_wp2
  go_ret
  exact ⟨rfl, .refl _ _⟩
theorem row_nil (w : World) : Calls Try.prog 107 #[.pointer none] w (Ans (.slice none 0 0) w) := by
  go_enter Try.func107, Try.ntmps107
  go_wp2
  go_ret
  exact ⟨rfl, .refl _ _⟩
theorem len_any {b g : Nat} {m : PM} {w : World} (h : MemIs w b g m) : Calls Try.prog 70 #[.pointer (some ⟨b, 0, none⟩)] w (Ans (.int .i64 m.cs.length) w) := by
  obtain ⟨c, hc, hc2, hrow⟩ := row_any h
  clear h
  go_enter Try.func70, Try.ntmps70
  go_wp2_with fail
  refine hrow.mono ?_
  rintro e w1 ⟨rfl, hb⟩
  go_wp2
  go_ret
  exact ⟨rfl, hb⟩
theorem len_nil (w : World) : Calls Try.prog 70 #[.pointer none] w (Ans (.int .i64 0) w) := by
  go_enter Try.func70, Try.ntmps70
  go_wp2_with fail
  refine (row_nil _).mono ?_
  rintro e w1 ⟨rfl, hb⟩
  go_wp2
  go_ret
  exact ⟨rfl, hb⟩
theorem has_any {b g : Nat} {m : PM} {w : World} (h : MemIs w b g m) (a : Int) : Calls Try.prog 122 #[.pointer (some ⟨b, 0, none⟩), .int .i64 a] w (Ans (.bool (decide (m.Has a))) w) := by
  by_cases h0 : 0 ≤ a
  · have e : decide (m.Has a) = decide (a < (m.cs.length : Int)) := by unfold PM.Has; simp [h0]
    rw [e]
    have hl := len_any h
    clear h e
    go_enter Try.func122, Try.ntmps122
    go_wp2_with fail
    refine hl.mono ?_
    rintro e w1 ⟨rfl, hb⟩
    go_wp2
    go_ret
    exact ⟨rfl, hb⟩
  · have e : decide (m.Has a) = false := by unfold PM.Has; simp [h0]
    rw [e]
    clear h e
    have h0' : a < 0 := by omega
    have h0'' : decide (0 ≤ a) = false := decide_eq_false h0
    clear h0
    go_enter Try.func122, Try.ntmps122
    go_wp2
    go_ret
    exact ⟨rfl, .refl _ _⟩
theorem has_nil (w : World) (a : Int) : Calls Try.prog 122 #[.pointer none, .int .i64 a] w (Ans (.bool false) w) := by
  by_cases h0 : 0 ≤ a
  · have h1 : ¬ a < 0 := by omega
    have h2 : decide (a < 0) = false := decide_eq_false h1
    go_enter Try.func122, Try.ntmps122
    go_wp2_with fail
    refine (len_nil _).mono ?_
    rintro e w1 ⟨rfl, hb⟩
    go_wp2
    go_ret
    exact ⟨rfl, hb⟩
  · have h0' : a < 0 := by omega
    clear h0
    go_enter Try.func122, Try.ntmps122
    go_wp2
    go_ret
    exact ⟨rfl, .refl _ _⟩
theorem cops_any {b g n c : Nat} {k : Cnt} {L : List Acc} {w : World} (hr : Row b 119 (memV k g n c L) w) (hf : k.ops ≤ 1000000000000) : Calls Try.prog 73 #[.pointer (some ⟨b, 0, none⟩)] w (Ans (.int .u64 k.ops) w) := by
  have c0 : w.cell? ⟨b, 0, none⟩ = some (.int .u64 k.l) := hr.cell 0
  have c1 : w.cell? ⟨b, 1, none⟩ = some (.int .u64 k.s) := hr.cell 1
  have c2 : w.cell? ⟨b, 2, none⟩ = some (.int .u64 k.w) := hr.cell 2
  have c3 : w.cell? ⟨b, 3, none⟩ = some (.int .u64 k.f) := hr.cell 3
  have c4 : w.cell? ⟨b, 4, none⟩ = some (.int .u64 k.a) := hr.cell 4
  clear hr
  obtain ⟨k0, k1, k2, k3, k4⟩ := k
  simp only [Cnt.ops] at hf ⊢ c0 c1 c2 c3 c4
  have hw1 : IntKind.u64.wrap ((k0 : Int) + k1) = (k0 : Int) + k1 := IntWalk.u64_in _ (by omega)
  have hw2 : IntKind.u64.wrap ((k0 : Int) + k1 + k2) = (k0 : Int) + k1 + k2 := IntWalk.u64_in _ (by omega)
  have hw3 : IntKind.u64.wrap ((k0 : Int) + k1 + k2 + k3) = (k0 : Int) + k1 + k2 + k3 := IntWalk.u64_in _ (by omega)
  have hw4 : IntKind.u64.wrap ((k0 : Int) + k1 + k2 + k3 + k4) = (k0 : Int) + k1 + k2 + k3 + k4 := IntWalk.u64_in _ (by omega)
  have he : ((k0 + k1 + k2 + k3 + k4 : Nat) : Int) = (k0 : Int) + k1 + k2 + k3 + k4 := by omega
  rw [he]
  clear he
  clear hf
  go_enter Try.func73, Try.ntmps73
  go_wp2_with fail
  go_quiet (fail)
  go_wp2
  go_ret
  exact ⟨rfl, below_drewN (.refl _ _) nq⟩
theorem ops_any {b g : Nat} {m : PM} {w : World} (h : MemIs w b g m) : Calls Try.prog 22 #[.pointer (some ⟨b, 0, none⟩)] w (Ans (.int .u64 m.k.ops) w) := by
  obtain ⟨c, hr, hc, hc2⟩ := h.blk
  have hops := cops_any hr h.few
  clear h hr
  go_enter Try.func22, Try.ntmps22
  go_wp2_with fail
  refine hops.mono ?_
  rintro e w1 ⟨rfl, hb⟩
  go_wp2
  go_ret
  exact ⟨rfl, hb⟩
theorem ops_nil (w : World) : Calls Try.prog 22 #[.pointer none] w (Ans (.int .u64 0) w) := by
  go_enter Try.func22, Try.ntmps22
  go_wp2
  go_ret
  exact ⟨rfl, .refl _ _⟩
/-- a place of the ring -/
theorem mem_log {k : Cnt} {g n c : Nat} {L : List Acc} (i j : Nat) (hi : i < L.length) (hj : j < 4) : (memV k g n c L)[6 + i * 4 + j]? = (accC (L.getD i default))[j]? := by
  have e : (memV k g n c L)[6 + i * 4 + j]? = (L.flatMap accC)[i * 4 + j]? := by
    rw [show 6 + i * 4 + j = (i * 4 + j) + 1 + 1 + 1 + 1 + 1 + 1 by omega]; rfl
  rw [e, accs_at L i j hi hj]
end Go.Proofs.Ytkhfanhboooilaa

/- A memory's accesses: the closures, access, Load, Store, CAS, Add (layer 6). -/
namespace Go.Proofs.Ytkhfanhboooilaa
open Go.RowKit Go.Ce

/-- the closures -/
theorem cload_any {b mb : Nat} {k0 : Nat} (old : Int) (w : World) (hm : w.cell? ⟨mb, 0, none⟩ = some (.pointer (some ⟨b, 0, none⟩))) (hc : w.cell? ⟨b, 0, none⟩ = some (.int .u64 k0)) (hf : w.frozen? ⟨b, 0, none⟩ = false) (hk : k0 ≤ 1000000000000) :
    Calls Try.prog 123 #[.int .u64 old, .pointer (some ⟨mb, 0, none⟩)] w (fun e w' => e = .returned (.int .u64 old) ∧ w' = w.setCell ⟨b, 0, none⟩ (.int .u64 ((k0 : Int) + 1))) := by
  have hw1 : IntKind.u64.wrap ((k0 : Int) + 1) = (k0 : Int) + 1 := IntWalk.u64_in _ (by omega)
  clear hk
  go_enter Try.func123, Try.ntmps123
  go_wp2
  go_ret
  exact ⟨rfl, rfl⟩
theorem cstore_any {b mb vb : Nat} {k0 : Nat} (old v : Int) (w : World) (hm : w.cell? ⟨mb, 0, none⟩ = some (.pointer (some ⟨b, 0, none⟩))) (hv : w.cell? ⟨vb, 0, none⟩ = some (.int .u64 v)) (hc : w.cell? ⟨b, 1, none⟩ = some (.int .u64 k0)) (hf : w.frozen? ⟨b, 1, none⟩ = false) (hne : vb ≠ b) (hk : k0 ≤ 1000000000000) :
    Calls Try.prog 98 #[.int .u64 old, .pointer (some ⟨mb, 0, none⟩), .pointer (some ⟨vb, 0, none⟩)] w (fun e w' => e = .returned (.int .u64 v) ∧ w' = w.setCell ⟨b, 1, none⟩ (.int .u64 ((k0 : Int) + 1))) := by
  have hw1 : IntKind.u64.wrap ((k0 : Int) + 1) = (k0 : Int) + 1 := IntWalk.u64_in _ (by omega)
  have hv2 : ∀ x, (w.setCell ⟨b, 1, none⟩ x).cell? ⟨vb, 0, none⟩ = some (.int .u64 v) := fun x => by rw [World.cell?_setCell_far _ _ _ _ (by simpa using fun e => hne e.symm)]; exact hv
  clear hk hv
  go_enter Try.func98, Try.ntmps98
  go_wp2
  go_ret
  exact ⟨rfl, rfl⟩
theorem ccas_hit {b ob mb sb vb : Nat} {k0 : Nat} (old v : Int) (x : Value) (w : World) (hm : w.cell? ⟨mb, 0, none⟩ = some (.pointer (some ⟨b, 0, none⟩))) (ho : w.cell? ⟨ob, 0, none⟩ = some (.int .u64 old)) (hs : w.cell? ⟨sb, 0, none⟩ = some x) (hs2 : w.frozen? ⟨sb, 0, none⟩ = false) (hv : w.cell? ⟨vb, 0, none⟩ = some (.int .u64 v)) (hc : w.cell? ⟨b, 2, none⟩ = some (.int .u64 k0)) (hf : w.frozen? ⟨b, 2, none⟩ = false) (hne : vb ≠ b) (hne2 : vb ≠ sb) (hne3 : sb ≠ b) (hk : k0 ≤ 1000000000000) :
    Calls Try.prog 125 #[.int .u64 old, .pointer (some ⟨ob, 0, none⟩), .pointer (some ⟨mb, 0, none⟩), .pointer (some ⟨sb, 0, none⟩), .pointer (some ⟨vb, 0, none⟩)] w (fun e w' => e = .returned (.int .u64 v) ∧ w' = (w.setCell ⟨b, 2, none⟩ (.int .u64 ((k0 : Int) + 1))).setCell ⟨sb, 0, none⟩ (.bool true)) := by
  have hw1 : IntKind.u64.wrap ((k0 : Int) + 1) = (k0 : Int) + 1 := IntWalk.u64_in _ (by omega)
  have hs3 : ∀ y, (w.setCell ⟨b, 2, none⟩ y).cell? ⟨sb, 0, none⟩ = some x := fun y => by rw [World.cell?_setCell_far _ _ _ _ (by simpa using fun e => hne3 e.symm)]; exact hs
  have hv2 : ∀ y z, ((w.setCell ⟨b, 2, none⟩ y).setCell ⟨sb, 0, none⟩ z).cell? ⟨vb, 0, none⟩ = some (.int .u64 v) := fun y z => by rw [World.cell?_setCell_far _ _ _ _ (by simpa using fun e => hne2 e.symm), World.cell?_setCell_far _ _ _ _ (by simpa using fun e => hne e.symm)]; exact hv
  clear hk hv hs hne hne2 hne3
  go_enter Try.func125, Try.ntmps125
  go_wp2
  go_ret
  exact ⟨rfl, rfl⟩
theorem ccas_miss {b ob mb sb vb : Nat} {k0 : Nat} (stood old : Int) (w : World) (hm : w.cell? ⟨mb, 0, none⟩ = some (.pointer (some ⟨b, 0, none⟩))) (ho : w.cell? ⟨ob, 0, none⟩ = some (.int .u64 old)) (hc : w.cell? ⟨b, 3, none⟩ = some (.int .u64 k0)) (hf : w.frozen? ⟨b, 3, none⟩ = false) (hk : k0 ≤ 1000000000000) (hno : stood ≠ old) :
    Calls Try.prog 125 #[.int .u64 stood, .pointer (some ⟨ob, 0, none⟩), .pointer (some ⟨mb, 0, none⟩), .pointer (some ⟨sb, 0, none⟩), .pointer (some ⟨vb, 0, none⟩)] w (fun e w' => e = .returned (.int .u64 stood) ∧ w' = w.setCell ⟨b, 3, none⟩ (.int .u64 ((k0 : Int) + 1))) := by
  have hw1 : IntKind.u64.wrap ((k0 : Int) + 1) = (k0 : Int) + 1 := IntWalk.u64_in _ (by omega)
  have hno2 : (stood == old) = false := by simpa using hno
  have hno3 : (stood != old) = true := by simpa using hno
  clear hk
  go_enter Try.func125, Try.ntmps125
  go_wp2
  go_ret
  exact ⟨rfl, rfl⟩

/-- what a closure does: it answers v, and the counts are k2 -/
def CloPost (b g n c : Nat) (k2 : Cnt) (L : List Acc) (S : Nat → Prop) (R : World → Prop) (v : Int) (w : World) (e : Ending) (w' : World) : Prop :=
  e = .returned (.int .u64 v) ∧ Row b 119 (memV k2 g n c L) w' ∧ Tch S w w' ∧ R w'
/-- what access does -/
def AccPost (b g : Nat) (m : PM) (S : Nat → Prop) (R : World → Prop) (old : Int) (w : World) (e : Ending) (w' : World) : Prop :=
  e = .returned (.int .u64 old) ∧ MemIs w' b g m ∧ Tch S w w' ∧ R w'
/-- the blocks of a memory -/
def Own (b g : Nat) : Nat → Prop := fun j => j = b ∨ j = g

theorem flat_set (L : List Acc) (q : Nat) (x : Acc) (hq : q < L.length) :
    ((((L.flatMap accC).set (q * 4) (.int .i64 x.k)).set (q * 4 + 1) (.int .i64 x.a)).set (q * 4 + 2) (.int .u64 x.o)).set (q * 4 + 3) (.int .u64 x.n) = (L.set q x).flatMap accC := by
  induction L generalizing q with
  | nil => simp at hq
  | cons y r ih =>
    cases q with
    | zero => rfl
    | succ q =>
      have e := ih q (by simpa using hq)
      rw [List.set_cons_succ, List.flatMap_cons, List.flatMap_cons, ← e]
      have e1 : (q + 1) * 4 = q * 4 + 1 + 1 + 1 + 1 := by omega
      rw [e1]
      rfl
theorem mem_set {k : Cnt} {g n c : Nat} {L : List Acc} (q : Nat) (x : Acc) (hq : q < L.length) :
    ((((memV k g n c L).set (6 + q * 4) (.int .i64 x.k)).set (6 + q * 4 + 1) (.int .i64 x.a)).set (6 + q * 4 + 2) (.int .u64 x.o)).set (6 + q * 4 + 3) (.int .u64 x.n) = memV k g n c (L.set q x) := by
  have e : memV k g n c (L.set q x) = .int .u64 k.l :: .int .u64 k.s :: .int .u64 k.w :: .int .u64 k.f :: .int .u64 k.a :: .slice (some ⟨g, 0, none⟩) n c :: (L.set q x).flatMap accC := rfl
  rw [e, ← flat_set L q x hq, show 6 + q * 4 = q * 4 + 1 + 1 + 1 + 1 + 1 + 1 by omega]
  rfl
theorem map_set (cs : List Int) (i : Nat) (v : Int) (rest : List Value) (hi : i < cs.length) : (cs.map (Value.int .u64) ++ rest).set i (.int .u64 v) = (cs.set i v).map (Value.int .u64) ++ rest := by
  rw [List.set_append_left _ _ (by simpa using hi), List.map_set]

theorem acc_fin {b g c i q : Nat} {m : PM} {S : Nat → Prop} {kind v old : Int} {k2 : Cnt} {rest : List Value} {w W : World} (hr : Row b 119 (memV k2 g m.cs.length c m.L) W) (hg : Row g 29 ((m.cs.set i v).map (Value.int .u64) ++ rest) W) (ht : Tch S w W) (hS : S b) (hne : b ≠ g) (hM : m.cs.length ≤ 65536) (hll : m.L.length = 256) (hq : m.k.ops % 256 = q) (hold : m.at i = old) (hc : m.cs.length ≤ c) (hc2 : c ≤ maxLen) (hk2 : k2.ops ≤ 1000000000000) :
    MemIs ((((W.setCell ⟨b, 6 + q * 4, none⟩ (.int .i64 kind)).setCell ⟨b, 6 + q * 4 + 1, none⟩ (.int .i64 i)).setCell ⟨b, 6 + q * 4 + 2, none⟩ (.int .u64 old)).setCell ⟨b, 6 + q * 4 + 3, none⟩ (.int .u64 v)).drew b g (m.acc kind i v k2) ∧
    Tch S w ((((W.setCell ⟨b, 6 + q * 4, none⟩ (.int .i64 kind)).setCell ⟨b, 6 + q * 4 + 1, none⟩ (.int .i64 i)).setCell ⟨b, 6 + q * 4 + 2, none⟩ (.int .u64 old)).setCell ⟨b, 6 + q * 4 + 3, none⟩ (.int .u64 v)).drew := by
  have hset := mem_set (k := k2) (g := g) (n := m.cs.length) (c := c) (L := m.L) q ⟨kind, i, old, v⟩ (by rw [hll]; omega)
  have r1 := (((hr.set (6 + q * 4) (.int .i64 kind)).set (6 + q * 4 + 1) (.int .i64 i)).set (6 + q * 4 + 2) (.int .u64 old)).set (6 + q * 4 + 3) (.int .u64 v)
  rw [hset] at r1
  have g1 := (((hg.far (p := ⟨b, 6 + q * 4, none⟩) hne.symm (.int .i64 kind)).far (p := ⟨b, 6 + q * 4 + 1, none⟩) hne.symm (.int .i64 i)).far (p := ⟨b, 6 + q * 4 + 2, none⟩) hne.symm (.int .u64 old)).far (p := ⟨b, 6 + q * 4 + 3, none⟩) hne.symm (.int .u64 v)
  have t1 := (((ht.setCell (p := ⟨b, 6 + q * 4, none⟩) (.inl hS) (.int .i64 kind)).setCell (p := ⟨b, 6 + q * 4 + 1, none⟩) (.inl hS) (.int .i64 i)).setCell (p := ⟨b, 6 + q * 4 + 2, none⟩) (.inl hS) (.int .u64 old)).setCell (p := ⟨b, 6 + q * 4 + 3, none⟩) (.inl hS) (.int .u64 v)
  have hlen : (m.acc kind i v k2).cs.length = m.cs.length := (acc_len ..).1
  have hL2 : (m.acc kind i v k2).L = m.L.set q ⟨kind, i, old, v⟩ := by show m.L.set (m.k.ops % 256) ⟨kind, i, m.at i, v⟩ = _; rw [hq, hold]
  refine ⟨⟨⟨c, ?_, by rw [hlen]; exact hc, hc2⟩, ⟨rest, g1⟩, hne, by rw [(acc_len ..).2, hll], hk2, by rw [hlen]; exact hM⟩, ⟨t1.os, t1.tape, t1.output, t1.size, t1.block⟩⟩
  rw [hlen, hL2]
  exact r1.drew

set_option maxRecDepth 20000 in
set_option maxHeartbeats 1000000 in
theorem access_yes {b g F : Nat} {m : PM} {S : Nat → Prop} {R : World → Prop} {caps : Array Value} (kind a v : Int) (k2 : Cnt) (w : World) (h : MemIs w b g m) (ha : m.Has a) (hS : S b ∧ S g) (hk2 : k2.ops ≤ 1000000000000) (hstay : ∀ W W', R W → Tch (Own b g) W W' → R W') (hcf : ∀ (args : Array Value) (w : World), (callFunc F args).run Try.prog w = .ok (.enter F args) w)
    (hF : ∀ c w1, Below w.heap.size w w1 → Row b 119 (memV m.k g m.cs.length c m.L) w1 → Calls Try.prog F (#[.int .u64 (m.at a)] ++ caps) w1 (CloPost b g m.cs.length c k2 m.L (fun j => S j ∧ j ≠ g) R v w1)) :
    Calls Try.prog 97 #[.pointer (some ⟨b, 0, none⟩), .int .i64 kind, .int .i64 a, .func (.func F) #[] caps] w (AccPost b g (m.acc kind a v k2) S R (m.at a) w) := by
  have hhas := has_any h a
  rw [decide_eq_true ha] at hhas
  obtain ⟨c, hr, hc, hc2⟩ := h.blk
  have HC2 := Lib.hid hc2
  obtain ⟨rest, hg⟩ := h.cel
  have HF := Lib.hid (hF c)
  clear hF
  obtain ⟨i, rfl⟩ : ∃ i : Nat, a = i := ⟨a.toNat, by have := ha.1; omega⟩
  have hi : i < m.cs.length := by have := ha.2; omega
  obtain ⟨old, hold⟩ : ∃ x, m.at (i : Int) = x := ⟨_, rfl⟩
  have hg0 : w.cell? ⟨g, i, none⟩ = some (.int .u64 old) := by
    rw [hg.cell, List.getElem?_append_left (by simpa using hi), List.getElem?_map]
    unfold PM.at at hold
    simp only [Int.toNat_natCast, List.getD, List.getElem?_eq_getElem hi, Option.getD_some] at hold
    rw [List.getElem?_eq_getElem hi, ← hold]; rfl
  rw [hold] at HF ⊢
  obtain ⟨q, hq⟩ : ∃ q, m.k.ops % 256 = q := ⟨_, rfl⟩
  have hq2 : q < 256 := by omega
  have z2 : ((m.k.ops : Nat) : Int).tmod 256 = (q : Int) := by rw [IntWalk.rem_in _ _ (by omega)]; omega
  obtain ⟨ops, hops⟩ : ∃ o, m.k.ops = o := ⟨_, rfl⟩
  have hcops := fun w1 (hb : Below w.heap.size w w1) => cops_any (hr.on' hb) h.few
  rw [hops] at z2 hcops
  have HM := Lib.hid h
  have HQ := Lib.hid hq
  have HO := Lib.hid hold
  have HOps := Lib.hid hops
  have HC := Lib.hid hcops
  have HG := Lib.hid hg
  have HR := Lib.hid hr
  have HA := Lib.hid ha
  have HK2 := Lib.hid hk2
  have HS := Lib.hid hS
  have HSt := Lib.hid hstay
  have hne := h.ne
  have hll := h.ll
  have HN : Hid (b ≠ g) := hne
  have hz5 : (q : Int) < 256 := by omega
  have hi' : (i : Int) < (m.cs.length : Int) := by omega
  have c5 : w.cell? ⟨b, 5, none⟩ = some (.slice (some ⟨g, 0, none⟩) m.cs.length c) := hr.cell 5
  have HLL := Lib.hid hll
  clear h hq hold hops hcops hg hr ha hc2 hk2 hS hne hll hstay
  go_enter Try.func97, Try.ntmps97
  go_wp2_with fail
  refine hhas.mono ?_
  rintro e w1 ⟨rfl, hb1⟩
  have c5' : w1.cell? ⟨b, 5, none⟩ = some (.slice (some ⟨g, 0, none⟩) m.cs.length c) := by rw [hb1.cell (block_lt_of_cell c5)]; exact c5
  have g0' : w1.cell? ⟨g, i, none⟩ = some (.int .u64 old) := by rw [hb1.cell (block_lt_of_cell hg0)]; exact hg0
  have HB1 := Lib.hid hb1
  clear hb1 c5 hg0
  go_wp2_with fail
  refine (HC.out _ HB1.out).mono ?_
  rintro e w2 ⟨rfl, hb2⟩
  have c5'' : w2.cell? ⟨b, 5, none⟩ = some (.slice (some ⟨g, 0, none⟩) m.cs.length c) := by rw [hb2.cell (block_lt_of_cell c5')]; exact c5'
  have g0'' : w2.cell? ⟨g, i, none⟩ = some (.int .u64 old) := by rw [hb2.cell (block_lt_of_cell g0')]; exact g0'
  have HB2 := Lib.hid (HB1.out.trans (hb2.mono HB1.out.size))
  clear hb2 c5' g0'
  go_wp2_with fail
  have HW2 : Hid (Row b 119 (memV m.k g m.cs.length c m.L) w2) := HR.out.on' HB2.out
  have HG2 : Hid (Row g 29 (m.cs.map (Value.int .u64) ++ rest) w2) := HG.out.on' HB2.out
  have hcall := HF.out w2.drew HB2.out.drew HW2.out.drew
  go_region_with ((with_reducible refine hcall.mono ?_); rintro e w3 ⟨rfl, hr3, ht3, hR3⟩; have c53 : w3.cell? ⟨b, 5, none⟩ = some (.slice (some ⟨g, 0, none⟩) m.cs.length c) := hr3.cell 5; have g03 : w3.cell? ⟨g, i, none⟩ = some (.int .u64 old) := ht3.cell (w := w2.drew) g0'' (by simp); have f03 : w3.frozen? ⟨g, i, none⟩ = false := Row.frozen (HG2.out.drew.tch ht3 (by simp)) i)
  all_goals
    have hr5 : Row b 119 (memV k2 g m.cs.length c m.L) (w3.setCell ⟨g, i, none⟩ (.int .u64 v)) := hr3.far HN.out _
    have hg5 : Row g 29 ((m.cs.set i v).map (Value.int .u64) ++ rest) (w3.setCell ⟨g, i, none⟩ (.int .u64 v)) := by
      rw [← map_set _ _ _ _ hi]
      exact Row.set (HG2.out.drew.tch ht3 (by simp)) i _
    have ht5 : Tch S w (w3.setCell ⟨g, i, none⟩ (.int .u64 v)) := (((Tch.of S HB2.out.drew).trans (ht3.wide (fun _ hk => hk.1))).setCell (p := ⟨g, i, none⟩) (.inl HS.out.2) _)
    have ht6 : Tch (Own b g) w3 (w3.setCell ⟨g, i, none⟩ (.int .u64 v)) := (Tch.refl _ _).setCell (p := ⟨g, i, none⟩) (.inl (.inr rfl)) _
    have HR3 := Lib.hid hR3
    generalize w3.setCell ⟨g, i, none⟩ (.int .u64 v) = W5 at hr5 hg5 ht5 ht6 ⊢
    have c55 : W5.cell? ⟨b, 5, none⟩ = some (.slice (some ⟨g, 0, none⟩) m.cs.length c) := hr5.cell 5
    have g05 : W5.cell? ⟨g, i, none⟩ = some (.int .u64 v) := by
      rw [hg5.cell, List.getElem?_append_left (by simpa using hi), List.getElem?_map, List.getElem?_set_self hi]; rfl
    have m0 := mem_log (k := k2) (g := g) (n := m.cs.length) (c := c) (L := m.L) q 0 (by rw [HLL.out]; exact hq2) (by decide)
    have m1 := mem_log (k := k2) (g := g) (n := m.cs.length) (c := c) (L := m.L) q 1 (by rw [HLL.out]; exact hq2) (by decide)
    have m2 := mem_log (k := k2) (g := g) (n := m.cs.length) (c := c) (L := m.L) q 2 (by rw [HLL.out]; exact hq2) (by decide)
    have m3 := mem_log (k := k2) (g := g) (n := m.cs.length) (c := c) (L := m.L) q 3 (by rw [HLL.out]; exact hq2) (by decide)
    rw [← hr5.cell] at m0 m1 m2 m3
    simp only [accC, List.getElem?_cons_zero, List.getElem?_cons_succ, Nat.add_zero] at m0 m1 m2 m3
    have f0 := hr5.frozen (6 + q * 4)
    have f1 := hr5.frozen (6 + q * 4 + 1)
    have f2 := hr5.frozen (6 + q * 4 + 2)
    have f3 := hr5.frozen (6 + q * 4 + 3)
    have HR5 := Lib.hid hr5
    have HG5 := Lib.hid hg5
    have HT5 := Lib.hid ht5
    have HT6 := Lib.hid ht6
    clear hr5 hg5 ht5 ht6 hR3 hr3 ht3 c53 g03 f03 c5'' g0'' hcall hhas hcf
    go_wp2_with fail
    go_region
    go_wp2
    go_ret
    have hf := acc_fin (kind := kind) HR5.out HG5.out HT5.out HS.out.1 HN.out HM.out.short HLL.out HQ.out HO.out hc HC2.out HK2.out
    have hf2 := (acc_fin (kind := kind) HR5.out HG5.out HT6.out (.inl rfl) HN.out HM.out.short HLL.out HQ.out HO.out hc HC2.out HK2.out).2
    exact ⟨rfl, hf.1, hf.2, HSt.out _ _ HR3.out hf2⟩
theorem access_no {b g F : Nat} {m : PM} {caps : Array Value} (kind a : Int) (w : World) (h : MemIs w b g m) (ha : ¬ m.Has a) :
    Calls Try.prog 97 #[.pointer (some ⟨b, 0, none⟩), .int .i64 kind, .int .i64 a, .func (.func F) #[] caps] w (Ans (.int .u64 0) w) := by
  have hhas := has_any h a
  rw [decide_eq_false ha] at hhas
  clear h ha
  go_enter Try.func97, Try.ntmps97
  go_wp2_with fail
  refine hhas.mono ?_
  rintro e w1 ⟨rfl, hb1⟩
  go_wp2
  go_ret
  exact ⟨rfl, hb1⟩
theorem access_nil {F : Nat} {caps : Array Value} (kind a : Int) (w : World) :
    Calls Try.prog 97 #[.pointer none, .int .i64 kind, .int .i64 a, .func (.func F) #[] caps] w (Ans (.int .u64 0) w) := by
  go_enter Try.func97, Try.ntmps97
  go_wp2_with fail
  refine (has_nil w a).mono ?_
  rintro e w1 ⟨rfl, hb1⟩
  go_wp2
  go_ret
  exact ⟨rfl, hb1⟩

/-- what an access of a memory does: it answers v, the memory is m -/
def MemPost (b g : Nat) (m : PM) (v : Value) (w : World) (e : Ending) (w' : World) : Prop := e = .returned v ∧ MemIs w' b g m ∧ Tch (Own b g) w w'
theorem Tch.trim {S R : Nat → Prop} {w W w' : World} (hb : Below w.heap.size w W) (ht : Tch S W w') (hs : ∀ j, j < w.heap.size → S j → R j) : Tch R w w' :=
  ⟨ht.os.trans hb.os, ht.tape.trans hb.tape, ht.output.trans hb.output, Nat.le_trans hb.size ht.size, fun k hk hn => (ht.block k (Nat.lt_of_lt_of_le hk hb.size) (fun e => hn (hs k hk e))).trans (hb.block k hk)⟩

theorem load_any {b g : Nat} {m : PM} (a : Int) (w : World) (h : MemIs w b g m) (hk : m.k.ops + 1 ≤ 1000000000000) :
    Calls Try.prog 101 #[.pointer (some ⟨b, 0, none⟩), .int .i64 a] w (MemPost b g (m.load a) (.int .u64 (m.ans a)) w) := by
  have hb := (Below.refl w.heap.size w).alloc (Nat.le_refl _) (.cells #[.pointer (some ⟨b, 0, none⟩)] 27)
  have hm := h.on hb
  have hlt := h.lt
  have hrow := Row.new w 27 [.pointer (some ⟨b, 0, none⟩)]
  by_cases ha : m.Has a
  · have hacc := access_yes (F := 123) (caps := #[.pointer (some ⟨w.heap.size, 0, none⟩)]) (S := Own b g) (R := fun _ => True) 1 a (m.at a) { m.k with l := m.k.l + 1 } _ hm ha ⟨.inl rfl, .inr rfl⟩ (by simp only [Cnt.ops] at hk ⊢; omega) (fun _ _ _ _ => trivial) (fun _ _ => by go_simp) (fun c w1 hb1 hr1 => by
      have hp : w1.cell? ⟨w.heap.size, 0, none⟩ = some (.pointer (some ⟨b, 0, none⟩)) := (hrow.on' hb1).cell 0
      refine (cload_any (m.at a) w1 hp (hr1.cell 0) (hr1.frozen 0) (by simp only [Cnt.ops] at hk; omega)).mono ?_
      rintro e w2 ⟨rfl, rfl⟩
      exact ⟨rfl, hr1.set 0 _, (Tch.refl _ _).setCell (.inl ⟨.inl rfl, h.ne⟩) _, trivial⟩)
    have hv : m.ans a = m.at a := by unfold PM.ans; rw [if_pos ha]
    rw [hv, load_yes ha]
    have HB := Lib.hid hb
    clear hb hm hrow hv ha h hk
    go_enter Try.func101, Try.ntmps101
    go_wp2_with fail
    refine hacc.mono ?_
    rintro e w1 ⟨rfl, hm1, ht1, -⟩
    have HM1 := Lib.hid hm1
    have HT1 := Lib.hid (Tch.trim HB.out ht1 (fun _ _ h => h))
    clear hm1 ht1
    go_wp2
    go_ret
    exact ⟨rfl, HM1.out, HT1.out⟩
  · have hacc := access_no (F := 123) (caps := #[.pointer (some ⟨w.heap.size, 0, none⟩)]) 1 a _ hm ha
    have hv : m.ans a = 0 := by unfold PM.ans; rw [if_neg ha]
    rw [hv, load_no ha]
    have HB := Lib.hid hb
    have HM := Lib.hid h
    clear hb hm hrow hv ha h hk
    go_enter Try.func101, Try.ntmps101
    go_wp2_with fail
    refine hacc.mono ?_
    rintro e w1 ⟨rfl, hb1⟩
    have HB1 := Lib.hid (HB.out.trans (hb1.mono HB.out.size))
    clear hb1
    go_wp2
    go_ret
    exact ⟨rfl, HM.out.on HB1.out, .of _ HB1.out⟩
theorem load_nil (a : Int) (w : World) : Calls Try.prog 101 #[.pointer none, .int .i64 a] w (Ans (.int .u64 0) w) := by
  go_enter Try.func101, Try.ntmps101
  go_wp2_with fail
  refine (access_nil 1 a _).mono ?_
  rintro e w1 ⟨rfl, hb1⟩
  go_wp2
  go_ret
  exact ⟨rfl, ((Below.refl _ _).alloc (Nat.le_refl _) _).trans (hb1.mono (by simp))⟩
end Go.Proofs.Ytkhfanhboooilaa

/- Store, CAS, Add of a memory (layer 6). -/
namespace Go.Proofs.Ytkhfanhboooilaa
open Go.RowKit Go.Ce

theorem two_new {w : World} (x y : Value) (s t : TypeId) : Row w.heap.size s [x] ((w.alloc (.cells #[x] s)).alloc (.cells #[y] t)) ∧ Row (w.heap.size + 1) t [y] ((w.alloc (.cells #[x] s)).alloc (.cells #[y] t)) ∧ Below w.heap.size w ((w.alloc (.cells #[x] s)).alloc (.cells #[y] t)) :=
  ⟨(Row.new w s [x]).on' ((Below.refl _ _).alloc (Nat.le_refl _) _), Row.new' _ t [y] _ (by simp), ((Below.refl _ _).alloc (Nat.le_refl _) _).alloc (by simp) _⟩

theorem store_any {b g : Nat} {m : PM} (a v : Int) (w : World) (h : MemIs w b g m) (hk : m.k.ops + 1 ≤ 1000000000000) :
    Calls Try.prog 44 #[.pointer (some ⟨b, 0, none⟩), .int .i64 a, .int .u64 v] w (MemPost b g (m.store a v) (.tuple #[]) w) := by
  obtain ⟨hr0, hr1, hb⟩ := two_new (w := w) (.pointer (some ⟨b, 0, none⟩)) (.int .u64 v) 27 29
  have hm := h.on hb
  have hlt := h.lt
  by_cases ha : m.Has a
  · have hacc := access_yes (F := 98) (caps := #[.pointer (some ⟨w.heap.size, 0, none⟩), .pointer (some ⟨w.heap.size + 1, 0, none⟩)]) (S := Own b g) (R := fun _ => True) 2 a v { m.k with s := m.k.s + 1 } _ hm ha ⟨.inl rfl, .inr rfl⟩ (by simp only [Cnt.ops] at hk ⊢; omega) (fun _ _ _ _ => trivial) (fun _ _ => by go_simp) (fun c w1 hb1 hr => by
      have hp : w1.cell? ⟨w.heap.size, 0, none⟩ = some (.pointer (some ⟨b, 0, none⟩)) := (hr0.on' hb1).cell 0
      have hq : w1.cell? ⟨w.heap.size + 1, 0, none⟩ = some (.int .u64 v) := (hr1.on' hb1).cell 0
      refine (cstore_any (m.at a) v w1 hp hq (hr.cell 1) (hr.frozen 1) (by omega) (by simp only [Cnt.ops] at hk; omega)).mono ?_
      rintro e w2 ⟨rfl, rfl⟩
      exact ⟨rfl, hr.set 1 _, (Tch.refl _ _).setCell (.inl ⟨.inl rfl, h.ne⟩) _, trivial⟩)
    rw [store_yes ha]
    have HB := Lib.hid hb
    clear hb hm hr0 hr1 ha h hk
    go_enter Try.func44, Try.ntmps44
    go_wp2_with fail
    refine hacc.mono ?_
    rintro e w1 ⟨rfl, hm1, ht1, -⟩
    have HM1 := Lib.hid hm1
    have HT1 := Lib.hid (Tch.trim HB.out ht1 (fun _ _ h => h))
    clear hm1 ht1
    go_wp2
    go_end0
    exact ⟨rfl, HM1.out, HT1.out⟩
  · have hacc := access_no (F := 98) (caps := #[.pointer (some ⟨w.heap.size, 0, none⟩), .pointer (some ⟨w.heap.size + 1, 0, none⟩)]) 2 a _ hm ha
    rw [store_no ha]
    have HB := Lib.hid hb
    have HM := Lib.hid h
    clear hb hm hr0 hr1 ha h hk
    go_enter Try.func44, Try.ntmps44
    go_wp2_with fail
    refine hacc.mono ?_
    rintro e w1 ⟨rfl, hb1⟩
    have HB1 := Lib.hid (HB.out.trans (hb1.mono HB.out.size))
    clear hb1
    go_wp2
    go_end0
    exact ⟨rfl, HM.out.on HB1.out, .of _ HB1.out⟩
theorem store_nil (a v : Int) (w : World) : Calls Try.prog 44 #[.pointer none, .int .i64 a, .int .u64 v] w (Ans (.tuple #[]) w) := by
  obtain ⟨hr0, hr1, hb⟩ := two_new (w := w) (.pointer none) (.int .u64 v) 27 29
  have HB := Lib.hid hb
  clear hb hr0 hr1
  go_enter Try.func44, Try.ntmps44
  go_wp2_with fail
  refine (access_nil 2 a _).mono ?_
  rintro e w1 ⟨rfl, hb1⟩
  have HB1 := Lib.hid (HB.out.trans (hb1.mono HB.out.size))
  clear hb1
  go_wp2
  go_end0
  exact ⟨rfl, HB1.out⟩
theorem four_new {w : World} (x y z u : Value) (s t r q : TypeId) (W : World) (hW : (((w.alloc (.cells #[x] s)).alloc (.cells #[y] t)).alloc (.cells #[z] r)).alloc (.cells #[u] q) = W) : Row w.heap.size s [x] W ∧ Row (w.heap.size + 1) t [y] W ∧ Row (w.heap.size + 1 + 1) r [z] W ∧ Row (w.heap.size + 1 + 1 + 1) q [u] W ∧ Below w.heap.size w W := by
  subst hW
  obtain ⟨h0, h1, h2⟩ := two_new (w := w) x y s t
  obtain ⟨h3, h4, h5⟩ := two_new (w := ((w.alloc (.cells #[x] s)).alloc (.cells #[y] t))) z u r q
  refine ⟨h0.on' h5, h1.on' h5, ?_, ?_, h2.trans (h5.mono h2.size)⟩
  · simpa using h3
  · simpa using h4
/-- behind a CAS: what stands in the variable that tells -/
def CasPost (b g : Nat) (m : PM) (ok : Bool) (w : World) (e : Ending) (w' : World) : Prop := e = .returned (.bool ok) ∧ MemIs w' b g m ∧ Tch (Own b g) w w'
set_option maxHeartbeats 1000000 in
theorem cas_any {b g : Nat} {m : PM} (a old v : Int) (w : World) (h : MemIs w b g m) (hk : m.k.ops + 1 ≤ 1000000000000) :
    Calls Try.prog 120 #[.pointer (some ⟨b, 0, none⟩), .int .i64 a, .int .u64 old, .int .u64 v] w (CasPost b g (m.cas a old v) (decide (m.hit a old)) w) := by
  obtain ⟨hr0, hr1, hr2, hr3, hb⟩ := four_new (w := w) (.pointer (some ⟨b, 0, none⟩)) (.int .u64 old) (.int .u64 v) (.bool false) 27 29 29 4 _ rfl
  have hm := h.on hb
  have hlt := h.lt
  have hbs : b ≠ w.heap.size + 1 + 1 + 1 := by omega
  have hgs : g ≠ w.heap.size + 1 + 1 + 1 := by omega
  let S : Nat → Prop := fun j => Own b g j ∨ j = w.heap.size + 1 + 1 + 1
  have HTr : ∀ j, j < w.heap.size → S j → Own b g j := fun j hj hs => by
    rcases hs with hs | hs
    · exact hs
    · omega
  have hst : ∀ y W W', Row (w.heap.size + 1 + 1 + 1) 4 [y] W → Tch (Own b g) W W' → Row (w.heap.size + 1 + 1 + 1) 4 [y] W' := fun y W W' hr ht => hr.tch ht (fun hs => by rcases hs with hs | hs <;> omega)
  by_cases ha : m.Has a
  · by_cases he : m.at a = old
    · have hacc := access_yes (F := 125) (caps := #[.pointer (some ⟨w.heap.size + 1, 0, none⟩), .pointer (some ⟨w.heap.size, 0, none⟩), .pointer (some ⟨w.heap.size + 1 + 1 + 1, 0, none⟩), .pointer (some ⟨w.heap.size + 1 + 1, 0, none⟩)]) (S := S) (R := Row (w.heap.size + 1 + 1 + 1) 4 [.bool true]) 3 a v { m.k with w := m.k.w + 1 } _ hm ha ⟨.inl (.inl rfl), .inl (.inr rfl)⟩ (by simp only [Cnt.ops] at hk ⊢; omega) (hst _) (fun _ _ => by go_simp) (fun c w1 hb1 hr => by
        have hp : w1.cell? ⟨w.heap.size, 0, none⟩ = some (.pointer (some ⟨b, 0, none⟩)) := (hr0.on' hb1).cell 0
        have ho : w1.cell? ⟨w.heap.size + 1, 0, none⟩ = some (.int .u64 old) := (hr1.on' hb1).cell 0
        have hv : w1.cell? ⟨w.heap.size + 1 + 1, 0, none⟩ = some (.int .u64 v) := (hr2.on' hb1).cell 0
        have hs : w1.cell? ⟨w.heap.size + 1 + 1 + 1, 0, none⟩ = some (.bool false) := (hr3.on' hb1).cell 0
        rw [he]
        refine (ccas_hit old v _ w1 hp ho hs ((hr3.on' hb1).frozen 0) hv (hr.cell 2) (hr.frozen 2) (by omega) (by omega) (by omega) (by simp only [Cnt.ops] at hk; omega)).mono ?_
        rintro e w2 ⟨rfl, rfl⟩
        exact ⟨rfl, (hr.set 2 _).far hbs _, (((Tch.refl _ _).setCell (.inl ⟨.inl (.inl rfl), h.ne⟩) _).setCell (.inl ⟨.inr rfl, hgs.symm⟩) _), ((hr3.on' hb1).far (p := ⟨b, 2, none⟩) hbs.symm _).set 0 _⟩)
      rw [decide_eq_true (show m.hit a old from ⟨ha, he⟩), cas_hit ha he]
      have HB := Lib.hid hb
      have HTR := Lib.hid HTr
      clear hb hm hr0 hr1 hr2 hr3 ha he h hk hst HTr hbs hgs
      clear_value S
      go_enter Try.func120, Try.ntmps120
      go_wp2_with fail
      refine hacc.mono ?_
      rintro e w1 ⟨rfl, hm1, ht1, hr1⟩
      have c1 := hr1.cell 0
      simp only [List.getElem?_cons_zero] at c1
      have HM1 := Lib.hid hm1
      have HT1 := Lib.hid (Tch.trim HB.out ht1 HTR.out)
      clear hm1 ht1 hr1 hacc
      go_wp2
      go_ret
      exact ⟨rfl, HM1.out, HT1.out⟩
    · have hacc := access_yes (F := 125) (caps := #[.pointer (some ⟨w.heap.size + 1, 0, none⟩), .pointer (some ⟨w.heap.size, 0, none⟩), .pointer (some ⟨w.heap.size + 1 + 1 + 1, 0, none⟩), .pointer (some ⟨w.heap.size + 1 + 1, 0, none⟩)]) (S := S) (R := Row (w.heap.size + 1 + 1 + 1) 4 [.bool false]) 3 a (m.at a) { m.k with f := m.k.f + 1 } _ hm ha ⟨.inl (.inl rfl), .inl (.inr rfl)⟩ (by simp only [Cnt.ops] at hk ⊢; omega) (hst _) (fun _ _ => by go_simp) (fun c w1 hb1 hr => by
        have hp : w1.cell? ⟨w.heap.size, 0, none⟩ = some (.pointer (some ⟨b, 0, none⟩)) := (hr0.on' hb1).cell 0
        have ho : w1.cell? ⟨w.heap.size + 1, 0, none⟩ = some (.int .u64 old) := (hr1.on' hb1).cell 0
        refine (ccas_miss (m.at a) old w1 hp ho (hr.cell 3) (hr.frozen 3) (by simp only [Cnt.ops] at hk; omega) he).mono ?_
        rintro e w2 ⟨rfl, rfl⟩
        exact ⟨rfl, hr.set 3 _, (Tch.refl _ _).setCell (.inl ⟨.inl (.inl rfl), h.ne⟩) _, (hr3.on' hb1).far (p := ⟨b, 3, none⟩) hbs.symm _⟩)
      rw [decide_eq_false (show ¬ m.hit a old from fun hh => he hh.2), cas_miss ha he]
      have HB := Lib.hid hb
      have HTR := Lib.hid HTr
      clear hb hm hr0 hr1 hr2 hr3 ha he h hk hst HTr hbs hgs
      clear_value S
      go_enter Try.func120, Try.ntmps120
      go_wp2_with fail
      refine hacc.mono ?_
      rintro e w1 ⟨rfl, hm1, ht1, hr1⟩
      have c1 := hr1.cell 0
      simp only [List.getElem?_cons_zero] at c1
      have HM1 := Lib.hid hm1
      have HT1 := Lib.hid (Tch.trim HB.out ht1 HTR.out)
      clear hm1 ht1 hr1 hacc
      go_wp2
      go_ret
      exact ⟨rfl, HM1.out, HT1.out⟩
  · have hacc := access_no (F := 125) (caps := #[.pointer (some ⟨w.heap.size + 1, 0, none⟩), .pointer (some ⟨w.heap.size, 0, none⟩), .pointer (some ⟨w.heap.size + 1 + 1 + 1, 0, none⟩), .pointer (some ⟨w.heap.size + 1 + 1, 0, none⟩)]) 3 a _ hm ha
    rw [decide_eq_false (show ¬ m.hit a old from fun hh => ha hh.1), cas_no ha]
    have HB := Lib.hid hb
    have HM := Lib.hid h
    have HR3 := Lib.hid hr3
    clear hb hm hr0 hr1 hr2 hr3 ha h hk hst HTr hbs hgs
    clear_value S
    clear S
    go_enter Try.func120, Try.ntmps120
    go_wp2_with fail
    refine hacc.mono ?_
    rintro e w1 ⟨rfl, hb1⟩
    have c1 := (HR3.out.on' hb1).cell 0
    simp only [List.getElem?_cons_zero] at c1
    have HB1 := Lib.hid (HB.out.trans (hb1.mono HB.out.size))
    clear hb1 hacc
    go_wp2
    go_ret
    exact ⟨rfl, HM.out.on HB1.out, .of _ HB1.out⟩
theorem cas_nil (a old v : Int) (w : World) : Calls Try.prog 120 #[.pointer none, .int .i64 a, .int .u64 old, .int .u64 v] w (Ans (.bool false) w) := by
  obtain ⟨hr0, hr1, hr2, hr3, hb⟩ := four_new (w := w) (.pointer none) (.int .u64 old) (.int .u64 v) (.bool false) 27 29 29 4 _ rfl
  have HB := Lib.hid hb
  have HR3 := Lib.hid hr3
  clear hb hr0 hr1 hr2 hr3
  go_enter Try.func120, Try.ntmps120
  go_wp2_with fail
  refine (access_nil 3 a _).mono ?_
  rintro e w1 ⟨rfl, hb1⟩
  have c1 := (HR3.out.on' hb1).cell 0
  simp only [List.getElem?_cons_zero] at c1
  have HB1 := Lib.hid (HB.out.trans (hb1.mono HB.out.size))
  clear hb1
  go_wp2
  go_ret
  exact ⟨rfl, HB1.out⟩
end Go.Proofs.Ytkhfanhboooilaa
