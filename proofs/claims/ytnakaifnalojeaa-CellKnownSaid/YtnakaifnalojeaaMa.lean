/- Rows of accesses in memory; the reference's NewBook, At, Swapped, Log (layer 6), walked. -/
import Derived.Test.YtnakaifnalojeaaAn
import Derived.Test.YtnakaifnalojeaaMp
import Derived.WalkSpells
import Derived.WalkLawsBesides
import Derived.Laws.OwnMore
import Derived.Laws.Pointers
import Derived.BigQuiet
import Derived.LoopTactic
namespace Go.Proofs.Ytnakaifnalojeaa
open Go.RowKit Go.Ce

/-- an access's cells -/
def accC (x : Acc) : List Value := [.int .i64 x.k, .int .i64 x.a, .int .u64 x.o, .int .u64 x.n]
def accG (x : Acc) : Value := .agg #[.int .i64 x.k, .int .i64 x.a, .int .u64 x.o, .int .u64 x.n]
theorem accs_length (xs : List Acc) : (xs.flatMap accC).length = xs.length * 4 := by
  induction xs with
  | nil => rfl
  | cons x r ih => rw [List.flatMap_cons, List.length_append, ih, List.length_cons]; show 4 + _ = _; omega
theorem accs_at (xs : List Acc) (i j : Nat) (hi : i < xs.length) (hj : j < 4) : (xs.flatMap accC)[i * 4 + j]? = (accC (xs.getD i default))[j]? := by
  induction xs generalizing i with
  | nil => simp at hi
  | cons x r ih =>
    rw [List.flatMap_cons]
    cases i with
    | zero => rw [List.getElem?_append_left (by show 0 * 4 + j < 4; omega)]; simp
    | succ i =>
      rw [List.getElem?_append_right (by show 4 ≤ _; omega)]
      show (r.flatMap accC)[(i + 1) * 4 + j - 4]? = _
      rw [show (i + 1) * 4 + j - 4 = i * 4 + j by omega, ih i (by simpa using hi)]
      simp
theorem accs_one (xs : List Acc) : ∀ u ∈ xs.flatMap accC, u.oneCell' = true := by
  intro u hu
  obtain ⟨x, _, hu⟩ := List.mem_flatMap.1 hu
  simp [accC] at hu
  rcases hu with rfl | rfl | rfl | rfl <;> rfl
/-- accesses, as they lie -/
structure LiesA (w : World) (p : Option Addr) (xs : List Acc) : Prop where
  cells : ∀ i, i < xs.length → ∃ b o, p = some ⟨b, o, none⟩ ∧ ∀ j, j < 4 → w.cell? ⟨b, o + i * 4 + j, none⟩ = (accC (xs.getD i default))[j]?
theorem LiesA.on {w w' : World} {p : Option Addr} {xs : List Acc} (h : LiesA w p xs) (hb : Below w.heap.size w w') : LiesA w' p xs :=
  ⟨fun i hi => by
    obtain ⟨b, o, hp, hc⟩ := h.cells i hi
    have h0 : w.cell? ⟨b, o + i * 4 + 0, none⟩ = some (.int .i64 (xs.getD i default).k) := hc 0 (by decide)
    have hlt : b < w.heap.size := block_lt_of_cell h0
    exact ⟨b, o, hp, fun j hj => by rw [hb.cell (p := ⟨b, o + i * 4 + j, none⟩) hlt]; exact hc j hj⟩⟩
theorem LiesA.at {w : World} {p : Option Addr} {xs : List Acc} (h : LiesA w p xs) {i : Nat} (hi : i < xs.length) : ∃ b o, p = some ⟨b, o, none⟩ ∧ w.cell? ⟨b, o + i * 4, none⟩ = some (.int .i64 (xs.getD i default).k) ∧ w.cell? ⟨b, o + i * 4 + 1, none⟩ = some (.int .i64 (xs.getD i default).a) ∧ w.cell? ⟨b, o + i * 4 + 2, none⟩ = some (.int .u64 (xs.getD i default).o) ∧ w.cell? ⟨b, o + i * 4 + 3, none⟩ = some (.int .u64 (xs.getD i default).n) := by
  obtain ⟨b, o, hp, hc⟩ := h.cells i hi
  exact ⟨b, o, hp, hc 0 (by decide), hc 1 (by decide), hc 2 (by decide), hc 3 (by decide)⟩
theorem LiesA.nil (w : World) (p : Option Addr) : LiesA w p [] := ⟨fun i hi => absurd hi (Nat.not_lt_zero _)⟩
/-- a book's row -/
structure BookIs (w : World) (p : Option Addr) (l c : Nat) (xs : List Acc) : Prop where
  len : l = xs.length
  lm : l ≤ 1000000
  nl : p = none → c = 0
  cp : l ≤ c ∧ c ≤ maxLen
  typ : ∀ b o, p = some ⟨b, o, none⟩ → 0 < xs.length → ∃ cur fr, w.heap[b]? = some (.cells cur 43 fr)
  lies : LiesA w p xs
theorem BookIs.on {w w' : World} {p : Option Addr} {l c : Nat} {xs : List Acc} (h : BookIs w p l c xs) (hb : Below w.heap.size w w') : BookIs w' p l c xs := ⟨h.len, h.lm, h.nl, h.cp, (fun b o e hx => by obtain ⟨cur, fr, hc⟩ := h.typ b o e hx; exact ⟨cur, fr, Below.obj hb hc (lt_of_block hc)⟩), h.lies.on hb⟩
theorem BookIs.nil (w : World) : BookIs w none 0 0 [] := ⟨rfl, Nat.zero_le _, fun _ => rfl, ⟨Nat.le_refl _, Nat.zero_le _⟩, (fun b o e => by cases e), .nil _ _⟩
/-- a row of one's own -/
theorem book_own {w : World} {B : Nat} {v : Value} {xs : List Acc} (h : w.ownsRow B 43 4 v xs.length (xs.flatMap accC)) (hl : xs.length ≤ 1000000) : ∃ p c, v = .slice p xs.length c ∧ BookIs w p xs.length c xs := by
  rcases h.2 with ⟨hv, hz⟩ | ⟨g, cap, cur, hv, hB, hg, hc, hc2, r⟩
  · exact ⟨none, 0, by rw [hv, hz], rfl, hl, fun _ => rfl, ⟨by omega, Nat.zero_le _⟩, (fun b o e => by cases e), ⟨fun i hi => by omega⟩⟩
  · subst hv
    refine ⟨_, cap, rfl, rfl, hl, (fun e => by cases e), ⟨hc, hc2⟩, (fun b o e _ => by cases e; exact ⟨cur, (0, 0), hg⟩), ⟨fun i hi => ⟨g, 0, rfl, fun j hj => ?_⟩⟩⟩
    rw [Nat.zero_add, h.cellAt (i * 4 + j) (by omega), accs_at xs i j hi hj]

/-- how many cells a new memory has -/
def nN (n : Int) : Int := max 0 (min n 65536)
theorem nN_bd (n : Int) : 0 ≤ nN n ∧ nN n ≤ 65536 := by unfold nN; omega
theorem book_any (n : Int) (w : World) : Calls Try.prog 11 #[.int .i64 n] w (Ans (.agg #[.int .i64 (nN n), .slice none 0 0]) w) := by
  have go (z : Int) (hz : nN n = z) (hc : z = 65536 ∧ 65536 < n ∨ z = n ∧ 0 < n ∧ n ≤ 65536 ∨ z = 0 ∧ n ≤ 0) : Calls Try.prog 11 #[.int .i64 n] w (Ans (.agg #[.int .i64 z, .slice none 0 0]) w) := by
    clear hz
    rcases hc with ⟨rfl, h⟩ | ⟨rfl, h, h'⟩ | ⟨rfl, h⟩
    · go_enter Try.func11, Try.ntmps11
      go_wp2
      exact bodyPost_ret (v := .agg #[.int .i64 (65536), .slice none 0 0]) (by simp [results, Try.results11, go_sem, *]) rfl ⟨rfl, (Below.refl _ _).alloc (Nat.le_refl _) _⟩
    · have hn : ¬ (65536 < z) := by omega
      go_enter Try.func11, Try.ntmps11
      go_wp2
      exact bodyPost_ret (v := .agg #[.int .i64 (z), .slice none 0 0]) (by simp [results, Try.results11, go_sem, *]) rfl ⟨rfl, (Below.refl _ _).alloc (Nat.le_refl _) _⟩
    · have hn : ¬ (65536 < n) := by omega
      have hn2 : ¬ (0 < n) := by omega
      go_enter Try.func11, Try.ntmps11
      go_wp2
      exact bodyPost_ret (v := .agg #[.int .i64 (0), .slice none 0 0]) (by simp [results, Try.results11, go_sem, *]) rfl ⟨rfl, (Below.refl _ _).alloc (Nat.le_refl _) _⟩
  rw [show nN n = nN n from rfl]
  obtain ⟨z, hz⟩ : ∃ z, nN n = z := ⟨_, rfl⟩
  rw [hz]
  exact go z hz (by unfold nN at hz; omega)
theorem swapped_any (x : Acc) (old : Int) (w : World) : Calls Try.prog 33 #[accG x, .int .u64 old] w (Ans (.bool (decide (x.k = 3 ∧ x.o = old))) w) := by
  obtain ⟨k, a, o, n⟩ := x
  show Calls _ _ #[.agg #[.int .i64 k, .int .i64 a, .int .u64 o, .int .u64 n], _] _ _
  have hb := (Below.refl w.heap.size w).alloc (Nat.le_refl _) (.cells #[.int .i64 k, .int .i64 a, .int .u64 o, .int .u64 n] 43)
  by_cases h3 : k = 3
  · subst h3
    have e : decide ((3 : Int) = 3 ∧ o = old) = decide (o = old) := by simp
    show Calls _ _ _ _ (Ans (.bool (decide ((3 : Int) = 3 ∧ o = old))) w)
    rw [e]
    go_enter Try.func33, Try.ntmps33
    go_wp2
    go_ret
    exact ⟨rfl, hb⟩
  · have e : decide (k = 3 ∧ o = old) = false := by simp [h3]
    show Calls _ _ _ _ (Ans (.bool (decide (k = 3 ∧ o = old))) w)
    rw [e]
    go_enter Try.func33, Try.ntmps33
    go_wp2
    go_ret
    exact ⟨rfl, hb⟩

set_option maxHeartbeats 1000000 in
theorem at_any (N a : Int) (p : Option Addr) (l c : Nat) (xs : List Acc) (w : World) (h : BookIs w p l c xs) : Calls Try.prog 45 #[.agg #[.int .i64 N, .slice p l c], .int .i64 a] w (Ans (.int .u64 (atV xs a)) w) := by
  have hl := h.len
  have hlm := h.lm
  have HL := Lib.hid h.lies
  have HXL := Lib.hid hl
  clear h hl
  have hw1 : IntKind.i64.wrap ((l : Int) - 1) = (l : Int) - 1 := IntWalk.i64_in _ (by omega)
  have hrow := Row.new w 29 [.int .i64 N, .slice p l c]
  have hbel := (Below.refl w.heap.size w).alloc (Nat.le_refl _) (.cells #[.int .i64 N, .slice p l c] 29)
  obtain ⟨W, hW⟩ : ∃ W, w.alloc (.cells #[.int .i64 N, .slice p l c] 29) = W := ⟨_, rfl⟩
  change Row w.heap.size 29 [.int .i64 N, .slice p l c] (w.alloc (.cells #[.int .i64 N, .slice p l c] 29)) at hrow
  rw [hW] at hrow hbel
  have HW := Lib.hid hW
  have c0 : W.cell? ⟨w.heap.size, 0, none⟩ = some (.int .i64 N) := hrow.cell 0
  have c1 : W.cell? ⟨w.heap.size, 1, none⟩ = some (.slice p l c) := hrow.cell 1
  have HB := Lib.hid hbel
  clear hrow hbel hW
  go_enter Try.func45, Try.ntmps45
  go_wp2_with fail
  rw [HW.out]
  go_loopw [5] (fun vi wr => ∃ i : Int, -1 ≤ i ∧ i < l ∧ vi = .int .i64 i ∧ wr = W ∧ Hid (∀ j : Nat, i < j → j < xs.length → (xs.getD j default).a ≠ a)) (fun vi _ => (intOf vi + 1).toNat)
  case atStart => exact ⟨(l : Int) - 1, by omega, by omega, rfl, rfl, fun j h1 h2 => by have := HXL.out; omega⟩
  case round =>
    obtain ⟨i, h1, h2, rfl, rfl, HI⟩ := hrel
    by_cases h0 : 0 ≤ i
    · obtain ⟨k, rfl⟩ : ∃ k : Nat, i = k := ⟨i.toNat, by omega⟩
      have hk : k < xs.length := by have := HXL.out; omega
      obtain ⟨b, o, rfl, d0, d1, d2, d3⟩ := (HL.out.on HB.out).at hk
      obtain ⟨x, hx⟩ : ∃ x, xs.getD k default = x := ⟨_, rfl⟩
      rw [hx] at d0 d1 d2 d3
      have HX := Lib.hid hx
      clear hx d0 d2
      have hw2 : IntKind.i64.wrap ((k : Int) - 1) = (k : Int) - 1 := IntWalk.i64_in _ (by omega)
      cases hxa : (x.a == a)
      · have HI2 : Hid (∀ j : Nat, (k : Int) - 1 < j → j < xs.length → (xs.getD j default).a ≠ a) := fun j hj hj2 => by
          by_cases e : j = k
          · subst e; rw [HX.out]; intro e2; rw [e2] at hxa; simp at hxa
          · exact HI.out j (by omega) hj2
        go_wp2_with fail
        go_roundw
        case rel => exact ⟨(k : Int) - 1, by omega, by omega, rfl, trivial, HI2⟩
        case measure =>
          show _ < _
          simp only [intOf]; omega
      · have HA : Hid (atV xs a = x.n) := by
          show _ = _
          rw [atV_hit hk (by rw [HX.out]; exact eq_of_beq hxa) (fun j hj hj2 => HI.out j (by omega) hj2), HX.out]
        go_wp2
        go_ret
        exact ⟨by rw [HA.out]; rfl, HB.out⟩
    · have HA : Hid (atV xs a = 0) := atV_miss (fun j hj => HI.out j (by omega) hj)
      go_wp2
      go_ret
      exact ⟨by rw [HA.out]; rfl, HB.out⟩

/-- the log: the last 256 -/
theorem LiesA.drop {w : World} {b o : Nat} {xs : List Acc} (h : LiesA w (some ⟨b, o, none⟩) xs) (d : Nat) : LiesA w (some ⟨b, o + d * 4, none⟩) (xs.drop d) := by
  refine ⟨fun i hi => ?_⟩
  rw [List.length_drop] at hi
  obtain ⟨b', o', e, hc⟩ := h.cells (d + i) (by omega)
  cases e
  refine ⟨b, o + d * 4, rfl, fun j hj => ?_⟩
  rw [show o + d * 4 + i * 4 + j = o + (d + i) * 4 + j by omega, hc j hj]
  simp [List.getD, List.getElem?_drop]
def LogPost (q : Option Addr) (xs : List Acc) (w : World) (e : Ending) (w' : World) : Prop := ∃ p l c, e = .returned (.slice p l c) ∧ BookIs w' p l c (xs.drop (xs.length - 256)) ∧ (∀ x o, p = some ⟨x, o, none⟩ → ∃ o', q = some ⟨x, o', none⟩) ∧ Below w.heap.size w w'
set_option maxHeartbeats 1000000 in
theorem log_any (N : Int) (p : Option Addr) (l c : Nat) (xs : List Acc) (w : World) (h : BookIs w p l c xs) : Calls Try.prog 43 #[.agg #[.int .i64 N, .slice p l c]] w (LogPost p xs w) := by
  have hl := h.len
  have hlm := h.lm
  have HBk := Lib.hid h
  have HXL := Lib.hid hl
  have hnl := h.nl
  have hc := h.cp.1
  have hc2 := h.cp.2
  have HCP := Lib.hid h.cp
  unfold maxLen at hc2
  clear h hl
  have hw1 : IntKind.i64.wrap ((l : Int) - 256) = (l : Int) - 256 := IntWalk.i64_in _ (by omega)
  by_cases h256 : l ≤ 256
  · have q1 : ¬ ((0 : Int) < (l : Int) - 256) := by omega
    go_enter Try.func43, Try.ntmps43
    go_wp2_with fail
    go_ret
    refine ⟨p, l, c, rfl, ?_, fun x o e => ⟨o, e⟩, (Below.refl _ _).alloc (Nat.le_refl _) _⟩
    rw [show xs.length - 256 = 0 by have := HXL.out; omega, List.drop_zero]
    exact HBk.out.on ((Below.refl _ _).alloc (Nat.le_refl _) _)
  · have q1 : (0 : Int) < (l : Int) - 256 := by omega
    obtain ⟨b, o, hp, -⟩ := HBk.out.lies.at (i := 0) (by have := HXL.out; omega)
    subst hp
    have q2 : (l : Int) - 256 ≤ (l : Int) := by omega
    have q3 : (l : Int) ≤ (c : Int) := by omega
    have q4 : (0 : Int) ≤ (l : Int) - 256 := by omega
    obtain ⟨d, hd⟩ : ∃ d : Nat, (l : Int) - 256 = (d : Int) := ⟨l - 256, by omega⟩
    rw [hd] at hw1 q1 q2 q4
    have hd3 : d ≤ l := by omega
    have hd2 : d ≤ c := by omega
    have q5 : ¬ (c - d = 0) := by omega
    go_enter Try.func43, Try.ntmps43
    go_wp2_with fail
    go_ret
    have hb := (Below.refl w.heap.size w).alloc (Nat.le_refl _) (.cells #[.int .i64 N, .slice (some ⟨b, o, none⟩) l c] 29)
    refine ⟨_, _, _, rfl, ⟨?_, by omega, (fun e => by cases e), ⟨by omega, by have := HCP.out.2; omega⟩, (fun x o' e _ => by cases e; exact (HBk.out.on hb).typ b o rfl (by have := HXL.out; omega)), ?_⟩, (fun x o' e => by cases e; exact ⟨o, rfl⟩), hb⟩
    · rw [List.length_drop, ← HXL.out]; omega
    · rw [show xs.length - 256 = d by have := HXL.out; omega]
      exact (HBk.out.lies.drop d).on hb
end Go.Proofs.Ytnakaifnalojeaa
