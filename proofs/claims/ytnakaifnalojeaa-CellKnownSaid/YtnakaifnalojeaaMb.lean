/- The reference's Do (layer 6), walked. -/
import Derived.Test.YtnakaifnalojeaaMa
import Derived.BigRegion
import Derived.Laws.AppendOwnNone
import Derived.Deep.RegionHeld
namespace Go.Proofs.Ytnakaifnalojeaa
open Go.RowKit Go.Ce

theorem infoAcc : (Try.prog.info? 43).map (fun i => (i.zero, i.size, i.bytes)) = some (some (.agg #[.int .i64 0, .int .i64 0, .int .u64 0, .int .u64 0]), 4, 32) := by kernel_rfl
/-- what Do returns -/
def DoPost (N : Int) (xs : List Acc) (k a old x : Int) (w : World) (e : Ending) (w' : World) : Prop :=
  ∃ p l c, e = .returned (.tuple #[.agg #[.int .i64 N, .slice p l c], accG (doE N xs k a old x), .bool (!decide (Bad N k a))]) ∧ BookIs w' p l c (doL N xs k a old x) ∧ Below w.heap.size w w'

/-- a row that came in, appended onto nothing: four cells each -/
theorem append_rowA {P : Program} {T E : TypeId} (i0 : TypeInfo) (z : Value) (hU : P.underlying T = some (.slice E)) (hi : P.info? E = some i0) (hz0 : i0.zero = some z) (hz1 : i0.size = 4) (hz2 : i0.bytes = 32) (hzc : z.cells.size = 4)
    {ops : Array Oper} {rest : List Oper} {o : Oper} {a : Act} {Q : Exit → Act → World → Prop} (w : World) (hgd : o.guard = none) (s x : Operand)
    (ho : o.op = .call { callee := .builtin .append, args := #[s, x], argTypes := #[T, T] }) (hs : a.eval s = .slice none 0 0) (xs : List Acc) (p : Option Addr) (l c : Nat) (hx : a.eval x = .slice p l c) (hB : BookIs w p l c xs)
    (h : ∀ v' w', w'.ownsRow w.heap.size E 4 v' xs.length (xs.flatMap accC) → Below w.heap.size w w' → wpList P ops Q rest (a.put o.dst v') w') : wpList P ops Q (o :: rest) a w := by
  have hlen := hB.len
  have hlm := hB.lm
  cases p with
  | none =>
    have hc := hB.nl rfl
    have h0 : xs = [] := by
      cases xs with
      | nil => rfl
      | cons y r => obtain ⟨b, o', hp, _⟩ := hB.lies.cells 0 (by simp); cases hp
    subst h0; subst hc; subst hlen
    refine wpList_append_own_none hgd s x T ho w.heap.size E i0 4 hU hi (.slice none 0 0) 0 [] hs (World.ownsRow_nil _ _ _ _) hx ?_
    exact h _ _ (World.ownsRow_nil _ _ _ _) (Below.refl _ _)
  | some ad =>
    subst hlen
    refine wpList_append_own w hgd s x T ho w.heap.size E i0 z 4 32 hU hi hz0 hz1 hz2 hzc (by decide) (.slice none 0 0) 0 [] hs (World.ownsRow_nil _ _ _ _) ad xs.length c (xs.flatMap accC) hx (accs_length xs) ?_ (accs_one xs) (by unfold maxLen; omega) (by omega) (Nat.le_refl _) ?_
    · intro j u hu
      have hj : j < xs.length * 4 := by
        rw [← accs_length]
        rcases Nat.lt_or_ge j (xs.flatMap accC).length with h' | h'
        · exact h'
        · rw [List.getElem?_eq_none h'] at hu; cases hu
      have hi4 : j / 4 < xs.length := by omega
      obtain ⟨b, o', hp, hc⟩ := hB.lies.cells (j / 4) hi4
      cases hp
      have e : (⟨b, o', none⟩ : Addr).add j = ⟨b, o' + j / 4 * 4 + j % 4, none⟩ := by
        have hd : o' + j / 4 * 4 + j % 4 = o' + j := by omega
        rw [hd]
        by_cases h0 : j = 0
        · subst h0; simp [Addr.add]
        · simp [Addr.add, h0]
      rw [e, hc (j % 4) (by omega), ← accs_at xs (j / 4) (j % 4) hi4 (by omega), show j / 4 * 4 + j % 4 = j by omega]
      exact hu
    · intro v' w' h1 h2 _
      rw [Nat.zero_add, List.nil_append] at h1
      exact h v' w' h1 ((Below.refl _ _).grown h2 (Nat.le_refl _) (fun k hk => by cases hk))
theorem own_size {w : World} {B C n s : Nat} {E : TypeId} {v : Value} {xs : List Value} (h : w.ownsRow B E s v n xs) (hb : B = C) : w.ownsRow C E s v n xs := by subst hb; exact h
theorem acc_new (x : Acc) (w : World) (t : TypeId) : ∀ j u, (accC x)[j]? = some u → (w.alloc (.cells #[.int .i64 x.k, .int .i64 x.a, .int .u64 x.o, .int .u64 x.n] t)).cell? ((⟨w.heap.size, 0, none⟩ : Addr).add j) = some u := by
  intro j u hu
  rw [Addr.add_mid, World.cell?_alloc_new, Nat.zero_add]
  rcases j with _ | _ | _ | _ | j
  · simpa [accC] using hu
  · simpa [accC] using hu
  · simpa [accC] using hu
  · simpa [accC] using hu
  · simp [accC] at hu
theorem acc_one (x : Acc) : ∀ u ∈ accC x, u.oneCell' = true := by
  intro u hu
  simp [accC] at hu
  rcases hu with rfl | rfl | rfl | rfl <;> rfl

theorem LiesA.set {w : World} {g o : Nat} {xs : List Acc} (h : LiesA w (some ⟨g, o, none⟩) xs) {q : Addr} (hq : q.block ≠ g) (v : Value) : LiesA (w.setCell q v) (some ⟨g, o, none⟩) xs :=
  ⟨fun i hi => by
    obtain ⟨b, o', hp, hc⟩ := h.cells i hi
    cases hp
    exact ⟨g, o, rfl, fun j hj => by rw [World.cell?_setCell_far _ _ _ _ hq]; exact hc j hj⟩⟩
theorem own_ne {w : World} {B n s : Nat} {E : TypeId} {v : Value} {xs : List Value} (h : w.ownsRow B E s v n xs) {k : Nat} (hk : k < B) : v.ownBlock ≠ some k := fun e => by
  have := (h.lt k e).1; omega

set_option maxHeartbeats 1000000 in
theorem do_bad (N k a old x : Int) (p : Option Addr) (l c : Nat) (xs : List Acc) (w : World) (h : BookIs w p l c xs) (hb : Bad N k a) : Calls Try.prog 32 #[.agg #[.int .i64 N, .slice p l c], .int .i64 k, .int .i64 a, .int .u64 old, .int .u64 x] w (DoPost N xs k a old x w) := by
  have fin : ∀ e w', (e = .returned (.tuple #[.agg #[.int .i64 N, .slice p l c], .agg #[.int .i64 0, .int .i64 0, .int .u64 0, .int .u64 0], .bool false]) ∧ Below w.heap.size w w') → DoPost N xs k a old x w e w' := by
    rintro e w' ⟨rfl, hw⟩
    refine ⟨p, l, c, ?_, ?_, hw⟩
    · rw [doE_bad hb, decide_eq_true hb]; rfl
    · rw [doL_bad hb]; exact h.on hw
  refine Calls.mono (R := fun e w' => e = .returned (.tuple #[.agg #[.int .i64 N, .slice p l c], .agg #[.int .i64 0, .int .i64 0, .int .u64 0, .int .u64 0], .bool false]) ∧ Below w.heap.size w w') ?_ fin
  clear fin h
  have hcase : a < 0 ∨ (0 ≤ a ∧ N ≤ a) ∨ (0 ≤ a ∧ a < N ∧ k < 1) ∨ (0 ≤ a ∧ a < N ∧ 1 ≤ k ∧ 4 < k) := by unfold Bad at hb; omega
  clear hb
  rcases hcase with h1 | ⟨h1, h2⟩ | ⟨h1, h2, h3⟩ | ⟨h1, h2, h3, h4⟩
  all_goals
    go_enter Try.func32, Try.ntmps32
    go_wp2
    exact bodyPost_ret (v := .tuple #[.agg #[.int .i64 N, .slice p l c], .agg #[.int .i64 0, .int .i64 0, .int .u64 0, .int .u64 0], .bool false]) (by simp [results, Try.results32, go_sem, *]) rfl ⟨rfl, ((((Below.refl _ _).alloc (Nat.le_refl _) _).alloc (by simp) _).alloc (by simp; omega) _)⟩

/-- behind the second append: the variables' blocks, the access, the new row -/
structure DoAf (N : Int) (p : Option Addr) (l c : Nat) (e : Acc) (xs : List Acc) (w W1 : World) (g cap n : Nat) (W : World) : Prop where
  r0 : Row w.heap.size 29 [.int .i64 N, .slice p l c] W
  r1 : Row (w.heap.size + 1) 29 [.int .i64 0, .slice none 0 0] W
  r2 : Row (w.heap.size + 1 + 1) 43 [.int .i64 0, .int .i64 0, .int .u64 0, .int .u64 0] W
  re : Row W1.heap.size 43 (accC e) W
  own : W.ownsRow (W1.heap.size + 1) 43 4 (.slice (some ⟨g, 0, none⟩) n cap) n (xs.flatMap accC ++ accC e)
  far : W1.heap.size + 1 ≤ g
  big : w.heap.size + 1 + 1 < W1.heap.size
  bel : Below w.heap.size w W
theorem do_after {N : Int} {p : Option Addr} {l c : Nat} {e : Acc} {xs : List Acc} {w W1 W3 W4 : World} {v3 : Value} {g cap n : Nat} {T : TypeId} (hG : w.heap.size + 1 + 1 < W1.heap.size) (hB : Below w.heap.size w W3) (h0 : Row w.heap.size 29 [.int .i64 N, .slice p l c] W3) (h1 : Row (w.heap.size + 1) 29 [.int .i64 0, .slice none 0 0] W3)
    (h2 : Row (w.heap.size + 1 + 1) 43 [.int .i64 0, .int .i64 0, .int .u64 0, .int .u64 0] W3) (he : Row W1.heap.size 43 (accC e) W3) (ho : W3.ownsRow (W1.heap.size + 1) 43 4 v3 xs.length (xs.flatMap accC))
    (hg : (W3.alloc (.cells #[.int .i64 e.k, .int .i64 e.a, .int .u64 e.o, .int .u64 e.n] T)).grownBy W4 v3.ownBlock) (hown : W4.ownsRow (W1.heap.size + 1) 43 4 (.slice (some ⟨g, 0, none⟩) n cap) n (xs.flatMap accC ++ accC e)) : DoAf N p l c e xs w W1 g cap n W4 := by
  have ht : Tch (fun j => v3.ownBlock = some j) W3 W4 := (Tch.trans (.of _ ((Below.refl _ _).alloc (Nat.le_refl _) _)) (Tch.grown hg))
  have ne {k : Nat} (hk : k < W1.heap.size + 1) : ¬ v3.ownBlock = some k := own_ne ho hk
  refine ⟨h0.tch ht (ne (by omega)), h1.tch ht (ne (by omega)), h2.tch ht (ne (by omega)), he.tch ht (ne (by omega)), hown, (hown.lt g rfl).1, hG, hB.trans (ht.below hB.size (fun j e => by have := (ho.lt j e).1; omega))⟩
/-- the row's name is written into the box -/
theorem DoAf.set {N : Int} {p : Option Addr} {l c : Nat} {e : Acc} {xs : List Acc} {w W1 : World} {g cap n : Nat} {W : World} (h : DoAf N p l c e xs w W1 g cap n W) (hn : n = xs.length + 1) : DoAf N (some ⟨g, 0, none⟩) (xs.length + 1) cap e xs w W1 g cap n (W.setCell ⟨w.heap.size, 1, none⟩ (.slice (some ⟨g, 0, none⟩) (xs.length + 1) cap)) := by
  have hb := h.big
  have hf := h.far
  refine ⟨h.r0.set 1 _, h.r1.far (by show _ ≠ w.heap.size; omega) _, h.r2.far (by show _ ≠ w.heap.size; omega) _, h.re.far (by show _ ≠ w.heap.size; omega) _, ?_, h.far, h.big, h.bel.setCell (p := ⟨w.heap.size, 1, none⟩) (Nat.le_refl _) _⟩
  refine ⟨h.own.1, ?_⟩
  rcases h.own.2 with h2 | ⟨g', cap', cur, hv, hB, hg, r⟩
  · exact .inl h2
  · refine .inr ⟨g', cap', cur, hv, hB, ?_, r⟩
    rw [Below.heap_setCell W ⟨w.heap.size, 1, none⟩ _ g' (by show g' ≠ w.heap.size; omega)]; exact hg

theorem do_fin {N : Int} {q : Option Addr} {l c : Nat} {e : Acc} {xs : List Acc} {w W1 : World} {g cap n : Nat} {W : World} (h : DoAf N q l c e xs w W1 g cap n W) (hn : n = xs.length + 1) (hl : n ≤ 1000000) (x0 x1 x2 x3 x4 x5 : Value) :
    BookIs ((((((W.setCell ⟨w.heap.size + 1, 0, none⟩ x0).setCell ⟨w.heap.size + 1, 1, none⟩ x1).setCell ⟨w.heap.size + 1 + 1, 0, none⟩ x2).setCell ⟨w.heap.size + 1 + 1, 1, none⟩ x3).setCell ⟨w.heap.size + 1 + 1, 2, none⟩ x4).setCell ⟨w.heap.size + 1 + 1, 3, none⟩ x5).drew (some ⟨g, 0, none⟩) n cap (xs ++ [e]) ∧
    Below w.heap.size w ((((((W.setCell ⟨w.heap.size + 1, 0, none⟩ x0).setCell ⟨w.heap.size + 1, 1, none⟩ x1).setCell ⟨w.heap.size + 1 + 1, 0, none⟩ x2).setCell ⟨w.heap.size + 1 + 1, 1, none⟩ x3).setCell ⟨w.heap.size + 1 + 1, 2, none⟩ x4).setCell ⟨w.heap.size + 1 + 1, 3, none⟩ x5).drew := by
  have hb := h.big
  have hf := h.far
  have hL : LiesA W (some ⟨g, 0, none⟩) (xs ++ [e]) := ⟨fun i hi => ⟨g, 0, rfl, fun j hj => by
    have hi' : i < n := by rw [hn]; simpa using hi
    have ha := accs_at (xs ++ [e]) i j hi hj
    rw [List.flatMap_append, show [e].flatMap accC = accC e from List.append_nil _] at ha
    rw [Nat.zero_add, h.own.cellAt (i * 4 + j) (by omega), ha]⟩⟩
  have hT : ∃ cur fr, W.heap[g]? = some (.cells cur 43 fr) := by
    rcases h.own.2 with ⟨e, _⟩ | ⟨g', cap', cur, e, _, hg, _⟩
    · cases e
    · cases e; exact ⟨cur, (0, 0), hg⟩
  have st {W' : World} (hw : LiesA W' (some ⟨g, 0, none⟩) (xs ++ [e]) ∧ (∃ cur fr, W'.heap[g]? = some (.cells cur 43 fr)) ∧ Below w.heap.size w W') (b j : Nat) (h1 : w.heap.size ≤ b) (h2 : b ≠ g) (x : Value) : LiesA (W'.setCell ⟨b, j, none⟩ x) (some ⟨g, 0, none⟩) (xs ++ [e]) ∧ (∃ cur fr, (W'.setCell ⟨b, j, none⟩ x).heap[g]? = some (.cells cur 43 fr)) ∧ Below w.heap.size w (W'.setCell ⟨b, j, none⟩ x) :=
    ⟨hw.1.set (q := ⟨b, j, none⟩) h2 x, by rw [Below.heap_setCell W' ⟨b, j, none⟩ x g (fun e => h2 e.symm)]; exact hw.2.1, hw.2.2.setCell (p := ⟨b, j, none⟩) h1 x⟩
  have s1 := st ⟨hL, hT, h.bel⟩ (w.heap.size + 1) 0 (by omega) (by omega) x0
  have s2 := st s1 (w.heap.size + 1) 1 (by omega) (by omega) x1
  have s3 := st s2 (w.heap.size + 1 + 1) 0 (by omega) (by omega) x2
  have s4 := st s3 (w.heap.size + 1 + 1) 1 (by omega) (by omega) x3
  have s5 := st s4 (w.heap.size + 1 + 1) 2 (by omega) (by omega) x4
  have s6 := st s5 (w.heap.size + 1 + 1) 3 (by omega) (by omega) x5
  clear s1 s2 s3 s4 s5
  generalize ((((((W.setCell ⟨w.heap.size + 1, 0, none⟩ x0).setCell ⟨w.heap.size + 1, 1, none⟩ x1).setCell ⟨w.heap.size + 1 + 1, 0, none⟩ x2).setCell ⟨w.heap.size + 1 + 1, 1, none⟩ x3).setCell ⟨w.heap.size + 1 + 1, 2, none⟩ x4).setCell ⟨w.heap.size + 1 + 1, 3, none⟩ x5) = V at s6
  have hcp : n ≤ cap ∧ cap ≤ maxLen := by
    rcases h.own.2 with ⟨e, _⟩ | ⟨g', cap', cur, e, _, _, h1, h2, _⟩
    · cases e
    · cases e; exact ⟨h1, h2⟩
  exact ⟨⟨by rw [hn]; simp, hl, (fun e => by cases e), hcp, (fun b' o' e' _ => by cases e'; exact s6.2.1), ⟨s6.1.cells⟩⟩, s6.2.2.drew⟩

set_option maxRecDepth 10000 in
set_option maxHeartbeats 4000000 in
theorem do_ok (N k a old x : Int) (p : Option Addr) (l c : Nat) (xs : List Acc) (w : World) (h : BookIs w p l c xs) (hl1 : l + 1 ≤ 1000000) (hb : ¬ Bad N k a) : Calls Try.prog 32 #[.agg #[.int .i64 N, .slice p l c], .int .i64 k, .int .i64 a, .int .u64 old, .int .u64 x] w (DoPost N xs k a old x w) := by
  obtain ⟨i0, hi, hz0, hz1, hz2⟩ := info_parts infoAcc
  have HBad := Lib.hid hb
  have HBk := Lib.hid h
  have g1 : ¬ (a < 0) := by unfold Bad at hb; omega
  have g2 : ¬ (N ≤ a) := by unfold Bad at hb; omega
  have g3 : ¬ (k < 1) := by unfold Bad at hb; omega
  have g4 : ¬ (4 < k) := by unfold Bad at hb; omega
  have HD : Hid (doL N xs k a old x = xs ++ [accV xs k a old x] ∧ doE N xs k a old x = accV xs k a old x) := ⟨doL_ok hb _ _ _, doE_ok hb _ _ _⟩
  clear h hb
  go_enter Try.func32, Try.ntmps32
  go_wp2_with fail
  have hb0 := (((Below.refl w.heap.size w).alloc (Nat.le_refl _) (.cells #[.int .i64 N, .slice p l c] 29)).alloc (by simp) (.cells #[.int .i64 0, .slice none 0 0] 29)).alloc (by simp; omega) (.cells #[.int .i64 0, .int .i64 0, .int .u64 0, .int .u64 0] 43)
  have hr0 := (Row.new w 29 [.int .i64 N, .slice p l c])
  have hr1 := (Row.new' (w.alloc (.cells #[.int .i64 N, .slice p l c] 29)) 29 [.int .i64 0, .slice none 0 0] (w.heap.size + 1) (by simp))
  have hr2 := (Row.new' ((w.alloc (.cells #[.int .i64 N, .slice p l c] 29)).alloc (.cells #[.int .i64 0, .slice none 0 0] 29)) 43 [.int .i64 0, .int .i64 0, .int .u64 0, .int .u64 0] (w.heap.size + 1 + 1) (by simp))
  have hr1' := hr1.on' ((Below.refl _ _).alloc (Nat.le_refl _) (.cells #[.int .i64 0, .int .i64 0, .int .u64 0, .int .u64 0] 43))
  have hr0' := hr0.on' (((Below.refl _ _).alloc (Nat.le_refl _) (.cells #[.int .i64 0, .slice none 0 0] 29)).alloc (by simp) (.cells #[.int .i64 0, .int .i64 0, .int .u64 0, .int .u64 0] 43))
  refine (at_any N a p l c xs _ (HBk.out.on hb0)).mono ?_
  rintro e W1 ⟨rfl, hb1⟩
  have HB := Lib.hid (hb0.trans (hb1.mono hb0.size))
  have HR0 := Lib.hid (hr0'.on' hb1)
  have HR1 := Lib.hid (hr1'.on' hb1)
  have HR2 := Lib.hid (hr2.on' hb1)
  have HG : Hid (w.heap.size + 1 + 1 < W1.heap.size) := HR2.out.lt
  clear hb0 hb1 hr0 hr1 hr2 hr0' hr1'
  obtain ⟨was, hwas⟩ : ∃ v, atV xs a = v := ⟨_, rfl⟩
  rw [hwas]
  have HE : Hid (accV xs k a old x = ⟨k, a, was, if k = 2 ∨ k = 3 ∧ was = old then x else if k = 4 then IntKind.u64.wrap (was + x) else was⟩) := by show _ = _; unfold accV; rw [hwas]
  clear hwas
  have HX := Lib.hid (And.intro (show xs.length + 1 ≤ maxLen by have := HBk.out.len; unfold maxLen; omega) (show (xs.length + 1) * 32 ≤ 140737488355328 by have := HBk.out.len; omega))
  have hcase : k = 2 ∨ (k = 3 ∧ was = old) ∨ (k = 3 ∧ was ≠ old) ∨ k = 4 ∨ k = 1 := by omega
  rcases hcase with rfl | ⟨rfl, rfl⟩ | ⟨rfl, hne⟩ | rfl | rfl
  · have HEE : Hid (accV xs 2 a old x = ⟨2, a, was, x⟩) := by show _ = _; rw [HE.out]; simp
    have hbe := (Below.refl W1.heap.size W1).alloc (Nat.le_refl _) (.cells #[.int .i64 2, .int .i64 a, .int .u64 was, .int .u64 x] 43)
    have HB2 := Lib.hid (HB.out.alloc HB.out.size (.cells #[.int .i64 2, .int .i64 a, .int .u64 was, .int .u64 x] 43))
    have HR02 := Lib.hid (HR0.out.on' hbe)
    have HR12 := Lib.hid (HR1.out.on' hbe)
    have HR22 := Lib.hid (HR2.out.on' hbe)
    have HRe := Lib.hid (Row.new W1 43 [.int .i64 2, .int .i64 a, .int .u64 was, .int .u64 x])
    have c1 := HR02.out.cell 1
    simp only [List.getElem?_cons_zero, List.getElem?_cons_succ] at c1
    clear hbe
    go_wp2_with (at_builtin; first
      | (refine append_rowA i0 _ Try.underlying27 hi hz0 hz1 hz2 rfl _ rfl (.tmp 61) (.tmp 63) rfl rfl xs p l c rfl (HBk.out.on HB2.out) ?_; intro v3 W3 hown3 hb3; have HB3 := Lib.hid (HB2.out.trans (hb3.mono HB2.out.size)); have HR03 := Lib.hid (HR02.out.on' hb3); have HR13 := Lib.hid (HR12.out.on' hb3); have HR23 := Lib.hid (HR22.out.on' hb3); have HRe3 := Lib.hid (HRe.out.on' hb3); have HO3 := Lib.hid (own_size hown3 (show _ = W1.heap.size + 1 by simp)); have hsz3 := hb3.size; have e0 := HRe3.out.cell 0; have e1 := HRe3.out.cell 1; have e2 := HRe3.out.cell 2; have e3 := HRe3.out.cell 3; simp only [List.getElem?_cons_zero, List.getElem?_cons_succ] at e0 e1 e2 e3; clear c1 hown3 hb3)
      | (refine wpList_append_lies _ rfl (.tmp 65) (.tmp 67) 27 (by rfl) (W1.heap.size + 1) 43 i0 (.agg #[.int .i64 0, .int .i64 0, .int .u64 0, .int .u64 0]) 4 32 Try.underlying27 hi hz0 hz1 hz2 rfl (by decide) v3 xs.length (xs.flatMap accC) (by kernel_rfl) (HO3.out.alloc _) ⟨W3.heap.size, 0, none⟩ 1 1 (accC ⟨2, a, was, x⟩) (by kernel_rfl) rfl (acc_new ⟨2, a, was, x⟩ W3 _) (acc_one _) (by decide) HX.out.1 HX.out.2 (by simp at hsz3; simp; omega) (W3.heap.size + 1) (by simp) ?_; intro g4 cap4 W4 hown4 hgrow4 hat4 hlt4; have HF := Lib.hid (do_after (e := ⟨2, a, was, x⟩) HG.out HB3.out HR03.out HR13.out HR23.out HRe3.out HO3.out hgrow4 hown4); have k1 := HF.out.r0.cell 1; have z1 := HF.out.r0.frozen 1; simp only [List.getElem?_cons_zero, List.getElem?_cons_succ] at k1; clear hown4 hgrow4 hat4 hlt4 e0 e1 e2 e3))
    have HS := Lib.hid (HF.out.set rfl)
    obtain ⟨W5, hW5⟩ : ∃ W5, W4.setCell ⟨w.heap.size, 1, none⟩ (.slice (some ⟨g4, 0, none⟩) (xs.length + 1) cap4) = W5 := ⟨_, rfl⟩
    rw [hW5] at HS ⊢
    clear hW5 HF k1 z1 HO3 HR03 HR13 HR23 HRe3 HB3 HB2 HR02 HR12 HR22 HRe HR0 HR1 HR2 HB hsz3 HX
    have b0 := HS.out.r0.cell 0
    have b1 := HS.out.r0.cell 1
    have e0 := HS.out.re.cell 0
    have e1 := HS.out.re.cell 1
    have e2 := HS.out.re.cell 2
    have e3 := HS.out.re.cell 3
    have q0 := HS.out.r1.cell 0
    have q1 := HS.out.r1.cell 1
    have y0 := HS.out.r1.frozen 0
    have y1 := HS.out.r1.frozen 1
    have t0 := HS.out.r2.cell 0
    have t1 := HS.out.r2.cell 1
    have t2 := HS.out.r2.cell 2
    have t3 := HS.out.r2.cell 3
    have u0 := HS.out.r2.frozen 0
    have u1 := HS.out.r2.frozen 1
    have u2 := HS.out.r2.frozen 2
    have u3 := HS.out.r2.frozen 3
    simp only [accC, List.getElem?_cons_zero, List.getElem?_cons_succ] at b0 b1 e0 e1 e2 e3 q0 q1 t0 t1 t2 t3
    have n1 : ¬ (W1.heap.size = w.heap.size + 1) := by have := HS.out.big; omega
    have n2 : ¬ (W1.heap.size = w.heap.size + 1 + 1) := by have := HS.out.big; omega
    have n3 : ¬ (w.heap.size + 1 = W1.heap.size) := by have := HS.out.big; omega
    have n4 : ¬ (w.heap.size + 1 + 1 = W1.heap.size) := by have := HS.out.big; omega
    go_region
    go_wp2_with fail
    refine bodyPost_ret (v := .tuple #[.agg #[.int .i64 N, .slice (some ⟨g4, 0, none⟩) (xs.length + 1) cap4], .agg #[.int .i64 2, .int .i64 a, .int .u64 was, .int .u64 x], .bool true]) (by simp [results, Try.results32, go_sem, *]) rfl ?_
    obtain ⟨hbk, hbw⟩ := do_fin HS.out rfl (by have := HBk.out.len; omega) (.int .i64 N) (.slice (some ⟨g4, 0, none⟩) (xs.length + 1) cap4) (.int .i64 2) (.int .i64 a) (.int .u64 was) (.int .u64 x)
    refine ⟨some ⟨g4, 0, none⟩, xs.length + 1, cap4, ?_, ?_, hbw⟩
    · rw [HD.out.2, HEE.out, decide_eq_false HBad.out]; rfl
    · rw [HD.out.1, HEE.out]; exact hbk
  · have HEE : Hid (accV xs 3 a was x = ⟨3, a, was, x⟩) := by show _ = _; rw [HE.out]; simp
    have hbe := (Below.refl W1.heap.size W1).alloc (Nat.le_refl _) (.cells #[.int .i64 3, .int .i64 a, .int .u64 was, .int .u64 x] 43)
    have HB2 := Lib.hid (HB.out.alloc HB.out.size (.cells #[.int .i64 3, .int .i64 a, .int .u64 was, .int .u64 x] 43))
    have HR02 := Lib.hid (HR0.out.on' hbe)
    have HR12 := Lib.hid (HR1.out.on' hbe)
    have HR22 := Lib.hid (HR2.out.on' hbe)
    have HRe := Lib.hid (Row.new W1 43 [.int .i64 3, .int .i64 a, .int .u64 was, .int .u64 x])
    have c1 := HR02.out.cell 1
    simp only [List.getElem?_cons_zero, List.getElem?_cons_succ] at c1
    clear hbe
    go_wp2_with (at_builtin; first
      | (refine append_rowA i0 _ Try.underlying27 hi hz0 hz1 hz2 rfl _ rfl (.tmp 61) (.tmp 63) rfl rfl xs p l c rfl (HBk.out.on HB2.out) ?_; intro v3 W3 hown3 hb3; have HB3 := Lib.hid (HB2.out.trans (hb3.mono HB2.out.size)); have HR03 := Lib.hid (HR02.out.on' hb3); have HR13 := Lib.hid (HR12.out.on' hb3); have HR23 := Lib.hid (HR22.out.on' hb3); have HRe3 := Lib.hid (HRe.out.on' hb3); have HO3 := Lib.hid (own_size hown3 (show _ = W1.heap.size + 1 by simp)); have hsz3 := hb3.size; have e0 := HRe3.out.cell 0; have e1 := HRe3.out.cell 1; have e2 := HRe3.out.cell 2; have e3 := HRe3.out.cell 3; simp only [List.getElem?_cons_zero, List.getElem?_cons_succ] at e0 e1 e2 e3; clear c1 hown3 hb3)
      | (refine wpList_append_lies _ rfl (.tmp 65) (.tmp 67) 27 (by rfl) (W1.heap.size + 1) 43 i0 (.agg #[.int .i64 0, .int .i64 0, .int .u64 0, .int .u64 0]) 4 32 Try.underlying27 hi hz0 hz1 hz2 rfl (by decide) v3 xs.length (xs.flatMap accC) (by kernel_rfl) (HO3.out.alloc _) ⟨W3.heap.size, 0, none⟩ 1 1 (accC ⟨3, a, was, x⟩) (by kernel_rfl) rfl (acc_new ⟨3, a, was, x⟩ W3 _) (acc_one _) (by decide) HX.out.1 HX.out.2 (by simp at hsz3; simp; omega) (W3.heap.size + 1) (by simp) ?_; intro g4 cap4 W4 hown4 hgrow4 hat4 hlt4; have HF := Lib.hid (do_after (e := ⟨3, a, was, x⟩) HG.out HB3.out HR03.out HR13.out HR23.out HRe3.out HO3.out hgrow4 hown4); have k1 := HF.out.r0.cell 1; have z1 := HF.out.r0.frozen 1; simp only [List.getElem?_cons_zero, List.getElem?_cons_succ] at k1; clear hown4 hgrow4 hat4 hlt4 e0 e1 e2 e3))
    have HS := Lib.hid (HF.out.set rfl)
    obtain ⟨W5, hW5⟩ : ∃ W5, W4.setCell ⟨w.heap.size, 1, none⟩ (.slice (some ⟨g4, 0, none⟩) (xs.length + 1) cap4) = W5 := ⟨_, rfl⟩
    rw [hW5] at HS ⊢
    clear hW5 HF k1 z1 HO3 HR03 HR13 HR23 HRe3 HB3 HB2 HR02 HR12 HR22 HRe HR0 HR1 HR2 HB hsz3 HX
    have b0 := HS.out.r0.cell 0
    have b1 := HS.out.r0.cell 1
    have e0 := HS.out.re.cell 0
    have e1 := HS.out.re.cell 1
    have e2 := HS.out.re.cell 2
    have e3 := HS.out.re.cell 3
    have q0 := HS.out.r1.cell 0
    have q1 := HS.out.r1.cell 1
    have y0 := HS.out.r1.frozen 0
    have y1 := HS.out.r1.frozen 1
    have t0 := HS.out.r2.cell 0
    have t1 := HS.out.r2.cell 1
    have t2 := HS.out.r2.cell 2
    have t3 := HS.out.r2.cell 3
    have u0 := HS.out.r2.frozen 0
    have u1 := HS.out.r2.frozen 1
    have u2 := HS.out.r2.frozen 2
    have u3 := HS.out.r2.frozen 3
    simp only [accC, List.getElem?_cons_zero, List.getElem?_cons_succ] at b0 b1 e0 e1 e2 e3 q0 q1 t0 t1 t2 t3
    have n1 : ¬ (W1.heap.size = w.heap.size + 1) := by have := HS.out.big; omega
    have n2 : ¬ (W1.heap.size = w.heap.size + 1 + 1) := by have := HS.out.big; omega
    have n3 : ¬ (w.heap.size + 1 = W1.heap.size) := by have := HS.out.big; omega
    have n4 : ¬ (w.heap.size + 1 + 1 = W1.heap.size) := by have := HS.out.big; omega
    go_region
    go_wp2_with fail
    refine bodyPost_ret (v := .tuple #[.agg #[.int .i64 N, .slice (some ⟨g4, 0, none⟩) (xs.length + 1) cap4], .agg #[.int .i64 3, .int .i64 a, .int .u64 was, .int .u64 x], .bool true]) (by simp [results, Try.results32, go_sem, *]) rfl ?_
    obtain ⟨hbk, hbw⟩ := do_fin HS.out rfl (by have := HBk.out.len; omega) (.int .i64 N) (.slice (some ⟨g4, 0, none⟩) (xs.length + 1) cap4) (.int .i64 3) (.int .i64 a) (.int .u64 was) (.int .u64 x)
    refine ⟨some ⟨g4, 0, none⟩, xs.length + 1, cap4, ?_, ?_, hbw⟩
    · rw [HD.out.2, HEE.out, decide_eq_false HBad.out]; rfl
    · rw [HD.out.1, HEE.out]; exact hbk
  · have HEE : Hid (accV xs 3 a old x = ⟨3, a, was, was⟩) := by show _ = _; rw [HE.out]; simp [hne]
    have hne2 : (was == old) = false := by simpa using hne
    have hbe := (Below.refl W1.heap.size W1).alloc (Nat.le_refl _) (.cells #[.int .i64 3, .int .i64 a, .int .u64 was, .int .u64 was] 43)
    have HB2 := Lib.hid (HB.out.alloc HB.out.size (.cells #[.int .i64 3, .int .i64 a, .int .u64 was, .int .u64 was] 43))
    have HR02 := Lib.hid (HR0.out.on' hbe)
    have HR12 := Lib.hid (HR1.out.on' hbe)
    have HR22 := Lib.hid (HR2.out.on' hbe)
    have HRe := Lib.hid (Row.new W1 43 [.int .i64 3, .int .i64 a, .int .u64 was, .int .u64 was])
    have c1 := HR02.out.cell 1
    simp only [List.getElem?_cons_zero, List.getElem?_cons_succ] at c1
    clear hbe
    go_wp2_with (at_builtin; first
      | (refine append_rowA i0 _ Try.underlying27 hi hz0 hz1 hz2 rfl _ rfl (.tmp 61) (.tmp 63) rfl rfl xs p l c rfl (HBk.out.on HB2.out) ?_; intro v3 W3 hown3 hb3; have HB3 := Lib.hid (HB2.out.trans (hb3.mono HB2.out.size)); have HR03 := Lib.hid (HR02.out.on' hb3); have HR13 := Lib.hid (HR12.out.on' hb3); have HR23 := Lib.hid (HR22.out.on' hb3); have HRe3 := Lib.hid (HRe.out.on' hb3); have HO3 := Lib.hid (own_size hown3 (show _ = W1.heap.size + 1 by simp)); have hsz3 := hb3.size; have e0 := HRe3.out.cell 0; have e1 := HRe3.out.cell 1; have e2 := HRe3.out.cell 2; have e3 := HRe3.out.cell 3; simp only [List.getElem?_cons_zero, List.getElem?_cons_succ] at e0 e1 e2 e3; clear c1 hown3 hb3)
      | (refine wpList_append_lies _ rfl (.tmp 65) (.tmp 67) 27 (by rfl) (W1.heap.size + 1) 43 i0 (.agg #[.int .i64 0, .int .i64 0, .int .u64 0, .int .u64 0]) 4 32 Try.underlying27 hi hz0 hz1 hz2 rfl (by decide) v3 xs.length (xs.flatMap accC) (by kernel_rfl) (HO3.out.alloc _) ⟨W3.heap.size, 0, none⟩ 1 1 (accC ⟨3, a, was, was⟩) (by kernel_rfl) rfl (acc_new ⟨3, a, was, was⟩ W3 _) (acc_one _) (by decide) HX.out.1 HX.out.2 (by simp at hsz3; simp; omega) (W3.heap.size + 1) (by simp) ?_; intro g4 cap4 W4 hown4 hgrow4 hat4 hlt4; have HF := Lib.hid (do_after (e := ⟨3, a, was, was⟩) HG.out HB3.out HR03.out HR13.out HR23.out HRe3.out HO3.out hgrow4 hown4); have k1 := HF.out.r0.cell 1; have z1 := HF.out.r0.frozen 1; simp only [List.getElem?_cons_zero, List.getElem?_cons_succ] at k1; clear hown4 hgrow4 hat4 hlt4 e0 e1 e2 e3))
    have HS := Lib.hid (HF.out.set rfl)
    obtain ⟨W5, hW5⟩ : ∃ W5, W4.setCell ⟨w.heap.size, 1, none⟩ (.slice (some ⟨g4, 0, none⟩) (xs.length + 1) cap4) = W5 := ⟨_, rfl⟩
    rw [hW5] at HS ⊢
    clear hW5 HF k1 z1 HO3 HR03 HR13 HR23 HRe3 HB3 HB2 HR02 HR12 HR22 HRe HR0 HR1 HR2 HB hsz3 HX
    have b0 := HS.out.r0.cell 0
    have b1 := HS.out.r0.cell 1
    have e0 := HS.out.re.cell 0
    have e1 := HS.out.re.cell 1
    have e2 := HS.out.re.cell 2
    have e3 := HS.out.re.cell 3
    have q0 := HS.out.r1.cell 0
    have q1 := HS.out.r1.cell 1
    have y0 := HS.out.r1.frozen 0
    have y1 := HS.out.r1.frozen 1
    have t0 := HS.out.r2.cell 0
    have t1 := HS.out.r2.cell 1
    have t2 := HS.out.r2.cell 2
    have t3 := HS.out.r2.cell 3
    have u0 := HS.out.r2.frozen 0
    have u1 := HS.out.r2.frozen 1
    have u2 := HS.out.r2.frozen 2
    have u3 := HS.out.r2.frozen 3
    simp only [accC, List.getElem?_cons_zero, List.getElem?_cons_succ] at b0 b1 e0 e1 e2 e3 q0 q1 t0 t1 t2 t3
    have n1 : ¬ (W1.heap.size = w.heap.size + 1) := by have := HS.out.big; omega
    have n2 : ¬ (W1.heap.size = w.heap.size + 1 + 1) := by have := HS.out.big; omega
    have n3 : ¬ (w.heap.size + 1 = W1.heap.size) := by have := HS.out.big; omega
    have n4 : ¬ (w.heap.size + 1 + 1 = W1.heap.size) := by have := HS.out.big; omega
    go_region
    go_wp2_with fail
    refine bodyPost_ret (v := .tuple #[.agg #[.int .i64 N, .slice (some ⟨g4, 0, none⟩) (xs.length + 1) cap4], .agg #[.int .i64 3, .int .i64 a, .int .u64 was, .int .u64 was], .bool true]) (by simp [results, Try.results32, go_sem, *]) rfl ?_
    obtain ⟨hbk, hbw⟩ := do_fin HS.out rfl (by have := HBk.out.len; omega) (.int .i64 N) (.slice (some ⟨g4, 0, none⟩) (xs.length + 1) cap4) (.int .i64 3) (.int .i64 a) (.int .u64 was) (.int .u64 was)
    refine ⟨some ⟨g4, 0, none⟩, xs.length + 1, cap4, ?_, ?_, hbw⟩
    · rw [HD.out.2, HEE.out, decide_eq_false HBad.out]; rfl
    · rw [HD.out.1, HEE.out]; exact hbk
  · obtain ⟨nw, hnw⟩ : ∃ v, IntKind.u64.wrap (was + x) = v := ⟨_, rfl⟩
    have HEE : Hid (accV xs 4 a old x = ⟨4, a, was, nw⟩) := by show _ = _; rw [HE.out]; simp [hnw]
    have hbe := (Below.refl W1.heap.size W1).alloc (Nat.le_refl _) (.cells #[.int .i64 4, .int .i64 a, .int .u64 was, .int .u64 nw] 43)
    have HB2 := Lib.hid (HB.out.alloc HB.out.size (.cells #[.int .i64 4, .int .i64 a, .int .u64 was, .int .u64 nw] 43))
    have HR02 := Lib.hid (HR0.out.on' hbe)
    have HR12 := Lib.hid (HR1.out.on' hbe)
    have HR22 := Lib.hid (HR2.out.on' hbe)
    have HRe := Lib.hid (Row.new W1 43 [.int .i64 4, .int .i64 a, .int .u64 was, .int .u64 nw])
    have c1 := HR02.out.cell 1
    simp only [List.getElem?_cons_zero, List.getElem?_cons_succ] at c1
    clear hbe
    go_wp2_with (at_builtin; first
      | (refine append_rowA i0 _ Try.underlying27 hi hz0 hz1 hz2 rfl _ rfl (.tmp 61) (.tmp 63) rfl rfl xs p l c rfl (HBk.out.on HB2.out) ?_; intro v3 W3 hown3 hb3; have HB3 := Lib.hid (HB2.out.trans (hb3.mono HB2.out.size)); have HR03 := Lib.hid (HR02.out.on' hb3); have HR13 := Lib.hid (HR12.out.on' hb3); have HR23 := Lib.hid (HR22.out.on' hb3); have HRe3 := Lib.hid (HRe.out.on' hb3); have HO3 := Lib.hid (own_size hown3 (show _ = W1.heap.size + 1 by simp)); have hsz3 := hb3.size; have e0 := HRe3.out.cell 0; have e1 := HRe3.out.cell 1; have e2 := HRe3.out.cell 2; have e3 := HRe3.out.cell 3; simp only [List.getElem?_cons_zero, List.getElem?_cons_succ] at e0 e1 e2 e3; clear c1 hown3 hb3)
      | (refine wpList_append_lies _ rfl (.tmp 65) (.tmp 67) 27 (by rfl) (W1.heap.size + 1) 43 i0 (.agg #[.int .i64 0, .int .i64 0, .int .u64 0, .int .u64 0]) 4 32 Try.underlying27 hi hz0 hz1 hz2 rfl (by decide) v3 xs.length (xs.flatMap accC) (by kernel_rfl) (HO3.out.alloc _) ⟨W3.heap.size, 0, none⟩ 1 1 (accC ⟨4, a, was, nw⟩) (by kernel_rfl) rfl (acc_new ⟨4, a, was, nw⟩ W3 _) (acc_one _) (by decide) HX.out.1 HX.out.2 (by simp at hsz3; simp; omega) (W3.heap.size + 1) (by simp) ?_; intro g4 cap4 W4 hown4 hgrow4 hat4 hlt4; have HF := Lib.hid (do_after (e := ⟨4, a, was, nw⟩) HG.out HB3.out HR03.out HR13.out HR23.out HRe3.out HO3.out hgrow4 hown4); have k1 := HF.out.r0.cell 1; have z1 := HF.out.r0.frozen 1; simp only [List.getElem?_cons_zero, List.getElem?_cons_succ] at k1; clear hown4 hgrow4 hat4 hlt4 e0 e1 e2 e3))
    have HS := Lib.hid (HF.out.set rfl)
    obtain ⟨W5, hW5⟩ : ∃ W5, W4.setCell ⟨w.heap.size, 1, none⟩ (.slice (some ⟨g4, 0, none⟩) (xs.length + 1) cap4) = W5 := ⟨_, rfl⟩
    rw [hW5] at HS ⊢
    clear hW5 HF k1 z1 HO3 HR03 HR13 HR23 HRe3 HB3 HB2 HR02 HR12 HR22 HRe HR0 HR1 HR2 HB hsz3 HX
    have b0 := HS.out.r0.cell 0
    have b1 := HS.out.r0.cell 1
    have e0 := HS.out.re.cell 0
    have e1 := HS.out.re.cell 1
    have e2 := HS.out.re.cell 2
    have e3 := HS.out.re.cell 3
    have q0 := HS.out.r1.cell 0
    have q1 := HS.out.r1.cell 1
    have y0 := HS.out.r1.frozen 0
    have y1 := HS.out.r1.frozen 1
    have t0 := HS.out.r2.cell 0
    have t1 := HS.out.r2.cell 1
    have t2 := HS.out.r2.cell 2
    have t3 := HS.out.r2.cell 3
    have u0 := HS.out.r2.frozen 0
    have u1 := HS.out.r2.frozen 1
    have u2 := HS.out.r2.frozen 2
    have u3 := HS.out.r2.frozen 3
    simp only [accC, List.getElem?_cons_zero, List.getElem?_cons_succ] at b0 b1 e0 e1 e2 e3 q0 q1 t0 t1 t2 t3
    have n1 : ¬ (W1.heap.size = w.heap.size + 1) := by have := HS.out.big; omega
    have n2 : ¬ (W1.heap.size = w.heap.size + 1 + 1) := by have := HS.out.big; omega
    have n3 : ¬ (w.heap.size + 1 = W1.heap.size) := by have := HS.out.big; omega
    have n4 : ¬ (w.heap.size + 1 + 1 = W1.heap.size) := by have := HS.out.big; omega
    go_region
    go_wp2_with fail
    refine bodyPost_ret (v := .tuple #[.agg #[.int .i64 N, .slice (some ⟨g4, 0, none⟩) (xs.length + 1) cap4], .agg #[.int .i64 4, .int .i64 a, .int .u64 was, .int .u64 nw], .bool true]) (by simp [results, Try.results32, go_sem, *]) rfl ?_
    obtain ⟨hbk, hbw⟩ := do_fin HS.out rfl (by have := HBk.out.len; omega) (.int .i64 N) (.slice (some ⟨g4, 0, none⟩) (xs.length + 1) cap4) (.int .i64 4) (.int .i64 a) (.int .u64 was) (.int .u64 nw)
    refine ⟨some ⟨g4, 0, none⟩, xs.length + 1, cap4, ?_, ?_, hbw⟩
    · rw [HD.out.2, HEE.out, decide_eq_false HBad.out]; rfl
    · rw [HD.out.1, HEE.out]; exact hbk
  · have HEE : Hid (accV xs 1 a old x = ⟨1, a, was, was⟩) := by show _ = _; rw [HE.out]; simp
    have hbe := (Below.refl W1.heap.size W1).alloc (Nat.le_refl _) (.cells #[.int .i64 1, .int .i64 a, .int .u64 was, .int .u64 was] 43)
    have HB2 := Lib.hid (HB.out.alloc HB.out.size (.cells #[.int .i64 1, .int .i64 a, .int .u64 was, .int .u64 was] 43))
    have HR02 := Lib.hid (HR0.out.on' hbe)
    have HR12 := Lib.hid (HR1.out.on' hbe)
    have HR22 := Lib.hid (HR2.out.on' hbe)
    have HRe := Lib.hid (Row.new W1 43 [.int .i64 1, .int .i64 a, .int .u64 was, .int .u64 was])
    have c1 := HR02.out.cell 1
    simp only [List.getElem?_cons_zero, List.getElem?_cons_succ] at c1
    clear hbe
    go_wp2_with (at_builtin; first
      | (refine append_rowA i0 _ Try.underlying27 hi hz0 hz1 hz2 rfl _ rfl (.tmp 61) (.tmp 63) rfl rfl xs p l c rfl (HBk.out.on HB2.out) ?_; intro v3 W3 hown3 hb3; have HB3 := Lib.hid (HB2.out.trans (hb3.mono HB2.out.size)); have HR03 := Lib.hid (HR02.out.on' hb3); have HR13 := Lib.hid (HR12.out.on' hb3); have HR23 := Lib.hid (HR22.out.on' hb3); have HRe3 := Lib.hid (HRe.out.on' hb3); have HO3 := Lib.hid (own_size hown3 (show _ = W1.heap.size + 1 by simp)); have hsz3 := hb3.size; have e0 := HRe3.out.cell 0; have e1 := HRe3.out.cell 1; have e2 := HRe3.out.cell 2; have e3 := HRe3.out.cell 3; simp only [List.getElem?_cons_zero, List.getElem?_cons_succ] at e0 e1 e2 e3; clear c1 hown3 hb3)
      | (refine wpList_append_lies _ rfl (.tmp 65) (.tmp 67) 27 (by rfl) (W1.heap.size + 1) 43 i0 (.agg #[.int .i64 0, .int .i64 0, .int .u64 0, .int .u64 0]) 4 32 Try.underlying27 hi hz0 hz1 hz2 rfl (by decide) v3 xs.length (xs.flatMap accC) (by kernel_rfl) (HO3.out.alloc _) ⟨W3.heap.size, 0, none⟩ 1 1 (accC ⟨1, a, was, was⟩) (by kernel_rfl) rfl (acc_new ⟨1, a, was, was⟩ W3 _) (acc_one _) (by decide) HX.out.1 HX.out.2 (by simp at hsz3; simp; omega) (W3.heap.size + 1) (by simp) ?_; intro g4 cap4 W4 hown4 hgrow4 hat4 hlt4; have HF := Lib.hid (do_after (e := ⟨1, a, was, was⟩) HG.out HB3.out HR03.out HR13.out HR23.out HRe3.out HO3.out hgrow4 hown4); have k1 := HF.out.r0.cell 1; have z1 := HF.out.r0.frozen 1; simp only [List.getElem?_cons_zero, List.getElem?_cons_succ] at k1; clear hown4 hgrow4 hat4 hlt4 e0 e1 e2 e3))
    have HS := Lib.hid (HF.out.set rfl)
    obtain ⟨W5, hW5⟩ : ∃ W5, W4.setCell ⟨w.heap.size, 1, none⟩ (.slice (some ⟨g4, 0, none⟩) (xs.length + 1) cap4) = W5 := ⟨_, rfl⟩
    rw [hW5] at HS ⊢
    clear hW5 HF k1 z1 HO3 HR03 HR13 HR23 HRe3 HB3 HB2 HR02 HR12 HR22 HRe HR0 HR1 HR2 HB hsz3 HX
    have b0 := HS.out.r0.cell 0
    have b1 := HS.out.r0.cell 1
    have e0 := HS.out.re.cell 0
    have e1 := HS.out.re.cell 1
    have e2 := HS.out.re.cell 2
    have e3 := HS.out.re.cell 3
    have q0 := HS.out.r1.cell 0
    have q1 := HS.out.r1.cell 1
    have y0 := HS.out.r1.frozen 0
    have y1 := HS.out.r1.frozen 1
    have t0 := HS.out.r2.cell 0
    have t1 := HS.out.r2.cell 1
    have t2 := HS.out.r2.cell 2
    have t3 := HS.out.r2.cell 3
    have u0 := HS.out.r2.frozen 0
    have u1 := HS.out.r2.frozen 1
    have u2 := HS.out.r2.frozen 2
    have u3 := HS.out.r2.frozen 3
    simp only [accC, List.getElem?_cons_zero, List.getElem?_cons_succ] at b0 b1 e0 e1 e2 e3 q0 q1 t0 t1 t2 t3
    have n1 : ¬ (W1.heap.size = w.heap.size + 1) := by have := HS.out.big; omega
    have n2 : ¬ (W1.heap.size = w.heap.size + 1 + 1) := by have := HS.out.big; omega
    have n3 : ¬ (w.heap.size + 1 = W1.heap.size) := by have := HS.out.big; omega
    have n4 : ¬ (w.heap.size + 1 + 1 = W1.heap.size) := by have := HS.out.big; omega
    go_region
    go_wp2_with fail
    refine bodyPost_ret (v := .tuple #[.agg #[.int .i64 N, .slice (some ⟨g4, 0, none⟩) (xs.length + 1) cap4], .agg #[.int .i64 1, .int .i64 a, .int .u64 was, .int .u64 was], .bool true]) (by simp [results, Try.results32, go_sem, *]) rfl ?_
    obtain ⟨hbk, hbw⟩ := do_fin HS.out rfl (by have := HBk.out.len; omega) (.int .i64 N) (.slice (some ⟨g4, 0, none⟩) (xs.length + 1) cap4) (.int .i64 1) (.int .i64 a) (.int .u64 was) (.int .u64 was)
    refine ⟨some ⟨g4, 0, none⟩, xs.length + 1, cap4, ?_, ?_, hbw⟩
    · rw [HD.out.2, HEE.out, decide_eq_false HBad.out]; rfl
    · rw [HD.out.1, HEE.out]; exact hbk

theorem do_any (N k a old x : Int) (p : Option Addr) (l c : Nat) (xs : List Acc) (w : World) (h : BookIs w p l c xs) (hl1 : l + 1 ≤ 1000000) : Calls Try.prog 32 #[.agg #[.int .i64 N, .slice p l c], .int .i64 k, .int .i64 a, .int .u64 old, .int .u64 x] w (DoPost N xs k a old x w) := by
  by_cases hb : Bad N k a
  · exact do_bad N k a old x p l c xs w h hb
  · exact do_ok N k a old x p l c xs w h hl1 hb
end Go.Proofs.Ytnakaifnalojeaa
