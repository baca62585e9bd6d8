/- A lay as it lies; each of its steps; Done, Hands, Step; of nothing (layer 9's code). -/
import Derived.Test.YtgfddkddacigfaaZl
import Derived.Laws.EntriesVeiled
set_option linter.unusedSimpArgs false
set_option linter.unusedVariables false
namespace Go.Proofs.Ytgfddkddacigfaa
open Go.RowKit Go.Cg Go.Pu Go.Wd Go.Ce

structure LyTells (S : Nat → Prop) (w : World) (b : Nat) (x : LS) (c : Cfg) (p : Int) (s : Nat) (k : Int) (vl : Value) (n : Int) : Prop where
  row : Row b 80 (lyV c p x.a s k vl n) w
  li : SlIs (fun j => ¬ S j ∨ j = b) w vl x.l
  live : x.a ≠ 0 → c = x.c ∧ p = x.p ∧ s = x.w
  k2 : x.a = 2 → k = x.k
  n2 : x.a = 2 ∨ x.a = 3 → n = x.n
  n3 : x.a = 3 → 0 < x.n
/-- a lay as it lies, in the blocks S -/
structure LayIs (S : Nat → Prop) (w : World) (b : Nat) (x : LS) : Prop where
  ex : ∃ c p s k vl n, LyTells S w b x c p s k vl n
  sb : S b
  sl : ∀ k, S k → k < w.heap.size
  ok : x.Ok
section
variable {S R : Nat → Prop} {w w' : World} {b mb mg : Nat} {x : LS} {m : PM}
theorem LayIs.tch (h : LayIs S w b x) (ht : Tch R w w') (hd : ∀ k, S k → ¬ R k) : LayIs S w' b x := by
  obtain ⟨⟨c, p, s, k, vl, n, h1⟩, h2, h3, h4⟩ := h
  exact ⟨⟨c, p, s, k, vl, n, ⟨h1.row.tch ht (hd b h2), h1.li.tch (ht.wide (fun k hk => .inl (fun e => hd k e hk))), h1.live, h1.k2, h1.n2, h1.n3⟩⟩, h2, fun k hk => Nat.lt_of_lt_of_le (h3 k hk) ht.size, h4⟩
theorem LayIs.on (h : LayIs S w b x) (hb : Below w.heap.size w w') : LayIs S w' b x := h.tch (.of (fun _ => False) hb) (fun _ _ e => e)
/-- a step of a lay -/
def LMid (S : Nat → Prop) (b mb mg : Nat) (x' : LS) (m' : PM) (w : World) (e : Ending) (w' : World) : Prop :=
  e = .returned (.tuple #[]) ∧ Hid (LayIs S w' b x') ∧ Hid (MemIs w' mb mg m') ∧ Hid (Tch (fun k => S k ∨ Own mb mg k) w w')
theorem ls_parts {c : Cfg} {p : Int} {l : List Int} {a w n k : Nat} {X : LS} (hX : X = ⟨c, p, l, a, w, n, k⟩) : X.c = c ∧ X.p = p ∧ X.l = l ∧ X.a = a ∧ X.w = w ∧ X.n = n ∧ X.k = k := by subst hX; exact ⟨rfl, rfl, rfl, rfl, rfl, rfl, rfl⟩
theorem lay_let (hok : x.Ok) (hu : U64 m) {y : LS} {n : PM} (e : stepL x m = (y, n)) : ∃ X M, stepL x m = (X, M) ∧ X.Ok ∧ X = y ∧ M = n := by
  have := (lay_ok hok hu).1
  rw [e] at this
  exact ⟨y, n, e, this, rfl, rfl⟩
theorem own_s (hd : ∀ k, S k → ¬ Own mb mg k) (j : Nat) (h : j = b ∨ Own mb mg j) : ¬ S j ∨ j = b := h.elim .inr (fun e => .inl (fun e2 => hd j e2 e))
theorem lmid_of {X : LS} {c : Cfg} {p A : Int} {s' : Nat} {k' n' : Int} {vl : Value} {M : PM} {e : Ending} (h : LayIs S w b x) (okX : X.Ok) (hA : A = (X.a : Int)) (hr : Row b 80 (lyV c p A s' k' vl n') w') (hm : MemIs w' mb mg M) (ht : Tch (fun k => k = b ∨ Own mb mg k) w w') (he : e = .returned (.tuple #[]))
    (hl : SlIs (fun j => ¬ S j ∨ j = b) w' vl X.l) (h1 : X.a ≠ 0 → c = X.c ∧ p = X.p ∧ s' = X.w) (h2 : X.a = 2 → k' = X.k) (h3 : X.a = 2 ∨ X.a = 3 → n' = X.n) (h4 : X.a = 3 → 0 < X.n) : LMid S b mb mg X M w e w' := by
  rw [hA] at hr
  exact ⟨he, ⟨⟨c, p, s', k', vl, n', ⟨hr, hl, h1, h2, h3, h4⟩⟩, h.sb, fun k hk => Nat.lt_of_lt_of_le (h.sl k hk) ht.size, okX⟩, hm, tch_s h.sb ht⟩
theorem lmlook_any (h : LayIs S w b x) (hm : MemIs w mb mg m) (hd : ∀ k, S k → ¬ Own mb mg k) (hu : U64 m) (hk : m.k.ops + 1 ≤ 1000000000) (ha : x.a = 1) : Calls Try.prog 72 #[pptr b, pptr mb] w (LMid S b mb mg (stepL x m).1 (stepL x m).2 w) := by
  obtain ⟨c, p, s, k, vl, n, hx⟩ := h.ex
  have ha0 : x.a ≠ 0 := by rw [ha]; exact Nat.succ_ne_zero _
  obtain ⟨e1, e2, e4⟩ := hx.live ha0
  by_cases hl : x.l = []
  · obtain ⟨X, M, hXM, hok, hX, hM⟩ := lay_let h.ok hu (layE ha0 hl m)
    rw [hXM]
    show Calls _ _ _ _ (LMid S b mb mg X M w)
    obtain ⟨q1, q2, q3, q4, q5, q6, q7⟩ := ls_parts hX
    have hli := hx.li
    rw [hl] at hli
    refine (lempty_any hx.row hli _).mono ?_
    rintro e w' ⟨rfl, rfl⟩
    have ht := tset b 7 (.int .i64 0) w
    have hbo := rown_ne (hd b h.sb)
    subst hM
    exact lmid_of h hok (by rw [q4]; rfl) (rg_at hx.row 0) (hm.tch ht (fun e => hbo.1 e.symm) (fun e => hbo.2 e.symm)) (ht.wide (fun k e => .inl e)) rfl (by rw [q3]; exact hx.li.tch (ht.wide (fun k e => .inr e))) (fun e => absurd q4 e) (fun e => by omega) (fun e => by omega) (fun e => by omega)
  · have hth := h.ok.th ha0
    obtain ⟨X, M, hXM, hok, hX, hM⟩ := lay_let h.ok hu (lay1 ha hl m)
    rw [hXM]
    show Calls _ _ _ _ (LMid S b mb mg X M w)
    obtain ⟨q1, q2, q3, q4, q5, q6, q7⟩ := ls_parts hX
    have e6 : aW c p = x.wa := by rw [e1, e2]; rfl
    have e7 : c.q.toNat = x.q := by rw [e1]; rfl
    rw [← q5] at q6
    rw [← q5, ← q6] at q4
    have hnn : nnV x.l.length x.q (ln X.w) = X.n := by rw [q6]; rfl
    refine (llook_any hx.row hx.li hm hu (hd b h.sb) (by omega) (by rw [e1, e2]; exact hth) hl).mono ?_
    rintro e w' ⟨rfl, hr, hm', ht⟩
    rw [e6, e7, ← q5, hnn] at hr
    rw [e6, ← hM] at hm'
    have hAI : (if X.n = 0 then (0 : Int) else 2) = (X.a : Int) := by rw [q4]; split <;> rfl
    have hA2 : X.a = 0 ∨ X.a = 2 := by rw [q4]; split <;> simp
    obtain ⟨A, hA⟩ : ∃ A : Int, (if X.n = 0 then (0 : Int) else 2) = A := ⟨_, rfl⟩
    rw [hA] at hr hAI
    clear hA q4 hnn hX hXM
    exact lmid_of h hok hAI hr hm' ht rfl (by rw [q3]; exact hx.li.tch (ht.wide (own_s hd))) (fun _ => ⟨by rw [q1, e1], by rw [q2, e2], rfl⟩) (fun _ => by rw [q7]; rfl) (fun _ => rfl) (fun e => by omega)
theorem lmstore_any (h : LayIs S w b x) (hm : MemIs w mb mg m) (hd : ∀ k, S k → ¬ Own mb mg k) (hu : U64 m) (hk : m.k.ops + 1 ≤ 1000000000) (ha : x.a = 2) : Calls Try.prog 73 #[pptr b, pptr mb] w (LMid S b mb mg (stepL x m).1 (stepL x m).2 w) := by
  obtain ⟨c, p, s, k, vl, n, hx⟩ := h.ex
  have ha0 : x.a ≠ 0 := by rw [ha]; exact Nat.succ_ne_zero _
  obtain ⟨e1, e2, e4⟩ := hx.live ha0
  have hk2 := h.ok.k2 ha
  obtain ⟨hn1, hn2⟩ := h.ok.n ha0
  have hl : x.l ≠ [] := fun e => by rw [e] at hn1; simp at hn1; omega
  have hth := h.ok.th ha0
  obtain ⟨X, M, hXM, hok, hX, hM⟩ := lay_let h.ok hu (lay2 ha hl m)
  rw [hXM]
  show Calls _ _ _ _ (LMid S b mb mg X M w)
  obtain ⟨q1, q2, q3, q4, q5, q6, q7⟩ := ls_parts hX
  refine (lstore_any (nn := x.n) (j := x.k) hx.row hx.li hm (hd b h.sb) (by omega) (by rw [e1, e2]; exact hth) (by rw [e4]; exact h.ok.w) (hx.k2 ha) (hx.n2 (.inl ha)) (by omega) (by omega)).mono ?_
  rintro e w' ⟨rfl, hr, hm', ht⟩
  rw [show m.store (aS c p ((tl s + x.k) % 4294967296)) (IntKind.u64.wrap (x.l.getD x.k 0)) = M by rw [hM, e1, e2, e4]] at hm'
  have hAI : (if x.k + 1 = x.n then (3 : Int) else (x.a : Int)) = (X.a : Int) := by rw [q4, ha]; split <;> rfl
  have hA2 : X.a = 3 ∨ X.a = 2 := by rw [q4]; split <;> simp
  have hn := hx.n2 (.inl ha)
  obtain ⟨A, hA⟩ : ∃ A : Int, (if x.k + 1 = x.n then (3 : Int) else (x.a : Int)) = A := ⟨_, rfl⟩
  rw [hA] at hr hAI
  clear hA q4 hX hXM hM
  exact lmid_of h hok hAI hr hm' ht rfl (by rw [q3]; exact hx.li.tch (ht.wide (own_s hd))) (fun _ => ⟨by rw [q1, e1], by rw [q2, e2], by rw [q5, e4]⟩) (fun _ => by rw [q7]; simp) (fun _ => by rw [q6, hn]) (fun _ => by rw [q6]; omega)
theorem lmswing_any (h : LayIs S w b x) (hm : MemIs w mb mg m) (hd : ∀ k, S k → ¬ Own mb mg k) (hu : U64 m) (hk : m.k.ops + 1 ≤ 1000000000) (ha : x.a = 3) : Calls Try.prog 74 #[pptr b, pptr mb] w (LMid S b mb mg (stepL x m).1 (stepL x m).2 w) := by
  obtain ⟨c, p, s, k, vl, n, hx⟩ := h.ex
  have ha0 : x.a ≠ 0 := by rw [ha]; exact Nat.succ_ne_zero _
  obtain ⟨e1, e2, e4⟩ := hx.live ha0
  obtain ⟨hn1, hn2⟩ := h.ok.n ha0
  have hn3 := hx.n3 ha
  have hl : x.l ≠ [] := fun e => by rw [e] at hn1; simp at hn1; omega
  have hth := h.ok.th ha0
  obtain ⟨X, M, hXM, hok, hX, hM⟩ := lay_let h.ok hu (lay3 ha hl m)
  rw [hXM]
  show Calls _ _ _ _ (LMid S b mb mg X M w)
  have e6 : aW c p = x.wa := by rw [e1, e2]; rfl
  refine (lswing_any (nn := x.n) hx.row hx.li (own_s hd) hm (hd b h.sb) (by omega) (by rw [e1, e2]; exact hth) (by rw [e4]; exact h.ok.w) (hx.n2 (.inr ha)) hn3 (by omega) (by omega) _ rfl).mono ?_
  rintro e w' ⟨vl', rfl, hr, hm', ht, hl'⟩
  rw [e6, e4] at hr hl'
  rw [e6, e4, ← hM] at hm'
  by_cases hh : m.hit x.wa x.w
  · rw [decide_eq_true hh] at hr hl'
    rw [if_pos hh] at hX
    obtain ⟨q1, q2, q3, q4, q5, q6, q7⟩ := ls_parts hX
    have hl2 := hl'.out
    rw [if_pos rfl, ← q3] at hl2
    exact lmid_of h hok (by rw [q4]; rfl) hr.out hm'.out ht.out rfl hl2 (fun e => absurd q4 e) (fun e => by omega) (fun e => by omega) (fun e => by omega)
  · rw [decide_eq_false hh] at hr hl'
    rw [if_neg hh] at hX
    obtain ⟨q1, q2, q3, q4, q5, q6, q7⟩ := ls_parts hX
    have hl2 := hl'.out
    rw [if_neg (by decide), ← q3] at hl2
    exact lmid_of h hok (by rw [q4]; rfl) hr.out hm'.out ht.out rfl hl2 (fun _ => ⟨by rw [q1, e1], by rw [q2, e2], q5.symm⟩) (fun e => by omega) (fun e => by omega) (fun e => by omega)
theorem ldone_any (h : LayIs S w b x) : Calls Try.prog 27 #[pptr b] w (fun e w' => e = .returned (.bool (decide (x.a = 0))) ∧ w' = w) := by
  obtain ⟨c, p, s, k, vl, n, hx⟩ := h.ex
  have he := rended_any hx.row
  obtain ⟨r, hr⟩ : ∃ r, decide (x.a = 0) = r := ⟨_, rfl⟩
  have hr2 : decide ((x.a : Int) = 0) = r := by rw [← hr]; exact decide_eq_decide.2 (by omega)
  rw [hr2] at he
  rw [hr]
  have HE := Lib.hid he
  clear h hx hr hr2 he
  go_enter Try.func27, Try.ntmps27
  go_wp2_with (go_at_call 52; (with_reducible refine HE.out.mono ?_); rintro e w3 ⟨rfl, rfl⟩)
  go_ret
  exact ⟨rfl, rfl⟩
theorem ldone_nil (w : World) : Calls Try.prog 27 #[.pointer none] w (fun e w' => e = .returned (.bool true) ∧ w' = w) := by
  go_enter Try.func27, Try.ntmps27
  go_wp2_with fail
  go_ret
  exact ⟨rfl, rfl⟩
theorem lhands_any (h : LayIs S w b x) : Calls Try.prog 26 #[pptr b] w (RowPost8 x.l w) := by
  obtain ⟨c, p, s, k, vl, n, hx⟩ := h.ex
  have c10 := ly_l hx.row
  have HC := Lib.hid (iclone_any hx.li (by have := h.ok.few; omega))
  obtain ⟨pn, n, cn, rfl, -⟩ := hx.li.form
  clear h hx
  go_enter Try.func26, Try.ntmps26
  go_wp2_with (go_at_call 51; (with_reducible refine HC.out.mono ?_); rintro e w3 ⟨p3, n3, c3, rfl, hn, hO, hB⟩)
  go_ret
  exact ⟨p3, n3, c3, rfl, hn, hO, hB⟩
theorem lhands_nil (w : World) : Calls Try.prog 26 #[.pointer none] w (RowPost8 [] w) := by
  go_enter Try.func26, Try.ntmps26
  go_wp2_with fail
  go_ret
  exact ⟨none, 0, 0, rfl, rfl, NewRow.nil _ _, Below.refl _ _⟩
theorem lstep_nil (q : Option Addr) (w : World) : Calls Try.prog 29 #[.pointer none, .pointer q] w (Ans (.bool true) w) := by
  have HD := Lib.hid (fun w => ldone_nil w)
  go_enter Try.func29, Try.ntmps29
  go_wp2_with (go_at_call 27; (with_reducible refine (HD.out _).mono ?_); rintro e w3 ⟨rfl, rfl⟩)
  go_ret
  exact ⟨rfl, Below.refl _ _⟩
set_option maxHeartbeats 1000000 in
theorem lstep_any (h : LayIs S w b x) (hm : MemIs w mb mg m) (hd : ∀ k, S k → ¬ Own mb mg k) (hu : U64 m) (hk : m.k.ops + 1 ≤ 1000000000) : Calls Try.prog 29 #[pptr b, pptr mb] w (StepLP LayIs S b mb mg x m w) := by
  have HD := Lib.hid (ldone_any h)
  by_cases h0 : x.a = 0
  · rw [decide_eq_true h0] at HD
    have HF : Hid (StepLP LayIs S b mb mg x m w (.returned (.bool true)) w) := by
      refine ⟨S, ?_, ?_, ?_, fun k hk => .inl hk, Tch.refl _ _⟩
      · rw [lay0 h0 m, decide_eq_true h0]
      · rw [lay0 h0 m]; exact h
      · rw [lay0 h0 m]; exact hm
    clear h hm hd hu hk h0
    go_enter Try.func29, Try.ntmps29
    go_wp2_with (go_at_call 27; (with_reducible refine HD.out.mono ?_); rintro e w3 ⟨rfl, rfl⟩)
    go_ret
    exact HF.out
  · rw [decide_eq_false h0] at HD
    have hM1 : x.a = 1 → Hid (∀ w1, Below w.heap.size w w1 → Calls Try.prog 72 #[pptr b, pptr mb] w1 (LMid S b mb mg (stepL x m).1 (stepL x m).2 w1)) := fun ha w1 hb => lmlook_any (h.on hb) (hm.on hb) hd hu hk ha
    have hM2 : x.a = 2 → Hid (∀ w1, Below w.heap.size w w1 → Calls Try.prog 73 #[pptr b, pptr mb] w1 (LMid S b mb mg (stepL x m).1 (stepL x m).2 w1)) := fun ha w1 hb => lmstore_any (h.on hb) (hm.on hb) hd hu hk ha
    have hM3 : x.a = 3 → Hid (∀ w1, Below w.heap.size w w1 → Calls Try.prog 74 #[pptr b, pptr mb] w1 (LMid S b mb mg (stepL x m).1 (stepL x m).2 w1)) := fun ha w1 hb => lmswing_any (h.on hb) (hm.on hb) hd hu hk ha
    have ha5 := h.ok.a
    obtain ⟨c, p, s, k, vl, n, hx⟩ := h.ex
    have c7 : w.cell? ⟨b, 7, none⟩ = some (.int .i64 (x.a : Int)) := hx.row.cell 7
    have hbw := hx.row.lt
    obtain ⟨⟨X, M⟩, hXM⟩ : ∃ P, stepL x m = P := ⟨_, rfl⟩
    have HF : Hid (∀ (w1 w2 : World), Below w.heap.size w w1 → LayIs S w2 b X → MemIs w2 mb mg M → Tch (fun k => S k ∨ Own mb mg k) w1 w2 → StepLP LayIs S b mb mg x m w (.returned (.bool (decide (X.a = 0)))) w2) := fun w1 w2 hb i1 i2 i4 => by
      refine ⟨S, ?_, ?_, ?_, fun k hk => .inl hk, (Tch.of _ hb).trans i4⟩
      · rw [hXM]
      · rw [hXM]; exact i1
      · rw [hXM]; exact i2
    rw [hXM] at hM1 hM2 hM3
    obtain ⟨a, ha⟩ : ∃ a, x.a = a := ⟨_, rfl⟩
    rw [ha] at hM1 hM2 hM3 ha5 c7 h0
    clear h hm hd hu hk hx hXM ha
    have hcases : a = 1 ∨ a = 2 ∨ a = 3 := by omega
    rcases hcases with rfl | rfl | rfl
    · have HM := hM1 rfl
      have c7' : w.cell? ⟨b, 7, none⟩ = some (.int .i64 1) := c7
      clear hM1 hM2 hM3 ha5 h0 c7
      go_enter Try.func29, Try.ntmps29
      go_wp2_with (first
        | (go_at_call 27; (with_reducible refine HD.out.mono ?_); rintro e w3 ⟨rfl, rfl⟩)
        | (go_at_call 27; (with_reducible refine HD2.out.mono ?_); rintro e w5 ⟨rfl, rfl⟩)
        | (go_at_call 72; (with_reducible refine (HM.out _ ((Below.refl _ _).alloc (Nat.le_refl _) _)).mono ?_); rintro e w4 ⟨rfl, i1, i2, i4⟩; have HD2 := Lib.hid (ldone_any i1.out)))
      go_ret
      exact HF.out _ _ ((Below.refl _ _).alloc (Nat.le_refl _) _) i1.out i2.out i4.out
    · have HM := hM2 rfl
      have c7' : w.cell? ⟨b, 7, none⟩ = some (.int .i64 2) := c7
      clear hM1 hM2 hM3 ha5 h0 c7
      go_enter Try.func29, Try.ntmps29
      go_wp2_with (first
        | (go_at_call 27; (with_reducible refine HD.out.mono ?_); rintro e w3 ⟨rfl, rfl⟩)
        | (go_at_call 27; (with_reducible refine HD2.out.mono ?_); rintro e w5 ⟨rfl, rfl⟩)
        | (go_at_call 73; (with_reducible refine (HM.out _ ((Below.refl _ _).alloc (Nat.le_refl _) _)).mono ?_); rintro e w4 ⟨rfl, i1, i2, i4⟩; have HD2 := Lib.hid (ldone_any i1.out)))
      go_ret
      exact HF.out _ _ ((Below.refl _ _).alloc (Nat.le_refl _) _) i1.out i2.out i4.out
    · have HM := hM3 rfl
      have c7' : w.cell? ⟨b, 7, none⟩ = some (.int .i64 3) := c7
      clear hM1 hM2 hM3 ha5 h0 c7
      go_enter Try.func29, Try.ntmps29
      go_wp2_with (first
        | (go_at_call 27; (with_reducible refine HD.out.mono ?_); rintro e w3 ⟨rfl, rfl⟩)
        | (go_at_call 27; (with_reducible refine HD2.out.mono ?_); rintro e w5 ⟨rfl, rfl⟩)
        | (go_at_call 74; (with_reducible refine (HM.out _ ((Below.refl _ _).alloc (Nat.le_refl _) _)).mono ?_); rintro e w4 ⟨rfl, i1, i2, i4⟩; have HD2 := Lib.hid (ldone_any i1.out)))
      go_ret
      exact HF.out _ _ ((Below.refl _ _).alloc (Nat.le_refl _) _) i1.out i2.out i4.out
end
end Go.Proofs.Ytgfddkddacigfaa
