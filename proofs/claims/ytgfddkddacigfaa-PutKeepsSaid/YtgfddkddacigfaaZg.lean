/- A put as it lies; each of its steps; Done, Step (layer 9's code). -/
import Derived.Test.YtgfddkddacigfaaZf
set_option linter.unusedSimpArgs false
set_option linter.unusedVariables false
namespace Go.Proofs.Ytgfddkddacigfaa
open Go.RowKit Go.Cg Go.Pu Go.Wd Go.Ce

/-- what a put's cells say of it -/
structure PtTells (S : Nat → Prop) (w : World) (b : Nat) (x : PS) (c : Cfg) (p : Int) (s : Nat) (k g : Int) (L : List Int) (vo : Value) : Prop where
  row : Row b 78 (ptV c p x.a s k g L vo) w
  len : L.length = 32
  ov : SlIs (fun j => ¬ S j ∨ j = b) w vo x.over
  live : x.a ≠ 0 → c = x.c ∧ p = x.p ∧ g = x.g ∧ s = x.w ∧ x.h = [x.g]
  fh : x.h.length ≤ 40
  k2 : x.a = 2 → k = 0
  k4 : x.a = 4 ∨ x.a = 5 → k = x.t.length ∧ L.take x.t.length = x.t
/-- a put as it lies, in the blocks S -/
structure PutIs (S : Nat → Prop) (w : World) (b : Nat) (x : PS) : Prop where
  ex : ∃ c p s k g L vo, PtTells S w b x c p s k g L vo
  sb : S b
  sl : ∀ k, S k → k < w.heap.size
  ok : x.Ok
section
variable {S R : Nat → Prop} {w w' : World} {b mb mg : Nat} {x x' : PS} {m : PM}
theorem PutIs.tch (h : PutIs S w b x) (ht : Tch R w w') (hd : ∀ k, S k → ¬ R k) : PutIs S w' b x := by
  obtain ⟨⟨c, p, s, k, g, L, vo, h1⟩, h2, h3, h4⟩ := h
  exact ⟨⟨c, p, s, k, g, L, vo, ⟨h1.row.tch ht (hd b h2), h1.len, h1.ov.tch (ht.wide (fun k hk => .inl (fun e => hd k e hk))), h1.live, h1.fh, h1.k2, h1.k4⟩⟩, h2, fun k hk => Nat.lt_of_lt_of_le (h3 k hk) ht.size, h4⟩
theorem PutIs.on (h : PutIs S w b x) (hb : Below w.heap.size w w') : PutIs S w' b x := h.tch (.of (fun _ => False) hb) (fun _ _ e => e)
theorem own_out (hd : ∀ k, S k → ¬ Own mb mg k) {a : Nat} (h : PutIs S w a x) : ¬ Own mb mg a := hd a h.sb
/-- a step of a put -/
def MidPost (S : Nat → Prop) (b mb mg : Nat) (x' : PS) (m' : PM) (w : World) (e : Ending) (w' : World) : Prop :=
  ∃ S', e = .returned (.tuple #[]) ∧ Hid (PutIs S' w' b x') ∧ Hid (MemIs w' mb mg m') ∧ Hid (∀ k, S' k → S k ∨ w.heap.size ≤ k) ∧ Hid (Tch (fun k => S k ∨ Own mb mg k) w w')
theorem tch_s {S : Nat → Prop} (hb : S b) (ht : Tch (fun k => k = b ∨ Own mb mg k) w w') : Tch (fun k => S k ∨ Own mb mg k) w w' := ht.wide (fun k e => e.imp (fun e => by rw [e]; exact hb) id)
theorem over0 {y : PS} (h : y.a ≠ 0) : y.over = [] := by unfold PS.over; rw [if_neg h]
theorem ps_parts {c : Cfg} {p g : Int} {a w : Nat} {t h : List Int} {X : PS} (hX : X = ⟨c, p, g, a, w, t, h⟩) : X.c = c ∧ X.p = p ∧ X.g = g ∧ X.a = a ∧ X.w = w ∧ X.t = t ∧ X.h = h := by subst hX; exact ⟨rfl, rfl, rfl, rfl, rfl, rfl, rfl⟩
/-- a step's result, under letters -/
theorem step_let (hok : x.Ok) (hu : U64 m) {y : PS} {n : PM} (e : stepP x m = (y, n)) : ∃ X M, stepP x m = (X, M) ∧ X.Ok ∧ X = y ∧ M = n := by
  have := (step_ok hok hu).1
  rw [e] at this
  exact ⟨y, n, e, this, rfl, rfl⟩
/-- a step that is no cut that came off -/
theorem mid_of {X : PS} {c : Cfg} {p : Int} {s s' : Nat} {k k' g : Int} {L L' : List Int} {vo : Value} {M : PM} {e : Ending} {A : Int} (h : PutIs S w b x) (hx : PtTells S w b x c p s k g L vo) (hd : ∀ k, S k → ¬ Own mb mg k) (ha : x.a ≠ 0) (hv : X.over = [])
    (okX : X.Ok) (hfh : X.h.length ≤ 40) (hA : A = (X.a : Int)) (hp : RgPost 78 b (ptV c p A s' k' g L' vo) mb mg M (.tuple #[]) w e w') (hl : L'.length = 32) (h1 : X.a ≠ 0 → X.c = x.c ∧ X.p = x.p ∧ X.g = x.g ∧ s' = X.w ∧ X.h = x.h) (h2 : X.a = 2 → k' = 0) (h4 : X.a = 4 ∨ X.a = 5 → k' = X.t.length ∧ L'.take X.t.length = X.t) : MidPost S b mb mg X M w e w' := by
  obtain ⟨rfl, hr, hm, ht⟩ := hp
  rw [hA] at hr
  have hov : x.over = [] := over0 ha
  obtain ⟨e1, e2, e3, e4, e5⟩ := hx.live ha
  refine ⟨S, rfl, ⟨⟨c, p, s', k', g, L', vo, ⟨hr, hl, ?_, fun h0 => ?_, hfh, h2, h4⟩⟩, h.sb, fun k hk => Nat.lt_of_lt_of_le (h.sl k hk) ht.size, okX⟩, hm, fun k hk => .inl hk, tch_s h.sb ht⟩
  · have hh := hx.ov
    rw [hov] at hh
    rw [hv]
    exact hh.tch (ht.wide (fun k e => e.elim (fun e => .inr e) (fun e => .inl (fun e2 => hd k e2 e))))
  · obtain ⟨f1, f2, f3, f4, f5⟩ := h1 h0
    exact ⟨by rw [f1, e1], by rw [f2, e2], by rw [f3, e3], f4, by rw [f5, e5, f3]⟩

theorem mlook_any (h : PutIs S w b x) (hm : MemIs w mb mg m) (hd : ∀ k, S k → ¬ Own mb mg k) (hu : U64 m) (hk : m.k.ops + 1 ≤ 1000000000) (ha : x.a = 1) : Calls Try.prog 65 #[pptr b, pptr mb] w (MidPost S b mb mg (stepP x m).1 (stepP x m).2 w) := by
  obtain ⟨c, p, s, k, g, L, vo, hx⟩ := h.ex
  have hth := h.ok.th (by omega)
  obtain ⟨e1, e2, e3, e4, e5⟩ := hx.live (by omega)
  obtain ⟨X, M, hXM, hok, hX, hM⟩ := step_let h.ok hu (step1 ha m)
  rw [hXM]
  show Calls _ _ _ _ (MidPost S b mb mg X M w)
  obtain ⟨q1, q2, q3, q4, q5, q6, q7⟩ := ps_parts hX
  have hA0 : X.a ≠ 0 := by
    clear hXM hok hX hM
    rw [q4]
    split
    · exact Nat.succ_ne_zero _
    · exact Nat.succ_ne_zero _
  have hAI : (if ln (m.ans x.wa).toNat < x.q then (2 : Int) else 4) = (X.a : Int) := by rw [q4]; split <;> rfl
  refine (plook_any hx.row hm hu (own_out hd h) (by omega) (by rw [e1, e2]; exact hth.1)).mono ?_
  intro e w' hp
  have e6 : aW c p = x.wa := by rw [e1, e2]; rfl
  have e7 : c.q.toNat = x.q := by rw [e1]; rfl
  rw [e6, e7, ← hM, ← q5] at hp
  rw [← q5] at hAI
  clear q4
  have hx0 : x.a ≠ 0 := by rw [ha]; exact Nat.succ_ne_zero _
  obtain ⟨A, hA⟩ : ∃ A : Int, (if ln X.w < x.q then (2 : Int) else 4) = A := ⟨_, rfl⟩
  rw [hA] at hp hAI
  clear hA
  exact mid_of h hx hd hx0 (over0 hA0) hok (by rw [q7]; exact hx.fh) hAI hp hx.len (fun _ => ⟨q1, q2, q3, rfl, q7⟩) (fun _ => rfl) (fun _ => by rw [q6]; exact ⟨rfl, by simp⟩)
theorem mstore_any (h : PutIs S w b x) (hm : MemIs w mb mg m) (hd : ∀ k, S k → ¬ Own mb mg k) (hu : U64 m) (hk : m.k.ops + 1 ≤ 1000000000) (ha : x.a = 2) : Calls Try.prog 66 #[pptr b, pptr mb] w (MidPost S b mb mg (stepP x m).1 (stepP x m).2 w) := by
  obtain ⟨c, p, s, k, g, L, vo, hx⟩ := h.ex
  have hth := h.ok.th (by omega)
  obtain ⟨e1, e2, e3, e4, e5⟩ := hx.live (by omega)
  obtain ⟨X, M, hXM, hok, hX, hM⟩ := step_let h.ok hu (step2 ha m)
  rw [hXM]
  show Calls _ _ _ _ (MidPost S b mb mg X M w)
  obtain ⟨q1, q2, q3, q4, q5, q6, q7⟩ := ps_parts hX
  have hr := hx.row
  rw [hx.k2 ha] at hr
  refine (pstore_any hr hm (own_out hd h) (by omega) (by rw [e1, e2]; exact hth.1) (by rw [e4]; exact h.ok.w)).mono ?_
  intro e w' hp
  rw [show m.store (aS c p (tl s)) (IntKind.u64.wrap g) = M by rw [hM, e1, e2, e3, e4]] at hp
  exact mid_of h hx hd (by omega) (over0 (by omega)) hok (by rw [q7]; exact hx.fh) (by rw [q4]; rfl) hp hx.len (fun _ => ⟨q1, q2, q3, by rw [q5, e4], q7⟩) (fun e => by omega) (fun e => by omega)
theorem mswing_any (h : PutIs S w b x) (hm : MemIs w mb mg m) (hd : ∀ k, S k → ¬ Own mb mg k) (hu : U64 m) (hk : m.k.ops + 1 ≤ 1000000000) (ha : x.a = 3) : Calls Try.prog 67 #[pptr b, pptr mb] w (MidPost S b mb mg (stepP x m).1 (stepP x m).2 w) := by
  obtain ⟨c, p, s, k, g, L, vo, hx⟩ := h.ex
  have hth := h.ok.th (by omega)
  obtain ⟨e1, e2, e3, e4, e5⟩ := hx.live (by omega)
  obtain ⟨X, M, hXM, hok, hX, hM⟩ := step_let h.ok hu (step3 ha m)
  rw [hXM]
  show Calls _ _ _ _ (MidPost S b mb mg X M w)
  have e6 : aW c p = x.wa := by rw [e1, e2]; rfl
  refine (pswing_any hx.row hm (own_out hd h) (by omega) (by rw [e1, e2]; exact hth.1) (by rw [e4]; exact h.ok.w) _ rfl).mono ?_
  intro e w' hp
  rw [e6, e4, ← hM] at hp
  by_cases hh : m.hit x.wa x.w
  · rw [decide_eq_true hh] at hp
    rw [if_pos hh] at hX
    obtain ⟨q1, q2, q3, q4, q5, q6, q7⟩ := ps_parts hX
    exact mid_of h hx hd (by omega) (by unfold PS.over; rw [if_pos q4, q7]) hok (by rw [q7]; simp) (by rw [q4]; rfl) hp hx.len (fun e => absurd q4 e) (fun e => by omega) (fun e => by omega)
  · rw [decide_eq_false hh] at hp
    rw [if_neg hh] at hX
    obtain ⟨q1, q2, q3, q4, q5, q6, q7⟩ := ps_parts hX
    exact mid_of h hx hd (by omega) (over0 (by omega)) hok (by rw [q7]; exact hx.fh) (by rw [q4]; rfl) hp hx.len (fun _ => ⟨q1, q2, q3, q5.symm, q7⟩) (fun e => by omega) (fun e => by omega)
theorem mtake_any (h : PutIs S w b x) (hm : MemIs w mb mg m) (hd : ∀ k, S k → ¬ Own mb mg k) (hu : U64 m) (hk : m.k.ops + 1 ≤ 1000000000) (ha : x.a = 4) : Calls Try.prog 68 #[pptr b, pptr mb] w (MidPost S b mb mg (stepP x m).1 (stepP x m).2 w) := by
  obtain ⟨c, p, s, k, g, L, vo, hx⟩ := h.ex
  have hth := h.ok.th (by omega)
  obtain ⟨e1, e2, e3, e4, e5⟩ := hx.live (by omega)
  obtain ⟨k1, k2⟩ := hx.k4 (.inl ha)
  have ht4 := h.ok.t4 ha
  obtain ⟨X, M, hXM, hok, hX, hM⟩ := step_let h.ok hu (step4 ha m)
  rw [hXM]
  show Calls _ _ _ _ (MidPost S b mb mg X M w)
  obtain ⟨q1, q2, q3, q4, q5, q6, q7⟩ := ps_parts hX
  have hq := q_le hth.1.1
  have e7 : c.q.toNat = x.q := by rw [e1]; rfl
  have e8 : x.q = x.c.q.toNat := rfl
  have hl32 : x.t.length < 32 := by omega
  have hlen := hx.len
  refine (ptake_any hx.row hx.len hm (own_out hd h) (by omega) (by rw [e1, e2]; exact hth.1) (by rw [e4]; exact h.ok.w) x.t.length k1 (by rw [e7]; exact ht4)).mono ?_
  intro e w' hp
  have e9 : aS c p ((tl s + 4294967296 - c.q.toNat / 2 + x.t.length) % 4294967296) = aS x.c x.p x.tp := by rw [e1, e2, e4]; rfl
  rw [e9, e7, ← hM] at hp
  obtain ⟨Y, hY⟩ : ∃ Y, IntKind.i64.wrap (m.ans (aS x.c x.p x.tp)) = Y := ⟨_, rfl⟩
  rw [hY] at hp q6
  have hA2 : X.a = 5 ∨ X.a = 4 := by rw [q4]; split <;> simp
  have hAI : (if x.t.length + 1 = x.q / 2 then (5 : Int) else (x.a : Int)) = (X.a : Int) := by rw [q4, ha]; split <;> rfl
  refine mid_of h hx hd (by omega) (over0 (by omega)) hok (by rw [q7]; exact hx.fh) hAI hp (by rw [List.length_set]; exact hlen) (fun _ => ⟨q1, q2, q3, by rw [q5, e4], q7⟩) (fun e => by omega) (fun _ => ?_)
  rw [q6]
  constructor
  · simp
  · rw [List.length_append, List.length_singleton, List.take_add_one, List.take_set_of_le (Nat.le_refl _), k2, List.getElem?_set_self (by omega)]
    rfl
theorem mcut_any (h : PutIs S w b x) (hm : MemIs w mb mg m) (hd : ∀ k, S k → ¬ Own mb mg k) (hu : U64 m) (hk : m.k.ops + 1 ≤ 1000000000) (ha : x.a = 5) : Calls Try.prog 69 #[pptr b, pptr mb] w (MidPost S b mb mg (stepP x m).1 (stepP x m).2 w) := by
  obtain ⟨c, p, s, k, g, L, vo, hx⟩ := h.ex
  have hth := h.ok.th (by omega)
  obtain ⟨e1, e2, e3, e4, e5⟩ := hx.live (by omega)
  obtain ⟨k1, k2⟩ := hx.k4 (.inr ha)
  have ht5 := h.ok.t5 ha
  obtain ⟨X, M, hXM, hok, hX, hM⟩ := step_let h.ok hu (step5 ha m)
  rw [hXM]
  show Calls _ _ _ _ (MidPost S b mb mg X M w)
  have e6 : aW c p = x.wa := by rw [e1, e2]; rfl
  have e7 : c.q.toNat = x.q := by rw [e1]; rfl
  refine (pcut_any hx.row hx.len hm (own_out hd h) (by omega) (by rw [e1, e2]; exact hth.1) (by rw [e4]; exact h.ok.w) (by rw [k1, ht5, e7]) _ rfl).mono ?_
  rintro e w' ⟨vo', rfl, hr, hm', ht, hv⟩
  rw [e6, e4] at hr
  rw [e6, e4, e7, ← hM] at hm'
  rw [e6, e4, e7, ← ht5, k2] at hv
  by_cases hh : m.hit x.wa x.w
  · rw [decide_eq_true hh] at hr hv
    rw [if_pos hh] at hX
    obtain ⟨q1, q2, q3, q4, q5, q6, q7⟩ := ps_parts hX
    have hn := hv.out
    rw [if_pos rfl, e3, ← q7] at hn
    have hnl := hn.lt
    have hsl : x.t.length ≤ 32 := h.ok.few
    have hr' := hr.out
    have hXa : (cond true 0 1 : Int) = (X.a : Int) := by rw [q4]; rfl
    rw [hXa] at hr'
    refine ⟨fun j => j = b ∨ vo'.ownBlock = some j, rfl, ⟨⟨c, p, x.w, k, g, L, vo', ⟨hr', hx.len, ?_, fun e => absurd q4 e, by rw [q7, List.length_append]; simp; omega, fun e => by omega, fun e => by omega⟩⟩, .inl rfl, fun j hj => ?_, hok⟩, hm', fun j hj => ?_, tch_s h.sb ht.out⟩
    · have hov : X.over = X.h := by unfold PS.over; rw [if_pos q4]
      rw [hov]
      refine hn.sl (by rw [q7]; simp; omega) (fun j e f => ?_)
      rcases f with f | f
      · exact f (.inr e)
      · have := (hnl j e).1
        have := hx.row.lt
        omega
    · rcases hj with hj | hj
      · rw [hj]; exact hr'.lt
      · exact (hnl j hj).2
    · rcases hj with hj | hj
      · rw [hj]; exact .inl h.sb
      · exact .inr (hnl j hj).1
  · rw [decide_eq_false hh] at hr hv
    rw [if_neg hh] at hX
    obtain ⟨q1, q2, q3, q4, q5, q6, q7⟩ := ps_parts hX
    have hve : vo' = vo := by have := hv.out; rw [if_neg (by decide)] at this; exact this
    subst hve
    exact mid_of h hx hd (by omega) (over0 (by omega)) hok (by rw [q7]; exact hx.fh) (by rw [q4]; rfl) ⟨rfl, hr.out, hm'.out, ht.out⟩ hx.len (fun _ => ⟨q1, q2, q3, q5.symm, q7⟩) (fun e => by omega) (fun e => by omega)
end
end Go.Proofs.Ytgfddkddacigfaa
