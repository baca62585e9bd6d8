/- A lay's swing (layer 9's code). -/
import Derived.Test.YtgfddkddacigfaaZk
set_option linter.unusedSimpArgs false
set_option linter.unusedVariables false
namespace Go.Proofs.Ytgfddkddacigfaa
open Go.RowKit Go.Cg Go.Pu Go.Wd Go.Ce

section
variable {t : TypeId} {c : Cfg} {p a n : Int} {s : Nat} {k : Int} {vl : Value} {l : List Int} {w w' : World} {b mb mg : Nat} {m : PM} {S : Nat → Prop}
def LSwPost (t : TypeId) (S : Nat → Prop) (b : Nat) (c : Cfg) (p a : Int) (s : Nat) (k n : Int) (l : List Int) (mb mg : Nat) (m' : PM) (w : World) (e : Ending) (w' : World) : Prop :=
  ∃ vl', e = .returned (.tuple #[]) ∧ Hid (Row b t (lyV c p a s k vl' n) w') ∧ Hid (MemIs w' mb mg m') ∧ Hid (Tch (fun k => k = b ∨ Own mb mg k) w w') ∧ Hid (SlIs S w' vl' l)
/-- the rest of a list, where something is left of its room -/
theorem sl_rest {g o len cl nn : Nat} (h : SlIs S w (.slice (some ⟨g, o, none⟩) len cl) l) (hn : nn ≤ l.length) (hc : ¬ cl - nn = 0) : SlIs S w (.slice (some ⟨g, o + nn, none⟩) (len - nn) (cl - nn)) (l.drop nn) := by
  obtain ⟨p, c, e, h1, h2, h3, h4⟩ := h
  cases e
  refine ⟨some ⟨g, o + nn, none⟩, cl - nn, by rw [List.length_drop], by rw [List.length_drop]; omega, by omega, (fun e => by cases e), ⟨by rw [List.length_drop]; have := h4.len; omega, fun j hj => ?_⟩⟩
  rw [List.length_drop] at hj
  obtain ⟨b', o', e, hs, hcell⟩ := h4.cells (nn + j) (by omega)
  cases e
  refine ⟨g, o + nn, rfl, hs, ?_⟩
  rw [Nat.add_assoc, hcell]
  simp [List.getD, List.getElem?_drop]
theorem sl_none {q : Option Addr} {nn : Nat} (hn : l.length ≤ nn) (hq : q = none → True) : SlIs S w (.slice q 0 0) (l.drop nn) := by
  rw [List.drop_eq_nil_of_le hn]
  exact ⟨q, 0, rfl, Nat.le_refl _, Nat.zero_le _, fun _ => rfl, ⟨by simp, fun j hj => absurd hj (Nat.not_lt_zero _)⟩⟩
theorem sl_tail {g o len cl nn : Nat} (h : SlIs S w (.slice (some ⟨g, o, none⟩) len cl) l) (hn : nn ≤ len) (hl : l.length = len) (hc : len ≤ cl) : SlIs S w (.slice (if cl = nn then some ⟨g, o, none⟩ else some ⟨g, o + nn, none⟩) (len - nn) (cl - nn)) (l.drop nn) := by
  by_cases e : cl = nn
  · rw [if_pos e, show len - nn = 0 by omega, show cl - nn = 0 by omega]
    exact sl_none (by omega) (fun _ => trivial)
  · rw [if_neg e]
    exact sl_rest h (by omega) (by omega)
set_option maxHeartbeats 1000000 in
set_option maxRecDepth 20000 in
theorem lswing_any {nn : Nat} (h : Row b t (lyV c p a s k vl n) w) (hl : SlIs S w vl l) (hS : ∀ j, (j = b ∨ Own mb mg j) → S j) (hm : MemIs w mb mg m) (hb : ¬ Own mb mg b) (hk : m.k.ops + 1 ≤ 1000000000000) (hR : Right c ∧ 0 ≤ p ∧ p < c.n) (hs : s < 18446744073709551616) (hnn : n = nn) (hn1 : 0 < nn) (hn2 : nn ≤ l.length) (hn64 : nn ≤ 64) (r : Bool) (hr : decide (m.hit (aW c p) s) = r) :
    Calls Try.prog 74 #[pptr b, pptr mb] w (LSwPost t S b c p (cond r 0 1) s k n (if r = true then l.drop nn else l) mb mg (m.cas (aW c p) s (growW s nn)) w) := by
  have HG : Hid (∀ w, Calls Try.prog 91 #[.int .u64 s, .int .u32 nn] w fun e w' => e = .returned (.int .u64 (growW s nn : Nat)) ∧ w = w') := fun w => wgrow_any s nn hs (by omega) w
  have HC : Hid (∀ w1, Below w.heap.size w w1 → Calls Try.prog 90 #[pptr b, pptr mb, .int .u64 (growW s nn : Nat)] w1 (RgPost t b (lyV c p (cond r 0 1) s k vl n) mb mg (m.cas (aW c p) s (growW s nn)) (.bool r) w)) := fun w1 hb1 => by
    refine (rswap_any (h.on' hb1) (hm.on hb1) hb hk hR _ r hr).mono ?_
    intro e w' hp
    exact hp.from hb1
  obtain ⟨y, hy⟩ : ∃ y, growW s nn = y := ⟨_, rfl⟩
  rw [hy] at HG HC ⊢
  obtain ⟨M, hM⟩ : ∃ M, m.cas (aW c p) s y = M := ⟨_, rfl⟩
  rw [hM] at HC ⊢
  have HSl : Hid (∀ w', Tch (fun k => k = b ∨ Own mb mg k) w w' → SlIs S w' vl l) := fun w' ht => hl.tch (ht.wide hS)
  obtain ⟨pp, cl, rfl, h1, h2, h3, h4⟩ := hl
  obtain ⟨g, o, rfl, -, -⟩ := h4.cells 0 (by omega)
  obtain ⟨len, hlen⟩ : ∃ len, l.length = len := ⟨_, rfl⟩
  have HLn := Lib.hid hlen
  rw [hlen] at h1 hn2 h HC HSl
  have HO := Lib.hid hb
  have HSb := Lib.hid hS
  subst hnn
  have c8 : w.cell? ⟨b, 8, none⟩ = some (.int .u64 s) := h.cell 8
  have c11 := ly_n h
  have hw : IntKind.u32.wrap (nn : Int) = nn := IntWalk.u32_in _ (by omega)
  have hn3 : (0 : Int) ≤ (nn : Int) := by omega
  have hn4 : (nn : Int) ≤ len := by omega
  have hn5 : (nn : Int) ≤ cl := by omega
  obtain ⟨l', hl'⟩ : ∃ l', (if r = true then l.drop nn else l) = l' := ⟨_, rfl⟩
  rw [hl']
  have HL' := Lib.hid hl'
  clear h hm hb hk hR hs hr hy hM h2 h3 h4 hlen hS hl'
  go_enter Try.func74, Try.ntmps74
  go_wp2_with fail
  go_region_with (first
    | (go_at_call 91; (with_reducible refine (HG.out _).mono ?_); rintro e w3 ⟨rfl, rfl⟩)
    | (go_at_call 90; (with_reducible refine (HC.out _ (by first | exact Below.refl _ _ | exact (Below.refl _ _).drew)).mono ?_); rintro e w5 ⟨rfl, H5, HM5, HT5⟩; have H5 := Lib.hid H5; have HM5 := Lib.hid HM5; have HT5 := Lib.hid HT5))
  all_goals
    have HS5 := Lib.hid (HSl.out _ HT5.out)
    have H5d := Lib.hid H5.out.drew
    have d10 := ly_l H5.out
    have d11 := ly_n H5.out
    have e10 := ly_l H5d.out
    have e11 := ly_n H5d.out
    have f10 := H5d.out.frozen 10
    clear c8 c11 HC HG HSl
    cases r with
    | false =>
      obtain rfl : l = l' := by have := HL'.out; rw [if_neg (by decide)] at this; exact this
      go_wp2_with fail
      go_end0
      exact ⟨_, rfl, H5.out, HM5.out, HT5.out, HS5.out⟩
    | true =>
      obtain rfl : l.drop nn = l' := by have := HL'.out; rw [if_pos rfl] at this; exact this
      go_wp2_with fail
      go_region
      all_goals
        have hT := Lib.hid (sl_tail HS5.out hn2 HLn.out h1)
        have HTT := Lib.hid ((tset b 10 (.slice (if cl = nn then some ⟨g, o, none⟩ else some ⟨g, o + nn, none⟩) (len - nn) (cl - nn)) w5).then (Below.refl _ _).drew)
        have HF := Lib.hid (rg_fin (v := .tuple #[]) HM5.out HT5.out HO.out HTT.out (ly_setl H5.out (.slice (if cl = nn then some ⟨g, o, none⟩ else some ⟨g, o + nn, none⟩) (len - nn) (cl - nn))).drew)
        have HFS := Lib.hid (hT.out.tch (HTT.out.wide (fun k e => HSb.out k (.inl e))))
        go_end0
        exact ⟨_, rfl, HF.out.2.1, HF.out.2.2.1, HF.out.2.2.2, HFS.out⟩
end
end Go.Proofs.Ytgfddkddacigfaa
