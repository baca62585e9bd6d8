/- The code's deque keeps what the laws ask of it (layer 8). -/
import Derived.Test.YtjdbmedealhbjaaRn
import Derived.Test.YtjdbmedealhbjaaRm
import Derived.Test.YtjdbmedealhbjaaRe
namespace Go.Proofs.Ytjdbmedealhbjaa
open Go.RowKit Go.Wd Go.Dk

theorem ans_of {f : Nat} {args : Array Value} {w : World} {v : Value} (h : Calls Try.prog f args w (fun e w' => e = .returned v ∧ w = w')) : Calls Try.prog f args w (Ans v w) := by
  refine h.mono ?_
  rintro e w' ⟨rfl, rfl⟩
  exact ⟨rfl, Below.refl _ _⟩
theorem put_api {S : Nat → Prop} {w : World} {db q : Nat} {xs : List Int} (z : Int) (h : DqIs S w db q xs) : Calls Try.prog 18 #[dptr db, .int .i64 z] w (OutPost DqIs S db q (putL q xs z) (putO q xs z) w) := by
  obtain ⟨g, x, rfl, r⟩ := h
  by_cases hl : xs.length < q
  · have := put_some r z hl
    unfold putL putO
    rw [if_pos hl, if_pos hl]; exact this
  · have := put_full r z (by have := r.le; omega)
    unfold putL putO
    rw [if_neg hl, if_neg hl]; exact this
theorem lay_api {S : Nat → Prop} {w : World} {db q : Nat} {xs : List Int} (v : Value) (l : List Int) (h : DqIs S w db q xs) (hv : SlIs S w v l) : Calls Try.prog 19 #[dptr db, v] w (ValPost DqIs S db q (layL q xs l) (.int .i64 (layN q xs l)) w) := by
  obtain ⟨g, x, rfl, r⟩ := h
  refine (lay_ring r v l hv hv.len).mono ?_
  rintro e w' ⟨rfl, h1, h2⟩
  obtain ⟨x', r'⟩ := h1.out
  exact ⟨_, rfl, ⟨g, x', rfl, r'⟩, fun k h => .inl h, h2.out⟩
theorem move_api {S R : Nat → Prop} {w : World} {a b q p : Nat} {xs ys : List Int} (h : DqIs S w a q xs) (k : DqIs R w b p ys) (hd : ∀ k, S k → ¬ R k) :
    Calls Try.prog 23 #[dptr a, dptr b] w (MovePost DqIs S R a q (mvF xs ys) b p (mvT p xs ys) (.tuple #[.int .i64 (mvV xs ys), .bool (mvB xs ys)]) w) := by
  obtain ⟨ga, xa, rfl, r⟩ := h
  obtain ⟨gb, xb, rfl, s⟩ := k
  by_cases hm : xs ≠ [] ∧ ys = []
  · obtain ⟨hx, rfl⟩ := hm
    have hb : mvB xs [] = true := by unfold mvB; exact decide_eq_true ⟨hx, rfl⟩
    unfold mvF mvT mvV
    rw [if_pos hb, if_pos hb, if_pos hb, hb]
    exact move_some r s hx hd
  · have hb : mvB xs ys = false := by unfold mvB; exact decide_eq_false hm
    unfold mvF mvT mvV
    rw [hb]
    have hc : Calls Try.prog 23 #[dptr a, dptr b] w (Ans (.tuple #[.int .i64 0, .bool false]) w) := by
      rcases Nat.eq_zero_or_pos ys.length with h0 | h0
      · obtain rfl := List.eq_nil_of_length_eq_zero h0
        have hx : xs = [] := Classical.byContradiction fun e => hm ⟨e, rfl⟩
        subst hx
        exact move_empty r s
      · exact move_full (a := a) s h0 _
    refine hc.mono ?_
    rintro e w' ⟨rfl, hbw⟩
    exact ⟨_, _, rfl, ⟨ga, xa, rfl, r.on hbw⟩, ⟨gb, xb, rfl, s.on hbw⟩, hd, fun k h => .inl h, fun k h => .inl h, .of _ hbw⟩
noncomputable def theDq : DqApi where
  Is := DqIs
  lt := by
    rintro S w db q xs ⟨g, x, rfl, r⟩ k (rfl | rfl)
    · exact r.lt.1
    · exact r.lt.2
  self := by
    rintro S w db q xs ⟨g, x, rfl, r⟩
    exact .inl rfl
  room := by
    rintro S w db q xs ⟨g, x, rfl, r⟩
    exact r.rm
  len := by
    rintro S w db q xs ⟨g, x, rfl, r⟩
    exact r.le
  tch := by
    rintro S R w w' db q xs ⟨g, x, rfl, r⟩ ht hs
    exact ⟨g, x, rfl, r.tch ht hs⟩
  new_yes := fun q v xs w hr hv _ => new_ring q v xs w hr hv
  new_no := fun q v xs w hr hv _ => new_no' q v w hr (by obtain ⟨p, n, c, e, _⟩ := hid_slice hv; exact ⟨p, n, c, e⟩)
  put_any := fun g h => put_api g h
  lay_any := fun v l h hv _ => lay_api v l h hv
  get_any := by
    rintro S w db q xs ⟨g, x, rfl, r⟩
    exact get_ring r
  steal_any := by
    rintro S w db q xs ⟨g, x, rfl, r⟩
    exact steal_ring r
  room_any := by
    rintro S w db q xs ⟨g, x, rfl, r⟩
    exact ans_of (room_ring r)
  len_any := by
    rintro S w db q xs ⟨g, x, rfl, r⟩
    exact ans_of (len_ring r)
  all_any := by
    rintro S w db q xs ⟨g, x, rfl, r⟩
    exact all_ring r
  ahead_any := by
    rintro S w db q xs z ⟨g, x, rfl, r⟩
    have h0 := r.nmax
    have := ahead_src z (r.src 0 65536) (by rw [List.length_take, List.length_drop]; omega)
    rw [List.drop_zero, List.take_of_length_le h0] at this
    exact this
  copy_any := by
    rintro S w db q xs ⟨g, x, rfl, r⟩
    exact copy_ring r
  same_any := by
    rintro S R w a b q p xs ys ⟨g, x, rfl, r⟩ ⟨g', x', rfl, s⟩
    exact same_ring r s
  move_any := fun h k hd => move_api h k hd
  move_self := by
    rintro S w a q xs ⟨g, x, rfl, r⟩
    exact move_self_ring r
  put_nil := put_none
  lay_nil := fun v l w hv => lay_none w _ v l hv
  get_nil := get_none
  steal_nil := steal_none
  room_nil := fun w => ans_of (room_none w)
  len_nil := fun w => ans_of (len_none w)
  all_nil := all_none
  ahead_nil := fun g w => by
    have := ahead_src (w := w) (v := .pointer none) (ys := []) g (.inl ⟨rfl, rfl⟩) (by simp)
    rw [show aheadL [] g = -1 by simp [aheadL]] at this
    exact this
  copy_nil := copy_none
  same_nil := same_none
  move_nil := move_none
end Go.Proofs.Ytjdbmedealhbjaa
