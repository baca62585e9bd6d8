/- Get, Steal, All and Put of a ring (layer 8). -/
import Derived.Test.YtjdbmedealhbjaaRu
import Derived.Test.YtjdbmedealhbjaaRz
namespace Go.Proofs.Ytjdbmedealhbjaa
open Go.RowKit Go.Wd Go.Dk

/-- how a deque lies: S the two blocks that are its own -/
def DqIs (S : Nat → Prop) (w : World) (db q : Nat) (xs : List Int) : Prop := ∃ g x, S = (fun k => k = db ∨ k = g) ∧ RingAt w db g x q xs
theorem RingAt.src {w : World} {db g x q : Nat} {xs : List Int} (r : RingAt w db g x q xs) (fr m : Nat) : SrcIs w.heap.size w (dptr db) fr m ((xs.drop fr).take m) := .inr ⟨db, g, x, q, xs, rfl, r.lt.1, r.lt.2, r, rfl⟩
theorem RingAt.nmax {w : World} {db g x q : Nat} {xs : List Int} (r : RingAt w db g x q xs) : xs.length ≤ 65536 := by
  have := room_bd r.rm
  have := r.le
  omega
theorem all_ring {w : World} {db g x q : Nat} {xs : List Int} (r : RingAt w db g x q xs) : Calls Try.prog 22 #[dptr db] w (RowPost8 xs w) := by
  have h0 := r.nmax
  have := list_src (r.src 0 65536) (by rw [List.length_take, List.length_drop]; omega)
  rw [List.drop_zero, List.take_of_length_le h0] at this
  have HL := Lib.hid this
  clear this r
  go_enter Try.func22, Try.ntmps22
  go_wp2_with (go_at_call 39; refine HL.out.mono ?_; rintro e w' ⟨p, n, c, rfl, hn, hO, hb⟩)
  go_ret
  exact ⟨p, n, c, rfl, hn, hO, hb⟩
theorem all_none (w : World) : Calls Try.prog 22 #[.pointer none] w (RowPost8 [] w) := by
  have HL := Lib.hid (list_src (w := w) (v := .pointer none) (fr := 0) (m := 65536) (ys := []) (.inl ⟨rfl, rfl⟩) (by simp))
  go_enter Try.func22, Try.ntmps22
  go_wp2_with (go_at_call 39; refine HL.out.mono ?_; rintro e w' ⟨p, n, c, rfl, hn, hO, hb⟩)
  go_ret
  exact ⟨p, n, c, rfl, hn, hO, hb⟩
theorem get_ring {w : World} {db g x q : Nat} {xs : List Int} (r : RingAt w db g x q xs) : Calls Try.prog 20 #[dptr db] w (ValPost DqIs (fun k => k = db ∨ k = g) db q xs.tail (.tuple #[.int .i64 (xs.headD 0), .bool (decide (0 < xs.length))]) w) := by
  have HR := Lib.hid r
  have HL := Lib.hid (len_ring r)
  cases xs with
  | nil =>
    clear r
    go_enter Try.func20, Try.ntmps20
    go_wp2_with (go_at_call 26; refine HL.out.mono ?_; rintro e w' ⟨rfl, rfl⟩)
    go_ret2
    exact ⟨_, rfl, ⟨g, x, rfl, HR.out⟩, fun k h => .inl h, .refl _ _⟩
  | cons z zs =>
    obtain ⟨s, hs⟩ : ∃ s, hd x % q = s := ⟨_, rfl⟩
    have hhd := hd_lt r.hx
    obtain ⟨h, hh⟩ : ∃ h, hd x = h := ⟨_, rfl⟩
    have c0 := r.c0
    have HH : Hid (∀ w, Calls Try.prog 45 #[.int .u64 x] w fun e w' => e = .returned (.int .u32 (h : Nat)) ∧ w = w') := by
      rw [← hh]; exact fun w => head_any x r.hx w
    have hsl := dslot_any r h (by rw [← hh]; exact hhd)
    rw [← hh, hs, hh] at hsl
    have HS : Hid (Calls Try.prog 42 #[dptr db, .int .u32 h] w (fun e w' => e = .returned (.pointer (some ⟨g, s, none⟩)) ∧ Hid (Below w.heap.size w w') ∧ w'.cell? ⟨g, s, none⟩ = some (.int .i64 z))) := by
      refine hsl.mono ?_
      rintro e w' ⟨rfl, hb⟩
      have := (r.on hb).cells 0 (by simp)
      rw [Nat.add_zero, Nat.mod_eq_of_lt hhd, hs] at this
      exact ⟨rfl, hb, this⟩
    have HG : Hid (∀ w', Below w.heap.size w w' → Calls Try.prog 46 #[dptr db, .int .u32 1] w' (fun e w2 => (∃ v, e = .returned v) ∧ w'.setCell ⟨db, 0, none⟩ (.int .u64 (gainW x 1)) = w2)) := fun w' hb => gain_call (n := 1) (r.on hb).c0 (r.on hb).f0 r.hx (by decide) rfl
    have hlen : ¬ (((z :: zs).length : Int) = 0) := by simp only [List.length_cons]; omega
    obtain ⟨n, hn⟩ : ∃ n, (z :: zs).length = n := ⟨_, rfl⟩
    have hnp : (0 : Int) < (n : Int) := by rw [← hn]; simp only [List.length_cons]; omega
    have hnp2 : decide (0 < n) = true := by rw [← hn]; simp
    rw [hn] at HL hlen ⊢
    rw [hnp2]
    clear r hs hhd hh hsl hn hnp2
    go_enter Try.func20, Try.ntmps20
    go_wp2_with (first
      | (go_at_call 26; refine HL.out.mono ?_; rintro e w' ⟨rfl, rfl⟩)
      | (go_at_call 45; refine (HH.out _).mono ?_; rintro e w' ⟨rfl, rfl⟩)
      | (go_at_call 42; refine HS.out.mono ?_; rintro e w2 ⟨rfl, hb2, hc2⟩)
      | (go_at_call 46; refine (HG.out _ hb2.out).mono ?_; rintro e w3 ⟨⟨v3, rfl⟩, rfl⟩))
    go_ret2
    exact ⟨_, rfl, ⟨g, _, rfl, (HR.out.on hb2.out).pop 1 (by simp)⟩, fun k h => .inl h, (Tch.of _ hb2.out).setCell (p := ⟨db, 0, none⟩) (.inl (.inl rfl)) _⟩
end Go.Proofs.Ytjdbmedealhbjaa
