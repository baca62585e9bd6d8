/- A ring: the deque as it lies, its places, its word (layer 8). -/
import Derived.Test.YtjdbmedealhbjaaDq
import Derived.Test.YtjdbmedealhbjaaWpa
import Derived.Test.YtjdbmedealhbjaaMb
import Derived.WalkSpells
import Derived.WalkLawsBesides
import Derived.BigQuiet
import Derived.Deep.QuietTactic
namespace Go.Proofs.Ytjdbmedealhbjaa
open Go.RowKit Go.Wd Go.Dk

/-- a deque as it lies: its word x, its slots in the block g -/
structure RingAt (w : World) (db g x q : Nat) (xs : List Int) : Prop where
  c0 : w.cell? ⟨db, 0, none⟩ = some (.int .u64 x)
  c1 : ∃ c, w.cell? ⟨db, 1, none⟩ = some (.slice (some ⟨g, 0, none⟩) q c) ∧ q ≤ c ∧ c ≤ maxLen
  f0 : w.frozen? ⟨db, 0, none⟩ = false
  f1 : w.frozen? ⟨db, 1, none⟩ = false
  cells : ∀ j, j < xs.length → w.cell? ⟨g, (hd x + j) % 4294967296 % q, none⟩ = some (.int .i64 (xs.getD j 0))
  all : ∀ j, j < q → ∃ z, w.cell? ⟨g, j, none⟩ = some (.int .i64 z) ∧ w.frozen? ⟨g, j, none⟩ = false
  hx : x < 18446744073709551616
  hl : ln x = xs.length
  rm : room (q : Int) = true
  le : xs.length ≤ q
  ne : db ≠ g
theorem RingAt.lt {w : World} {db g x q : Nat} {xs : List Int} (r : RingAt w db g x q xs) : db < w.heap.size ∧ g < w.heap.size := by
  refine ⟨block_lt_of_cell r.c0, ?_⟩
  have := room_bd r.rm
  obtain ⟨z, hz, _⟩ := r.all 0 (by omega)
  exact block_lt_of_cell hz
theorem RingAt.blocks {w w' : World} {db g x q : Nat} {xs : List Int} (r : RingAt w db g x q xs) (h1 : w'.heap[db]? = w.heap[db]?) (h2 : w'.heap[g]? = w.heap[g]?) : RingAt w' db g x q xs := by
  have e1 (j : Nat) : w'.cell? ⟨db, j, none⟩ = w.cell? ⟨db, j, none⟩ := World.cell?_of_block h1
  have e2 (j : Nat) : w'.cell? ⟨g, j, none⟩ = w.cell? ⟨g, j, none⟩ := World.cell?_of_block h2
  have e3 (j : Nat) : w'.frozen? ⟨db, j, none⟩ = w.frozen? ⟨db, j, none⟩ := World.frozen?_of_block h1
  have e4 (j : Nat) : w'.frozen? ⟨g, j, none⟩ = w.frozen? ⟨g, j, none⟩ := World.frozen?_of_block h2
  refine ⟨by rw [e1]; exact r.c0, by rw [e1]; exact r.c1, by rw [e3]; exact r.f0, by rw [e3]; exact r.f1, fun j hj => by rw [e2]; exact r.cells j hj, fun j hj => ?_, r.hx, r.hl, r.rm, r.le, r.ne⟩
  rw [e2, e4]; exact r.all j hj
theorem RingAt.bel {w w' : World} {db g x q B : Nat} {xs : List Int} (r : RingAt w db g x q xs) (hb : Below B w w') (h1 : db < B) (h2 : g < B) : RingAt w' db g x q xs := r.blocks (hb.block _ h1) (hb.block _ h2)
theorem RingAt.on {w w' : World} {db g x q : Nat} {xs : List Int} (r : RingAt w db g x q xs) (hb : Below w.heap.size w w') : RingAt w' db g x q xs := r.bel hb r.lt.1 r.lt.2
theorem slot_at {q : Nat} (hr : room (q : Int) = true) (p : Nat) (hp : p < 4294967296) (w : World) : Calls Try.prog 51 #[.int .u32 p, .int .i64 q] w fun e w' => e = .returned (.int .i64 (p % q : Nat)) ∧ w = w' := by
  have e : slot p q = ((p % q : Nat) : Int) := by unfold slot; rw [if_pos hr]; rfl
  have := slot_any p q hp w
  rw [e] at this
  exact this
theorem dslot_any {w : World} {db g x q : Nat} {xs : List Int} (r : RingAt w db g x q xs) (p : Nat) (hp : p < 4294967296) : Calls Try.prog 42 #[dptr db, .int .u32 p] w (Ans (.pointer (some ⟨g, p % q, none⟩)) w) := by
  obtain ⟨s, hs⟩ : ∃ s, p % q = s := ⟨_, rfl⟩
  have hb := room_bd r.rm
  have hsq : s < q := by rw [← hs]; exact Nat.mod_lt _ (by omega)
  have HS : Hid (∀ n, Calls Try.prog 51 #[.int .u32 p, .int .i64 q] (w.drewN n) fun e w' => e = .returned (.int .i64 (s : Nat)) ∧ ∃ m, w' = w.drewN m) := fun n => by
    rw [← hs]
    refine (slot_at r.rm p hp _).mono ?_
    rintro e w' ⟨rfl, rfl⟩
    exact ⟨rfl, n, rfl⟩
  obtain ⟨cp, c2, hcp, -⟩ := r.c1
  rw [hs]
  clear hs r hb
  go_enter Try.func42, Try.ntmps42
  go_wp2_with fail
  go_quiet (exact HS.out _)
  go_wp2
  go_ret
  exact ⟨rfl, below_drewN (.refl _ _) nq⟩
theorem size_any {w : World} {db x n : Nat} (c0 : w.cell? ⟨db, 0, none⟩ = some (.int .u64 x)) (hx : x < 18446744073709551616) (hl : ln x = n) : Calls Try.prog 40 #[dptr db] w (fun e w' => e = .returned (.int .u32 n) ∧ w = w') := by
  have HL := Lib.hid (fun w => len_any x hx w)
  rw [hl] at HL
  clear hl hx
  go_enter Try.func40, Try.ntmps40
  go_wp2_with (go_at_call 49; refine (HL.out _).mono ?_; rintro e w' ⟨rfl, rfl⟩)
  go_ret
  exact ⟨rfl, rfl⟩
theorem grow_call {w : World} {db x y : Nat} (c0 : w.cell? ⟨db, 0, none⟩ = some (.int .u64 x)) (f0 : w.frozen? ⟨db, 0, none⟩ = false) (hx : x < 18446744073709551616) (hy : growW x 1 = y) : Calls Try.prog 44 #[dptr db] w (fun e w' => (∃ v, e = .returned v) ∧ w.setCell ⟨db, 0, none⟩ (.int .u64 y) = w') := by
  have HL := Lib.hid (fun w => grow_any x 1 hx (by decide) w)
  rw [hy] at HL
  clear hy hx
  go_enter Try.func44, Try.ntmps44
  go_wp2_with (go_at_call 52; refine (HL.out _).mono ?_; rintro e w' ⟨rfl, rfl⟩)
  go_end0
  exact ⟨⟨_, rfl⟩, rfl⟩
theorem gain_call {w : World} {db x y n : Nat} (c0 : w.cell? ⟨db, 0, none⟩ = some (.int .u64 x)) (f0 : w.frozen? ⟨db, 0, none⟩ = false) (hx : x < 18446744073709551616) (hn : n < 4294967296) (hy : gainW x n = y) : Calls Try.prog 46 #[dptr db, .int .u32 n] w (fun e w' => (∃ v, e = .returned v) ∧ w.setCell ⟨db, 0, none⟩ (.int .u64 y) = w') := by
  have HL := Lib.hid (fun w => gain_any x n hx hn w)
  rw [hy] at HL
  clear hy hx
  go_enter Try.func46, Try.ntmps46
  go_wp2_with (go_at_call 53; refine (HL.out _).mono ?_; rintro e w' ⟨rfl, rfl⟩)
  go_end0
  exact ⟨⟨_, rfl⟩, rfl⟩
theorem drop_call {w : World} {db x y n : Nat} (c0 : w.cell? ⟨db, 0, none⟩ = some (.int .u64 x)) (f0 : w.frozen? ⟨db, 0, none⟩ = false) (hx : x < 18446744073709551616) (hn : n < 4294967296) (hy : dropW x n = y) : Calls Try.prog 41 #[dptr db, .int .u32 n] w (fun e w' => (∃ v, e = .returned v) ∧ w.setCell ⟨db, 0, none⟩ (.int .u64 y) = w') := by
  have HL := Lib.hid (fun w => drop_any x n hx hn w)
  rw [hy] at HL
  clear hy hx
  go_enter Try.func41, Try.ntmps41
  go_wp2_with (go_at_call 50; refine (HL.out _).mono ?_; rintro e w' ⟨rfl, rfl⟩)
  go_end0
  exact ⟨⟨_, rfl⟩, rfl⟩
end Go.Proofs.Ytjdbmedealhbjaa
