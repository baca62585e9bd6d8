/- A ring that changes: one behind, some off its front, some off its back (layer 8). -/
import Derived.Test.YtjdbmedealhbjaaRx
namespace Go.Proofs.Ytjdbmedealhbjaa
open Go.RowKit Go.Wd Go.Dk

theorem room_dvd {q : Nat} (h : room (q : Int) = true) : q ∣ 4294967296 := by
  have e : q = 2 ∨ q = 4 ∨ q = 8 ∨ q = 16 ∨ q = 32 ∨ q = 64 ∨ q = 128 ∨ q = 256 ∨ q = 512 ∨ q = 1024 ∨ q = 2048 ∨ q = 4096 ∨ q = 8192 ∨ q = 16384 ∨ q = 32768 ∨ q = 65536 := by
    rcases room_cases h with h | h | h | h | h | h | h | h | h | h | h | h | h | h | h | h <;> omega
  rcases e with h | h | h | h | h | h | h | h | h | h | h | h | h | h | h | h <;> subst h <;> decide
theorem place_mod {q : Nat} (hq : room (q : Int) = true) (a : Nat) : a % 4294967296 % q = a % q := Nat.mod_mod_of_dvd a (room_dvd hq)
theorem place_ne {q h i j : Nat} (hq : room (q : Int) = true) (hi : i < j) (hj : j < q + i) : (h + i) % 4294967296 % q ≠ (h + j) % 4294967296 % q := by
  rw [place_mod hq, place_mod hq]
  intro e
  have h0 := Nat.sub_mod_eq_zero_of_mod_eq e.symm
  rw [show h + j - (h + i) = j - i by omega, Nat.mod_eq_of_lt (by omega)] at h0
  omega
theorem tl_hd {x : Nat} (hx : x < 18446744073709551616) : tl x = (hd x + ln x) % 4294967296 := by
  have h1 := hd_lt hx
  have h2 := tl_lt x
  unfold ln; omega
/-- one more, behind the youngest: its number laid in its place, the tail moved on -/
theorem RingAt.push {w : World} {db g x q : Nat} {xs : List Int} (r : RingAt w db g x q xs) (z : Int) (hl : xs.length < q) (s : Nat) (hs : s = tl x % q) :
    RingAt ((w.setCell ⟨g, s, none⟩ (.int .i64 z)).setCell ⟨db, 0, none⟩ (.int .u64 (growW x 1))) db g (growW x 1) q (xs ++ [z]) := by
  have hb := room_bd r.rm
  have hsq : s < q := by rw [hs]; exact Nat.mod_lt _ (by omega)
  have ne : db ≠ g := r.ne
  have hs2 : s = (hd x + xs.length) % 4294967296 % q := by rw [hs, tl_hd r.hx, r.hl]
  obtain ⟨z0, hz0, -⟩ := r.all s hsq
  have far (a : Addr) (ha : a.block ≠ g) (v : Value) (hc : w.cell? a = some v) : (w.setCell ⟨g, s, none⟩ (.int .i64 z)).cell? a = some v := by
    rw [World.cell?_setCell_far _ _ _ _ (fun e => ha e.symm)]; exact hc
  have gcell (j : Nat) (v : Value) (hj : j ≠ s) (hc : w.cell? ⟨g, j, none⟩ = some v) : ((w.setCell ⟨g, s, none⟩ (.int .i64 z)).setCell ⟨db, 0, none⟩ (.int .u64 (growW x 1))).cell? ⟨g, j, none⟩ = some v := by
    rw [World.cell?_setCell_far _ _ _ _ ne, World.cell?_setCell_other _ _ _ _ (fun e => hj (by cases e; rfl))]; exact hc
  have gself : ((w.setCell ⟨g, s, none⟩ (.int .i64 z)).setCell ⟨db, 0, none⟩ (.int .u64 (growW x 1))).cell? ⟨g, s, none⟩ = some (.int .i64 z) := by
    rw [World.cell?_setCell_far _ _ _ _ ne]; exact World.cell?_setCell_same _ _ _ hz0
  have hln := r.hl
  refine ⟨World.cell?_setCell_same _ _ _ (far _ ne _ r.c0), ?_, ?_, ?_, fun j hj => ?_, fun j hj => ?_, grow_lt r.hx, ?_, r.rm, ?_, ne⟩
  · obtain ⟨cp, h, h2⟩ := r.c1
    exact ⟨cp, by rw [World.cell?_setCell_other _ _ _ _ (by simp)]; exact far _ ne _ h, h2⟩
  · rw [World.frozen?_setCell, World.frozen?_setCell]; exact r.f0
  · rw [World.frozen?_setCell, World.frozen?_setCell]; exact r.f1
  · rw [hd_grow]
    rcases Nat.lt_or_ge j xs.length with h1 | h1
    · rw [gcell _ _ (by rw [hs2]; exact place_ne r.rm h1 (by omega)) (r.cells j h1)]
      simp [List.getD, List.getElem?_append_left h1]
    · obtain rfl : j = xs.length := by rw [List.length_append] at hj; simp at hj; omega
      rw [← hs2, gself]
      simp [List.getD]
  · by_cases e : j = s
    · subst e
      exact ⟨z, gself, by rw [World.frozen?_setCell, World.frozen?_setCell]; obtain ⟨_, _, hf⟩ := r.all j hj; exact hf⟩
    · obtain ⟨z1, hz1, hf⟩ := r.all j hj
      exact ⟨z1, gcell j _ e hz1, by rw [World.frozen?_setCell, World.frozen?_setCell]; exact hf⟩
  · rw [ln_grow r.hx (by omega), List.length_append]; simp; omega
  · rw [List.length_append]; simp; omega
/-- n off its front: the head moved on -/
theorem RingAt.pop {w : World} {db g x q : Nat} {xs : List Int} (r : RingAt w db g x q xs) (n : Nat) (hn : n ≤ xs.length) : RingAt (w.setCell ⟨db, 0, none⟩ (.int .u64 (gainW x n))) db g (gainW x n) q (xs.drop n) := by
  have hb := room_bd r.rm
  have ne : db ≠ g := r.ne
  have gcell (j : Nat) : (w.setCell ⟨db, 0, none⟩ (.int .u64 (gainW x n))).cell? ⟨g, j, none⟩ = w.cell? ⟨g, j, none⟩ := World.cell?_setCell_far _ _ _ _ ne
  have hle := r.le
  have hln := r.hl
  refine ⟨World.cell?_setCell_same _ _ _ r.c0, ?_, ?_, ?_, fun j hj => ?_, fun j hj => ?_, gain_lt, ?_, r.rm, ?_, ne⟩
  · obtain ⟨cp, h, h2⟩ := r.c1
    exact ⟨cp, by rw [World.cell?_setCell_other _ _ _ _ (by simp)]; exact h, h2⟩
  · rw [World.frozen?_setCell]; exact r.f0
  · rw [World.frozen?_setCell]; exact r.f1
  · rw [List.length_drop] at hj
    have e : (hd (gainW x n) + j) % 4294967296 = (hd x + (n + j)) % 4294967296 := by rw [hd_gain]; omega
    rw [gcell, e, r.cells (n + j) (by omega)]
    simp [List.getD, List.getElem?_drop]
  · obtain ⟨z1, hz1, hf⟩ := r.all j hj
    exact ⟨z1, by rw [gcell]; exact hz1, by rw [World.frozen?_setCell]; exact hf⟩
  · rw [ln_gain r.hx (by omega), List.length_drop]; omega
  · rw [List.length_drop]; omega
/-- n off its back: the tail moved down -/
theorem RingAt.cut {w : World} {db g x q : Nat} {xs : List Int} (r : RingAt w db g x q xs) (n : Nat) (hn : n ≤ xs.length) : RingAt (w.setCell ⟨db, 0, none⟩ (.int .u64 (dropW x n))) db g (dropW x n) q (xs.take (xs.length - n)) := by
  have ne : db ≠ g := r.ne
  have gcell (j : Nat) : (w.setCell ⟨db, 0, none⟩ (.int .u64 (dropW x n))).cell? ⟨g, j, none⟩ = w.cell? ⟨g, j, none⟩ := World.cell?_setCell_far _ _ _ _ ne
  have hle := r.le
  have hln := r.hl
  have hl : (xs.take (xs.length - n)).length = xs.length - n := by rw [List.length_take]; omega
  refine ⟨World.cell?_setCell_same _ _ _ r.c0, ?_, ?_, ?_, fun j hj => ?_, fun j hj => ?_, drop_lt r.hx, ?_, r.rm, by omega, ne⟩
  · obtain ⟨cp, h, h2⟩ := r.c1
    exact ⟨cp, by rw [World.cell?_setCell_other _ _ _ _ (by simp)]; exact h, h2⟩
  · rw [World.frozen?_setCell]; exact r.f0
  · rw [World.frozen?_setCell]; exact r.f1
  · rw [hl] at hj
    rw [hd_drop, gcell, r.cells j (by omega)]
    simp [List.getD, List.getElem?_take, hj]
    rw [List.getElem?_eq_getElem (by omega)]; rfl
  · obtain ⟨z1, hz1, hf⟩ := r.all j hj
    exact ⟨z1, by rw [gcell]; exact hz1, by rw [World.frozen?_setCell]; exact hf⟩
  · rw [ln_drop r.hx (by omega), hl]; omega
end Go.Proofs.Ytjdbmedealhbjaa
