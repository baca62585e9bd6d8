/- A clock's block; the walks of Now, Full, Since, Due, Text, Add. -/
import Derived.Test.YtfigkoknhiabnaaDoorCq
import Derived.Test.YtfigkoknhiabnaaDoorTc
namespace Go.Proofs.YtfigkoknhiabnaaDoor
open Go.RowKit Go.Fm Go.Sm Go.Tx

/-- a clock's cells -/
def ckC (t : Int) (ls : List Int) (n : Nat) : List Value := .int .i64 t :: (ls.map (Value.int .i64) ++ [.int .i64 n])
theorem ckC_length {t : Int} {ls : List Int} {n : Nat} (h : ls.length = 64) : (ckC t ls n).length = 66 := by simp [ckC, h]
theorem ckC_at0 (t : Int) (ls : List Int) (n : Nat) : (ckC t ls n)[0]? = some (.int .i64 t) := rfl
theorem ckC_at65 {t : Int} {ls : List Int} {n : Nat} (h : ls.length = 64) : (ckC t ls n)[65]? = some (.int .i64 n) := by
  simp [ckC, h, List.getElem?_append]
theorem ckC_lap {t : Int} {ls : List Int} {n i : Nat} (h : ls.length = 64) (hi : i < 64) : (ckC t ls n)[1 + i]? = some (.int .i64 (ls.getD i 0)) := by
  rw [Nat.add_comm]
  show (ls.map (Value.int .i64) ++ [.int .i64 n])[i]? = _
  rw [List.getElem?_append_left (by simpa [h] using hi)]
  simp [List.getD, h, hi]
theorem ckC_set0 (t u : Int) (ls : List Int) (n : Nat) : (ckC t ls n).set 0 (.int .i64 u) = ckC u ls n := rfl
theorem ckC_set65 {t : Int} {ls : List Int} {n m : Nat} (h : ls.length = 64) : (ckC t ls n).set 65 (.int .i64 m) = ckC t ls m := by
  unfold ckC
  rw [List.set_cons_succ, List.set_append_right _ _ (by simp [h])]
  simp [h]
theorem ckC_setlap {t v : Int} {ls : List Int} {n i : Nat} (h : ls.length = 64) (hi : i < 64) : (ckC t ls n).set (1 + i) (.int .i64 v) = ckC t (ls.set i v) n := by
  unfold ckC
  rw [Nat.add_comm, List.set_cons_succ, List.set_append_left _ _ (by simpa [h] using hi), List.map_set]

/-- block g is a clock at t, with these laps -/
structure Clk (g : Nat) (t : Int) (laps : List Int) (w : World) : Prop where
  lo : 0 ≤ t
  hi : t ≤ 4611686018427387904
  row : ∃ rest, (laps ++ rest).length = 64 ∧ Row g 29 (ckC t (laps ++ rest) laps.length) w
theorem Clk.le {g : Nat} {t : Int} {laps : List Int} {w : World} (h : Clk g t laps w) : laps.length ≤ 64 := by
  obtain ⟨rest, hl, _⟩ := h.row; rw [List.length_append] at hl; omega
theorem Clk.lt {g : Nat} {t : Int} {laps : List Int} {w : World} (h : Clk g t laps w) : g < w.heap.size := by
  obtain ⟨rest, _, hr⟩ := h.row; exact hr.lt
theorem Clk.c0 {g : Nat} {t : Int} {laps : List Int} {w : World} (h : Clk g t laps w) : w.cell? ⟨g, 0, none⟩ = some (.int .i64 t) := by
  obtain ⟨rest, _, hr⟩ := h.row; rw [hr.cell]; rfl
theorem Clk.f0 {g : Nat} {t : Int} {laps : List Int} {w : World} (h : Clk g t laps w) (i : Nat) : w.frozen? ⟨g, i, none⟩ = false := by
  obtain ⟨rest, _, hr⟩ := h.row; exact hr.frozen i
theorem Clk.c65 {g : Nat} {t : Int} {laps : List Int} {w : World} (h : Clk g t laps w) : w.cell? ⟨g, 65, none⟩ = some (.int .i64 laps.length) := by
  obtain ⟨rest, hl, hr⟩ := h.row; rw [hr.cell]; exact ckC_at65 hl
theorem Clk.on {B g : Nat} {t : Int} {laps : List Int} {w w' : World} (h : Clk g t laps w) (hb : Below B w w') (hg : g < B) : Clk g t laps w' := by
  obtain ⟨rest, hl, hr⟩ := h.row; exact ⟨h.lo, h.hi, rest, hl, hr.on hb hg⟩
theorem Clk.on' {g : Nat} {t : Int} {laps : List Int} {w w' : World} (h : Clk g t laps w) (hb : Below w.heap.size w w') : Clk g t laps w' := h.on hb h.lt
theorem Clk.tch {S : Nat → Prop} {g : Nat} {t : Int} {laps : List Int} {w w' : World} (h : Clk g t laps w) (ht : Tch S w w') (hs : ¬ S g) : Clk g t laps w' := by
  obtain ⟨rest, hl, hr⟩ := h.row; exact ⟨h.lo, h.hi, rest, hl, hr.tch ht hs⟩
theorem Clk.far {g : Nat} {t : Int} {laps : List Int} {w : World} (h : Clk g t laps w) {p : Addr} (hp : g ≠ p.block) (v : Value) : Clk g t laps (w.setCell p v) := by
  obtain ⟨rest, hl, hr⟩ := h.row; exact ⟨h.lo, h.hi, rest, hl, hr.far hp v⟩
/-- a new one -/
theorem Clk.new (w : World) (g : Nat) (hg : g = w.heap.size) : Clk g 0 [] (w.alloc (.cells (ckC 0 (List.replicate 64 0) 0).toArray 29)) :=
  ⟨by decide, by decide, List.replicate 64 0, by simp, .new' w _ _ g hg⟩

theorem now_any {g : Nat} {t : Int} {laps : List Int} (w : World) (h : Clk g t laps w) : Calls Tryd.prog 12 #[.pointer (some ⟨g, 0, none⟩)] w fun e w' => e = .returned (.int .i64 t) ∧ w = w' := by
  have c0 := h.c0
  clear h
  go_enter Tryd.func12, Tryd.ntmps12
  go_wp2
  go_ret
  exact ⟨rfl, rfl⟩
theorem now_nil (w : World) : Calls Tryd.prog 12 #[.pointer none] w fun e w' => e = .returned (.int .i64 0) ∧ w = w' := by
  go_enter Tryd.func12, Tryd.ntmps12
  go_wp2
  go_ret
  exact ⟨rfl, rfl⟩
theorem full_any {g : Nat} {t : Int} {laps : List Int} (w : World) (h : Clk g t laps w) : Calls Tryd.prog 16 #[.pointer (some ⟨g, 0, none⟩)] w fun e w' => e = .returned (.bool (decide (t = 4611686018427387904))) ∧ w = w' := by
  go_enter Tryd.func16, Tryd.ntmps16
  go_wp2_with fail
  refine (now_any _ h).mono ?_
  rintro e w' ⟨rfl, rfl⟩
  go_wp2
  go_ret
  exact ⟨by congr 2, rfl⟩
theorem full_nil (w : World) : Calls Tryd.prog 16 #[.pointer none] w fun e w' => e = .returned (.bool false) ∧ w = w' := by
  go_enter Tryd.func16, Tryd.ntmps16
  go_wp2_with fail
  refine (now_nil _).mono ?_
  rintro e w' ⟨rfl, rfl⟩
  go_wp2
  go_ret
  exact ⟨rfl, rfl⟩
theorem since_max {t n : Int} (h1 : 0 ≤ t) : max 0 (t - max 0 n) = since t n := by
  unfold since; simp only []; (repeat' split) <;> omega
theorem since_any {g : Nat} {t n : Int} {laps : List Int} (w : World) (hn : n ≤ 9223372036854775807) (h : Clk g t laps w) : Calls Tryd.prog 20 #[.pointer (some ⟨g, 0, none⟩), .int .i64 n] w fun e w' => e = .returned (.int .i64 (since t n)) ∧ w = w' := by
  have h1 := h.lo
  have h2 := h.hi
  obtain ⟨m, hm⟩ : ∃ m, max 0 n = m := ⟨_, rfl⟩
  have hm0 : 0 ≤ m := by omega
  have hm1 : m ≤ 9223372036854775807 := by omega
  have e := since_max (n := n) h1
  rw [hm] at e
  have E := Lib.hid e
  clear e
  go_enter Tryd.func20, Tryd.ntmps20
  go_wp2_with fail
  refine (now_any _ h).mono ?_
  rintro e w' ⟨rfl, rfl⟩
  go_wp2
  go_ret
  exact ⟨by rw [← E.out]; rfl, rfl⟩
theorem since_nil (n : Int) (w : World) (hn : n ≤ 9223372036854775807) : Calls Tryd.prog 20 #[.pointer none, .int .i64 n] w fun e w' => e = .returned (.int .i64 0) ∧ w = w' := by
  obtain ⟨m, hm⟩ : ∃ m, max 0 n = m := ⟨_, rfl⟩
  have hm0 : 0 ≤ m := by omega
  have hm1 : m ≤ 9223372036854775807 := by omega
  have e : max 0 (-m) = 0 := by omega
  have E := Lib.hid e
  clear e
  go_enter Tryd.func20, Tryd.ntmps20
  go_wp2_with fail
  refine (now_nil _).mono ?_
  rintro e w' ⟨rfl, rfl⟩
  go_wp2
  go_ret
  exact ⟨by have := E.out; simp_all, rfl⟩
theorem due_any {g : Nat} {t n d : Int} {laps : List Int} (w : World) (hn : n ≤ 9223372036854775807) (h : Clk g t laps w) : Calls Tryd.prog 15 #[.pointer (some ⟨g, 0, none⟩), .int .i64 n, .int .i64 d] w fun e w' => e = .returned (.bool (decide (d ≤ since t n))) ∧ w = w' := by
  obtain ⟨s, hs⟩ : ∃ s, since t n = s := ⟨_, rfl⟩
  have c := since_any (n := n) w hn h
  rw [hs] at c ⊢
  clear hs
  go_enter Tryd.func15, Tryd.ntmps15
  go_wp2_with fail
  refine c.mono ?_
  rintro e w' ⟨rfl, rfl⟩
  go_wp2
  go_ret
  exact ⟨by simp, rfl⟩
theorem due_nil (n d : Int) (w : World) : Calls Tryd.prog 15 #[.pointer none, .int .i64 n, .int .i64 d] w fun e w' => e = .returned (.bool false) ∧ w = w' := by
  go_enter Tryd.func15, Tryd.ntmps15
  go_wp2
  go_ret
  exact ⟨rfl, rfl⟩
theorem ctext_any {B g : Nat} {t : Int} {laps : List Int} (w : World) (henv : Env B w) (h : Clk g t laps w) : Calls Tryd.prog 21 #[.pointer (some ⟨g, 0, none⟩)] w (Tells (· = tx t) w) := by
  have c0 := h.c0
  clear h
  go_enter Tryd.func21, Tryd.ntmps21
  go_wp2_with fail
  refine (text_any t _ henv).mono ?_
  rintro e w' ⟨l, rfl, rfl, hb⟩
  go_wp2
  go_ret
  exact ⟨_, rfl, rfl, hb⟩
theorem ctext_nil (w : World) : Calls Tryd.prog 21 #[.pointer none] w fun e w' => e = .returned (.string ⟨#[]⟩) ∧ w = w' := by
  go_enter Tryd.func21, Tryd.ntmps21
  go_wp2
  go_ret
  exact ⟨rfl, rfl⟩
end Go.Proofs.YtfigkoknhiabnaaDoor
