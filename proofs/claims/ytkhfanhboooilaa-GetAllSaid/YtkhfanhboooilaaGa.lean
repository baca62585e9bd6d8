/- A get as it lies; Done, Got, Tries, Hands (layer 10's code). -/
import Derived.Test.YtkhfanhboooilaaBa
import Derived.Test.YtkhfanhboooilaaBb
import Derived.Test.YtkhfanhboooilaaBc
import Derived.Test.YtkhfanhboooilaaBd
import Derived.WalkSpells
import Derived.WalkLawsBesides
import Derived.BigQuiet
import Derived.Deep.QuietTactic
import Derived.Deep.RegionHeld3
set_option linter.unusedSimpArgs false
set_option linter.unusedVariables false
namespace Go.Proofs.Ytkhfanhboooilaa
open Go.RowKit Go.Cg Go.Pu Go.Wd Go.Ce

abbrev gptr (b : Nat) : Value := .pointer (some ⟨b, 0, none⟩)
/-- the cells of a get: the config, the P, where it is, the word that it saw, what it copied, whether it has it, how often its CAS failed -/
def gtC (c : Cfg) (p a : Int) (s : Nat) (k : Int) (h : Bool) (t : Int) : List Value :=
  [.int .i64 c.n, .int .i64 c.q, .int .i64 c.g, .int .i64 c.m, .int .i64 c.t, .int .i64 c.s, .int .i64 p, .int .i64 a, .int .u64 s, .int .i64 k, .bool h, .int .i64 t]
/-- six cells, and three, as facts -/
abbrev GtC (b : Nat) (n q g m tt ss p : Int) (s : Nat) (w : World) : Prop :=
  w.cell? ⟨b, 0, none⟩ = some (.int .i64 n) ∧ w.cell? ⟨b, 1, none⟩ = some (.int .i64 q) ∧ w.cell? ⟨b, 2, none⟩ = some (.int .i64 g) ∧ w.cell? ⟨b, 3, none⟩ = some (.int .i64 m) ∧ w.cell? ⟨b, 4, none⟩ = some (.int .i64 tt) ∧ w.cell? ⟨b, 5, none⟩ = some (.int .i64 ss) ∧ w.cell? ⟨b, 6, none⟩ = some (.int .i64 p) ∧ w.cell? ⟨b, 8, none⟩ = some (.int .u64 s)
section
variable {c : Cfg} {p a : Int} {s : Nat} {k t : Int} {hh : Bool} {w w' : World} {b mb mg : Nat} {m : PM}
theorem gt_cells (h : Row b 92 (gtC c p a s k hh t) w) : GtC b c.n c.q c.g c.m c.t c.s p s w :=
  ⟨h.cell 0, h.cell 1, h.cell 2, h.cell 3, h.cell 4, h.cell 5, h.cell 6, h.cell 8⟩
theorem gt_last (h : Row b 92 (gtC c p a s k hh t) w) : w.cell? ⟨b, 7, none⟩ = some (.int .i64 a) ∧ w.cell? ⟨b, 9, none⟩ = some (.int .i64 k) ∧ w.cell? ⟨b, 10, none⟩ = some (.bool hh) ∧ w.cell? ⟨b, 11, none⟩ = some (.int .i64 t) := ⟨h.cell 7, h.cell 9, h.cell 10, h.cell 11⟩
theorem gt_keep (h : Row b 92 (gtC c p a s k hh t) w) : ∀ w1, Below w.heap.size w w1 → GtC b c.n c.q c.g c.m c.t c.s p s w1 := fun w1 hb => gt_cells (h.on' hb)
theorem gt_at (h : Row b 92 (gtC c p a s k hh t) w) (a' : Int) : Row b 92 (gtC c p a' s k hh t) (w.setCell ⟨b, 7, none⟩ (.int .i64 a')) := h.set 7 _
theorem gt_seen (h : Row b 92 (gtC c p a s k hh t) w) (s' : Nat) : Row b 92 (gtC c p a s' k hh t) (w.setCell ⟨b, 8, none⟩ (.int .u64 s')) := h.set 8 _
theorem gt_copied (h : Row b 92 (gtC c p a s k hh t) w) (k' : Int) : Row b 92 (gtC c p a s k' hh t) (w.setCell ⟨b, 9, none⟩ (.int .i64 k')) := h.set 9 _
theorem gt_has (h : Row b 92 (gtC c p a s k hh t) w) (h' : Bool) : Row b 92 (gtC c p a s k h' t) (w.setCell ⟨b, 10, none⟩ (.bool h')) := h.set 10 _
theorem gt_tries (h : Row b 92 (gtC c p a s k hh t) w) (t' : Int) : Row b 92 (gtC c p a s k hh t') (w.setCell ⟨b, 11, none⟩ (.int .i64 t')) := h.set 11 _

theorem gdone_row (h : Row b 92 (gtC c p a s k hh t) w) : Calls Try.prog 49 #[gptr b] w (fun e w' => e = .returned (.bool (decide (a = 0))) ∧ w' = w) := by
  have c7 : w.cell? ⟨b, 7, none⟩ = some (.int .i64 a) := h.cell 7
  obtain ⟨z, hz⟩ : ∃ z, decide (a = 0) = z := ⟨_, rfl⟩
  rw [hz]
  have HZ := Lib.hid hz
  clear h hz
  go_enter Try.func49, Try.ntmps49
  go_wp2
  go_ret
  first | exact ⟨rfl, rfl⟩ | exact ⟨by rw [← HZ.out]; rfl, rfl⟩
theorem gdone_nil (w : World) : Calls Try.prog 49 #[.pointer none] w (fun e w' => e = .returned (.bool true) ∧ w' = w) := by
  go_enter Try.func49, Try.ntmps49
  go_wp2_with fail
  go_ret
  exact ⟨rfl, rfl⟩
def gotV (k : Int) (h : Bool) : Value := .tuple #[.int .i64 (if h = true then k else 0), .bool h]
theorem ggot_row (h : Row b 92 (gtC c p a s k hh t) w) : Calls Try.prog 51 #[gptr b] w (fun e w' => e = .returned (gotV k hh) ∧ w' = w) := by
  have c9 : w.cell? ⟨b, 9, none⟩ = some (.int .i64 k) := h.cell 9
  have c10 : w.cell? ⟨b, 10, none⟩ = some (.bool hh) := h.cell 10
  clear h
  cases hh with
  | true =>
    go_enter Try.func51, Try.ntmps51
    go_wp2_with fail
    refine bodyPost_ret (v := .tuple #[.int .i64 k, .bool true]) (by simp [results, Try.results51, go_sem]) rfl ?_
    exact ⟨rfl, rfl⟩
  | false =>
    go_enter Try.func51, Try.ntmps51
    go_wp2_with fail
    refine bodyPost_ret (v := .tuple #[.int .i64 0, .bool false]) (by simp [results, Try.results51, go_sem]) rfl ?_
    exact ⟨rfl, rfl⟩
theorem ggot_nil (w : World) : Calls Try.prog 51 #[.pointer none] w (fun e w' => e = .returned (gotV 0 false) ∧ w' = w) := by
  go_enter Try.func51, Try.ntmps51
  go_wp2_with fail
  refine bodyPost_ret (v := .tuple #[.int .i64 0, .bool false]) (by simp [results, Try.results51, go_sem]) rfl ?_
  exact ⟨rfl, rfl⟩
theorem gtries_row (h : Row b 92 (gtC c p a s k hh t) w) : Calls Try.prog 52 #[gptr b] w (fun e w' => e = .returned (.int .i64 t) ∧ w' = w) := by
  have c11 : w.cell? ⟨b, 11, none⟩ = some (.int .i64 t) := h.cell 11
  clear h
  go_enter Try.func52, Try.ntmps52
  go_wp2_with fail
  go_ret
  exact ⟨rfl, rfl⟩
theorem gtries_nil (w : World) : Calls Try.prog 52 #[.pointer none] w (fun e w' => e = .returned (.int .i64 0) ∧ w' = w) := by
  go_enter Try.func52, Try.ntmps52
  go_wp2_with fail
  go_ret
  exact ⟨rfl, rfl⟩
theorem gnew_one (g : Int) (w : World) : NewRow w.heap.size (w.alloc (.cells #[.int .i64 g] 3)) (.slice (some ⟨w.heap.size, 0, none⟩) 1 1) [g] ∧ Below w.heap.size w (w.alloc (.cells #[.int .i64 g] 3)) := by
  refine ⟨⟨rfl, .inr ⟨_, 1, #[.int .i64 g], rfl, Nat.le_refl _, heap_alloc_new _ _, Nat.le_refl _, by unfold maxLen; omega, rfl, rfl⟩⟩, (Below.refl _ _).alloc (Nat.le_refl _) _⟩
theorem ghands_row (h : Row b 92 (gtC c p a s k hh t) w) : Calls Try.prog 54 #[gptr b] w (RowPost8 (if hh = true then [k] else []) w) := by
  have HG := Lib.hid (ggot_row h)
  have HN := Lib.hid (gnew_one k w)
  clear h
  cases hh with
  | true =>
    change Hid (Calls Try.prog 51 #[gptr b] w (fun e w' => e = .returned (.tuple #[.int .i64 k, .bool true]) ∧ w' = w)) at HG
    go_enter Try.func54, Try.ntmps54
    go_wp2_with (go_at_call 51; (with_reducible refine HG.out.mono ?_); rintro e w3 ⟨rfl, rfl⟩)
    go_ret
    exact ⟨_, 1, 1, rfl, rfl, HN.out.1, HN.out.2⟩
  | false =>
    change Hid (Calls Try.prog 51 #[gptr b] w (fun e w' => e = .returned (.tuple #[.int .i64 0, .bool false]) ∧ w' = w)) at HG
    go_enter Try.func54, Try.ntmps54
    go_wp2_with (go_at_call 51; (with_reducible refine HG.out.mono ?_); rintro e w3 ⟨rfl, rfl⟩)
    go_ret
    exact ⟨none, 0, 0, rfl, rfl, NewRow.nil _ _, Below.refl _ _⟩
theorem ghands_nil (w : World) : Calls Try.prog 54 #[.pointer none] w (RowPost8 [] w) := by
  have HG : Hid (∀ w, Calls Try.prog 51 #[.pointer none] w (fun e w' => e = .returned (.tuple #[.int .i64 0, .bool false]) ∧ w' = w)) := fun w => ggot_nil w
  go_enter Try.func54, Try.ntmps54
  go_wp2_with (go_at_call 51; (with_reducible refine (HG.out _).mono ?_); rintro e w3 ⟨rfl, rfl⟩)
  go_ret
  exact ⟨none, 0, 0, rfl, rfl, NewRow.nil _ _, Below.refl _ _⟩
theorem wgain_any (x n : Nat) (hx : x < 18446744073709551616) (hn : n < 4294967296) (w : World) :
    Calls Try.prog 121 #[.int .u64 x, .int .u32 n] w fun e w' => e = .returned (.int .u64 (gainW x n : Nat)) ∧ w = w' := by
  have h1 := hd_lt hx
  have h2 := tl_lt x
  go_enter Try.func121, Try.ntmps121
  go_wp2_with (first
    | (go_at_call 119; refine (whead_any _ hx _).mono ?_; rintro e w' ⟨rfl, rfl⟩)
    | (go_at_call 114; refine (wtail_any _ hx _).mono ?_; rintro e w' ⟨rfl, rfl⟩)
    | (go_at_call 124; refine (wpack_at _ _ ((hd x + n) % 4294967296) (tl x) (wadd32 _ _) rfl (Nat.mod_lt _ (by decide)) h2 _).mono ?_; rintro e w' ⟨rfl, rfl⟩))
  go_ret
  exact ⟨rfl, rfl⟩
end
end Go.Proofs.Ytkhfanhboooilaa
