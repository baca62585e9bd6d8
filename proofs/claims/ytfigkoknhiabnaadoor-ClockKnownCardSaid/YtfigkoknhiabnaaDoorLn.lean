/- The law ClockNone. -/
import Derived.Test.YtfigkoknhiabnaaDoorKh
namespace Go.Proofs.YtfigkoknhiabnaaDoor
open Go.RowKit Go.Fm Go.Sm Go.Tx

set_option maxHeartbeats 4000000 in
theorem law_none {B : Nat} (n t d : Int) (f : Nat) (ht : t ≤ 9223372036854775807) (w : World) (henv : Env B w) : Calls Tryd.prog 5 #[.int .i64 n, .int .i64 t, .int .i64 d, .float .f64 f] w (Ans (.bool true) w) := by
  have HE := Lib.hid henv
  clear henv
  go_enter Tryd.func5, Tryd.ntmps5
  go_wp2_with fail
  refine (millis_nil _ _ _ _).mono ?_
  rintro e w' ⟨rfl, rfl⟩
  have hb := (Below.refl w.heap.size w).alloc (Nat.le_refl _) (.cells #[.float .f64 f] 52)
  obtain ⟨W, hW⟩ : ∃ W, w.alloc (.cells #[.float .f64 f] 52) = W := ⟨_, rfl⟩
  rw [hW] at hb ⊢
  have HB := Lib.hid hb
  clear hb hW
  go_wp2_with fail
  refine (now_nil _).mono ?_
  rintro e w' ⟨rfl, rfl⟩
  go_wp2_with fail
  refine (add_nil _ _).mono ?_
  rintro e w' ⟨rfl, rfl⟩
  go_wp2_with fail
  refine (since_nil _ _ ht).mono ?_
  rintro e w' ⟨rfl, rfl⟩
  go_wp2_with fail
  refine (due_nil _ _ _).mono ?_
  rintro e w' ⟨rfl, rfl⟩
  go_wp2_with fail
  refine (full_nil _).mono ?_
  rintro e w' ⟨rfl, rfl⟩
  go_wp2_with fail
  refine (mark_nil _).mono ?_
  rintro e w' ⟨rfl, rfl⟩
  go_wp2_with fail
  refine (laps_nil _).mono ?_
  rintro e w' ⟨rfl, rfl⟩
  go_wp2_with fail
  refine (ctext_nil _).mono ?_
  rintro e w' ⟨rfl, rfl⟩
  go_wp2_with fail
  refine (copy_nil _).mono ?_
  rintro e w' ⟨rfl, rfl⟩
  go_wp2_with fail
  refine (works_any _ (HE.out.on' HB.out)).mono ?_
  rintro e w2 ⟨rfl, hb2⟩
  go_wp2
  go_ret
  exact ⟨rfl, HB.out.trans (hb2.mono HB.out.size)⟩
end Go.Proofs.YtfigkoknhiabnaaDoor
