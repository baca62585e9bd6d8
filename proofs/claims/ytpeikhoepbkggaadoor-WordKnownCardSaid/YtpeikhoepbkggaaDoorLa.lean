/- The walk of the law WordDoes. -/
import Derived.Test.YtpeikhoepbkggaaDoorWw
namespace Go.Proofs.YtpeikhoepbkggaaDoor
open Go.RowKit Go.Wd Go.Tx

theorem held_env {b : Nat} {A : Prop} {W w : World} (h : Env W.heap.size W) (hs : A ∧ b < w.heap.size ∧ Below W.heap.size W w) : Env W.heap.size w := h.on hs.2.2
theorem held_lies {b : Nat} {A : Prop} {k : IntKind} {p : Option Addr} {zs : List Int} {W w : World} (h : LiesB W.heap.size k W p zs) (hs : A ∧ b < w.heap.size ∧ Below W.heap.size W w) : Lies k w p zs := (h.on hs.2.2).lies
theorem do_nil {x : Nat} {q : Int} : doW x q [] = x := by unfold doW; split <;> rfl
theorem lies_nil (k : IntKind) (w : World) : Lies k w none [] := ⟨by simp, fun j hj => by simp at hj⟩
theorem does_long {B : Nat} (x q : Int) (p : Option Addr) (len cap : Nat) (hl : 100 < len) (hm : len ≤ 9223372036854775807) (w : World) (h : Env B w) :
    Calls Tryd.prog 4 #[.int .u64 x, .int .i64 q, .slice p len cap] w (Ans (.bool true) w) := by
  go_enter Tryd.func4, Tryd.ntmps4
  go_wp2_with (go_at_call 26; refine (works_any _ h).mono ?_; rintro e w1 ⟨rfl, hb1⟩)
  go_ret
  exact ⟨rfl, hb1⟩

theorem rdo_is {x y : Nat} {q : Int} {zs : List Int} (hy : doW x q zs = y) (hx : x < 18446744073709551616) (p : Option Addr) (cap : Nat) (w : World) (hl : Lies .i64 w p zs) :
    Calls Tryd.prog 30 #[.agg #[.int .u32 (hd x : Nat), .int .u32 (tl x : Nat)], .int .i64 q, .slice p zs.length cap] w (Ans (.agg #[.int .u32 (hd y : Nat), .int .u32 (tl y : Nat)]) w) := by
  subst hy; exact rdo_any x hx q p cap zs w hl
theorem do_same {x y : Nat} {q : Int} {zs : List Int} (hy : doW x q zs = y) (hx : x < 18446744073709551616) (p : Option Addr) (cap : Nat) (w : World) (hl : Lies .i64 w p zs) :
    Calls Tryd.prog 31 #[.int .u64 x, .int .i64 q, .slice p zs.length cap] w (Ans (.int .u64 y) w) := do_is hy hx rfl p cap w hl
theorem do_none {x : Nat} {q : Int} (hx : x < 18446744073709551616) (w : World) :
    Calls Tryd.prog 31 #[.int .u64 x, .int .i64 q, .slice none 0 0] w (Ans (.int .u64 x) w) := do_is do_nil hx rfl none 0 w (lies_nil _ _)

set_option maxRecDepth 100000 in
set_option maxHeartbeats 2000000 in
theorem does_short (x y : Nat) (q : Int) (p : Option Addr) (cap : Nat) (zs : List Int) (hx : x < 18446744073709551616) (hy : y < 18446744073709551616) (hd1 : doW x q zs = y) (hl : zs.length ≤ 100) (w : World) (h : Env w.heap.size w) (hL : Lies .i64 w p zs) :
    Calls Tryd.prog 4 #[.int .u64 x, .int .i64 q, .slice p zs.length cap] w (Ans (.bool true) w) := by
  have HL := Lib.hid hL.at
  have HE := Lib.hid h
  have HD := Lib.hid hd1
  clear h hL hd1
  go_enter Tryd.func4, Tryd.ntmps4
  go_wp2_with fail
  refine (rof_any x hx _).mono ?_
  rintro e w1 ⟨rfl, hb1⟩
  go_wp2_with fail
  refine (rdo_is HD.out hx p cap _ (HL.out.on hb1).lies).mono ?_
  rintro e w2 ⟨rfl, hb2⟩
  have hb12 := Bel.trans hb1 hb2
  have HS := Lib.hid (box_on (box_new y w2 24) hb12)
  clear hb1 hb2 hb12
  go_wp2_with fail
  go_region_held3 (fun w' => (w'.cell? ⟨w2.heap.size, 0, none⟩ = some (.int .u32 (hd y : Nat)) ∧ w'.cell? ⟨w2.heap.size, 1, none⟩ = some (.int .u32 (tl y : Nat))) ∧ w2.heap.size < w'.heap.size ∧ Below w.heap.size w w') (first | exact box_drew HS.out.1 HS.out.2 | exact box_keep (by assumption) HS.out.2 (by assumption))
    (first
      | (go_at_call 31; first | ((with_reducible refine (do_same HD.out hx p cap _ (held_lies HL.out (by assumption))).mono ?_); rintro e w3 ⟨rfl, hb3⟩) | ((with_reducible refine (do_none hx _).mono ?_); rintro e w3 ⟨rfl, hb3⟩))
      | (go_at_call 10; refine (rof_any y hy _).mono ?_; rintro e w3 ⟨rfl, hb3⟩)
      | (go_at_call 26; refine (works_any _ (held_env HE.out (by assumption))).mono ?_; rintro e w3 ⟨rfl, hb3⟩))
  rename_i hh
  have hb := hh.2.2
  clear hh
  go_wp2
  go_ret
  exact ⟨rfl, hb⟩

theorem law_does (x : Nat) (q : Int) (p : Option Addr) (cap : Nat) (zs : List Int) (hx : x < 18446744073709551616) (hm : zs.length ≤ 9223372036854775807) (w : World) (h : Env w.heap.size w)
    (hL : ∀ j, j < zs.length → ∃ b o, p = some ⟨b, o, none⟩ ∧ w.cell? ⟨b, o + j, none⟩ = some (.int .i64 (zs.getD j 0))) :
    Calls Tryd.prog 4 #[.int .u64 x, .int .i64 q, .slice p zs.length cap] w (Ans (.bool true) w) := by
  by_cases hl : 100 < zs.length
  · exact does_long x q p zs.length cap hl hm w h
  · exact does_short x _ q p cap zs hx (do_lt hx) rfl (by omega) w h ⟨by omega, hL⟩
end Go.Proofs.YtpeikhoepbkggaaDoor
