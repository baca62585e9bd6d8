/- The documents' SameMem (layer 6); the law's mems. -/
import Derived.Test.YtnakaifnalojeaaNm
namespace Go.Proofs.Ytnakaifnalojeaa
open Go.RowKit Go.Ce

theorem sc_one {W w : World} {P : Prop} {B c2 : Nat} {v : Value} {p : Option Addr} {zs : List Int} (h1 : w.ownsRow B 34 1 v zs.length (zs.map (Value.int .u64))) (f1 : ∃ g c, v = .slice (some ⟨g, 0, none⟩) zs.length c) (hl : Lies .u64 W p zs) (hn : zs.length ≤ 65536) (hs : P ∧ Below W.heap.size W w) (hB : W.heap.size ≤ B) :
    Calls Try.prog 40 #[v, .slice p zs.length c2] w (fun e w' => e = .returned (.bool true) ∧ Below W.heap.size W w') := by
  obtain ⟨g1, c1, rfl⟩ := f1
  obtain ⟨r1, hr1, _, _, hB1⟩ := own_row h1
  have l2 : LiesN (· = g1) .u64 w p zs := by
    refine ⟨hl.len, fun j hj => ?_⟩
    obtain ⟨b, o, hp, hc⟩ := hl.cells j hj
    have hlt : b < W.heap.size := block_lt_of_cell hc
    exact ⟨b, o, hp, by omega, by rw [hs.2.cell hlt]; exact hc⟩
  exact (samecells_any w hr1 l2 hn).mono fun e w' ⟨he, ht⟩ => ⟨he, hs.2.trans (ht.below hs.2.size (fun k hk => by omega))⟩
set_option maxRecDepth 20000 in
set_option maxHeartbeats 4000000 in
theorem samemem_any {b g : Nat} {m : PM} {p : Option Addr} {l c n : Nat} (w : World) (h : MemIs w b g m) (hr : RM w p l c m.cs) (hn : m.k.ops = n) : Calls Try.prog 39 #[.pointer (some ⟨b, 0, none⟩), .agg #[.slice p l c, .int .u64 n]] w (Ans (.bool true) w) := by
  have hb0 := (Below.refl w.heap.size w).alloc (Nat.le_refl _) (.cells #[.slice p l c, .int .u64 n] 76)
  have hr0 := Row.new w 76 [.slice p l c, .int .u64 n]
  have hP := h.on hb0
  have hR := hr.on hb0
  obtain ⟨W, hW⟩ : ∃ W, w.alloc (.cells #[.slice p l c, .int .u64 n] 76) = W := ⟨_, rfl⟩
  have hr0' : Row w.heap.size 76 [.slice p l c, .int .u64 n] W := by rw [← hW]; exact hr0
  rw [hW] at hP hb0 hR
  have hlen : m.cs.length = l := hr.len.symm
  have HP := Lib.hid hP
  have HM := Lib.hid hR
  have HR := Lib.hid hr0'
  have HB := Lib.hid hb0
  have HW := Lib.hid hW
  have HL := Lib.hid hlen
  have HO := Lib.hid hn
  clear h hb0 hr0 hP hr0' hW hr hR hlen hn
  have cLen : ∀ (P : Prop) (w1 : World), P ∧ Below W.heap.size W w1 → Calls Try.prog 10 #[.pointer (some ⟨b, 0, none⟩)] w1 (Ans (.int .i64 l) w1) := fun _ _ hs => by have := len_any (HP.out.on hs.2); rw [HL.out] at this; exact this
  have cOps : ∀ (P : Prop) (w1 : World), P ∧ Below W.heap.size W w1 → Calls Try.prog 29 #[.pointer (some ⟨b, 0, none⟩)] w1 (Ans (.int .u64 n) w1) := fun _ _ hs => by have := ops_any (HP.out.on hs.2); rw [HO.out] at this; exact this
  have cAll : ∀ (P : Prop) (w1 : World), P ∧ Below W.heap.size W w1 → Calls Try.prog 30 #[.pointer (some ⟨b, 0, none⟩)] w1 (OwnNums m.cs w1) := fun _ _ hs => all_any (HP.out.on hs.2)
  have cSame : ∀ (P : Prop) (w1 : World) (B : Nat) (v : Value), w1.ownsRow B 34 1 v m.cs.length (m.cs.map (Value.int .u64)) → (∃ g c, v = .slice (some ⟨g, 0, none⟩) m.cs.length c) → P ∧ Below W.heap.size W w1 → W.heap.size ≤ B → Calls Try.prog 40 #[v, .slice p l c] w1 (fun e w' => e = .returned (.bool true) ∧ Below W.heap.size W w') := fun _ _ _ _ h1 f1 hs hB => by
    have := sc_one (c2 := c) h1 f1 HM.out.lies HP.out.short hs hB
    rw [HL.out] at this; exact this
  have HC1 := Lib.hid cLen
  have HC2 := Lib.hid cOps
  have HC3 := Lib.hid cAll
  have HC4 := Lib.hid cSame
  clear cLen cOps cAll cSame
  go_enter Try.func39, Try.ntmps39
  go_wp2_with fail
  rw [HW.out]
  clear HW
  have hBs : Below W.heap.size W W.drew := (Below.refl _ _).drew
  go_region_held3 (fun w' => (w'.cell? ⟨w.heap.size, 0, none⟩ = some (.slice p l c) ∧ w'.cell? ⟨w.heap.size, 1, none⟩ = some (.int .u64 n)) ∧ Below W.heap.size W w')
    (exact b_cells (w' := W) HR.out (by assumption))
    (first
      | (go_at_call 10; refine (HC1.out _ _ (by assumption)).mono ?_; rintro e w3 ⟨rfl, hb3⟩; have hB3 : Below W.heap.size W w3 := b_trans (by assumption) hb3)
      | (go_at_call 29; refine (HC2.out _ _ (by assumption)).mono ?_; rintro e w3 ⟨rfl, hb3⟩; have hB3 : Below W.heap.size W w3 := b_trans (by assumption) hb3)
      | (go_at_call 30; refine (HC3.out _ _ (by assumption)).mono ?_; rintro e w3 ⟨v1, rfl, ho1, hf1, hb5⟩; have hB3 : Below W.heap.size W w3 := b_trans (by assumption) hb5; have hz1 := b_size (W := W) (by assumption) hb5)
      | (go_at_call 40; refine (HC4.out _ _ _ _ ho1 hf1 (by assumption) hz1).mono ?_; rintro e w3 ⟨rfl, hB3⟩))
  all_goals
    rename_i hh
    have HH := Lib.hid (HB.out.trans (hh.2.mono HB.out.size))
    clear hh
    go_wp2
    go_ret
    exact ⟨rfl, HH.out⟩
end Go.Proofs.Ytnakaifnalojeaa
