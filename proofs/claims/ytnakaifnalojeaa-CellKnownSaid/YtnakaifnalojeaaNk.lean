/- The documents' SameBook (layer 6): a memory is that of all accesses. -/
import Derived.Test.YtnakaifnalojeaaNj
namespace Go.Proofs.Ytnakaifnalojeaa
open Go.RowKit Go.Ce

theorem b_size {W w w' : World} {P : Prop} (h : P ∧ Below W.heap.size W w) (hb : Below w.heap.size w w') : W.heap.size ≤ w.heap.size := h.2.size
section
variable {W w : World} {b g : Nat} {m : PM} {N : Nat} {p : Option Addr} {l c : Nat} {xs : List Acc}
theorem len_pair (h : Pair w b g m N p l c xs) : Calls Try.prog 10 #[.pointer (some ⟨b, 0, none⟩)] w (Ans (.int .i64 N) w) := by
  have := len_any h.mem; rw [h.tie.len] at this; exact this
theorem ops_pair (h : Pair w b g m N p l c xs) : Calls Try.prog 29 #[.pointer (some ⟨b, 0, none⟩)] w (Ans (.int .u64 l) w) := by
  have := ops_any h.mem; rw [h.tie.ops, ← h.bk.len] at this; exact this
theorem all_pair (h : Pair w b g m N p l c xs) : Calls Try.prog 30 #[.pointer (some ⟨b, 0, none⟩)] w (OwnNums (allV N xs) w) := by
  have := all_any h.mem; rw [h.tie.all] at this; exact this
theorem rall_pair (h : Pair w b g m N p l c xs) : Calls Try.prog 41 #[.agg #[.int .i64 N, .slice p l c]] w (OwnNums (allV N xs) w) :=
  rall_any p l c xs w h.bk h.tie.inn (by rw [← h.tie.len]; exact h.mem.short)
theorem log_pair (h : Pair w b g m N p l c xs) : Calls Try.prog 24 #[.pointer (some ⟨b, 0, none⟩)] w (OwnAccs (xs.drop (xs.length - 256)) w) := by
  have := clog_any h.mem; rw [logP_tied h.tie] at this; exact this
theorem rlog_pair (h : Pair w b g m N p l c xs) : Calls Try.prog 43 #[.agg #[.int .i64 N, .slice p l c]] w (LogPost p xs w) := log_any N p l c xs w h.bk
end
theorem book_below {W : World} {p q : Option Addr} {l c : Nat} {xs : List Acc} (h : BookIs W p l c xs) (hq : ∀ x o, q = some ⟨x, o, none⟩ → ∃ o', p = some ⟨x, o', none⟩) : ∀ b o, q = some ⟨b, o, none⟩ → 0 < (xs.drop (xs.length - 256)).length → b < W.heap.size := by
  intro b o e hlen
  obtain ⟨o', e'⟩ := hq b o e
  rw [List.length_drop] at hlen
  obtain ⟨b2, o2, e2, hc⟩ := h.lies.cells 0 (by omega)
  rw [e'] at e2
  cases e2
  exact block_lt_of_cell (v := .int .i64 (xs.getD 0 default).k) (hc 0 (by decide))
/-- SameLog, of a log of one's own and the reference's: in whichever order they were made -/
theorem sl_a {W wa w : World} {P : Prop} {B : Nat} {v : Value} {p q : Option Addr} {l c lq cq : Nat} {xs : List Acc} (hk : BookIs W p l c xs) (h1 : wa.ownsRow B 38 4 v (xs.drop (xs.length - 256)).length ((xs.drop (xs.length - 256)).flatMap accC)) (hb : Below wa.heap.size wa w) (h2 : BookIs w q lq cq (xs.drop (xs.length - 256))) (hq : ∀ x o, q = some ⟨x, o, none⟩ → ∃ o', p = some ⟨x, o', none⟩) (hs : P ∧ Below W.heap.size W w) (hB : W.heap.size ≤ B) :
    Calls Try.prog 42 #[v, .slice q lq cq] w (fun e w' => e = .returned (.bool true) ∧ Below W.heap.size W w') := by
  have h1' : w.ownsRow B 38 4 v (xs.drop (xs.length - 256)).length ((xs.drop (xs.length - 256)).flatMap accC) := by
    refine ⟨h1.1, ?_⟩
    rcases h1.2 with h2 | ⟨g, cap, cur, hv, hB, hg, r⟩
    · exact .inl h2
    · exact .inr ⟨g, cap, cur, hv, hB, Below.obj hb hg (lt_of_block hg), r⟩
  have hlen : (xs.drop (xs.length - 256)).length ≤ 1000000 := by rw [List.length_drop]; omega
  rw [h2.len]
  exact sl_any h1' h2.lies (book_below hk hq) hlen hs hB
theorem sl_b {W wa w : World} {P : Prop} {B : Nat} {v : Value} {p q : Option Addr} {l c lq cq : Nat} {xs : List Acc} (hk : BookIs W p l c xs) (h1 : w.ownsRow B 38 4 v (xs.drop (xs.length - 256)).length ((xs.drop (xs.length - 256)).flatMap accC)) (hb : Below wa.heap.size wa w) (h2 : BookIs wa q lq cq (xs.drop (xs.length - 256))) (hq : ∀ x o, q = some ⟨x, o, none⟩ → ∃ o', p = some ⟨x, o', none⟩) (hs : P ∧ Below W.heap.size W w) (hB : W.heap.size ≤ B) :
    Calls Try.prog 42 #[v, .slice q lq cq] w (fun e w' => e = .returned (.bool true) ∧ Below W.heap.size W w') := by
  have hlen : (xs.drop (xs.length - 256)).length ≤ 1000000 := by rw [List.length_drop]; omega
  have h2' := h2.on hb
  rw [h2.len]
  exact sl_any h1 h2'.lies (book_below hk hq) hlen hs hB
set_option maxRecDepth 20000 in
set_option maxHeartbeats 4000000 in
theorem samebook_any {b g : Nat} {m : PM} {N : Nat} {p : Option Addr} {l c : Nat} {xs : List Acc} (w : World) (h : Pair w b g m N p l c xs) : Calls Try.prog 16 #[.pointer (some ⟨b, 0, none⟩), .agg #[.int .i64 N, .slice p l c]] w (Ans (.bool true) w) := by
  have hb0 := (Below.refl w.heap.size w).alloc (Nat.le_refl _) (.cells #[.int .i64 N, .slice p l c] 29)
  have hr0 := Row.new w 29 [.int .i64 N, .slice p l c]
  have hP := h.on hb0
  have hcv : IntKind.u64.wrap ((l : Nat) : Int) = (l : Int) := IntWalk.u64_in _ (by have := h.bk.lm; omega)
  obtain ⟨W, hW⟩ : ∃ W, w.alloc (.cells #[.int .i64 N, .slice p l c] 29) = W := ⟨_, rfl⟩
  have hr0' : Row w.heap.size 29 [.int .i64 N, .slice p l c] W := by rw [← hW]; exact hr0
  rw [hW] at hP hb0
  have HP := Lib.hid hP
  have HR := Lib.hid hr0'
  have HB := Lib.hid hb0
  have HW := Lib.hid hW
  have HN : Hid ((allV N xs).length ≤ 65536) := by show _ ≤ _; rw [allV_length, ← h.tie.len]; exact h.mem.short
  clear h hb0 hr0 hP hr0' hW
  go_enter Try.func16, Try.ntmps16
  go_wp2_with fail
  rw [HW.out]
  clear HW
  have hBs : Below W.heap.size W W.drew := (Below.refl _ _).drew
  go_region_held3 (fun w' => (w'.cell? ⟨w.heap.size, 0, none⟩ = some (.int .i64 N) ∧ w'.cell? ⟨w.heap.size, 1, none⟩ = some (.slice p l c)) ∧ Below W.heap.size W w')
    (exact b_cells (w' := W) HR.out (by assumption))
    (first
      | (go_at_call 10; refine (len_pair (pair_in HP.out (by assumption))).mono ?_; rintro e w3 ⟨rfl, hb3⟩; have hB3 : Below W.heap.size W w3 := b_trans (by assumption) hb3)
      | (go_at_call 29; refine (ops_pair (pair_in HP.out (by assumption))).mono ?_; rintro e w3 ⟨rfl, hb3⟩; have hB3 : Below W.heap.size W w3 := b_trans (by assumption) hb3)
      | (go_at_call 30; refine (all_pair (pair_in HP.out (by assumption))).mono ?_; rintro e w3 ⟨v1, rfl, ho1, hf1, hb5⟩; have hB3 : Below W.heap.size W w3 := b_trans (by assumption) hb5; have hz1 := b_size (W := W) (by assumption) hb5)
      | (go_at_call 41; refine (rall_pair (pair_in HP.out (by assumption))).mono ?_; rintro e w3 ⟨v2, rfl, ho2, hf2, hb6⟩; have hB3 : Below W.heap.size W w3 := b_trans (by assumption) hb6; have hz2 := b_size (W := W) (by assumption) hb6)
      | (go_at_call 40; (first | refine ((sc_any ho1 hf1 hb6 ho2 hf2 HN.out (by assumption) hz1).1).mono ?_ | refine ((sc_any ho2 hf2 hb5 ho1 hf1 HN.out (by assumption) hz2).2).mono ?_); rintro e w3 ⟨rfl, hB3⟩)
      | (go_at_call 24; refine (log_pair (pair_in HP.out (by assumption))).mono ?_; rintro e w3 ⟨v3, rfl, ho3, hb7⟩; have hB3 : Below W.heap.size W w3 := b_trans (by assumption) hb7; have hz3 := b_size (W := W) (by assumption) hb7)
      | (go_at_call 43; refine (rlog_pair (pair_in HP.out (by assumption))).mono ?_; rintro e w3 ⟨q4, l4, c4, rfl, hk4, hq4, hb8⟩; have hB3 : Below W.heap.size W w3 := b_trans (by assumption) hb8)
      | (go_at_call 42; (first | refine (sl_a HP.out.bk ho3 hb8 hk4 hq4 (by assumption) hz3).mono ?_ | refine (sl_b HP.out.bk ho3 hb7 hk4 hq4 (by assumption) hz3).mono ?_); rintro e w3 ⟨rfl, hB3⟩))
  all_goals
    rename_i hh
    have HH := Lib.hid (HB.out.trans (hh.2.mono HB.out.size))
    clear hh
    go_wp2
    go_ret
    exact ⟨rfl, HH.out⟩
end Go.Proofs.Ytnakaifnalojeaa
