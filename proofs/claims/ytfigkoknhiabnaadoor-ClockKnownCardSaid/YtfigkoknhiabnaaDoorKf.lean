/- The laws' is. -/
import Derived.Test.YtfigkoknhiabnaaDoorKc
import Derived.Test.YtfigkoknhiabnaaDoorCb
import Derived.Deep.RegionHeld3
import Derived.BigQuiet
import Derived.Deep.QuietTactic
namespace Go.Proofs.YtfigkoknhiabnaaDoor
open Go.RowKit Go.Fm Go.Sm Go.Tx

/-- a row, its first k overwritten -/
def ov (zs : List Int) (k : Nat) : List Value := List.replicate k (.int .i64 (-77)) ++ (zs.drop k).map (Value.int .i64)
theorem ov_zero (zs : List Int) : zs.map (Value.int .i64) = ov zs 0 := by simp [ov]
theorem ov_length (zs : List Int) (k : Nat) (h : k ≤ zs.length) : (ov zs k).length = zs.length := by simp [ov]; omega
theorem ov_at (zs : List Int) (k : Nat) (h : k < zs.length) : (ov zs k)[k]? = some (.int .i64 (zs.getD k 0)) := by
  unfold ov
  rw [List.getElem?_append_right (by simp), List.length_replicate, Nat.sub_self, List.getElem?_map, List.getElem?_drop]
  simp [List.getD, h]
theorem ov_step (zs : List Int) (k : Nat) (h : k < zs.length) : (ov zs k).set k (.int .i64 (-77)) = ov zs (k + 1) := by
  unfold ov
  rw [List.set_append_right _ _ (by simp), List.length_replicate, Nat.sub_self, List.drop_eq_getElem_cons h, List.map_cons, List.set_cons_zero, List.replicate_succ', List.append_assoc]
  rfl

theorem is_start {G C : Nat} {t : Int} {b : Value} {T : TypeId} {W w : World} (hr : Row G T [.int .i64 t, b] W) (hG : G < C) (hb : Below C W w) : w.cell? ⟨G, 0, none⟩ = some (.int .i64 t) ∧ Below C W w := ⟨(hr.on hb hG).cell 0, hb⟩
theorem is_drew {G C : Nat} {t : Int} {W w : World} (h : w.cell? ⟨G, 0, none⟩ = some (.int .i64 t) ∧ Below C W w) : w.drew.cell? ⟨G, 0, none⟩ = some (.int .i64 t) ∧ Below C W w.drew := ⟨h.1, h.2.drew⟩
theorem is_keep {G : Nat} {t : Int} {b : Value} {T : TypeId} {W w w' : World} (hr : Row G T [.int .i64 t, b] W) (hG : G < W.heap.size) (h : w.cell? ⟨G, 0, none⟩ = some (.int .i64 t) ∧ Below W.heap.size W w) (hb : Below w.heap.size w w') : w'.cell? ⟨G, 0, none⟩ = some (.int .i64 t) ∧ Below W.heap.size W w' := is_start hr hG (h.2.trans (hb.mono h.2.size))
theorem is_clk {g G : Nat} {t : Int} {v : Value} {laps : List Int} {W w : World} (hc : Clk g t laps W) (h : w.cell? ⟨G, 0, none⟩ = some v ∧ Below W.heap.size W w) : Clk g t laps w := hc.on' h.2
theorem is_env {B G : Nat} {v : Value} {W w : World} (he : Env B W) (h : w.cell? ⟨G, 0, none⟩ = some v ∧ Below W.heap.size W w) : Env B w := he.on' h.2
theorem full_at {g : Nat} {t : Int} {laps : List Int} (w : World) (h : Clk g t laps w) : Calls Tryd.prog 16 #[.pointer (some ⟨g, 0, none⟩)] w fun e w' => e = .returned (.bool (t == 4611686018427387904)) ∧ w = w' := full_any w h
set_option maxHeartbeats 4000000 in
theorem is_any {B g : Nat} {t n d : Int} {laps : List Int} {p : Option Addr} {l c : Nat} (w : World) (henv : Env B w) (h : Clk g t laps w) (hl : l = laps.length) (hL : Lies .i64 w p laps) (hn : n ≤ 9223372036854775807) :
    Calls Tryd.prog 11 #[.pointer (some ⟨g, 0, none⟩), .agg #[.int .i64 t, .slice p l c], .int .i64 n, .int .i64 d] w (Ans (.bool true) w) := by
  have ba := (Below.refl w.heap.size w).alloc (Nat.le_refl _) (.cells #[.int .i64 t, .slice p l c] 32)
  obtain ⟨W, hW⟩ : ∃ W, w.alloc (.cells #[.int .i64 t, .slice p l c] 32) = W := ⟨_, rfl⟩
  have HC := Lib.hid (h.on' ba)
  have HL := Lib.hid (hL.on ba)
  have HR := Lib.hid (Row.new w 32 [.int .i64 t, .slice p l c])
  have HE := Lib.hid (henv.on' ba)
  have h1 := h.lo
  have h2 := h.hi
  have h64 := h.le
  have hsz : w.heap.size < W.heap.size := by rw [← hW]; simp
  have HW := Lib.hid hW
  have HA := Lib.hid ba
  rw [show w.alloc (.cells [.int .i64 t, .slice p l c].toArray 32) = W from hW] at HR
  rw [hW] at HC HL HE HA
  obtain ⟨m, hm⟩ : ∃ m, laps.length = m := ⟨_, rfl⟩
  rw [hm] at h64 hl
  subst hl
  have HM := Lib.hid hm
  clear h hL henv ba hm hW
  go_enter Tryd.func11, Tryd.ntmps11
  go_wp2_with fail
  rw [HW.out]
  clear HW
  go_loopw [9] (fun vi wr => ∃ k : Nat, k ≤ 2 ∧ vi = .int .i64 k ∧ Hid (Below W.heap.size W wr)) (fun vi _ => 2 - (intOf vi).toNat)
  case atStart => exact ⟨0, by omega, rfl, Lib.hid (.refl _ _)⟩
  case round =>
    obtain ⟨k, hk, rfl, HB⟩ := hrel
    obtain ⟨wo, rfl⟩ : ∃ wo : World, wo = wr := ⟨_, rfl⟩
    have hwo := HB.out.size
    by_cases hk2 : k < 2
    · go_wp2_with fail
      refine (laps_any _ (HC.out.on' HB.out)).mono ?_
      rintro e w1 ⟨v, rfl, hO, hb1⟩
      rw [HM.out] at hO
      obtain ⟨pv, cap, hv⟩ := ownk_form hO
      subst hv
      have HB1 := Lib.hid (HB.out.trans (hb1.mono hwo))
      have HO := Lib.hid hO
      obtain ⟨k0, k1, -, -⟩ := (HR.out.on' HB1.out).two
      clear hO hb1
      go_wp2_with fail
      go_loopw [11] (fun vj wj => ∃ i : Nat, i ≤ l ∧ vj = .int .i64 i ∧ Hid (wj.ownsRow wo.heap.size 2 1 (.slice pv l cap) l (ov laps i)) ∧ Hid (Below W.heap.size W wj)) (fun vj _ => l - (intOf vj).toNat)
      case atStart => exact ⟨0, by omega, rfl, by rw [← ov_zero]; exact HO, HB1⟩
      case round =>
        obtain ⟨i, hi, rfl, hA, HD⟩ := hrel
        clear HO HB1 k0 k1
        by_cases hil : i < l
        · rcases Joins.ownsRow_forms hA.out with ⟨_, h0⟩ | ⟨g1, c1, e⟩
          · omega
          · cases e
            have hg1 := (hA.out.lt g1 rfl).1
            have e1 := hA.out.cellAt i (by omega)
            have e3 := hA.out.frozenAt i
            rw [ov_at laps i (by rw [HM.out]; exact hil)] at e1
            obtain ⟨st1, st2⟩ := hA.out.stored i (.int .i64 (-77))
            rw [ov_step laps i (by rw [HM.out]; exact hil)] at st1
            obtain ⟨b, o, rfl, e2⟩ := (HL.out.on HD.out).cells i (by rw [HM.out]; exact hil)
            obtain ⟨k0, k1, -, -⟩ := (HR.out.on' HD.out).two
            have HA1 := Lib.hid st1
            have HD1 := Lib.hid (fun nq => (HD.out.trans (⟨rfl, rfl, rfl, Nat.le_refl _, fun _ _ => rfl⟩ : Below W.heap.size wr (wr.drewN nq))).setCell (p := ⟨g1, i, none⟩) (by show _ ≤ g1; omega) (.int .i64 (-77)))
            obtain ⟨z, hz⟩ : ∃ z, laps.getD i 0 = z := ⟨_, rfl⟩
            rw [hz] at e1 e2
            have i1 : (0 : Int) ≤ (i : Int) := by omega
            have i2 : (i : Int) < (l : Int) := by omega
            clear st1 st2 hz hA HD
            go_wp2_with fail
            go_quiet (fail)
            go_wp2
            go_roundw
            case rel => exact ⟨i + 1, by omega, by go_num, HA1, HD1.out _⟩
            case measure =>
              show _ < _
              simp only [intOf]; omega
        · go_wp2
          go_roundw
          case rel => exact ⟨k + 1, by omega, by go_num, HD⟩
          case measure =>
            show _ < _
            simp only [intOf]; omega
    · obtain ⟨k0, k1, -, -⟩ := (HR.out.on' HB.out).two
      go_wp2_with fail
      refine (rsince_any t n p l c h1 h2 _).mono ?_
      rintro e w1 ⟨rfl, hb1⟩
      go_wp2_with fail
      have hb2 := HB.out.trans (hb1.mono hwo)
      have HB2 := Lib.hid hb2
      obtain ⟨S0, hS0⟩ : ∃ s, since t n = s := ⟨_, rfl⟩
      have c1 := fun w (h : Clk g t laps w) => since_any (n := n) w hn h
      have c2 := fun w (h : Clk g t laps w) => due_any (n := n) (d := d) w hn h
      rw [hS0] at c1 c2 ⊢
      clear hb1 k0 k1 hS0 hb2 HB
      have HS := Lib.hid (is_start HR.out hsz HB2.out)
      go_region_held3 (fun w' => w'.cell? ⟨w.heap.size, 0, none⟩ = some (.int .i64 t) ∧ Below W.heap.size W w') (first | exact is_drew HS.out | exact is_keep HR.out hsz (by assumption) (by assumption))
        (first
          | (go_at_call 12; refine (now_any _ (is_clk HC.out (by assumption))).mono ?_; rintro e w3 ⟨rfl, rfl⟩)
          | (go_at_call 20; refine (c1 _ (is_clk HC.out (by assumption))).mono ?_; rintro e w3 ⟨rfl, rfl⟩)
          | (go_at_call 15; refine (c2 _ (is_clk HC.out (by assumption))).mono ?_; rintro e w3 ⟨rfl, rfl⟩)
          | (go_at_call 16; refine (full_at _ (is_clk HC.out (by assumption))).mono ?_; rintro e w3 ⟨rfl, rfl⟩)
          | (go_at_call 21; refine (ctext_any _ (is_env HE.out (by assumption)) (is_clk HC.out (by assumption))).mono ?_; rintro e w3 ⟨_, rfl, rfl, hb3⟩)
          | (go_at_call 27; refine (rtext_any t _).mono ?_; rintro e w3 ⟨_, rfl, rfl, hb3⟩))
      rename_i hh
      have hb := hh.2
      clear hh
      go_wp2
      go_ret
      exact ⟨rfl, HA.out.trans (hb.mono (by omega))⟩
end Go.Proofs.YtfigkoknhiabnaaDoor
