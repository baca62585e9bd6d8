/- The law DequePlays (layer 8), walked: where it plays. -/
import Derived.Test.YtjdbmedealhbjaaPl
import Derived.Deep.Cut
import Derived.Deep.DeepCutAuto
set_option linter.unusedSimpArgs false
set_option linter.unusedVariables false
namespace Go.Proofs.Ytjdbmedealhbjaa
open Go.RowKit Go.Wd Go.Dk

set_option maxRecDepth 20000 in
set_option maxHeartbeats 8000000 in
theorem plays_go (D : DqApi) (q : Nat) (rm : Int) (hrm : 0 ≤ rm ∧ rm ≤ 255) (pl : Option Addr) (nl cl : Nat) (l : List Int) (acts : List ActV) (pa : Option Addr) (na ca : Nat) (g : Int) (w : World) (hl : SlIs (fun _ => False) w (.slice pl nl cl) l) (hnl : nl = l.length) (h80 : nl ≤ 80) (ha : ActsIs w pa acts) (hna : na = acts.length) (hf : fewB acts 100 = true) (hr : room (q : Int) = true) (hq : q ≤ 64) :
    Calls Try.prog 3 #[.int .i64 q, .int .u8 rm, .slice pl nl cl, .slice pa na ca, .int .i64 g] w (Ans (.bool true) w) := by
  have HFw := Lib.hid (few_any acts 100 pa na ca w ha hna (by omega))
  rw [hf] at HFw
  have HRo : Hid (∀ W, Calls Try.prog 9 #[.int .i64 q] W fun e w' => e = .returned (.bool true) ∧ W = w') := fun W => by have := rroom8_any q W; rw [hr] at this; exact this
  have HNew := Lib.hid (D.new_yes q (.slice pl nl cl) l w hr hl (by omega))
  have l1 : ¬ ((80 : Int) < (nl : Int)) := by omega
  have l2 : decide ((80 : Int) < (nl : Int)) = false := decide_eq_false l1
  have l3 : decide (80 < nl) = false := decide_eq_false (by omega)
  have k1 : ¬ ((64 : Int) < (q : Int)) := by omega
  have k2 : decide ((64 : Int) < (q : Int)) = false := decide_eq_false k1
  have k3 : decide (64 < q) = false := decide_eq_false (by omega)
  obtain ⟨p, hp, hpr, hp64⟩ := other_room rm hrm
  have HNew2 : Hid (∀ W, Calls Try.prog 10 #[.int .i64 p, .slice none 0 0] W (MadePost D.Is p [] (fun x => .tuple #[x, .int .i64 0]) W)) := fun W => by have := D.new_yes p _ [] W hpr (SlIs.nil _ W) (by simp); rw [List.take_nil] at this; exact this
  have HRp := Lib.hid (And.intro hpr hp64)
  have hp0 : (0 : Int) ≤ (p : Int) := by omega
  clear hpr hp64
  have HFin := Lib.hid (And.intro hf (And.intro hna hnl))
  have HA := Lib.hid ha
  have HL := Lib.hid hl
  have HRq := Lib.hid (And.intro hr hq)
  have HRm := Lib.hid hrm
  have hq0 : (0 : Int) ≤ (q : Int) := by omega
  obtain ⟨rm0, rm1⟩ := hrm
  clear hf hna hnl ha hl hr hq h80
  go_enter Try.func3, Try.ntmps3
  go_wp2_with fail
  refine HFw.out.mono ?_
  rintro e w1 ⟨rfl, rfl⟩
  go_wp2_with fail
  refine (HRo.out _).mono ?_
  rintro e w1 ⟨rfl, rfl⟩
  go_wp2_with fail
  refine HNew.out.mono ?_
  rintro e w1 ⟨db, S, rfl, hi, hg, hb1⟩
  go_wp2_with fail
  have HB1 := Lib.hid hb1
  have HD1 := Lib.hid (And.intro hi hg)
  clear hb1 hi hg
  refine (HNew2.out _).mono ?_
  rintro e w2 ⟨ob, R, rfl, hi, hg, hb2⟩
  have HB2 := Lib.hid (HB1.out.trans (hb2.mono HB1.out.size))
  have HD2 : Hid (D.Is S w2 db q (l.take q) ∧ D.Is R w2 ob p [] ∧ (∀ k, S k → ¬ R k) ∧ ∀ k, (S k ∨ R k) → w.heap.size ≤ k) := by
    refine ⟨D.on HD1.out.1 hb2, hi, fun k e e2 => ?_, fun k e => ?_⟩
    · have := D.lt HD1.out.1 k e; have := hg k e2; omega
    · rcases e with e | e
      · exact HD1.out.2 k e
      · have := hg k e; have := HB1.out.size; omega
  clear hi hg hb2 HD1 HB1
  go_wp2_with fail
  refine (rnew_any (S := fun k => S k ∨ R k) q l _ w2 (HL.out.on HB2.out) (by have := HRq.out; omega) (by have := HFin.out; omega) (fun k e => e.elim (D.lt HD2.out.1 k) (D.lt HD2.out.2.1 k))).mono ?_
  rintro e w3 ⟨p1, n1, c1, rfl, hn1, hs1, hb3⟩
  have HB3 := Lib.hid hb3
  have HS3 := Lib.hid hs1
  clear hn1 hs1 hb3
  go_wp2_with fail
  refine (rnew_any (S := fun k => S k ∨ R k) p [] _ w3 (SlIs.nil (fun _ => False) _) (by have := HRp.out; omega) (by simp) (fun k e => by have := HB3.out.size; rcases e with e | e; have := D.lt HD2.out.1 k e; omega; have := D.lt HD2.out.2.1 k e; omega)).mono ?_
  rintro e w4 ⟨p2, n2, c2, rfl, hn2, hs2, hb4⟩
  rw [List.take_nil] at hs2
  have HB24 := HB3.out.trans (hb4.mono HB3.out.size)
  have HPS := Lib.hid (ps_new (w0 := w) (HB2.out.trans (HB24.mono HB2.out.size)) (D.on HD2.out.1 HB24) (D.on HD2.out.2.1 HB24) HD2.out.2.2.1 HD2.out.2.2.2 (HS3.out.on hb4) hs2)
  clear hn2 hs2 hb4 HB24 HD2 HS3 HB3 HB2 HFw HNew HNew2
  go_wp2_with fail
  obtain ⟨W0, hW0⟩ : ∃ W0, (w4.alloc (.cells #[.int .i64 q, .slice p1 n1 c1] 32)).alloc (.cells #[.int .i64 p, .slice p2 n2 c2] 32) = W0 := ⟨_, rfl⟩
  obtain ⟨b1, hb1⟩ : ∃ b1, w4.heap.size = b1 := ⟨_, rfl⟩
  obtain ⟨b2, hb2⟩ : ∃ b2, b1 + 1 = b2 := ⟨_, rfl⟩
  rw [hW0, hb1, hb2] at HPS
  rw [hW0, hb1, hb2]
  have hna : na ≤ 100 := by have := HFin.out; have h2 : fewB acts 100 = true := this.1; unfold fewB at h2; have h3 := of_decide_eq_true h2; omega
  have HNA := Lib.hid hna
  clear hW0 hb1 hb2 hp
  go_loopw [20] (fun vi wr => ∃ i : Nat, i ≤ na ∧ vi = .int .i64 i ∧ ∃ S R xs ys p1 n1 c1 p2 n2 c2, Hid (PS D w wr db ob q p b1 b2 S R xs ys (.slice p1 n1 c1) (.slice p2 n2 c2))) (fun vi _ => na - (intOf vi).toNat)
  case atStart => exact ⟨0, by omega, rfl, S, R, _, _, _, _, _, _, _, _, HPS⟩
  case round =>
    clear HPS
    obtain ⟨i, hi, rfl, S, R, xs, ys, p1, n1, c1, p2, n2, c2, HP⟩ := hrel
    by_cases hlt : i < na
    · have i2 : (i : Int) < (na : Int) := by omega
      have HK := Lib.hid hlt
      clear hlt
      go_wp2_with fail
      go_cut [21, 22] (fun v21 v22 wx => ∃ c b3 C, v21 = .pointer (some ⟨c, 0, none⟩) ∧ v22 = .pointer (some ⟨b3, 0, none⟩) ∧ Hid (P1 D w wx db ob q p b1 b2 c b3 S R C xs ys (.slice p1 n1 c1) (.slice p2 n2 c2)))
      case first =>
        have HCp : Hid (∀ W', Below wr.heap.size wr W' → Calls Try.prog 12 #[.pointer (some ⟨db, 0, none⟩)] W' (MadePost D.Is q xs (fun x => x) W')) := fun W' hb => D.copy_any (D.on HP.out.ds.one hb)
        have HTb : Hid (Row wr.heap.size 32 [.int .i64 0, .slice none 0 0] (wr.alloc (.cells #[.int .i64 0, .slice none 0 0] 32)).drew) := Row.new wr 32 [.int .i64 0, .slice none 0 0]
        have HBd : Hid (Below wr.heap.size wr wr.drew) := (Below.refl _ _).drew
        have HBa : Hid (Below wr.heap.size wr (wr.alloc (.cells #[.int .i64 0, .slice none 0 0] 32)).drew) := ((Below.refl _ _).alloc (Nat.le_refl _) _).drew
        have HCell : Hid (∀ W', Below wr.heap.size wr W' → W'.cell? ⟨b1, 0, none⟩ = some (.int .i64 q) ∧ W'.cell? ⟨b1, 1, none⟩ = some (.slice p1 n1 c1)) := fun W' hb => ⟨(HP.out.r1.on' hb).cell 0, (HP.out.r1.on' hb).cell 1⟩
        have HSz : Hid (∀ o, ((wr.alloc o).drew).heap.size = wr.heap.size + 1) := fun o => by simp
        go_region_held3 (fun w' => w'.cell? ⟨b1, 0, none⟩ = some (.int .i64 q) ∧ w'.cell? ⟨b1, 1, none⟩ = some (.slice p1 n1 c1))
          (first | (with_reducible exact HCell.out _ HBd.out) | (with_reducible exact HCell.out _ HBa.out) | (with_reducible exact HCell.out _ HB3.out) | (with_reducible exact HCell.out _ (HB3.out.alloc HB3.out.size _)) | (with_reducible exact HCell.out _ ((HB3.out.setCell (p := ⟨wr.heap.size, 0, none⟩) (Nat.le_refl _) _).setCell (p := ⟨wr.heap.size, 1, none⟩) (Nat.le_refl _) _)))
          (first | (go_at_call 12; first
            | ((with_reducible refine (HCp.out _ HBd.out).mono ?_); rintro e w3 ⟨c, C, rfl, hi3, hg3, hb3⟩; have HB3 := Lib.hid (HBd.out.trans (hb3.mono HBd.out.size)); have HC3 : Hid (D.Is C w3 c q xs ∧ ∀ k, C k → wr.heap.size ≤ k) := ⟨hi3, hg3⟩; clear hi3 hg3 hb3)
            | ((with_reducible refine (HCp.out _ HBa.out).mono ?_); rintro e w3 ⟨c, C, rfl, hi3, hg3, hb3⟩; have HB3 := Lib.hid (HBa.out.trans (hb3.mono HBa.out.size)); have htb := HTb.out.on' hb3; obtain ⟨d0, d1, f0, f1⟩ := htb.two; have HTB3 := Lib.hid htb; rw [HSz.out] at hg3; have HC4 : Hid (D.Is C w3 c q xs ∧ ∀ k, C k → wr.heap.size < k) := ⟨hi3, hg3⟩; clear hi3 hg3 hb3 htb)))
        all_goals
          go_wp2_with fail
          go_meet
          first
            | with_reducible exact ⟨c, _, C, rfl, rfl, Lib.hid (p1_after HP.out HB3.out HC3.out.1 HC3.out.2)⟩
            | with_reducible exact ⟨c, _, C, rfl, rfl, Lib.hid (p1_ahead HP.out HB3.out HC4.out.1 HC4.out.2 HTB3.out)⟩
      case rest =>
        clear HP
        obtain ⟨c, b3, C, rfl, rfl, HP⟩ := hcut
        have hil : i < acts.length := by have := HK.out; have := HFin.out; omega
        have h80 := (of_decide_eq_true (show decide (acts.length ≤ 100 ∧ ∀ i, i < acts.length → (acts.getD i default).l.length ≤ 80) = true from HFin.out.1)).2 i hil
        obtain ⟨ab, ao, rfl, hab, e0, e1, e2, hsl⟩ := HA.out.cells i hil
        obtain ⟨x, hx⟩ : ∃ x, acts.getD i default = x := ⟨_, rfl⟩
        rw [hx] at e0 e1 e2 hsl h80
        have hsl := hsl.sl (by omega)
        obtain ⟨pv, nv, cv, hxv, hnv⟩ := hid_slice hsl
        obtain ⟨xd, hxd⟩ : ∃ z, x.d = z := ⟨_, rfl⟩
        obtain ⟨xg, hxg⟩ : ∃ z, x.g = z := ⟨_, rfl⟩
        obtain ⟨xl, hxl⟩ : ∃ z, x.l = z := ⟨_, rfl⟩
        rw [hxv] at e2 hsl
        rw [hxd] at e0
        rw [hxg] at e1
        rw [hxl] at hsl h80
        obtain ⟨xs', hxs'⟩ : ∃ z, stepX q xs ys xd xg xl = z := ⟨_, rfl⟩
        obtain ⟨ys', hys'⟩ : ∃ z, stepY p xs ys xd = z := ⟨_, rfl⟩
        have HDo : Hid (∀ (X : Nat → Prop) (W' : World), Below wc.heap.size wc W' → (∀ k, X k → wc.heap.size ≤ k ∧ k < W'.heap.size) → Calls Try.prog 13 #[.pointer (some ⟨db, 0, none⟩), .pointer (some ⟨ob, 0, none⟩), .agg #[.int .i64 q, .slice p1 n1 c1], .agg #[.int .i64 p, .slice p2 n2 c2], .agg #[.int .i64 xd, .int .i64 xg, .slice pv nv cv]] W' (DoPost D w W' db ob q p b1 b2 c b3 C X xs ys xs' ys' (.slice p1 n1 c1) (.slice p2 n2 c2))) := by
          intro X W' hb hX
          have := p1_does xd xg HP.out hb hX hsl h80 ⟨HRq.out.2, HRp.out.2⟩
          rw [hxs', hys'] at this
          exact this
        have hbel := HP.out.ps.be
        have HCell : Hid (∀ W', Below wc.heap.size wc W' → ((W'.cell? ⟨b1, 0, none⟩ = some (.int .i64 q) ∧ W'.cell? ⟨b1, 1, none⟩ = some (.slice p1 n1 c1)) ∧ W'.cell? ⟨b2, 0, none⟩ = some (.int .i64 p) ∧ W'.cell? ⟨b2, 1, none⟩ = some (.slice p2 n2 c2)) ∧ W'.cell? ⟨ab, ao + i * 3, none⟩ = some (.int .i64 xd) ∧ W'.cell? ⟨ab, ao + i * 3 + 1, none⟩ = some (.int .i64 xg) ∧ W'.cell? ⟨ab, ao + i * 3 + 2, none⟩ = some (.slice pv nv cv)) := by
          intro W' hb
          have k1 := HP.out.ps.r1.on' hb
          have k2 := HP.out.ps.r2.on' hb
          have hb' := hbel.trans (hb.mono hbel.size)
          exact ⟨⟨⟨k1.cell 0, k1.cell 1⟩, k2.cell 0, k2.cell 1⟩, by rw [hb'.cell (p := ⟨ab, ao + i * 3, none⟩) hab]; exact e0, by rw [hb'.cell (p := ⟨ab, ao + i * 3 + 1, none⟩) hab]; exact e1, by rw [hb'.cell (p := ⟨ab, ao + i * 3 + 2, none⟩) hab]; exact e2⟩
        have HI := Lib.hid hil
        have HAb := Lib.hid (show ab < wc.heap.size ∧ b1 < wc.heap.size ∧ b2 < wc.heap.size from ⟨Nat.lt_of_lt_of_le hab hbel.size, HP.out.ps.r1.lt, HP.out.ps.r2.lt⟩)
        have HCl : Hid (∀ W', (((W'.cell? ⟨b1, 0, none⟩ = some (.int .i64 q) ∧ W'.cell? ⟨b1, 1, none⟩ = some (.slice p1 n1 c1)) ∧ W'.cell? ⟨b2, 0, none⟩ = some (.int .i64 p) ∧ W'.cell? ⟨b2, 1, none⟩ = some (.slice p2 n2 c2)) ∧ W'.cell? ⟨ab, ao + i * 3, none⟩ = some (.int .i64 xd) ∧ W'.cell? ⟨ab, ao + i * 3 + 1, none⟩ = some (.int .i64 xg) ∧ W'.cell? ⟨ab, ao + i * 3 + 2, none⟩ = some (.slice pv nv cv)) → ∀ W'', Below wc.heap.size W' W'' → (((W''.cell? ⟨b1, 0, none⟩ = some (.int .i64 q) ∧ W''.cell? ⟨b1, 1, none⟩ = some (.slice p1 n1 c1)) ∧ W''.cell? ⟨b2, 0, none⟩ = some (.int .i64 p) ∧ W''.cell? ⟨b2, 1, none⟩ = some (.slice p2 n2 c2)) ∧ W''.cell? ⟨ab, ao + i * 3, none⟩ = some (.int .i64 xd) ∧ W''.cell? ⟨ab, ao + i * 3 + 1, none⟩ = some (.int .i64 xg) ∧ W''.cell? ⟨ab, ao + i * 3 + 2, none⟩ = some (.slice pv nv cv))) := by
          rintro W' ⟨⟨⟨k1, k2⟩, k3, k4⟩, k5, k6, k7⟩ W'' hb
          obtain ⟨q1, q2, q3⟩ := HAb.out
          exact ⟨⟨⟨by rw [hb.cell (p := ⟨b1, 0, none⟩) q2]; exact k1, by rw [hb.cell (p := ⟨b1, 1, none⟩) q2]; exact k2⟩, by rw [hb.cell (p := ⟨b2, 0, none⟩) q3]; exact k3, by rw [hb.cell (p := ⟨b2, 1, none⟩) q3]; exact k4⟩, by rw [hb.cell (p := ⟨ab, ao + i * 3, none⟩) q1]; exact k5, by rw [hb.cell (p := ⟨ab, ao + i * 3 + 1, none⟩) q1]; exact k6, by rw [hb.cell (p := ⟨ab, ao + i * 3 + 2, none⟩) q1]; exact k7⟩
        have HCp : Hid (∀ S' R' X W' xs' ys' u v, PC D w W' db ob q p b1 b2 c b3 S' R' C X xs ys xs' ys' (.slice p1 n1 c1) (.slice p2 n2 c2) u v → ((W'.cell? ⟨b1, 0, none⟩ = some (.int .i64 q) ∧ W'.cell? ⟨b1, 1, none⟩ = some (.slice p1 n1 c1)) ∧ W'.cell? ⟨b2, 0, none⟩ = some (.int .i64 p) ∧ W'.cell? ⟨b2, 1, none⟩ = some (.slice p2 n2 c2)) ∧ W'.cell? ⟨ab, ao + i * 3, none⟩ = some (.int .i64 xd) ∧ W'.cell? ⟨ab, ao + i * 3 + 1, none⟩ = some (.int .i64 xg) ∧ W'.cell? ⟨ab, ao + i * 3 + 2, none⟩ = some (.slice pv nv cv)) := by
          intro S' R' X W' xs' ys' u v h
          exact ⟨⟨⟨h.r1.cell 0, h.r1.cell 1⟩, h.r2.cell 0, h.r2.cell 1⟩, by rw [h.be.cell (p := ⟨ab, ao + i * 3, none⟩) hab]; exact e0, by rw [h.be.cell (p := ⟨ab, ao + i * 3 + 1, none⟩) hab]; exact e1, by rw [h.be.cell (p := ⟨ab, ao + i * 3 + 2, none⟩) hab]; exact e2⟩
        clear hil h80 hab e0 e1 e2 hsl hx hnv hxv hxd hxg hxl hxs' hys' hbel
        have i3 : (0 : Int) ≤ (i : Int) := by omega
        have i4 : i < na := HK.out
        go_upto_region 16 with (fail)
        go_cut [23, 24, 25] (fun v23 v24 v25 wx => ∃ b4 b5 S' R' p3 n3 c3 p4 n4 c4, v23 = .pointer (some ⟨b4, 0, none⟩) ∧ v24 = .pointer (some ⟨b5, 0, none⟩) ∧ v25 = .bool true ∧ Hid (P2 D w wx db ob q p b1 b2 c b3 b4 b5 S' R' C xs ys xs' ys' (.slice p1 n1 c1) (.slice p2 n2 c2) (.slice p3 n3 c3) (.slice p4 n4 c4)))
        case first =>
          have HBd : Hid (Below wc.heap.size wc wc.drew) := (Below.refl _ _).drew
          have HBa : Hid (Below wc.heap.size wc (wc.alloc (.cells #[.int .i64 0, .slice none 0 0] 32)).drew) := ((Below.refl _ _).alloc (Nat.le_refl _) _).drew
          have HBb : Hid (Below wc.heap.size wc ((wc.alloc (.cells #[.int .i64 0, .slice none 0 0] 32)).alloc (.cells #[.int .i64 0, .slice none 0 0] 32)).drew) := (((Below.refl _ _).alloc (Nat.le_refl _) _).alloc (by simp) _).drew
          have HX0 : Hid (∀ k, False → wc.heap.size ≤ k ∧ k < wc.drew.heap.size) := fun k e => e.elim
          have HX1 : Hid (∀ k, k = wc.heap.size → wc.heap.size ≤ k ∧ k < (wc.alloc (.cells #[.int .i64 0, .slice none 0 0] 32)).drew.heap.size) := fun k e => by
            subst e
            exact ⟨Nat.le_refl _, by show _ < (wc.alloc (.cells #[.int .i64 0, .slice none 0 0] 32)).heap.size; rw [World.size_alloc]; omega⟩
          have HX2 : Hid (∀ k, (k = wc.heap.size ∨ k = wc.heap.size + 1) → wc.heap.size ≤ k ∧ k < ((wc.alloc (.cells #[.int .i64 0, .slice none 0 0] 32)).alloc (.cells #[.int .i64 0, .slice none 0 0] 32)).drew.heap.size) := fun k e => by
            have z : ((wc.alloc (.cells #[.int .i64 0, .slice none 0 0] 32)).alloc (.cells #[.int .i64 0, .slice none 0 0] 32)).drew.heap.size = wc.heap.size + 1 + 1 := by show ((wc.alloc (.cells #[.int .i64 0, .slice none 0 0] 32)).alloc (.cells #[.int .i64 0, .slice none 0 0] 32)).heap.size = _; rw [World.size_alloc, World.size_alloc]
            rw [z]; omega
          have HR1 : Hid (Row wc.heap.size 32 [.int .i64 0, .slice none 0 0] (wc.alloc (.cells #[.int .i64 0, .slice none 0 0] 32)).drew) := Row.new wc 32 [.int .i64 0, .slice none 0 0]
          have HR2 : Hid (Row wc.heap.size 32 [.int .i64 0, .slice none 0 0] ((wc.alloc (.cells #[.int .i64 0, .slice none 0 0] 32)).alloc (.cells #[.int .i64 0, .slice none 0 0] 32)).drew ∧ Row (wc.heap.size + 1) 32 [.int .i64 0, .slice none 0 0] ((wc.alloc (.cells #[.int .i64 0, .slice none 0 0] 32)).alloc (.cells #[.int .i64 0, .slice none 0 0] 32)).drew) := by
            have z1 : (wc.alloc (.cells #[.int .i64 0, .slice none 0 0] 32)).heap.size = wc.heap.size + 1 := by simp
            have a2 := (Below.refl _ (wc.alloc (.cells #[.int .i64 0, .slice none 0 0] 32))).alloc (Nat.le_refl _) (.cells #[.int .i64 0, .slice none 0 0] 32)
            exact ⟨((Row.new wc 32 [.int .i64 0, .slice none 0 0]).on' a2).drew, (Row.new' (wc.alloc (.cells #[.int .i64 0, .slice none 0 0] 32)) 32 [.int .i64 0, .slice none 0 0] _ z1.symm).drew⟩
          go_region_held3 (fun w' => ((w'.cell? ⟨b1, 0, none⟩ = some (.int .i64 q) ∧ w'.cell? ⟨b1, 1, none⟩ = some (.slice p1 n1 c1)) ∧ w'.cell? ⟨b2, 0, none⟩ = some (.int .i64 p) ∧ w'.cell? ⟨b2, 1, none⟩ = some (.slice p2 n2 c2)) ∧ w'.cell? ⟨ab, ao + i * 3, none⟩ = some (.int .i64 xd) ∧ w'.cell? ⟨ab, ao + i * 3 + 1, none⟩ = some (.int .i64 xg) ∧ w'.cell? ⟨ab, ao + i * 3 + 2, none⟩ = some (.slice pv nv cv))
            (first | (with_reducible exact HCell.out _ HBd.out) | (with_reducible exact HCell.out _ HBa.out) | (with_reducible exact HCell.out _ HBb.out) | (with_reducible exact HK5.out _ (Below.refl _ _)) | (with_reducible exact HK5.out _ (bl_a HZ5.out _)) | (with_reducible exact HK5.out _ (bl_aa HZ5.out _ _)) | (with_reducible exact HK5.out _ (bl_s (Nat.le_refl _) _ _)) | (with_reducible exact HK5.out _ (bl_s (Nat.le_succ _) _ _)) | (with_reducible exact HK5.out _ (bl_as HZ5.out (Nat.le_refl _) _ _ _)) | (with_reducible exact HK5.out _ (bl_ass HZ5.out (Nat.le_refl _) HZ5.out _ _ _ _ _)) | (with_reducible exact HK5.out _ (bl_ss (Nat.le_refl _) (Nat.le_succ _) _ _ _ _)) | (with_reducible exact HK5.out _ (bl_ss (Nat.le_succ _) (Nat.le_refl _) _ _ _ _)))
            (first | (go_at_call 13; first
              | ((with_reducible refine (HDo.out (fun _ => False) _ HBd.out HX0.out).mono ?_); rintro e w5 ⟨S', R', p3, n3, c3, p4, n4, c4, rfl, hpc, hsz, hrw⟩; have HC5 := Lib.hid hpc; have HK5 := Lib.hid (HCl.out _ (HCp.out _ _ _ _ _ _ _ _ hpc)); have HZ5 := Lib.hid (Nat.le_trans HBd.out.size hsz); clear hpc hsz hrw)
              | ((with_reducible refine (HDo.out (fun k => k = wc.heap.size) _ HBa.out HX1.out).mono ?_); rintro e w5 ⟨S', R', p3, n3, c3, p4, n4, c4, rfl, hpc, hsz, hrw⟩; have HC5 := Lib.hid hpc; have HK5 := Lib.hid (HCl.out _ (HCp.out _ _ _ _ _ _ _ _ hpc)); have HZ5 := Lib.hid (Nat.le_trans HBa.out.size hsz); have hrw1 := hrw _ _ _ rfl HR1.out; obtain ⟨d0, d1, f0, f1⟩ := hrw1.two; have nz1 : ¬ (w5.heap.size = wc.heap.size) := (fun e => by have := hrw1.lt; omega); have nz2 : ¬ (wc.heap.size = w5.heap.size) := (fun e => by have := hrw1.lt; omega); have ra := hrw1.on' ((Below.refl w5.heap.size w5).alloc (Nat.le_refl _) (.cells #[.int .i64 0, .slice none 0 0] 32)); obtain ⟨d2, d3, f2, f3⟩ := ra.two; have rb := hrw1.on' ((Below.refl w5.heap.size w5).alloc (Nat.le_refl _) (.cells #[.int .i64 q, .slice p3 n3 c3] 32)); obtain ⟨d4, d5, f4, f5⟩ := rb.two; clear ra rb; have HRr := Lib.hid hrw1; clear hrw1; clear hpc hsz hrw)
              | ((with_reducible refine (HDo.out (fun k => k = wc.heap.size ∨ k = wc.heap.size + 1) _ HBb.out HX2.out).mono ?_); rintro e w5 ⟨S', R', p3, n3, c3, p4, n4, c4, rfl, hpc, hsz, hrw⟩; have HC5 := Lib.hid hpc; have HK5 := Lib.hid (HCl.out _ (HCp.out _ _ _ _ _ _ _ _ hpc)); have HZ5 := Lib.hid (Nat.le_trans HBb.out.size hsz); have hrw1 := hrw _ _ _ (.inl rfl) HR2.out.1; have hrw2 := hrw _ _ _ (.inr rfl) HR2.out.2; obtain ⟨d0, d1, f0, f1⟩ := hrw1.two; obtain ⟨g0, g1, h0, h1⟩ := hrw2.two; have HRr2 := Lib.hid (And.intro hrw1 hrw2); clear hrw1 hrw2; clear hpc hsz hrw)))
          all_goals
            go_wp2_with fail
            go_meet
            first
              | with_reducible exact ⟨_, _, S', R', p3, n3, c3, p4, n4, c4, rfl, rfl, rfl, Lib.hid (pe_aa HC5.out)⟩
              | with_reducible exact ⟨_, _, S', R', p3, n3, c3, p4, n4, c4, rfl, rfl, rfl, Lib.hid (pe_bb HC5.out)⟩
              | with_reducible exact ⟨_, _, S', R', p3, n3, c3, p4, n4, c4, rfl, rfl, rfl, Lib.hid (pe_4a HC5.out HRr.out rfl)⟩
              | with_reducible exact ⟨_, _, S', R', p3, n3, c3, p4, n4, c4, rfl, rfl, rfl, Lib.hid (pe_5a HC5.out HRr.out rfl)⟩
              | with_reducible exact ⟨_, _, S', R', p3, n3, c3, p4, n4, c4, rfl, rfl, rfl, Lib.hid (pe_45 HC5.out HRr2.out.1 HRr2.out.2 (.inl rfl) (.inr rfl) (Nat.ne_of_lt (Nat.lt_succ_self _)))⟩
              | with_reducible exact ⟨_, _, S', R', p3, n3, c3, p4, n4, c4, rfl, rfl, rfl, Lib.hid (pe_45 HC5.out HRr2.out.2 HRr2.out.1 (.inr rfl) (.inl rfl) (Ne.symm (Nat.ne_of_lt (Nat.lt_succ_self _))))⟩
        case rest =>
          clear HP HDo HCell HCl HCp
          obtain ⟨b4, b5, S', R', p3, n3, c3, p4, n4, c4, rfl, rfl, rfl, HQ⟩ := hcut
          have k40 := HQ.out.r4.cell 0
          have k41 := HQ.out.r4.cell 1
          have k50 := HQ.out.r5.cell 0
          have k51 := HQ.out.r5.cell 1
          simp only [List.getElem?_cons_zero, List.getElem?_cons_succ] at k40 k41 k50 k51
          obtain ⟨a10, a11, af0, af1⟩ := HQ.out.pc.r1.two
          obtain ⟨a20, a21, ag0, ag1⟩ := HQ.out.pc.r2.two
          have ne1 : ¬ (b5 = b1) := HQ.out.n4.2.2.1
          have ne2 : ¬ (b1 = b5) := fun e => HQ.out.n4.2.2.1 e.symm
          have ne3 : ¬ (b1 = b2) := HQ.out.pc.ge.2.2.2
          have ne4 : ¬ (b2 = b1) := fun e => HQ.out.pc.ge.2.2.2 e.symm
          have HPu := Lib.hid HQ.out.put
          go_upto_region 19 with (fail)
          obtain ⟨W6, hW6⟩ : ∃ W6, (((wc.setCell ⟨b1, 0, none⟩ (.int .i64 q)).setCell ⟨b1, 1, none⟩ (.slice p3 n3 c3)).setCell ⟨b2, 0, none⟩ (.int .i64 p)).setCell ⟨b2, 1, none⟩ (.slice p4 n4 c4) = W6 := ⟨_, rfl⟩
          rw [hW6] at HPu
          rw [hW6]
          clear hW6 HQ k40 k41 k50 k51 a10 a11 af0 af1 a20 a21 ag0 ag1 ne1 ne2 ne3 ne4
          obtain ⟨bb, hbb⟩ : ∃ bb, sameB xs' xs = bb := ⟨_, rfl⟩
          have HIs1 : Hid (∀ W', Below W6.heap.size W6 W' → Calls Try.prog 14 #[.pointer (some ⟨db, 0, none⟩), .agg #[.int .i64 q, .slice p3 n3 c3], .int .i64 g] W' (Ans (.bool true) W')) := fun W' hb => is_any D g (D.on HPu.out.1.ds.one hb) ((HPu.out.1.ds.ru.less (fun _ e => e.elim)).on hb)
          have HIs2 : Hid (∀ W', Below W6.heap.size W6 W' → Calls Try.prog 14 #[.pointer (some ⟨ob, 0, none⟩), .agg #[.int .i64 p, .slice p4 n4 c4], .int .i64 g] W' (Ans (.bool true) W')) := fun W' hb => is_any D g (D.on HPu.out.1.ds.two hb) ((HPu.out.1.ds.rv.less (fun _ e => e.elim)).on hb)
          have HIs3 : Hid (∀ W', Below W6.heap.size W6 W' → Calls Try.prog 14 #[.pointer (some ⟨c, 0, none⟩), .agg #[.int .i64 q, .slice p1 n1 c1], .int .i64 g] W' (Ans (.bool true) W')) := fun W' hb => is_any D g (D.on HPu.out.2.1 hb) (HPu.out.2.2.1.on hb)
          have HSa : Hid (∀ W', Below W6.heap.size W6 W' → Calls Try.prog 15 #[.pointer (some ⟨db, 0, none⟩), .pointer (some ⟨c, 0, none⟩)] W' (Ans (.bool bb) W')) := fun W' hb => by
            have h1 := D.same_any (D.on HPu.out.1.ds.one hb) (D.on HPu.out.2.1 hb)
            have h2 : decide (q = q ∧ xs' = xs) = bb := by rw [← hbb]; unfold sameB; simp
            rw [h2] at h1
            exact h1
          have HSi : Hid (∀ W', Below W6.heap.size W6 W' → Calls Try.prog 16 #[.slice p3 n3 c3, .slice p1 n1 c1] W' (Ans (.bool bb) W')) := fun W' hb => by
            have h1 := sameints_gen xs' xs _ _ W' (HPu.out.1.ds.ru.on hb) (HPu.out.2.2.1.on hb)
            rw [hbb] at h1
            exact h1
          have HCc : Hid (∀ W', Below W6.heap.size W6 W' → ((W'.cell? ⟨b1, 0, none⟩ = some (.int .i64 q) ∧ W'.cell? ⟨b1, 1, none⟩ = some (.slice p3 n3 c3)) ∧ W'.cell? ⟨b2, 0, none⟩ = some (.int .i64 p) ∧ W'.cell? ⟨b2, 1, none⟩ = some (.slice p4 n4 c4)) ∧ W'.cell? ⟨b3, 0, none⟩ = some (.int .i64 q) ∧ W'.cell? ⟨b3, 1, none⟩ = some (.slice p1 n1 c1)) := fun W' hb => by
            have k1 := HPu.out.1.r1.on' hb
            have k2 := HPu.out.1.r2.on' hb
            have k3 := HPu.out.2.2.2.on' hb
            exact ⟨⟨⟨k1.cell 0, k1.cell 1⟩, k2.cell 0, k2.cell 1⟩, k3.cell 0, k3.cell 1⟩
          have HB0 : Hid (Below W6.heap.size W6 W6.drew) := (Below.refl _ _).drew
          clear hbb
          go_region_held3 (fun w' => ((w'.cell? ⟨b1, 0, none⟩ = some (.int .i64 q) ∧ w'.cell? ⟨b1, 1, none⟩ = some (.slice p3 n3 c3)) ∧ w'.cell? ⟨b2, 0, none⟩ = some (.int .i64 p) ∧ w'.cell? ⟨b2, 1, none⟩ = some (.slice p4 n4 c4)) ∧ w'.cell? ⟨b3, 0, none⟩ = some (.int .i64 q) ∧ w'.cell? ⟨b3, 1, none⟩ = some (.slice p1 n1 c1))
            (first | (with_reducible exact HCc.out _ HB0.out) | (with_reducible exact HCc.out _ HB1.out) | (with_reducible exact HCc.out _ HB2.out) | (with_reducible exact HCc.out _ HB3.out) | (with_reducible exact HCc.out _ HB4.out) | (with_reducible exact HCc.out _ HB5.out))
            (first
              | (go_at_call 14; first
                | ((with_reducible refine (HIs1.out _ HB0.out).mono ?_); rintro e w7 ⟨rfl, hb9⟩; have HB1 := Lib.hid (HB0.out.trans (hb9.mono HB0.out.size)); clear hb9)
                | ((with_reducible refine (HIs2.out _ HB1.out).mono ?_); rintro e w8 ⟨rfl, hb9⟩; have HB2 := Lib.hid (HB1.out.trans (hb9.mono HB1.out.size)); clear hb9)
                | ((with_reducible refine (HIs3.out _ HB2.out).mono ?_); rintro e w9 ⟨rfl, hb9⟩; have HB3 := Lib.hid (HB2.out.trans (hb9.mono HB2.out.size)); clear hb9))
              | (go_at_call 15; ((with_reducible refine (HSa.out _ HB3.out).mono ?_); rintro e w10 ⟨rfl, hb9⟩; have HB4 := Lib.hid (HB3.out.trans (hb9.mono HB3.out.size)); clear hb9))
              | (go_at_call 16; ((with_reducible refine (HSi.out _ HB4.out).mono ?_); rintro e w11 ⟨rfl, hb9⟩; have HB5 := Lib.hid (HB4.out.trans (hb9.mono HB4.out.size)); clear hb9)))
          go_wp2_with fail
          go_roundw
          case rel => exact ⟨i + 1, HK.out, by go_num, S', R', xs', ys', p3, n3, c3, p4, n4, c4, Lib.hid (HPu.out.1.on HB5.out)⟩
          case measure =>
            show _ < _
            have := HK.out
            simp only [intOf]; omega
    · obtain rfl : i = na := by omega
      clear hlt
      have r10 := HP.out.r1.cell 1
      have r20 := HP.out.r2.cell 1
      have r11 := HP.out.r1.cell 0
      simp only [List.getElem?_cons_zero, List.getElem?_cons_succ] at r10 r20 r11
      have HWk : Hid (∀ W', Calls Try.prog 8 #[] W' (Ans (.bool true) W')) := fun W' => works_any D W'
      have HIs1 : Hid (∀ W', Below wr.heap.size wr W' → Calls Try.prog 14 #[.pointer (some ⟨db, 0, none⟩), .agg #[.int .i64 q, .slice p1 n1 c1], .int .i64 g] W' (Ans (.bool true) W')) := fun W' hb => is_any D g (D.on HP.out.ds.one hb) ((HP.out.ds.ru.less (fun _ e => e.elim)).on hb)
      have HCc : Hid (∀ W', Below wr.heap.size wr W' → W'.cell? ⟨b1, 0, none⟩ = some (.int .i64 q) ∧ W'.cell? ⟨b1, 1, none⟩ = some (.slice p1 n1 c1) ∧ W'.cell? ⟨b2, 1, none⟩ = some (.slice p2 n2 c2)) := fun W' hb => ⟨(HP.out.r1.on' hb).cell 0, (HP.out.r1.on' hb).cell 1, (HP.out.r2.on' hb).cell 1⟩
      obtain ⟨bb, hbb⟩ : ∃ bb, sameB xs ys = bb := ⟨_, rfl⟩
      by_cases hqp : q = p
      · have HSa : Hid (∀ W', Below wr.heap.size wr W' → Calls Try.prog 15 #[.pointer (some ⟨db, 0, none⟩), .pointer (some ⟨ob, 0, none⟩)] W' (Ans (.bool bb) W')) := fun W' hb => by
          have h1 := D.same_any (D.on HP.out.ds.one hb) (D.on HP.out.ds.two hb)
          have h2 : decide (q = p ∧ xs = ys) = bb := by rw [← hbb]; unfold sameB; simp [hqp]
          rw [h2] at h1
          exact h1
        have HSi : Hid (∀ W', Below wr.heap.size wr W' → Calls Try.prog 16 #[.slice p1 n1 c1, .slice p2 n2 c2] W' (Ans (.bool bb) W')) := fun W' hb => by
          have h1 := sameints_gen xs ys _ _ W' (HP.out.ds.ru.on hb) (HP.out.ds.rv.on hb)
          rw [hbb] at h1
          exact h1
        have e1 : ((q : Int) == (p : Int)) = true := by rw [hqp]; simp
        have e2 : (q == p) = true := by rw [hqp]; simp
        have HBe := Lib.hid HP.out.be
        clear hbb HP hqp
        go_wp2_with fail
        refine (HSa.out _ (Below.refl _ _)).mono ?_
        rintro e w7 ⟨rfl, hb7⟩
        have HB7 := Lib.hid hb7
        obtain ⟨c0, c1', c2'⟩ := HCc.out _ hb7
        clear hb7
        go_wp2_with fail
        refine (HSi.out _ HB7.out).mono ?_
        rintro e w8 ⟨rfl, hb8⟩
        have HB8 := Lib.hid (HB7.out.trans (hb8.mono HB7.out.size))
        clear c0 c1' c2'
        obtain ⟨c0, c1', c2'⟩ := HCc.out _ HB8.out
        clear hb8
        go_wp2_with fail
        refine (HIs1.out _ HB8.out).mono ?_
        rintro e w9 ⟨rfl, hb9⟩
        have HB9 := Lib.hid (HB8.out.trans (hb9.mono HB8.out.size))
        clear c0 c1' c2' hb9
        go_wp2_with fail
        refine (HWk.out _).mono ?_
        rintro e w10 ⟨rfl, hb10⟩
        have HB10 := Lib.hid (HB9.out.trans (hb10.mono HB9.out.size))
        clear hb10
        go_wp2
        go_ret
        exact ⟨rfl, HBe.out.trans (HB10.out.mono HBe.out.size)⟩
      · have HSa : Hid (∀ W', Below wr.heap.size wr W' → Calls Try.prog 15 #[.pointer (some ⟨db, 0, none⟩), .pointer (some ⟨ob, 0, none⟩)] W' (Ans (.bool false) W')) := fun W' hb => by
          have h1 := D.same_any (D.on HP.out.ds.one hb) (D.on HP.out.ds.two hb)
          have h2 : decide (q = p ∧ xs = ys) = false := decide_eq_false (fun e => hqp e.1)
          rw [h2] at h1
          exact h1
        have e1 : ((q : Int) == (p : Int)) = false := by
          have : ¬ ((q : Int) = (p : Int)) := by omega
          simpa using this
        have e2 : (q == p) = false := by simpa using hqp
        have HBe := Lib.hid HP.out.be
        clear hbb HP hqp
        go_wp2_with fail
        refine (HSa.out _ (Below.refl _ _)).mono ?_
        rintro e w7 ⟨rfl, hb7⟩
        have HB7 := Lib.hid hb7
        obtain ⟨c0, c1', c2'⟩ := HCc.out _ hb7
        clear hb7
        go_wp2_with fail
        refine (HIs1.out _ HB7.out).mono ?_
        rintro e w9 ⟨rfl, hb9⟩
        have HB9 := Lib.hid (HB7.out.trans (hb9.mono HB7.out.size))
        clear c0 c1' c2' hb9
        go_wp2_with fail
        refine (HWk.out _).mono ?_
        rintro e w10 ⟨rfl, hb10⟩
        have HB10 := Lib.hid (HB9.out.trans (hb10.mono HB9.out.size))
        clear hb10
        go_wp2
        go_ret
        exact ⟨rfl, HBe.out.trans (HB10.out.mono HBe.out.size)⟩
end Go.Proofs.Ytjdbmedealhbjaa
