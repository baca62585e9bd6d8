/- The law DequeAhead (layer 8), walked. -/
import Derived.Test.YtjdbmedealhbjaaAm
import Derived.Test.YtjdbmedealhbjaaWk
import Derived.Test.YtjdbmedealhbjaaFw
import Derived.Test.YtjdbmedealhbjaaPk
import Derived.Test.YtjdbmedealhbjaaPs
import Derived.Deep.Cut
import Derived.Deep.DeepCutAuto
import Derived.Deep.CutBlock
import Derived.BigQuiet
import Derived.Deep.QuietTactic
set_option linter.unusedSimpArgs false
set_option linter.unusedVariables false
namespace Go.Proofs.Ytjdbmedealhbjaa
open Go.RowKit Go.Wd Go.Dk

/-- the deque, between two calls -/
structure AQ (D : DqApi) (w0 W : World) (db q : Nat) (S : Nat → Prop) (xs : List Int) : Prop where
  is : D.Is S W db q xs
  be : Below w0.heap.size w0 W
  ge : ∀ k, S k → w0.heap.size ≤ k
/-- behind an act: the row as it was, what was taken away, what is said of both -/
structure AS (D : DqApi) (w0 W : World) (db q : Nat) (S : Nat → Prop) (xs xs' ov : List Int) (v u : Value) (i : Nat) : Prop where
  aq : AQ D w0 W db q S xs'
  was : SlIs (fun _ => False) W v xs
  ovr : SlIs (fun _ => False) W u ov
  up : Up xs' (i + 1)
  a1 : ∀ k, k < xs.length → aheadL xs' (xs.getD k 0) ≤ k
  a2 : ∀ k m, k < xs.length → m < ov.length → ov.getD m 0 = xs.getD k 0 → ¬ (k < q / 2)
section
variable {D : DqApi} {w0 W W' : World} {db q : Nat} {S S' O : Nat → Prop} {xs xs' ov : List Int} {v u : Value} {i : Nat}
theorem AQ.on (h : AQ D w0 W db q S xs) (hb : Below W.heap.size W W') : AQ D w0 W' db q S xs := ⟨D.on h.is hb, h.be.trans (hb.mono h.be.size), h.ge⟩
theorem AQ.call (h : AQ D w0 W db q S xs) (hI : D.Is S' W' db q xs') (hs : ∀ k, S' k → S k ∨ W.heap.size ≤ k) (ht : Tch O W W') (hO : ∀ k, O k → S k ∨ W.heap.size ≤ k) : AQ D w0 W' db q S' xs' :=
  ⟨hI, h.be.trans (ht.below h.be.size (fun k e => (hO k e).elim (h.ge k) (fun e => Nat.le_trans h.be.size e))), fun k e => (hs k e).elim (h.ge k) (fun e => Nat.le_trans h.be.size e)⟩
theorem AS.on (h : AS D w0 W db q S xs xs' ov v u i) (hb : Below W.heap.size W W') : AS D w0 W' db q S xs xs' ov v u i := ⟨h.aq.on hb, h.was.on hb, h.ovr.on hb, h.up, h.a1, h.a2⟩
end
theorem room_even {q : Nat} (h : room (q : Int) = true) : q % 2 = 0 := by rcases room_cases h with h | h | h | h | h | h | h | h | h | h | h | h | h | h | h | h <;> omega
set_option maxRecDepth 20000 in
set_option maxHeartbeats 8000000 in
theorem ahead_go (D : DqApi) (rm : Int) (hrm : 0 ≤ rm ∧ rm ≤ 255) (pa : Option Addr) (na ca : Nat) (zs : List Int) (w : World) (hz : SlIs (fun _ => False) w (.slice pa na ca) zs) (hzn : na = zs.length) (hwf : ∀ z ∈ zs, -9223372036854775808 ≤ z ∧ z ≤ 9223372036854775807) (hn : na ≤ 150) :
    Calls Try.prog 5 #[.int .u8 rm, .slice pa na ca] w (Ans (.bool true) w) := by
  obtain ⟨p, hp, hpr, hp64⟩ := other_room rm hrm
  have HNew2 : Hid (∀ W, Calls Try.prog 10 #[.int .i64 p, .slice none 0 0] W (MadePost D.Is p [] (fun x => .tuple #[x, .int .i64 0]) W)) := fun W => by have := D.new_yes p _ [] W hpr (SlIs.nil _ W) (by simp); rw [List.take_nil] at this; exact this
  have HRp := Lib.hid (And.intro hpr (And.intro hp64 (room_even hpr)))
  have hp0 : (0 : Int) ≤ (p : Int) := by omega
  have hp1 : (p : Int) ≤ 64 := by omega
  have HZ := Lib.hid hz
  have HZn := Lib.hid (And.intro hzn hwf)
  have HN := Lib.hid hn
  have l1 : ¬ ((150 : Int) < (na : Int)) := by omega
  obtain ⟨rm0, rm1⟩ := hrm
  clear hpr hp64 hz hzn hwf hn
  go_enter Try.func5, Try.ntmps5
  go_wp2_with fail
  refine (HNew2.out _).mono ?_
  rintro e w1 ⟨db, S, rfl, hi, hg, hb1⟩
  have HS0 : Hid (AQ D w w1 db p S []) := ⟨hi, hb1, hg⟩
  clear hi hg hb1 hp
  go_wp2_with fail
  go_loopw [8] (fun v8 wr => ∃ i : Nat, i ≤ na ∧ v8 = .int .i64 i ∧ ∃ (S : Nat → Prop) (xs : List Int), Hid (Up xs i) ∧ Hid (AQ D w wr db p S xs)) (fun v8 _ => na - (intOf v8).toNat)
  case atStart => exact ⟨0, by omega, rfl, S, [], Lib.hid Up.nil, HS0⟩
  case round =>
    clear HS0
    obtain ⟨i, hi, rfl, S, xs, HU, HS⟩ := hrel
    by_cases hlt : i < na
    · have HK := Lib.hid hlt
      have i2 : (i : Int) < (na : Int) := by omega
      have i1 : (i : Int) ≤ 150 := by have := HN.out; omega
      have i0 : (0 : Int) ≤ (i : Int) := by omega
      clear hlt
      go_wp2_with fail
      refine (D.all_any HS.out.is).mono ?_
      rintro e w2 ⟨p9, n9, c9, rfl, hn9, hrow9, hb9⟩
      have HR9 := Lib.hid hrow9
      have HB9 := Lib.hid hb9
      have HN9 : Hid (n9 = xs.length) := hn9
      have HS2 := Lib.hid (HS.out.on hb9)
      have HL := Lib.hid (D.len HS.out.is)
      have HWs : Hid (SlIs S w2 (.slice p9 n9 c9) xs) := hrow9.sl (by have := HL.out; have := HRp.out; omega) (fun k e e2 => by have := (hrow9.lt k e).1; have := D.lt HS.out.is k e2; omega)
      obtain ⟨ab, ao, rfl, hq1, hq2, hq3, hq4, hcell⟩ := (HZ.out.on HS2.out.be).at (show 0 < na by have := HK.out; omega)
      have hc := hcell i HK.out
      have hmem : zs.getD i 0 ∈ zs := by
        have hl : i < zs.length := by have := HZn.out.1; have := HK.out; omega
        rw [getD_get hl]; exact List.getElem_mem hl
      have hw := HZn.out.2 _ hmem
      obtain ⟨z, hz⟩ : ∃ z, zs.getD i 0 = z := ⟨_, rfl⟩
      rw [hz] at hc hw
      have HPk := Lib.hid (fun W => pick_nat z 5 hw ⟨by omega, by omega⟩ W)
      clear hcell hmem hw hz hq1 hq2 hq3 hq4 hn9 hrow9 hb9 hi
      go_upto_block 2 with (fail)
      refine (HPk.out w2).mono ?_
      rintro e w2' ⟨k, hk, rfl, rfl⟩
      have hk5 : k = 0 ∨ k = 1 ∨ k = 2 ∨ k = 3 ∨ k = 4 := by omega
      clear hk
      go_upto_block 2 with (fail)
      go_cut [10] (fun v10 wx => ∃ (S' : Nat → Prop) (xs' ov : List Int) (p6 : Option Addr) (n6 c6 : Nat), v10 = .slice p6 n6 c6 ∧ Hid (n6 = ov.length) ∧ Hid (AS D w wx db p S' xs xs' ov (.slice p9 n9 c9) (.slice p6 n6 c6) i))
      case first =>
        rcases hk5 with rfl | rfl | rfl | rfl | rfl
        · go_wp2_with fail
          refine (D.put_any (i : Int) HS2.out.is).mono ?_
          rintro e w3 ⟨p5, n5, c5, S', rfl, hn5, hI, hrow, hap, hsub, ht⟩
          have HF : Hid (AS D w w3 db p S' xs (putL p xs i) (putO p xs i) (.slice p9 n9 c9) (.slice p5 n5 c5) i) := ⟨HS2.out.call hI hsub ht (fun k e => .inl e), (HWs.out.tch ht).less (fun _ e => e.elim), hrow.sl (by have := putO_len (q := p) (l := xs) (i : Int); have := HRp.out; omega) (fun _ _ e => e), HU.out.put p, fun k hk => ahead_put HU.out.nodup p _ hk, fun k m hk hm e => over_young HU.out HL.out hk hm e⟩
          have HN5 : Hid (n5 = (putO p xs i).length) := hn5
          clear hI hsub ht hn5 hrow hap
          go_wp2_with fail
          go_meet
          exact ⟨S', _, _, p5, n5, c5, rfl, HN5, HF⟩
        · go_wp2_with fail
          refine (D.put_any (i : Int) HS2.out.is).mono ?_
          rintro e w3 ⟨p5, n5, c5, S', rfl, hn5, hI, hrow, hap, hsub, ht⟩
          have HF : Hid (AS D w w3 db p S' xs (putL p xs i) (putO p xs i) (.slice p9 n9 c9) (.slice p5 n5 c5) i) := ⟨HS2.out.call hI hsub ht (fun k e => .inl e), (HWs.out.tch ht).less (fun _ e => e.elim), hrow.sl (by have := putO_len (q := p) (l := xs) (i : Int); have := HRp.out; omega) (fun _ _ e => e), HU.out.put p, fun k hk => ahead_put HU.out.nodup p _ hk, fun k m hk hm e => over_young HU.out HL.out hk hm e⟩
          have HN5 : Hid (n5 = (putO p xs i).length) := hn5
          clear hI hsub ht hn5 hrow hap
          go_wp2_with fail
          go_meet
          exact ⟨S', _, _, p5, n5, c5, rfl, HN5, HF⟩
        · go_wp2_with fail
          refine (D.put_any (i : Int) HS2.out.is).mono ?_
          rintro e w3 ⟨p5, n5, c5, S', rfl, hn5, hI, hrow, hap, hsub, ht⟩
          have HF : Hid (AS D w w3 db p S' xs (putL p xs i) (putO p xs i) (.slice p9 n9 c9) (.slice p5 n5 c5) i) := ⟨HS2.out.call hI hsub ht (fun k e => .inl e), (HWs.out.tch ht).less (fun _ e => e.elim), hrow.sl (by have := putO_len (q := p) (l := xs) (i : Int); have := HRp.out; omega) (fun _ _ e => e), HU.out.put p, fun k hk => ahead_put HU.out.nodup p _ hk, fun k m hk hm e => over_young HU.out HL.out hk hm e⟩
          have HN5 : Hid (n5 = (putO p xs i).length) := hn5
          clear hI hsub ht hn5 hrow hap
          go_wp2_with fail
          go_meet
          exact ⟨S', _, _, p5, n5, c5, rfl, HN5, HF⟩
        · go_wp2_with fail
          refine (D.get_any HS2.out.is).mono ?_
          rintro e w3 ⟨S', rfl, hI, hsub, ht⟩
          have HF : Hid (AS D w w3 db p S' xs xs.tail [] (.slice p9 n9 c9) (.slice none 0 0) i) := ⟨HS2.out.call hI hsub ht (fun k e => .inl e), (HWs.out.tch ht).less (fun _ e => e.elim), .nil _ _, HU.out.sub (List.tail_sublist _), fun k hk => ahead_tail HU.out.nodup hk, fun k m _ hm => by simp at hm⟩
          clear hI hsub ht
          go_wp2_with fail
          go_meet
          exact ⟨S', xs.tail, [], none, 0, 0, rfl, Lib.hid rfl, HF⟩
        · go_wp2_with fail
          refine (HNew2.out _).mono ?_
          rintro e w3 ⟨ob, R, rfl, hi3, hg3, hb3⟩
          have HB3 := Lib.hid hb3
          have HO3 : Hid (D.Is R w3 ob p [] ∧ ∀ k, R k → w2.heap.size ≤ k) := ⟨hi3, hg3⟩
          have HS3 := Lib.hid (HS2.out.on hb3)
          have HSl := Lib.hid (D.lt HS2.out.is)
          clear hi3 hg3 hb3
          go_wp2_with fail
          refine (D.copy_any HS3.out.is).mono ?_
          rintro e w4 ⟨cb, C, rfl, hi4, hg4, hb4⟩
          have HC4 : Hid (D.Is C w4 cb p xs ∧ ∀ k, C k → w3.heap.size ≤ k) := ⟨hi4, hg4⟩
          have HS4 := Lib.hid (HS3.out.on hb4)
          have HO4 := Lib.hid (D.on HO3.out.1 hb4)
          have HB4 := Lib.hid hb4
          clear hi4 hg4 hb4
          obtain ⟨vv, hvv⟩ : ∃ vv, mvV xs [] = vv := ⟨_, rfl⟩
          obtain ⟨ok, hok⟩ : ∃ ok, mvB xs [] = ok := ⟨_, rfl⟩
          have HOk := Lib.hid hok
          obtain ⟨ms, hms⟩ : ∃ ms, (stO xs).tail = ms := ⟨_, rfl⟩
          have HMs := Lib.hid hms
          have hmt : mvT p xs [] = ms := by rw [mv_moved HL.out, hms]
          have HMv := D.move_any HS4.out.is HO4.out (fun k e e2 => by have h1 := HSl.out k e; have h2 := HO3.out.2 k e2; omega)
          rw [hvv, hok, hmt] at HMv
          have HMw := Lib.hid HMv
          clear hvv hok hms hmt HMv
          go_wp2_with fail
          refine HMw.out.mono ?_
          rintro e w5 ⟨S', R', rfl, hI5, hJ5, hap5, hs5, hr5, ht5⟩
          have HT5 := Lib.hid ht5
          have HS5 : Hid (AQ D w w5 db p S' (mvF xs [])) := by
            refine ⟨hI5, HS4.out.be.trans (ht5.below HS4.out.be.size (fun k e => ?_)), fun k e => ?_⟩
            · rcases e with e | e
              · exact HS4.out.ge k e
              · have := HO3.out.2 k e; have := HS2.out.be.size; omega
            · rcases hs5 k e with e | e
              · exact HS4.out.ge k e
              · have := HS4.out.be.size; omega
          have HC5 : Hid (D.Is C w5 cb p xs) := D.tch HC4.out.1 ht5 (fun k e e2 => by
            have h1 := HC4.out.2 k e
            rcases e2 with e2 | e2
            · have := HSl.out k e2; have := HB3.out.size; omega
            · have := D.lt HO3.out.1 k e2; omega)
          have HJ5 := Lib.hid hJ5
          have HW5 : Hid (SlIs (fun _ => False) w5 (.slice p9 n9 c9) xs) := (((HWs.out.more (R := fun k => S k ∨ w2.heap.size ≤ k) (fun k e => e)).on (HB3.out.trans (HB4.out.mono HB3.out.size))).tch (ht5.wide (fun k e => by
            rcases e with e | e
            · exact .inl e
            · exact .inr (HO3.out.2 k e)))).less (fun _ e => e.elim)
          clear hI5 hJ5 hap5 hs5 hr5 ht5
          go_wp2_with fail
          refine (D.all_any HJ5.out).mono ?_
          rintro e w6 ⟨p7, n7, c7, rfl, hn7, hrow7, hb6⟩
          have HB6 := Lib.hid hb6
          have HM6 : Hid (SlIs (fun _ => False) w6 (.slice p7 n7 c7) ms) := hrow7.sl (by have := D.len HJ5.out; have := HRp.out; omega) (fun _ _ e => e)
          have HN7 : Hid (n7 = ms.length) := hn7
          have m7 : n7 ≤ 64 := by have := D.len HJ5.out; have := HRp.out; have := HN7.out; omega
          have HOkd : Hid (ok = decide (0 < n9)) := by
            show _ = _
            rw [← HOk.out]
            unfold mvB
            have := HN9.out
            by_cases h0 : xs = []
            · rw [decide_eq_false (fun e => e.1 h0), decide_eq_false (by rw [h0] at this; simp at this; omega)]
            · have := List.length_pos_iff.2 h0
              rw [decide_eq_true ⟨h0, rfl⟩, decide_eq_true (by omega)]
          have HF : Hid (∀ W, Below w6.heap.size w6 W → AS D w W db p S' xs (mvF xs []) [] (.slice p9 n9 c9) (.slice none 0 0) i) := fun W hb => ⟨(HS5.out.on HB6.out).on hb, (HW5.out.on HB6.out).on hb, .nil _ _, HU.out.mv, fun k hk => ahead_mv HU.out.nodup hk, fun k m _ hm => by simp at hm⟩
          have HAo : Hid (∀ W x, Below w6.heap.size w6 W → Calls Try.prog 24 #[.pointer (some ⟨ob, 0, none⟩), .int .i64 x] W (Ans (.int .i64 (aheadL ms x)) W)) := fun W x hb => D.ahead_any x (D.on (D.on HJ5.out HB6.out) hb)
          have HAc : Hid (∀ W x, Below w6.heap.size w6 W → Calls Try.prog 24 #[.pointer (some ⟨cb, 0, none⟩), .int .i64 x] W (Ans (.int .i64 (aheadL xs x)) W)) := fun W x hb => D.ahead_any x (D.on (D.on HC5.out HB6.out) hb)
          clear hn7 hrow7 hb6
          rcases Nat.eq_zero_or_pos n9 with h0 | h0
          · have e9 : ok = false := by rw [HOkd.out, h0]; rfl
            subst e9
            subst h0
            go_wp2_with fail
            go_loopw [17] (fun v17 wx => ∃ k : Nat, k ≤ n7 ∧ v17 = .int .i64 k ∧ Hid (Below w6.heap.size w6 wx)) (fun v17 _ => n7 - (intOf v17).toNat)
            case atStart => exact ⟨0, by omega, rfl, Below.refl _ _⟩
            case round =>
              obtain ⟨k, hk, rfl, HB⟩ := hrel
              by_cases hk7 : k < n7
              · obtain ⟨bm, om, rfl, z1, z2, z3, z4, hcell7⟩ := (HM6.out.on HB.out).at (by omega)
                have hkm : k < (stO xs).tail.length := by rw [HMs.out, ← HN7.out]; exact hk7
                have hah := mv_ahead HU.out hkm
                have hhalf := mv_half HL.out HRp.out.2.2 hkm
                rw [HMs.out] at hah
                obtain ⟨x, hx⟩ : ∃ x, ms.getD k 0 = x := ⟨_, rfl⟩
                have hcc := hcell7 k hk7
                rw [hx] at hah hcc
                have HAo1 : Hid (∀ W, Below wr.heap.size wr W → Calls Try.prog 24 #[.pointer (some ⟨ob, 0, none⟩), .int .i64 x] W (Ans (.int .i64 k) W)) := fun W hb => by
                  have := HAo.out W x (HB.out.trans (hb.mono HB.out.size))
                  rw [hah.1] at this; exact this
                have HAc1 : Hid (∀ W, Below wr.heap.size wr W → Calls Try.prog 24 #[.pointer (some ⟨cb, 0, none⟩), .int .i64 x] W (Ans (.int .i64 ((k : Int) + 1)) W)) := fun W hb => by
                  have := HAc.out W x (HB.out.trans (hb.mono HB.out.size))
                  rw [hah.2] at this; exact this
                have hbl := block_lt_of_cell hcc
                have HCc : Hid (∀ W, Below wr.heap.size wr W → W.cell? ⟨bm, om + k, none⟩ = some (.int .i64 x)) := fun W hb => by rw [hb.cell hbl]; exact hcc
                have HBd : Hid (Below wr.heap.size wr wr.drew) := (Below.refl _ _).drew
                obtain ⟨hh, hhd⟩ : ∃ hh : Nat, p / 2 = hh := ⟨_, rfl⟩
                have dv : (p : Int).tdiv 2 = (hh : Int) := by rw [Int.tdiv_eq_ediv_of_nonneg (by omega)]; omega
                have dw : IntKind.i64.wrap (hh : Int) = (hh : Int) := IntWalk.i64_in _ (by omega)
                have dx : (p : Int) / 2 = (hh : Int) := by omega
                have y1 : ¬ ((hh : Int) ≤ (k : Int)) := by omega
                have y2 : decide ((hh : Int) ≤ (k : Int)) = false := decide_eq_false y1
                have y7 : ¬ (hh ≤ k) := by omega
                have y8 : decide (hh ≤ k) = false := decide_eq_false y7
                have y3 : ¬ ((k : Int) + 1 ≤ (k : Int)) := by omega
                have y4 : decide ((k : Int) + 1 ≤ (k : Int)) = false := decide_eq_false y3
                have y5 : (k : Int) < (n7 : Int) := by omega
                have y6 : (0 : Int) ≤ (k : Int) := by omega
                have HK7 := Lib.hid hk7
                clear hhd hah hhalf hkm hx hcc hbl hcell7 z1 z2 z3 z4
                go_wp2_with fail
                go_region_held3 (fun w' => w'.cell? ⟨bm, om + k, none⟩ = some (.int .i64 x))
                  (first | (with_reducible exact HCc.out _ HBd.out) | (with_reducible exact HCc.out _ HB1.out) | (with_reducible exact HCc.out _ HB2.out) | (with_reducible exact HCc.out _ HB3.out))
                  (first | (go_at_call 24; first
                    | ((with_reducible refine (HAo1.out _ HBd.out).mono ?_); rintro e w7 ⟨rfl, hb⟩; have HB1 := Lib.hid (HBd.out.trans (hb.mono HBd.out.size)); clear hb)
                    | ((with_reducible refine (HAc1.out _ HB1.out).mono ?_); rintro e w8 ⟨rfl, hb⟩; have HB2 := Lib.hid (HB1.out.trans (hb.mono HB1.out.size)); clear hb)
                    | ((with_reducible refine (HAo1.out _ HB2.out).mono ?_); rintro e w9 ⟨rfl, hb⟩; have HB3 := Lib.hid (HB2.out.trans (hb.mono HB2.out.size)); clear hb)))
                go_wp2_with fail
                go_roundw
                case rel => exact ⟨k + 1, HK7.out, by go_num, Lib.hid (HB.out.trans (HB3.out.mono HB.out.size))⟩
                case measure =>
                  show _ < _
                  have := HK7.out
                  simp only [intOf]; omega
              · obtain rfl : k = n7 := by omega
                have HFw := Lib.hid (HF.out _ HB.out)
                clear hk7 hk HF HAo HAc HM6 HB
                go_wp2_with fail
                go_meet
                exact ⟨S', mvF xs [], [], none, 0, 0, rfl, Lib.hid rfl, HFw⟩
          · have e9 : ok = true := by rw [HOkd.out, decide_eq_true h0]
            subst e9
            have h1 : (0 : Int) < (n9 : Int) := by omega
            have h2 : decide ((0 : Int) < (n9 : Int)) = true := decide_eq_true h1
            have h3 : decide (0 < n9) = true := decide_eq_true h0
            go_wp2_with fail
            go_loopw [17] (fun v17 wx => ∃ k : Nat, k ≤ n7 ∧ v17 = .int .i64 k ∧ Hid (Below w6.heap.size w6 wx)) (fun v17 _ => n7 - (intOf v17).toNat)
            case atStart => exact ⟨0, by omega, rfl, Below.refl _ _⟩
            case round =>
              obtain ⟨k, hk, rfl, HB⟩ := hrel
              by_cases hk7 : k < n7
              · obtain ⟨bm, om, rfl, z1, z2, z3, z4, hcell7⟩ := (HM6.out.on HB.out).at (by omega)
                have hkm : k < (stO xs).tail.length := by rw [HMs.out, ← HN7.out]; exact hk7
                have hah := mv_ahead HU.out hkm
                have hhalf := mv_half HL.out HRp.out.2.2 hkm
                rw [HMs.out] at hah
                obtain ⟨x, hx⟩ : ∃ x, ms.getD k 0 = x := ⟨_, rfl⟩
                have hcc := hcell7 k hk7
                rw [hx] at hah hcc
                have HAo1 : Hid (∀ W, Below wr.heap.size wr W → Calls Try.prog 24 #[.pointer (some ⟨ob, 0, none⟩), .int .i64 x] W (Ans (.int .i64 k) W)) := fun W hb => by
                  have := HAo.out W x (HB.out.trans (hb.mono HB.out.size))
                  rw [hah.1] at this; exact this
                have HAc1 : Hid (∀ W, Below wr.heap.size wr W → Calls Try.prog 24 #[.pointer (some ⟨cb, 0, none⟩), .int .i64 x] W (Ans (.int .i64 ((k : Int) + 1)) W)) := fun W hb => by
                  have := HAc.out W x (HB.out.trans (hb.mono HB.out.size))
                  rw [hah.2] at this; exact this
                have hbl := block_lt_of_cell hcc
                have HCc : Hid (∀ W, Below wr.heap.size wr W → W.cell? ⟨bm, om + k, none⟩ = some (.int .i64 x)) := fun W hb => by rw [hb.cell hbl]; exact hcc
                have HBd : Hid (Below wr.heap.size wr wr.drew) := (Below.refl _ _).drew
                obtain ⟨hh, hhd⟩ : ∃ hh : Nat, p / 2 = hh := ⟨_, rfl⟩
                have dv : (p : Int).tdiv 2 = (hh : Int) := by rw [Int.tdiv_eq_ediv_of_nonneg (by omega)]; omega
                have dw : IntKind.i64.wrap (hh : Int) = (hh : Int) := IntWalk.i64_in _ (by omega)
                have dx : (p : Int) / 2 = (hh : Int) := by omega
                have y1 : ¬ ((hh : Int) ≤ (k : Int)) := by omega
                have y2 : decide ((hh : Int) ≤ (k : Int)) = false := decide_eq_false y1
                have y7 : ¬ (hh ≤ k) := by omega
                have y8 : decide (hh ≤ k) = false := decide_eq_false y7
                have y3 : ¬ ((k : Int) + 1 ≤ (k : Int)) := by omega
                have y4 : decide ((k : Int) + 1 ≤ (k : Int)) = false := decide_eq_false y3
                have y5 : (k : Int) < (n7 : Int) := by omega
                have y6 : (0 : Int) ≤ (k : Int) := by omega
                have HK7 := Lib.hid hk7
                clear hhd hah hhalf hkm hx hcc hbl hcell7 z1 z2 z3 z4
                go_wp2_with fail
                go_region_held3 (fun w' => w'.cell? ⟨bm, om + k, none⟩ = some (.int .i64 x))
                  (first | (with_reducible exact HCc.out _ HBd.out) | (with_reducible exact HCc.out _ HB1.out) | (with_reducible exact HCc.out _ HB2.out) | (with_reducible exact HCc.out _ HB3.out))
                  (first | (go_at_call 24; first
                    | ((with_reducible refine (HAo1.out _ HBd.out).mono ?_); rintro e w7 ⟨rfl, hb⟩; have HB1 := Lib.hid (HBd.out.trans (hb.mono HBd.out.size)); clear hb)
                    | ((with_reducible refine (HAc1.out _ HB1.out).mono ?_); rintro e w8 ⟨rfl, hb⟩; have HB2 := Lib.hid (HB1.out.trans (hb.mono HB1.out.size)); clear hb)
                    | ((with_reducible refine (HAo1.out _ HB2.out).mono ?_); rintro e w9 ⟨rfl, hb⟩; have HB3 := Lib.hid (HB2.out.trans (hb.mono HB2.out.size)); clear hb)))
                go_wp2_with fail
                go_roundw
                case rel => exact ⟨k + 1, HK7.out, by go_num, Lib.hid (HB.out.trans (HB3.out.mono HB.out.size))⟩
                case measure =>
                  show _ < _
                  have := HK7.out
                  simp only [intOf]; omega
              · obtain rfl : k = n7 := by omega
                have HFw := Lib.hid (HF.out _ HB.out)
                clear hk7 hk HF HAo HAc HM6 HB
                go_wp2_with fail
                go_meet
                exact ⟨S', mvF xs [], [], none, 0, 0, rfl, Lib.hid rfl, HFw⟩
      case rest =>
        obtain ⟨S', xs', ov, p6, n6, c6, rfl, HN6, HA⟩ := hcut
        have m9 : n9 ≤ 64 := by have := HN9.out; have := HL.out; have := HRp.out; omega
        have m6 : n6 ≤ 1000000000000000 := by have := HN6.out; have := HA.out.ovr.len; omega
        obtain ⟨hh, hhd⟩ : ∃ hh : Nat, p / 2 = hh := ⟨_, rfl⟩
        have HHd := Lib.hid hhd
        have dx : (p : Int) / 2 = (hh : Int) := by omega
        have dv : (p : Int).tdiv 2 = (hh : Int) := by rw [Int.tdiv_eq_ediv_of_nonneg (by omega)]; omega
        have dw : IntKind.i64.wrap (hh : Int) = (hh : Int) := IntWalk.i64_in _ (by omega)
        clear hhd hc HPk HS HS2 HWs HR9 HB9 hk5
        go_wp2_with fail
        go_loopw [18] (fun v18 wx => ∃ k : Nat, k ≤ n9 ∧ v18 = .int .i64 k ∧ Hid (Below wc.heap.size wc wx)) (fun v18 _ => n9 - (intOf v18).toNat)
        case atStart => exact ⟨0, by omega, rfl, Below.refl _ _⟩
        case round =>
          obtain ⟨k, hk, rfl, HB⟩ := hrel
          by_cases hk9 : k < n9
          · have HA1 := Lib.hid (HA.out.on HB.out)
            have hkx : k < xs.length := by rw [← HN9.out]; exact hk9
            obtain ⟨bm, om, rfl, z1, z2, z3, z4, hcell9⟩ := HA1.out.was.at (by omega)
            obtain ⟨x, hx⟩ : ∃ x, xs.getD k 0 = x := ⟨_, rfl⟩
            have hcc := hcell9 k hk9
            rw [hx] at hcc
            have ha1 := HA.out.a1 k hkx
            rw [hx] at ha1
            obtain ⟨y, hy⟩ : ∃ y, aheadL xs' x = y := ⟨_, rfl⟩
            rw [hy] at ha1
            have HAh : Hid (∀ W, Below wr.heap.size wr W → Calls Try.prog 24 #[.pointer (some ⟨db, 0, none⟩), .int .i64 x] W (Ans (.int .i64 y) W)) := fun W hb => by
              have := D.ahead_any x (D.on HA1.out.aq.is hb)
              rw [hy] at this; exact this
            have HX := Lib.hid (And.intro hx hkx)
            have y1 : ¬ ((k : Int) < y) := by omega
            have y2 : decide ((k : Int) < y) = false := decide_eq_false y1
            have y3 : (k : Int) < (n9 : Int) := by omega
            have y4 : (0 : Int) ≤ (k : Int) := by omega
            have HK9 := Lib.hid hk9
            have hbl := block_lt_of_cell hcc
            have HCc : Hid (∀ W, Below wr.heap.size wr W → W.cell? ⟨bm, om + k, none⟩ = some (.int .i64 x)) := fun W hb => by rw [hb.cell hbl]; exact hcc
            clear hx ha1 hy hkx hbl z1 z2 z3 z4 hcell9
            go_wp2_with fail
            refine (HAh.out _ (Below.refl _ _)).mono ?_
            rintro e w7 ⟨rfl, hb7⟩
            have HB7 := Lib.hid hb7
            clear hb7 hcc
            go_wp2_with fail
            obtain ⟨wo, rfl⟩ : ∃ wo : World, wo = w7 := ⟨_, rfl⟩
            go_loopw [19] (fun v19 wx => ∃ m : Nat, m ≤ n6 ∧ v19 = .int .i64 m ∧ Hid (Below wo.heap.size wo wx)) (fun v19 _ => n6 - (intOf v19).toNat)
            case atStart => exact ⟨0, by omega, rfl, Below.refl _ _⟩
            case round =>
              obtain ⟨m, hm, rfl, HBm⟩ := hrel
              by_cases hm6 : m < n6
              · have HBo := Lib.hid (HB7.out.trans (HBm.out.mono HB7.out.size))
                obtain ⟨bo, oo, rfl, z1, z2, z3, z4, hcello⟩ := ((HA1.out.on HBo.out).ovr).at (show 0 < n6 by omega)
                obtain ⟨t, ht⟩ : ∃ t, ov.getD m 0 = t := ⟨_, rfl⟩
                have hco := hcello m hm6
                rw [ht] at hco
                have hcx := HCc.out _ HBo.out
                have j3 : (m : Int) < (n6 : Int) := by omega
                have j4 : (0 : Int) ≤ (m : Int) := by omega
                have HM := Lib.hid hm6
                have hmo : m < ov.length := by rw [← HN6.out]; exact hm6
                by_cases htx : t = x
                · have hnot := HA.out.a2 k m HX.out.2 hmo (by rw [ht, HX.out.1, htx])
                  rw [HHd.out] at hnot
                  have k1 : ¬ ((k : Int) < (hh : Int)) := by omega
                  have k2 : decide ((k : Int) < (hh : Int)) = false := decide_eq_false k1
                  have k3 : decide (k < hh) = false := decide_eq_false hnot
                  subst htx
                  clear ht hnot hmo z1 z2 z3 z4 hcello
                  go_wp2_with fail
                  go_quiet (fail)
                  go_wp2_with fail
                  go_roundw
                  case rel => exact ⟨m + 1, HM.out, by go_num, below_drewN HBm.out _⟩
                  case measure =>
                    show _ < _
                    have := HM.out
                    simp only [intOf]; omega
                · have e1 : (t == x) = false := by simpa using htx
                  clear ht hmo z1 z2 z3 z4 hcello htx
                  go_wp2_with fail
                  go_quiet (fail)
                  go_wp2_with fail
                  go_roundw
                  case rel => exact ⟨m + 1, HM.out, by go_num, below_drewN HBm.out _⟩
                  case measure =>
                    show _ < _
                    have := HM.out
                    simp only [intOf]; omega
              · obtain rfl : m = n6 := by omega
                have HBo := Lib.hid (HB.out.trans ((HB7.out.trans (HBm.out.mono HB7.out.size)).mono HB.out.size))
                clear HBm hm6
                go_wp2_with fail
                go_roundw
                case rel => exact ⟨k + 1, HK9.out, by go_num, HBo⟩
                case measure =>
                  show _ < _
                  have := HK9.out
                  simp only [intOf]; omega
          · obtain rfl : k = n9 := by omega
            have HAe := Lib.hid (HA.out.on HB.out).aq
            have HUe := Lib.hid HA.out.up
            clear HA HB hk9
            go_wp2_with fail
            go_roundw
            case rel => exact ⟨i + 1, HK.out, by go_num, S', xs', HUe, HAe⟩
            case measure =>
              show _ < _
              have := HK.out
              simp only [intOf]; omega
    · have HBe := Lib.hid HS.out.be
      clear HS HU
      go_wp2_with fail
      refine (works_any D wr).mono ?_
      rintro e w9 ⟨rfl, hb9⟩
      have HB9 := Lib.hid (HBe.out.trans (hb9.mono HBe.out.size))
      clear hb9
      go_wp2
      go_ret
      exact ⟨rfl, HB9.out⟩
set_option maxHeartbeats 1000000 in
theorem ahead_long (D : DqApi) (rm : Int) (pa : Option Addr) (na ca : Nat) (w : World) (hn : 150 < na) :
    Calls Try.prog 5 #[.int .u8 rm, .slice pa na ca] w (Ans (.bool true) w) := by
  have l1 : (150 : Int) < (na : Int) := by omega
  go_enter Try.func5, Try.ntmps5
  go_wp2_with fail
  refine (works_any D w).mono ?_
  rintro e w1 ⟨rfl, hb1⟩
  have HB := Lib.hid hb1
  clear hb1
  go_wp2
  go_ret
  exact ⟨rfl, HB.out⟩
theorem aheadlaw_any (D : DqApi) (rm : Int) (hrm : 0 ≤ rm ∧ rm ≤ 255) (v : Value) (zs : List Int) (w : World) (hz : SlIs (fun _ => False) w v zs) (hwf : ∀ z ∈ zs, -9223372036854775808 ≤ z ∧ z ≤ 9223372036854775807) :
    Calls Try.prog 5 #[.int .u8 rm, v] w (Ans (.bool true) w) := by
  obtain ⟨pa, na, ca, rfl, hn⟩ := hid_slice hz
  by_cases h : na ≤ 150
  · exact ahead_go D rm hrm pa na ca zs w hz hn hwf h
  · exact ahead_long D rm pa na ca w (by omega)
/-- of whatever length -/
theorem aheadlaw_in (D : DqApi) (rm : Int) (hrm : 0 ≤ rm ∧ rm ≤ 255) (v : Value) (zs : List Int) (w : World) (hz : InSl w v zs) (hwf : ∀ z ∈ zs, -9223372036854775808 ≤ z ∧ z ≤ 9223372036854775807) :
    Calls Try.prog 5 #[.int .u8 rm, v] w (Ans (.bool true) w) := by
  by_cases h : zs.length ≤ 1000
  · exact aheadlaw_any D rm hrm v zs w (hz.sl h) hwf
  · obtain ⟨p, n, c, rfl, hn, -, -⟩ := hz
    exact ahead_long D rm p n c w (by omega)
end Go.Proofs.Ytjdbmedealhbjaa
