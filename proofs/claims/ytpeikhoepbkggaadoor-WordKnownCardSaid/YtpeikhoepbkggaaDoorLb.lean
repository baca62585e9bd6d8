/- The walk of the law WordBack. -/
import Derived.Test.YtpeikhoepbkggaaDoorLa
import Derived.Test.YtpeikhoepbkggaaDoorMb
namespace Go.Proofs.YtpeikhoepbkggaaDoor
open Go.RowKit Go.Wd Go.Tx

theorem head_is {x n : Nat} (hn : hd x = n) (hx : x < 18446744073709551616) (w : World) :
    Calls Tryd.prog 11 #[.int .u64 x] w fun e w' => e = .returned (.int .u32 (n : Nat)) ∧ w = w' := by
  subst hn; exact head_any x hx w
theorem vmin (a b : Nat) : Value.int .u32 (min (a : Int) (b : Int)) = Value.int .u32 ((min a b : Nat) : Int) := by congr 1; omega
theorem back_long {B : Nat} (a b c : Int) (p : Option Addr) (len cap : Nat) (hl : 200 < len) (hm : len ≤ 9223372036854775807) (w : World) (h : Env B w) :
    Calls Tryd.prog 5 #[.int .u32 a, .int .u32 b, .int .u8 c, .slice p len cap] w (Ans (.bool true) w) := by
  go_enter Tryd.func5, Tryd.ntmps5
  go_wp2_with (go_at_call 26; refine (works_any _ h).mono ?_; rintro e w1 ⟨rfl, hb1⟩)
  go_ret
  exact ⟨rfl, hb1⟩

theorem room_of (c : Nat) : ∃ q : Nat, room (q : Int) = true ∧ 2 ≤ q ∧ q ≤ 64 ∧ q % 2 = 0 ∧ (2 : Int) * 2 ^ ((c : Int) % 6).toNat = (q : Int) := by
  have h : c % 6 = 0 ∨ c % 6 = 1 ∨ c % 6 = 2 ∨ c % 6 = 3 ∨ c % 6 = 4 ∨ c % 6 = 5 := by omega
  have e : ((c : Int) % 6).toNat = c % 6 := by omega
  rw [e]
  rcases h with h | h | h | h | h | h <;> rw [h]
  · exact ⟨2, by decide⟩
  · exact ⟨4, by decide⟩
  · exact ⟨8, by decide⟩
  · exact ⟨16, by decide⟩
  · exact ⟨32, by decide⟩
  · exact ⟨64, by decide⟩

theorem first_is (hh s q : Nat) (h1 : hh < 4294967296) (h2 : s ≤ q) (h3 : q ≤ 64) : pk hh ((hh + s) % 4294967296) < 18446744073709551616 ∧ ln (pk hh ((hh + s) % 4294967296)) = s ∧ hd (pk hh ((hh + s) % 4294967296)) = hh := by
  have ht : (hh + s) % 4294967296 < 4294967296 := Nat.mod_lt _ (by decide)
  refine ⟨pk_lt h1 ht, ?_, hd_pk ht⟩
  unfold ln
  rw [hd_pk ht, tl_pk ht]
  omega

set_option maxRecDepth 100000 in
set_option maxHeartbeats 2000000 in
theorem back_short (hh size c : Nat) (p : Option Addr) (cap : Nat) (zs : List Int) (h1 : hh < 4294967296) (h2 : size < 4294967296) (h3 : c < 256) (hl : zs.length ≤ 200) (w : World) (h : Env w.heap.size w) (hL : Lies .i64 w p zs) :
    Calls Tryd.prog 5 #[.int .u32 hh, .int .u32 size, .int .u8 c, .slice p zs.length cap] w (Ans (.bool true) w) := by
  have HL := Lib.hid hL.at
  have HE := Lib.hid h
  clear h hL
  obtain ⟨q, hr, hq1, hq2, hq3, hq⟩ := room_of c
  have hw1 : IntKind.i64.wrap (2 * 2 ^ ((c : Int) % 6).toNat) = (q : Int) := by rw [hq]; exact IntWalk.i64_in _ (by omega)
  have hw2 : wrap64 (2 * 2 ^ ((c : Int) % 6).toNat) = (q : Int) := by rw [hq]; exact IntWalk.wrap64_in _ ⟨by omega, by omega⟩
  have HR := Lib.hid hr
  clear hr hq
  go_enter Tryd.func5, Tryd.ntmps5
  obtain ⟨s, hs⟩ : ∃ s, size % (q + 1) = s := ⟨_, rfl⟩
  have hsq : s ≤ q := by have := Nat.mod_lt size (show 0 < q + 1 by omega); omega
  have hsi : (size : Int) % ((q : Int) + 1) = (s : Int) := by rw [← hs]; simp
  have hx := first_is hh s q h1 hsq hq2
  obtain ⟨x0, hx0⟩ : ∃ x, pk hh ((hh + s) % 4294967296) = x := ⟨_, rfl⟩
  rw [hx0] at hx
  have HX := Lib.hid hx
  have HP := Lib.hid hx0
  clear hs hx hx0
  obtain ⟨B, hB⟩ : ∃ B, w.heap.size = B := ⟨_, rfl⟩
  go_wp2_with fail
  clear hw1 hw2
  refine (pack_at _ _ hh ((hh + s) % 4294967296) rfl (by omega) h1 (Nat.mod_lt _ (by decide)) _).mono ?_
  rw [HP.out]
  rintro e w' ⟨rfl, rfl⟩
  clear hsi
  go_wp2_with fail
  refine (len_is HX.out.2.1 HX.out.1 _).mono ?_
  rintro e w' ⟨rfl, rfl⟩
  go_wp2_with fail
  refine (older_any s (by omega) _).mono ?_
  rintro e w' ⟨rfl, rfl⟩
  obtain ⟨old, hold⟩ : ∃ o, older s = o := ⟨_, rfl⟩
  rw [hold]
  have HO := Lib.hid hold
  clear hold
  go_wp2_with fail
  refine (len_is HX.out.2.1 HX.out.1 _).mono ?_
  rintro e w' ⟨rfl, rfl⟩
  go_wp2_with fail
  go_loopw [12, 13, 14, 15] (fun vw vl vg vi wr => ∃ (k x least : Nat) (g : Bool), k ≤ zs.length ∧ vi = .int .i64 k ∧ vw = .int .u64 x ∧ vl = .int .u32 least ∧ vg = .bool g ∧ x < 18446744073709551616 ∧ Hid (Inv q s hh k x least g) ∧ Hid (Below w.heap.size w wr)) (fun _ _ _ vi _ => zs.length - (intOf vi).toNat)
  case atStart =>
    refine ⟨0, x0, s, false, by omega, rfl, rfl, rfl, rfl, HX.out.1, ?_, Below.refl _ _⟩
    have hst := Inv.start (q := q) HX.out.1 (by rw [HX.out.2.1]; exact hsq)
    rw [HX.out.2.1, HX.out.2.2] at hst
    exact hst
  case round =>
    obtain ⟨k, x, least, g, hk, rfl, rfl, rfl, rfl, hxl, HI0, hB⟩ := hrel
    by_cases hlt : k < zs.length
    · obtain ⟨b, o, rfl, hbl, hc⟩ := (HL.out.on hB.out).cells k hlt
      obtain ⟨z, hz⟩ : ∃ z, zs.getD k 0 = z := ⟨_, rfl⟩
      rw [hz] at hc
      clear hz
      have hst := HI0.out.step hq2 hq3 z
      have hdo : doW x q [z] = stp q x z := by unfold doW; rw [if_pos HR.out]; rfl
      obtain ⟨x', hx'⟩ : ∃ y, stp q x z = y := ⟨_, rfl⟩
      rw [hx'] at hst hdo
      obtain ⟨m, hm⟩ : ∃ m, ln x' = m := ⟨_, rfl⟩
      obtain ⟨a', ha'⟩ : ∃ a, hd x' = a := ⟨_, rfl⟩
      obtain ⟨a, ha⟩ : ∃ a, hd x = a := ⟨_, rfl⟩
      have hxl' := hst.lt
      have hmq := hst.len
      rw [hm] at hmq
      have hback : x' = x0 → (g || !(a' == a)) = false ∧ old ≤ min least m := by
        intro e
        have h9 := hst
        rw [hm, ha', ha] at h9
        subst e
        have e1 := HX.out.2.1
        have e2 := HX.out.2.2
        rw [← e1, ← e2] at h9
        have := h9.back (by omega) hxl' hq3
        rw [e1, HO.out] at this
        exact this
      rw [hm, ha', ha] at hst
      have HD := Lib.hid hdo
      have HM := Lib.hid hm
      have HA' := Lib.hid ha'
      have HA := Lib.hid ha
      have HI := Lib.hid hst
      clear hst hdo hm ha' ha hx' HI0
      by_cases hxe : x' = x0
      · subst hxe
        obtain ⟨q1, q2⟩ := hback rfl
        have hg : g = false := by cases g <;> simp_all
        have haa : a' = a := by cases g <;> simp_all
        subst hg; subst haa
        clear hback q1
        have HI2 : Inv q s hh (k + 1) x' (min least m) false := by have := HI.out; simpa using this
        have HI := Lib.hid HI2
        clear HI2
        go_wp2_with fail
        refine (do_is HD.out hxl rfl _ _ _ (lies_one z wr 3)).mono ?_
        rintro e w2 ⟨rfl, hb2⟩
        have HB2 := Lib.hid (hB.out.trans (((Below.refl _ _).alloc (Nat.le_refl _) _ |>.trans (hb2.mono (by simp))).mono hB.out.size))
        clear hb2 hc
        go_wp2_with (first
          | (go_at_call 13; refine (len_is HM.out hxl' _).mono ?_; rintro e w' ⟨rfl, rfl⟩)
          | (go_at_call 11; first | ((with_reducible refine (head_is HA'.out hxl' _).mono ?_); rintro e w' ⟨rfl, rfl⟩) | ((with_reducible refine (head_is HA.out hxl _).mono ?_); rintro e w' ⟨rfl, rfl⟩)))
        go_roundw
        case rel => exact ⟨k + 1, x', min least m, _, by omega, by go_num, rfl, vmin least m, rfl, hxl', HI, HB2⟩
        case measure =>
          show _ < _
          simp only [intOf]; omega
      · have hne : ((x' : Int) == (x0 : Int)) = false := by
          cases hcc : ((x' : Int) == (x0 : Int)) with
          | false => rfl
          | true => have := eq_of_beq hcc; omega
        clear hback
        cases g with
        | true =>
          have HI2 : Inv q s hh (k + 1) x' (min least m) true := by have := HI.out; simpa using this
          have HI := Lib.hid HI2
          clear HI2
          go_wp2_with fail
          refine (do_is HD.out hxl rfl _ _ _ (lies_one z wr 3)).mono ?_
          rintro e w2 ⟨rfl, hb2⟩
          have HB2 := Lib.hid (hB.out.trans (((Below.refl _ _).alloc (Nat.le_refl _) _ |>.trans (hb2.mono (by simp))).mono hB.out.size))
          clear hb2 hc
          go_wp2_with (first
            | (go_at_call 13; refine (len_is HM.out hxl' _).mono ?_; rintro e w' ⟨rfl, rfl⟩)
            | (go_at_call 11; first | ((with_reducible refine (head_is HA'.out hxl' _).mono ?_); rintro e w' ⟨rfl, rfl⟩) | ((with_reducible refine (head_is HA.out hxl _).mono ?_); rintro e w' ⟨rfl, rfl⟩)))
          go_roundw
          case rel => exact ⟨k + 1, x', min least m, _, by omega, by go_num, rfl, vmin least m, rfl, hxl', HI, HB2⟩
          case measure =>
            show _ < _
            simp only [intOf]; omega
        | false =>
          by_cases hae : a' = a
          · subst hae
            have HI2 : Inv q s hh (k + 1) x' (min least m) false := by have := HI.out; simpa using this
            have HI := Lib.hid HI2
            clear HI2
            go_wp2_with fail
            refine (do_is HD.out hxl rfl _ _ _ (lies_one z wr 3)).mono ?_
            rintro e w2 ⟨rfl, hb2⟩
            have HB2 := Lib.hid (hB.out.trans (((Below.refl _ _).alloc (Nat.le_refl _) _ |>.trans (hb2.mono (by simp))).mono hB.out.size))
            clear hb2 hc
            go_wp2_with (first
              | (go_at_call 13; refine (len_is HM.out hxl' _).mono ?_; rintro e w' ⟨rfl, rfl⟩)
              | (go_at_call 11; first | ((with_reducible refine (head_is HA'.out hxl' _).mono ?_); rintro e w' ⟨rfl, rfl⟩) | ((with_reducible refine (head_is HA.out hxl _).mono ?_); rintro e w' ⟨rfl, rfl⟩)))
            go_roundw
            case rel => exact ⟨k + 1, x', min least m, _, by omega, by go_num, rfl, vmin least m, rfl, hxl', HI, HB2⟩
            case measure =>
              show _ < _
              simp only [intOf]; omega
          · have hanb : ((a' : Int) == (a : Int)) = false := by
              cases hcc : ((a' : Int) == (a : Int)) with
              | false => rfl
              | true => have := eq_of_beq hcc; omega
            have hanb3 : ((a' : Int) != (a : Int)) = true := by rw [bne, hanb]; rfl
            have hanb2 : (a' == a) = false := by
              cases hcc : (a' == a) with
              | false => rfl
              | true => exact absurd (eq_of_beq hcc) hae
            have HI2 : Inv q s hh (k + 1) x' (min least m) true := by have := HI.out; rw [hanb2] at this; simpa using this
            have HI := Lib.hid HI2
            clear HI2 hanb2
            go_wp2_with fail
            refine (do_is HD.out hxl rfl _ _ _ (lies_one z wr 3)).mono ?_
            rintro e w2 ⟨rfl, hb2⟩
            have HB2 := Lib.hid (hB.out.trans (((Below.refl _ _).alloc (Nat.le_refl _) _ |>.trans (hb2.mono (by simp))).mono hB.out.size))
            clear hb2 hc
            go_wp2_with (first
              | (go_at_call 13; refine (len_is HM.out hxl' _).mono ?_; rintro e w' ⟨rfl, rfl⟩)
              | (go_at_call 11; first | ((with_reducible refine (head_is HA'.out hxl' _).mono ?_); rintro e w' ⟨rfl, rfl⟩) | ((with_reducible refine (head_is HA.out hxl _).mono ?_); rintro e w' ⟨rfl, rfl⟩)))
            go_roundw
            case rel => exact ⟨k + 1, x', min least m, _, by omega, by go_num, rfl, vmin least m, rfl, hxl', HI, HB2⟩
            case measure =>
              show _ < _
              simp only [intOf]; omega
    · go_wp2_with (first
        | (go_at_call 13; refine (len_is HX.out.2.1 HX.out.1 _).mono ?_; rintro e w' ⟨rfl, rfl⟩))
      refine (works_any _ (HE.out.on hB.out)).mono ?_
      rintro e w2 ⟨rfl, hb2⟩
      have HB2 := Lib.hid (hB.out.trans (hb2.mono hB.out.size))
      clear hb2
      go_wp2
      go_ret
      exact ⟨rfl, HB2.out⟩

theorem law_back (hh size c : Nat) (p : Option Addr) (cap : Nat) (zs : List Int) (h1 : hh < 4294967296) (h2 : size < 4294967296) (h3 : c < 256) (hm : zs.length ≤ 9223372036854775807) (w : World) (h : Env w.heap.size w)
    (hL : ∀ j, j < zs.length → ∃ b o, p = some ⟨b, o, none⟩ ∧ w.cell? ⟨b, o + j, none⟩ = some (.int .i64 (zs.getD j 0))) :
    Calls Tryd.prog 5 #[.int .u32 hh, .int .u32 size, .int .u8 c, .slice p zs.length cap] w (Ans (.bool true) w) := by
  by_cases hl : 200 < zs.length
  · exact back_long hh size c p zs.length cap hl hm w h
  · exact back_short hh size c p cap zs h1 h2 h3 (by omega) w h ⟨by omega, hL⟩
end Go.Proofs.YtpeikhoepbkggaaDoor
