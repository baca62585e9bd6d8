/- The walk of the closed law WordKnown. -/
import Derived.Test.YtpeikhoepbkggaaDoorLb
import Derived.Test.YtpeikhoepbkggaaDoorLc
namespace Go.Proofs.YtpeikhoepbkggaaDoor
open Go.RowKit Go.Wd Go.Tx

theorem Env.up {B : Nat} {w : World} (h : Env B w) : Env w.heap.size w := ⟨Nat.le_refl _, fun w' hb => h.tab w' (hb.mono h.size)⟩

/-- a number that a uint32 holds -/
def InU (a : Int) : Prop := 0 ≤ a ∧ a < 4294967296
theorem InU.wrap (x : Int) : InU (IntKind.u32.wrap x) := by unfold InU; rw [w32]; omega
theorem InU.mod (x : Int) : InU (x % 4294967296) := by unfold InU; omega
theorem InU.nat {r : Nat} (h : r < 4294967296) : InU (r : Int) := by unfold InU; omega
theorem InU.get {a : Int} (h : InU a) : ∃ r : Nat, a = r ∧ r < 4294967296 := by unfold InU at h; exact ⟨a.toNat, by omega, by omega⟩

theorem parts_any {B : Nat} (a b c d q : Int) (ha : InU a) (hb : InU b) (hc : InU c) (hd' : InU d) (w : World) (h : Env B w) :
    Calls Tryd.prog 3 #[.int .u32 a, .int .u32 b, .int .u32 c, .int .u32 d, .int .i64 q] w (Ans (.bool true) w) := by
  obtain ⟨hh, rfl, h1⟩ := ha.get
  obtain ⟨t, rfl, h2⟩ := hb.get
  obtain ⟨n, rfl, h3⟩ := hc.get
  obtain ⟨p, rfl, h4⟩ := hd'.get
  have e1 : hd (pk hh t) = hh := hd_pk h2
  have e2 : tl (pk hh t) = t := tl_pk h2
  have := law_parts (pk hh t) n p _ q (pk_lt h1 h2) h3 h4 rfl w h.up
  rw [e1, e2] at this
  exact this
theorem does_any {B : Nat} (x : Nat) (q : Int) (p : Option Addr) (n cap : Nat) (zs : List Int) (hn : n = zs.length) (hx : x < 18446744073709551616) (w : World) (h : Env B w) (hL : Lies .i64 w p zs) :
    Calls Tryd.prog 4 #[.int .u64 x, .int .i64 q, .slice p n cap] w (Ans (.bool true) w) := by
  subst hn
  exact law_does x q p cap zs hx (by have := hL.len; omega) w h.up hL.cells
theorem back_any {B : Nat} (a b c : Int) (p : Option Addr) (n cap : Nat) (zs : List Int) (hn : n = zs.length) (ha : InU a) (hb : InU b) (hc : 0 ≤ c ∧ c < 256) (w : World) (h : Env B w) (hL : Lies .i64 w p zs) :
    Calls Tryd.prog 5 #[.int .u32 a, .int .u32 b, .int .u8 c, .slice p n cap] w (Ans (.bool true) w) := by
  subst hn
  obtain ⟨hh, rfl, h1⟩ := ha.get
  obtain ⟨t, rfl, h2⟩ := hb.get
  obtain ⟨r, rfl⟩ : ∃ r : Nat, c = r := ⟨c.toNat, by omega⟩
  exact law_back hh t r p cap zs h1 h2 (by omega) (by have := hL.len; omega) w h.up hL.cells

/-- the row of ends, as it lies in block E -/
structure Ends (E : Nat) (w : World) : Prop where
  all : ∀ j, j < 11 → ∃ r : Nat, r < 4294967296 ∧ w.cell? ⟨E, j, none⟩ = some (.int .u32 (r : Int))
theorem Ends.on {E : Nat} {w w' : World} (h : Ends E w) (hb : Below w.heap.size w w') : Ends E w' :=
  ⟨fun j hj => by obtain ⟨r, h1, h2⟩ := h.all j hj; exact ⟨r, h1, cell_keep h2 hb⟩⟩
theorem ends_new (w : World) (t : TypeId) : Ends w.heap.size (w.alloc (.cells #[.int .u32 0, .int .u32 1, .int .u32 2, .int .u32 7, .int .u32 63, .int .u32 64, .int .u32 65, .int .u32 1000, .int .u32 2147483648, .int .u32 4294967294, .int .u32 4294967295] t)) := by
  refine ⟨fun j hj => ?_⟩
  rw [World.cell?_alloc_new]
  have : j = 0 ∨ j = 1 ∨ j = 2 ∨ j = 3 ∨ j = 4 ∨ j = 5 ∨ j = 6 ∨ j = 7 ∨ j = 8 ∨ j = 9 ∨ j = 10 := by omega
  rcases this with rfl | rfl | rfl | rfl | rfl | rfl | rfl | rfl | rfl | rfl | rfl
  · exact ⟨0, by decide, rfl⟩
  · exact ⟨1, by decide, rfl⟩
  · exact ⟨2, by decide, rfl⟩
  · exact ⟨7, by decide, rfl⟩
  · exact ⟨63, by decide, rfl⟩
  · exact ⟨64, by decide, rfl⟩
  · exact ⟨65, by decide, rfl⟩
  · exact ⟨1000, by decide, rfl⟩
  · exact ⟨2147483648, by decide, rfl⟩
  · exact ⟨4294967294, by decide, rfl⟩
  · exact ⟨4294967295, by decide, rfl⟩
theorem env_of4 {A1 A2 A3 : Prop} {B : Nat} {W w : World} (h : A1 ∧ A2 ∧ A3 ∧ Below B W w) : Below B W w := h.2.2.2
theorem env_of3 {A1 A2 A3 : Prop} {B : Nat} {W w : World} (h : A1 ∧ A2 ∧ A3 ∧ Below B W w) : Below B W w := h.2.2.2
theorem lies_of3 {A1 A2 A3 A4 : Prop} {p : Option Addr} {zs : List Int} {w : World} (h : A1 ∧ (Lies .i64 w p zs ∧ A2) ∧ A3 ∧ A4) : Lies .i64 w p zs := h.2.1.1
theorem infoInt : (Tryd.prog.info? 3).map (fun i => (i.zero, i.size, i.bytes)) = some (some (.int .i64 0), 1, 8) := by kernel_rfl
theorem kb_three {E b1 b2 b3 B : Nat} {v1 v2 v3 : Value} {W w w' : World} (h : (w.cell? ⟨E, b1, none⟩ = some v1 ∧ w.cell? ⟨E, b2, none⟩ = some v2 ∧ w.cell? ⟨E, b3, none⟩ = some v3) ∧ Ends E w ∧ B ≤ w.heap.size ∧ Below B W w) (hb : Below w.heap.size w w') :
    (w'.cell? ⟨E, b1, none⟩ = some v1 ∧ w'.cell? ⟨E, b2, none⟩ = some v2 ∧ w'.cell? ⟨E, b3, none⟩ = some v3) ∧ Ends E w' ∧ B ≤ w'.heap.size ∧ Below B W w' :=
  ⟨⟨cell_keep h.1.1 hb, cell_keep h.1.2.1 hb, cell_keep h.1.2.2 hb⟩, h.2.1.on hb, Nat.le_trans h.2.2.1 hb.size, h.2.2.2.trans (hb.mono h.2.2.1)⟩

theorem kb_last {E b1 B : Nat} {v1 : Value} {p : Option Addr} {zs : List Int} {W w w' : World} (h : (w.cell? ⟨E, b1, none⟩ = some v1) ∧ (Lies .i64 w p zs ∧ Ends E w) ∧ B ≤ w.heap.size ∧ Below B W w) (hb : Below w.heap.size w w') :
    (w'.cell? ⟨E, b1, none⟩ = some v1) ∧ (Lies .i64 w' p zs ∧ Ends E w') ∧ B ≤ w'.heap.size ∧ Below B W w' :=
  ⟨cell_keep h.1 hb, ⟨h.2.1.1.on hb, h.2.1.2.on hb⟩, Nat.le_trans h.2.2.1 hb.size, h.2.2.2.trans (hb.mono h.2.2.1)⟩
theorem Lies.take {k : IntKind} {w : World} {p : Option Addr} {zs : List Int} (h : Lies k w p zs) (n : Nat) : Lies k w p (zs.take n) := by
  refine ⟨by rw [List.length_take]; have := h.len; omega, fun j hj => ?_⟩
  rw [List.length_take] at hj
  obtain ⟨b, o, h1, h2⟩ := h.cells j (by omega)
  refine ⟨b, o, h1, ?_⟩
  rw [h2]
  congr 2
  simp [List.getD, List.getElem?_take, show j < n by omega]
theorem pack_inu (a b : Int) (ha : InU a) (hb : InU b) (w : World) :
    Calls Tryd.prog 8 #[.int .u32 a, .int .u32 b] w fun e w' => e = .returned (.int .u64 (pk a.toNat b.toNat : Nat)) ∧ w = w' := by
  unfold InU at ha hb
  exact pack_at a b a.toNat b.toNat (by omega) (by omega) (by omega) (by omega) w
theorem pk_inu {a b : Int} (ha : InU a) (hb : InU b) : pk a.toNat b.toNat < 18446744073709551616 := by
  unfold InU at ha hb
  exact pk_lt (by omega) (by omega)
theorem lies_own {w : World} {B n : Nat} {v : Value} {zs : List Int} (h : w.ownsRow B 3 1 v n (zs.map (Value.int .i64))) (hn : 0 < n) (hl : zs.length = n) (hb : n ≤ 1000) : ∃ g cap, v = .slice (some ⟨g, 0, none⟩) n cap ∧ n ≤ cap ∧ cap ≤ maxLen ∧ Lies .i64 w (some ⟨g, 0, none⟩) zs := by
  rcases h.2 with ⟨hv, hz⟩ | ⟨g, cap, cur, hv, hB, hg, hc, hc2, r⟩
  · omega
  · subst hv
    refine ⟨g, cap, rfl, hc, hc2, ⟨by omega, fun j hj => ⟨g, 0, rfl, ?_⟩⟩⟩
    have := h.cellAt j (by omega)
    rw [Nat.zero_add, this, List.getElem?_map]
    simp [List.getD, hj]

theorem step_alloc {B : Nat} {W w w' : World} {o : Obj} (h : B ≤ w.heap.size ∧ Below B W w) (hb : Below (w.alloc o).heap.size (w.alloc o) w') : B ≤ w'.heap.size ∧ Below B W w' := by
  have h1 := h.2.alloc h.1 o
  have h2 : w.heap.size ≤ (w.alloc o).heap.size := by simp
  exact ⟨Nat.le_trans h.1 (Nat.le_trans h2 hb.size), h1.trans (hb.mono (Nat.le_trans h.1 h2))⟩

set_option maxRecDepth 100000 in
set_option maxHeartbeats 4000000 in
theorem law_known (w : World) (h : Env w.heap.size w) :
    Calls Tryd.prog 6 #[] w (Ans (.bool true) w) := by
  have HE := Lib.hid h
  clear h
  obtain ⟨i0, hi, hz0, hz1, hz2⟩ := info_parts infoInt
  have HI := Lib.hid (And.intro hi (And.intro hz0 (And.intro hz1 hz2)))
  clear hi hz0 hz1 hz2
  go_enter Tryd.func6, Tryd.ntmps6
  go_wp2_with fail
  have HN := Lib.hid (ends_new w 22)
  go_loopw [2, 3] (fun vk vi wr => ∃ (i : Nat) (kk : Int), i ≤ 11 ∧ 0 ≤ kk ∧ kk < 100003 ∧ vk = .int .i64 kk ∧ vi = .int .i64 i ∧ Hid (Ends w.heap.size wr) ∧ Hid (w.heap.size ≤ wr.heap.size ∧ Below w.heap.size w wr)) (fun _ vi _ => 11 - (intOf vi).toNat)
  case atStart => exact ⟨0, 1, by omega, by omega, by omega, rfl, rfl, HN, by simp, (Below.refl _ _).alloc (Nat.le_refl _) _⟩
  case round =>
    obtain ⟨i, kk, hi, hk1, hk2, rfl, rfl, HA, HB⟩ := hrel
    clear HN
    by_cases hlt : i < 11
    · obtain ⟨wo, rfl⟩ : ∃ wo : World, wo = wr := ⟨_, rfl⟩
      have m5 : (i : Int) < 11 := by omega
      go_wp2_with fail
      go_loopw [2, 4] (fun vk vn wr => ∃ (n : Nat) (kk : Int), n ≤ 12 ∧ 0 ≤ kk ∧ kk < 100003 ∧ vk = .int .i64 kk ∧ vn = .int .u32 n ∧ Hid (Ends w.heap.size wr) ∧ Hid (w.heap.size ≤ wr.heap.size ∧ Below w.heap.size w wr)) (fun _ vn _ => 12 - (intOf vn).toNat)
      case atStart => exact ⟨0, kk, by omega, by omega, by omega, rfl, rfl, HA, HB⟩
      case round =>
        obtain ⟨n, kj, hn, hj1, hj2, rfl, rfl, HA2, HB2⟩ := hrel
        by_cases hlt2 : n < 12
        · obtain ⟨r1, hr1, c1⟩ := HA2.out.all i hlt
          obtain ⟨j, hj, ej⟩ : ∃ j : Nat, j < 11 ∧ ((i : Int) + 1) % 11 = (j : Int) := ⟨(i + 1) % 11, Nat.mod_lt _ (by decide), by omega⟩
          obtain ⟨l, hl, el⟩ : ∃ l : Nat, l < 11 ∧ (10 : Int) - (i : Int) = (l : Int) := ⟨10 - i, by omega, by omega⟩
          obtain ⟨r2, hr2, c2⟩ := HA2.out.all j hj
          obtain ⟨r3, hr3, c3⟩ := HA2.out.all l hl
          have HS := Lib.hid (kb_three ⟨⟨c1, c2, c3⟩, HA2.out, HB2.out⟩ (Below.refl wr.heap.size wr).drew)
          have m1 : IntKind.i64.wrap ((i : Int) + 1) = (i : Int) + 1 := IntWalk.i64_in _ (by omega)
          have m2 : ((i : Int) + 1).tmod 11 = (j : Int) := by rw [Int.tmod_eq_emod_of_nonneg (by omega), ej]
          have m3 : IntKind.i64.wrap ((10 : Int) - (i : Int)) = (l : Int) := by rw [el]; exact IntWalk.i64_in _ (by omega)
          have m4 : (0 : Int) ≤ (i : Int) := by omega
          have m6 : (0 : Int) ≤ (j : Int) := by omega
          have m7 : (j : Int) < 11 := by omega
          have m8 : (0 : Int) ≤ (l : Int) := by omega
          have m9 : (l : Int) < 11 := by omega
          have ma : (0 : Int) ≤ (n : Int) := by omega
          have mb : (n : Int) ≤ 64 := by omega
          clear c1 c2 c3 ej el
          go_wp2_with fail
          go_region_held3 (fun w' => (w'.cell? ⟨w.heap.size, i, none⟩ = some (.int .u32 (r1 : Int)) ∧ w'.cell? ⟨w.heap.size, j, none⟩ = some (.int .u32 (r2 : Int)) ∧ w'.cell? ⟨w.heap.size, l, none⟩ = some (.int .u32 (r3 : Int))) ∧ Ends w.heap.size w' ∧ w.heap.size ≤ w'.heap.size ∧ Below w.heap.size w w') (first | exact HS.out | assumption | exact kb_three (by assumption) (by assumption))
            (first
              | (go_at_call 3; refine (parts_any (B := w.heap.size) _ _ _ _ _ (by first | exact InU.nat hr1 | exact InU.wrap _ | exact InU.mod _ | (unfold InU; omega)) (by first | exact InU.nat hr3 | exact InU.wrap _ | exact InU.mod _ | (unfold InU; omega)) (by first | exact InU.wrap _ | exact InU.mod _ | (unfold InU; omega)) (by first | exact InU.wrap _ | exact InU.mod _ | (unfold InU; omega)) _ (HE.out.on (env_of4 (by assumption)))).mono ?_; rintro e w5 ⟨rfl, hb5⟩))
          rename_i hh
          have HS2 := Lib.hid hh
          clear hh HS m1 m2 m3 m4 m6 m7 m8 m9 hj hl hr2 hr3
          go_wp2_with fail
          go_loopw [2, 5, 6] (fun vk vl vm wr => ∃ (mm : Nat) (kq : Int) (zs : List Int), mm ≤ 120 ∧ 0 ≤ kq ∧ kq < 100003 ∧ vk = .int .i64 kq ∧ vm = .int .i64 mm ∧ zs.length = mm ∧ Hid (wr.ownsRow w5.heap.size 3 1 vl mm (zs.map (Value.int .i64))) ∧ Hid (w5.heap.size ≤ wr.heap.size ∧ Below w5.heap.size w5 wr)) (fun _ _ vm _ => 120 - (intOf vm).toNat)
          case atStart => exact ⟨0, kj, [], by omega, hj1, hj2, rfl, rfl, rfl, World.ownsRow_nil _ _ _ _, Nat.le_refl _, Below.refl _ _⟩
          case round =>
            obtain ⟨mm, kq, zs, hmm, hq1, hq2, rfl, rfl, hzl, HO, HD⟩ := hrel
            by_cases hlt3 : mm < 120
            · obtain ⟨hi, hz0, hz1, hz2⟩ := HI.out
              have hsz := HD.out.1
              go_wp2_with (at_builtin; refine wpList_append_own _ rfl (.tmp 69) (.tmp 72) 46 rfl w5.heap.size 3 i0 (.int .i64 0) 1 8 Tryd.underlying46 hi hz0 hz1 hz2 rfl (by decide) _ _ _ rfl (HO.out.alloc _) ⟨wr.heap.size, 0, none⟩ 1 1 [.int .i64 (kq % 6)] rfl rfl ?c1 ?c2 ?c3 ?c4 ?c5 ?_)
              case c1 => intro j u hu; rcases j with _ | j <;> simp at hu; subst hu; simp [World.cell?_alloc_new, Addr.add]
              case c2 => intro u hu; simp at hu; subst hu; rfl
              case c3 => unfold maxLen; omega
              case c4 => omega
              case c5 => simp; omega
              intro v' w6 hown' hgrow _
              have hb6 : Below w5.heap.size w5 w6 := (HD.out.2.alloc hsz _).grown hgrow (by simp; omega) (fun j hj => (HO.out.lt j hj).1)
              have hs6 : w5.heap.size ≤ w6.heap.size := hb6.size
              have ho6 : w6.ownsRow w5.heap.size 3 1 v' (mm + 1) ((zs ++ [kq % 6]).map (Value.int .i64)) := by rw [List.map_append]; exact hown'
              have HO6 := Lib.hid ho6
              have HD6 := Lib.hid (And.intro hs6 hb6)
              have hz1' : (zs ++ [kq % 6]).length = mm + 1 := by rw [List.length_append, hzl]; rfl
              have HZ1 := Lib.hid hz1'
              clear hown' hgrow ho6 hs6 hb6 HO HD hsz hi hz0 hz1 hz2 hz1' hzl
              go_wp2_with fail
              go_roundw
              case rel => exact ⟨mm + 1, _, zs ++ [kq % 6], by omega, Int.emod_nonneg _ (by decide), Int.emod_lt_of_pos _ (by decide), rfl, by go_num, HZ1, HO6, HD6⟩
              case measure =>
                show _ < _
                simp only [intOf]; omega
            · obtain rfl : mm = 120 := by omega
              obtain ⟨g, cap, rfl, hcap, hcap2, hLies⟩ := lies_own HO.out (by decide) hzl (by decide)
              have hS5 := kb_last ⟨cell_keep HS2.out.1.1 HD.out.2, ⟨hLies, HS2.out.2.1.on HD.out.2⟩, Nat.le_trans HS2.out.2.2.1 HD.out.1, HS2.out.2.2.2.trans (HD.out.2.mono HS2.out.2.2.1)⟩ (Below.refl wr.heap.size wr).drew
              have HS5 := Lib.hid hS5
              have HZ := Lib.hid hzl
              have HLen : (zs.take 100).length = 100 := by rw [List.length_take]; omega
              have HL100 := Lib.hid HLen
              obtain ⟨s7, hs7, es7⟩ : ∃ s : Nat, s < 7 ∧ (n : Int).tmod 7 = (s : Int) := ⟨n % 7, Nat.mod_lt _ (by decide), by rw [Int.tmod_eq_emod_of_nonneg (by omega)]; omega⟩
              have k1 : (0 : Int) ≤ (s7 : Int) := by omega
              have k2 : (s7 : Int) ≤ 64 := by omega
              have k3 : IntKind.u8.wrap (n : Int) = (n : Int) := by rw [IntKind.wrap_u8]; omega
              have m4 : (0 : Int) ≤ (i : Int) := by omega
              have m6 : (100 : Int) ≤ (cap : Int) := by omega
              have hslice : ∀ W, (Instr.slice 46 (.slice (some ⟨g, 0, none⟩) 120 cap) none (some (.int .i64 100)) none).run Tryd.prog W = .ok (.slice (some ⟨g, 0, none⟩) 100 cap) W := fun W => by go_simp
              clear hS5 hLies hzl HLen HO HD
              go_wp2_with fail
              go_region_held3 (fun w' => (w'.cell? ⟨w.heap.size, i, none⟩ = some (.int .u32 (r1 : Int))) ∧ (Lies .i64 w' (some ⟨g, 0, none⟩) zs ∧ Ends w.heap.size w') ∧ w.heap.size ≤ w'.heap.size ∧ Below w.heap.size w w') (first | exact HS5.out | assumption | exact kb_last (by assumption) (by assumption))
                (first
                  | (go_at_call 8; refine (pack_inu _ _ (InU.nat hr1) (by first | exact InU.wrap _ | exact InU.mod _ | (unfold InU; omega)) _).mono ?_; rintro e w6 ⟨rfl, rfl⟩)
                  | (go_at_call 4; refine (does_any (B := w.heap.size) _ _ _ 100 cap (zs.take 100) HL100.out.symm (pk_inu (InU.nat hr1) (by first | exact InU.wrap _ | exact InU.mod _ | (unfold InU; omega))) _ (HE.out.on (env_of3 (by assumption))) (Lies.take (lies_of3 (by assumption)) 100)).mono ?_; rintro e w6 ⟨rfl, hb6⟩)
                  | (go_at_call 5; refine (back_any (B := w.heap.size) _ _ _ _ 120 cap zs HZ.out.symm (InU.nat hr1) (by first | exact InU.wrap _ | exact InU.mod _ | (unfold InU; omega)) (by omega) _ (HE.out.on (env_of3 (by assumption))) (lies_of3 (by assumption))).mono ?_; rintro e w6 ⟨rfl, hb6⟩))
              rename_i hh7
              have HA7 := Lib.hid hh7.2.1.2
              have HB7 := Lib.hid (And.intro hh7.2.2.1 hh7.2.2.2)
              clear hh7 HS5 es7 k1 k2 k3 m4 m6 hslice
              go_wp2_with fail
              go_roundw
              case rel => exact ⟨n + 1, kq, by omega, by omega, by omega, rfl, by go_num, HA7, HB7⟩
              case measure =>
                show _ < _
                simp only [intOf]; omega
        · go_wp2_with fail
          go_roundw
          case rel => exact ⟨i + 1, kj, by omega, by omega, by omega, rfl, by go_num, HA2, HB2⟩
          case measure =>
            show _ < _
            simp only [intOf]; omega
    · clear hk1 hk2 HA
      go_wp2_with fail
      have hrow : Lies .i64 (wr.alloc (.cells #[.int .i64 3, .int .i64 3, .int .i64 3, .int .i64 4, .int .i64 3, .int .i64 3, .int .i64 1, .int .i64 3, .int .i64 4, .int .i64 2, .int .i64 3, .int .i64 4, .int .i64 3] 3)) (some ⟨wr.heap.size, 0, none⟩) [3, 3, 3, 4, 3, 3, 1, 3, 4, 2, 3, 4, 3] := by
        refine ⟨by simp, fun j hj => ⟨_, _, rfl, ?_⟩⟩
        rw [World.cell?_alloc_new]
        have : j = 0 ∨ j = 1 ∨ j = 2 ∨ j = 3 ∨ j = 4 ∨ j = 5 ∨ j = 6 ∨ j = 7 ∨ j = 8 ∨ j = 9 ∨ j = 10 ∨ j = 11 ∨ j = 12 := by simp at hj; omega
        rcases this with rfl | rfl | rfl | rfl | rfl | rfl | rfl | rfl | rfl | rfl | rfl | rfl | rfl <;> rfl
      have HR := Lib.hid hrow
      have HBr := Lib.hid (And.intro (show w.heap.size ≤ (wr.alloc (.cells #[.int .i64 3, .int .i64 3, .int .i64 3, .int .i64 4, .int .i64 3, .int .i64 3, .int .i64 1, .int .i64 3, .int .i64 4, .int .i64 2, .int .i64 3, .int .i64 4, .int .i64 3] 3)).heap.size by have := HB.out.1; simp; omega) (HB.out.2.alloc HB.out.1 (.cells #[.int .i64 3, .int .i64 3, .int .i64 3, .int .i64 4, .int .i64 3, .int .i64 3, .int .i64 1, .int .i64 3, .int .i64 4, .int .i64 2, .int .i64 3, .int .i64 4, .int .i64 3] 3)))
      clear hrow HB
      obtain ⟨wq, rfl⟩ : ∃ wq : World, wq = wr := ⟨_, rfl⟩
      go_loopw [8] (fun vn wr => ∃ n : Nat, n ≤ 9 ∧ vn = .int .u32 n ∧ Hid (Lies .i64 wr (some ⟨wq.heap.size, 0, none⟩) [3, 3, 3, 4, 3, 3, 1, 3, 4, 2, 3, 4, 3]) ∧ Hid (w.heap.size ≤ wr.heap.size ∧ Below w.heap.size w wr)) (fun vn _ => 9 - (intOf vn).toNat)
      case atStart => exact ⟨0, by omega, rfl, HR, HBr⟩
      case round =>
        obtain ⟨n, hn, rfl, HL, HB⟩ := hrel
        clear HR HBr
        by_cases hlt4 : n < 9
        · go_wp2_with fail
          refine (back_any (B := w.heap.size) _ _ _ _ 13 13 [3, 3, 3, 4, 3, 3, 1, 3, 4, 2, 3, 4, 3] rfl (by unfold InU; omega) (InU.nat (by omega)) (by omega) _ (HE.out.on HB.out.2) HL.out).mono ?_
          rintro e w6 ⟨rfl, hb6⟩
          have HL6 := Lib.hid (HL.out.on hb6)
          have HB6 := Lib.hid (And.intro (Nat.le_trans HB.out.1 hb6.size) (HB.out.2.trans (hb6.mono HB.out.1)))
          clear hb6 HL HB
          go_wp2_with fail
          refine (back_any (B := w.heap.size) _ _ _ _ 13 13 [3, 3, 3, 4, 3, 3, 1, 3, 4, 2, 3, 4, 3] rfl (by unfold InU; omega) (InU.nat (by omega)) (by omega) _ (HE.out.on HB6.out.2) HL6.out).mono ?_
          rintro e w7 ⟨rfl, hb7⟩
          have HL7 := Lib.hid (HL6.out.on hb7)
          have HB7 := Lib.hid (And.intro (Nat.le_trans HB6.out.1 hb7.size) (HB6.out.2.trans (hb7.mono HB6.out.1)))
          clear hb7 HL6 HB6
          go_wp2_with fail
          go_roundw
          case rel => exact ⟨n + 1, by omega, by go_num, HL7, HB7⟩
          case measure =>
            show _ < _
            simp only [intOf]; omega
        · clear HL
          go_wp2_with fail
          refine (does_any (B := w.heap.size) 1099511627776 6 _ 1 1 [1] rfl (by decide) _ (HE.out.on (HB.out.2.alloc HB.out.1 _)) (lies_one 1 wr 3)).mono ?_
          rintro e w6 ⟨rfl, hb6⟩
          have HB6 := Lib.hid (step_alloc HB.out hb6)
          clear hb6 HB
          go_wp2_with fail
          refine (does_any (B := w.heap.size) 0 (-1) _ 1 1 [3] rfl (by decide) _ (HE.out.on (HB6.out.2.alloc HB6.out.1 _)) (lies_one 3 w6 3)).mono ?_
          rintro e w7 ⟨rfl, hb7⟩
          have HB7 := Lib.hid (step_alloc HB6.out hb7)
          clear hb7 HB6
          go_wp2_with fail
          refine (works_any _ (HE.out.on HB7.out.2)).mono ?_
          rintro e w8 ⟨rfl, hb8⟩
          have HB8 := Lib.hid (HB7.out.2.trans (hb8.mono HB7.out.1))
          clear hb8 HB7
          go_wp2
          go_ret
          exact ⟨rfl, HB8.out⟩
end Go.Proofs.YtpeikhoepbkggaaDoor
