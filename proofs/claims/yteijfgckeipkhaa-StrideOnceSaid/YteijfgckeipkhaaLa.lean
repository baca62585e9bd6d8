/- The walk of the law StrideGcd. -/
import Derived.Test.YteijfgckeipkhaaSj
namespace Go.Proofs.Yteijfgckeipkhaa
open Go.RowKit Go.Sd

/-- the numbers, brought to -10000 up to 10000: the first k -/
def ownU (zs : List Int) (k : Nat) : List Int := (zs.take k).map fun z => z.tmod 10001
theorem ownU_snoc (zs : List Int) (k : Nat) (h : k < zs.length) : ownU zs (k + 1) = ownU zs k ++ [(zs.getD k 0).tmod 10001] := by
  unfold ownU; rw [take_more zs k h, List.map_append]; rfl
theorem ownU_length (zs : List Int) (k : Nat) (h : k ≤ zs.length) : (ownU zs k).length = k := by
  unfold ownU; rw [List.length_map, List.length_take]; omega
theorem ownU_bd (zs : List Int) (k : Nat) : ∀ z ∈ ownU zs k, z.natAbs ≤ 10000 := by
  intro z hz
  unfold ownU at hz
  rw [List.mem_map] at hz
  obtain ⟨y, _, rfl⟩ := hz
  have a1 := Int.tmod_lt_of_pos y (show (0 : Int) < 10001 by omega)
  have a2 := Int.lt_tmod_of_pos y (show (0 : Int) < 10001 by omega)
  omega

theorem own_lies_at {w : World} {B n : Nat} {v : Value} {zs : List Int} (h : w.ownsRow B 3 1 v n (zs.map (Value.int .i64))) (hn : n = zs.length) (hl : n ≤ 1000000000000000) : ∃ p cap, v = .slice p n cap ∧ Lies .i64 w p zs := by
  subst hn; exact own_lies h hl
theorem lgcd_long (n : Nat) (p : Option Addr) (c : Nat) (h : 6 < n) (w : World) :
    Calls Try.prog 3 #[.slice p n c] w (Ans (.bool true) w) := by
  go_enter Try.func3, Try.ntmps3
  go_wp2_with fail
  refine (works_any _).mono ?_
  rintro e w1 ⟨rfl, hb⟩
  have HB := Lib.hid hb
  clear hb
  go_wp2
  go_ret
  exact ⟨rfl, HB.out⟩

set_option maxHeartbeats 1000000 in
theorem lgcd_short (zs : List Int) (p : Option Addr) (c : Nat) (h : zs.length ≤ 6) (w : World) (hL : Lies .i64 w p zs) :
    Calls Try.prog 3 #[.slice p zs.length c] w (Ans (.bool true) w) := by
  obtain ⟨i0, hi, hz0, hz1, hz2⟩ := info_parts infoInt
  have HL := Lib.hid hL.at
  clear hL
  go_enter Try.func3, Try.ntmps3
  go_wp2_with fail
  go_loopw [3, 4] (fun v vi wr => ∃ k : Nat, k ≤ zs.length ∧ vi = .int .i64 k ∧ Hid (wr.ownsRow w.heap.size 3 1 v k ((ownU zs k).map (Value.int .i64))) ∧ Hid (Below w.heap.size w wr)) (fun _ vi _ => zs.length - (intOf vi).toNat)
  case atStart => exact ⟨0, by omega, rfl, World.ownsRow_nil _ _ _ _, Below.refl _ _⟩
  case round =>
    obtain ⟨k, hk, rfl, HO, HB⟩ := hrel
    obtain ⟨pp, cap2, rfl⟩ := slice_form HO.out
    have hsz := HB.out.size
    by_cases hlt : k < zs.length
    · obtain ⟨b, o, rfl, _, cc⟩ := (HL.out.on HB.out).cells k hlt
      have hs := ownU_snoc zs k hlt
      generalize zs.getD k 0 = z at cc hs
      have HS := Lib.hid hs
      clear hs
      go_wp2_with (at_builtin; refine wpList_append_own _ rfl (.tmp 15) (.tmp 21) 22 rfl w.heap.size 3 i0 (.int .i64 0) 1 8 Try.underlying22 hi hz0 hz1 hz2 rfl (by decide) _ _ _ rfl (HO.out.alloc _) ⟨wr.heap.size, 0, none⟩ 1 1 [.int .i64 (z.tmod 10001)] rfl rfl ?c1 ?c2 ?c3 ?c4 ?c5 ?_)
      case c1 => intro j u hu; rcases j with _ | j <;> simp at hu; subst hu; simp [World.cell?_alloc_new, Addr.add]
      case c2 => intro u hu; simp at hu; subst hu; rfl
      case c3 => unfold maxLen; omega
      case c4 => omega
      case c5 => simp; omega
      intro v' w5 hown' hgrow _
      have HB5 := Lib.hid ((HB.out.alloc hsz _).grown hgrow (by simp; omega) (fun j hj => (HO.out.lt j hj).1))
      have HO5 : Hid (w5.ownsRow w.heap.size 3 1 v' (k + 1) ((ownU zs (k + 1)).map (Value.int .i64))) := by
        show World.ownsRow _ _ _ _ _ _ _
        rw [HS.out, List.map_append]; exact hown'
      clear hown' hgrow cc
      go_wp2_with fail
      go_roundw
      case rel => exact ⟨k + 1, by omega, by go_num, HO5, HB5⟩
      case measure =>
        show _ < _
        simp only [intOf]; omega
    · obtain rfl : k = zs.length := by omega
      have hol := ownU_length zs zs.length (Nat.le_refl _)
      have hbd := ownU_bd zs zs.length
      have HOL : Hid (LiesB wr.heap.size .i64 wr pp (ownU zs zs.length)) := by
        obtain ⟨p', c', e, h2⟩ := own_lies_at HO.out hol.symm (by omega)
        cases e
        exact h2.at
      generalize ownU zs zs.length = ys at hol hbd HOL
      have HBD := Lib.hid hbd
      clear HO hbd
      go_wp2_with fail
      refine (gcd_at ys _ _ pp cap2 _ rfl hol.symm (fun z hz => Nat.le_trans (HBD.out z hz) (by decide)) HOL.out.lies).mono ?_
      rintro e w1 ⟨rfl, hb1⟩
      have HB1 := Lib.hid (bt HB.out hsz hb1)
      have s1 := HB1.out.size
      have HOL1 := Lib.hid (HOL.out.on hb1)
      clear hb1
      go_wp2_with fail
      have hr := rgcd_any ys pp cap2 w1 HBD.out HOL1.out.lies
      rw [hol] at hr
      refine hr.mono ?_
      clear hr
      rintro e w2 ⟨rfl, rfl⟩
      generalize gcdL ys = g
      go_wp2_with fail
      refine (works_any _).mono ?_
      rintro e w3 ⟨rfl, hb3⟩
      have HB3 := Lib.hid (bt HB1.out s1 hb3)
      clear hb3
      go_wp2
      go_ret
      exact ⟨rfl, HB3.out⟩

theorem law_gcd (zs : List Int) (p : Option Addr) (c : Nat) (w : World) (hL : ∀ j, j < zs.length → ∃ b o, p = some ⟨b, o, none⟩ ∧ w.cell? ⟨b, o + j, none⟩ = some (.int .i64 (zs.getD j 0))) :
    Calls Try.prog 3 #[.slice p zs.length c] w (Ans (.bool true) w) := by
  by_cases h : zs.length ≤ 6
  · exact lgcd_short zs p c h w ⟨by omega, hL⟩
  · exact lgcd_long _ p c (by omega) w
end Go.Proofs.Yteijfgckeipkhaa
