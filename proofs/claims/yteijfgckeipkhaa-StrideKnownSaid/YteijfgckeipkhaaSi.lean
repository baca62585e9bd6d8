/- The walk of the reference's Others. -/
import Derived.Test.YteijfgckeipkhaaSf
import Derived.Test.YteijfgckeipkhaaSg
namespace Go.Proofs.Yteijfgckeipkhaa
open Go.RowKit Go.Sd

theorem isIn_snoc (wo : List Int) (x : Int) (k : Nat) (h : k < wo.length) : isIn (wo.take (k + 1)) x = (isIn (wo.take k) x || (wo.getD k 0 == x)) := by
  rw [take_more wo k h]; unfold isIn
  rw [Bool.eq_iff_iff]
  simp only [List.contains_eq_mem, List.mem_append, List.mem_singleton, decide_eq_true_eq, Bool.or_eq_true, beq_iff_eq]
  constructor
  · rintro (h | h)
    · exact .inl h
    · exact .inr h.symm
  · rintro (h | h)
    · exact .inl h
    · exact .inr h.symm
/-- what is kept of the first k -/
def keptU (zs wo : List Int) (k : Nat) : List Int := (zs.take k).filter fun x => !isIn wo x
theorem keptU_yes {zs wo : List Int} {k : Nat} (h : k < zs.length) (hi : isIn wo (zs.getD k 0) = false) : keptU zs wo (k + 1) = keptU zs wo k ++ [zs.getD k 0] := by
  unfold keptU; rw [take_more zs k h, List.filter_append]; simp only [List.filter_cons, List.filter_nil, hi]; rfl
theorem keptU_no {zs wo : List Int} {k : Nat} (h : k < zs.length) (hi : isIn wo (zs.getD k 0) = true) : keptU zs wo (k + 1) = keptU zs wo k := by
  unfold keptU; rw [take_more zs k h, List.filter_append]; simp only [List.filter_cons, List.filter_nil, hi]; simp
theorem keptU_le (zs wo : List Int) (k : Nat) : (keptU zs wo k).length ≤ k :=
  Nat.le_trans (List.length_filter_le _ _) (List.length_take_le _ _)
theorem keptU_done (zs wo : List Int) : keptU zs wo zs.length = zs.filter fun x => !isIn wo x := by unfold keptU; rw [List.take_length]

set_option maxHeartbeats 1000000 in
theorem rothers_core (n d : Int) (zs wo : List Int) (hz : Hid (order n d = zs)) (hzl : zs.length ≤ 64) (p : Option Addr) (c : Nat) (w : World) (hL : Lies .i64 w p wo) :
    Calls Try.prog 12 #[.int .i64 n, .int .i64 d, .slice p wo.length c] w (RowPost (zs.filter fun x => !isIn wo x) w) := by
  obtain ⟨i0, hi, hz0, hz1, hz2⟩ := info_parts infoInt
  have hwl := hL.len
  have HL := Lib.hid hL.at
  have HS : Hid (∀ w, Calls Try.prog 11 #[.int .i64 n, .int .i64 d] w (RowPost zs w)) := fun w => by rw [← hz.out]; exact rorder_any n d w
  clear hL hz
  go_enter Try.func12, Try.ntmps12
  go_wp2_with fail
  refine (HS.out _).mono ?_
  rintro e w1 ⟨v, rfl, hO, hb⟩
  obtain ⟨pa, ca, rfl, hLa⟩ := own_lies hO (by omega)
  have HLa := Lib.hid hLa.at
  have HB := Lib.hid hb
  have hsz := hb.size
  clear hO hLa hb HS
  go_wp2_with fail
  go_loopw [7, 9] (fun v vi wr => ∃ k : Nat, k ≤ zs.length ∧ vi = .int .i64 k ∧ Hid (wr.ownsRow w1.heap.size 3 1 v (keptU zs wo k).length ((keptU zs wo k).map (Value.int .i64))) ∧ Hid (Below w1.heap.size w1 wr)) (fun _ vi _ => zs.length - (intOf vi).toNat)
  case atStart => exact ⟨0, by omega, rfl, World.ownsRow_nil _ _ _ _, Below.refl _ _⟩
  case round =>
    obtain ⟨k, hk, rfl, HO, HB1⟩ := hrel
    obtain ⟨l, hl⟩ : ∃ l, (keptU zs wo k).length = l := ⟨_, rfl⟩
    have hle := keptU_le zs wo k
    rw [hl] at HO hle
    obtain ⟨pp, cap2, rfl⟩ := slice_form HO.out
    have HLl := Lib.hid hl
    clear hl
    by_cases hlt : k < zs.length
    · obtain ⟨ba, oa, rfl, hba, ca0⟩ := (HLa.out.on HB1.out).cells k hlt
      obtain ⟨x, hx⟩ : ∃ x, zs.getD k 0 = x := ⟨_, rfl⟩
      rw [hx] at ca0
      have HX := Lib.hid hx
      have HCA := Lib.hid ca0
      clear hx ca0
      go_wp2_with fail
      obtain ⟨wo', rfl⟩ : ∃ wo' : World, wo' = wr := ⟨_, rfl⟩
      go_loopw [10, 11] (fun vb vj wr => ∃ j : Nat, j ≤ wo.length ∧ vj = .int .i64 j ∧ vb = .bool (isIn (wo.take j) x) ∧ Hid (Below wo'.heap.size wo' wr)) (fun _ vj _ => wo.length - (intOf vj).toNat)
      case atStart => exact ⟨0, by omega, rfl, rfl, Below.refl _ _⟩
      case round =>
        obtain ⟨j, hj, rfl, rfl, HB2⟩ := hrel
        by_cases hlt2 : j < wo.length
        · have hB02 : Below w.heap.size w wr := (HB.out.trans (HB1.out.mono hsz)).trans (HB2.out.mono (by have := HB1.out.size; omega))
          obtain ⟨bw, ow, rfl, hbw, cw⟩ := (HL.out.on hB02).cells j hlt2
          have ca1 : wr.cell? ⟨ba, oa + k, none⟩ = some (.int .i64 x) := by rw [HB2.out.cell (p := ⟨ba, oa + k, none⟩) (block_lt_of_cell HCA.out)]; exact HCA.out
          have hs := isIn_snoc wo x j hlt2
          generalize wo.getD j 0 = y at cw hs
          generalize isIn (wo.take j) x = bs at hs
          have HSn := Lib.hid hs
          clear hs hB02
          cases bs
          all_goals
            go_wp2_with fail
            go_quiet (fail)
            go_wp2_with fail
            go_roundw
            case rel => exact ⟨j + 1, by omega, by go_num, by rw [HSn.out]; rfl, below_drewN HB2.out _⟩
            case measure =>
              show _ < _
              simp only [intOf]; omega
        · obtain rfl : j = wo.length := by omega
          rw [List.take_length]
          have HB3 := Lib.hid (HB1.out.trans (HB2.out.mono HB1.out.size))
          have HO2 := Lib.hid (own_on HO.out HB2.out)
          have ca1 : wr.cell? ⟨ba, oa + k, none⟩ = some (.int .i64 x) := by rw [HB2.out.cell (p := ⟨ba, oa + k, none⟩) (block_lt_of_cell HCA.out)]; exact HCA.out
          have hsz3 := HB3.out.size
          clear HO HB1 HB2 HCA
          cases hb : isIn wo x with
          | true =>
            have hke := keptU_no hlt (wo := wo) (by rw [HX.out]; exact hb)
            have HO3 : Hid (wr.ownsRow w1.heap.size 3 1 (.slice pp l cap2) (keptU zs wo (k + 1)).length ((keptU zs wo (k + 1)).map (Value.int .i64))) := by
              show World.ownsRow _ _ _ _ _ _ _
              rw [hke, HLl.out]; exact HO2.out
            clear hke hb HO2
            go_wp2_with fail
            go_roundw
            case rel => exact ⟨k + 1, by omega, by go_num, HO3, HB3⟩
            case measure =>
              show _ < _
              simp only [intOf]; omega
          | false =>
            have hke := keptU_yes hlt (wo := wo) (by rw [HX.out]; exact hb)
            rw [HX.out] at hke
            have HK := Lib.hid hke
            clear hke hb
            go_wp2_with (at_builtin; refine wpList_append_own _ rfl (.tmp 41) (.tmp 46) 22 rfl w1.heap.size 3 i0 (.int .i64 0) 1 8 Try.underlying22 hi hz0 hz1 hz2 rfl (by decide) _ _ _ rfl (HO2.out.alloc _) ⟨wr.heap.size, 0, none⟩ 1 1 [.int .i64 x] rfl rfl ?c1 ?c2 ?c3 ?c4 ?c5 ?_)
            case c1 => intro j u hu; rcases j with _ | j <;> simp at hu; subst hu; simp [World.cell?_alloc_new, Addr.add]
            case c2 => intro u hu; simp at hu; subst hu; rfl
            case c3 => unfold maxLen; omega
            case c4 => omega
            case c5 => simp; omega
            intro v' w5 hown' hgrow _
            have HB5 := Lib.hid ((HB3.out.alloc hsz3 _).grown hgrow (by simp; omega) (fun j hj => (HO2.out.lt j hj).1))
            have HO5 : Hid (w5.ownsRow w1.heap.size 3 1 v' (keptU zs wo (k + 1)).length ((keptU zs wo (k + 1)).map (Value.int .i64))) := by
              show World.ownsRow _ _ _ _ _ _ _
              rw [HK.out, List.length_append, List.map_append, HLl.out]; exact hown'
            clear hown' hgrow ca1
            go_wp2_with fail
            go_roundw
            case rel => exact ⟨k + 1, by omega, by go_num, HO5, HB5⟩
            case measure =>
              show _ < _
              simp only [intOf]; omega
    · obtain rfl : k = zs.length := by omega
      have hO : Hid (wr.ownsRow w.heap.size 3 1 (.slice pp l cap2) (zs.filter fun x => !isIn wo x).length ((zs.filter fun x => !isIn wo x).map (Value.int .i64))) := by
        show World.ownsRow _ _ _ _ _ _ _
        rw [← keptU_done, HLl.out]; exact own_base HO.out hsz
      have HB5 := Lib.hid (HB.out.trans (HB1.out.mono hsz))
      clear HO
      go_wp2
      go_ret
      exact ⟨_, rfl, hO.out, HB5.out⟩

theorem rothers_any (n d : Int) (wo : List Int) (p : Option Addr) (c : Nat) (w : World) (hL : Lies .i64 w p wo) :
    Calls Try.prog 12 #[.int .i64 n, .int .i64 d, .slice p wo.length c] w (RowPost (others n d wo) w) :=
  rothers_core n d (order n d) wo rfl order_le p c w hL
end Go.Proofs.Yteijfgckeipkhaa
