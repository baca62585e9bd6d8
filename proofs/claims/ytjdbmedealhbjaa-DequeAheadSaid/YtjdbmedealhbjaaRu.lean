/- Room, Len and Lay of a ring (layer 8). -/
import Derived.Test.YtjdbmedealhbjaaRv
import Derived.Test.YtjdbmedealhbjaaDt
import Derived.Test.YtjdbmedealhbjaaRp
import Derived.Lib.QuietBelow
import Derived.LoopTactic
import Derived.Deep.Cut
import Derived.Deep.DeepCutAuto
import Derived.Deep.CutBlock
namespace Go.Proofs.Ytjdbmedealhbjaa
open Go.RowKit Go.Wd Go.Dk

theorem room_ring {w : World} {db g x q : Nat} {xs : List Int} (r : RingAt w db g x q xs) : Calls Try.prog 25 #[dptr db] w (fun e w' => e = .returned (.int .i64 q) ∧ w = w') := by
  obtain ⟨cp, c1, hcp, -⟩ := r.c1
  clear r
  go_enter Try.func25, Try.ntmps25
  go_wp2_with fail
  go_ret
  exact ⟨rfl, rfl⟩
theorem room_none (w : World) : Calls Try.prog 25 #[.pointer none] w (fun e w' => e = .returned (.int .i64 0) ∧ w = w') := by
  go_enter Try.func25, Try.ntmps25
  go_wp2_with fail
  go_ret
  exact ⟨rfl, rfl⟩
theorem len_ring {w : World} {db g x q : Nat} {xs : List Int} (r : RingAt w db g x q xs) : Calls Try.prog 26 #[dptr db] w (fun e w' => e = .returned (.int .i64 xs.length) ∧ w = w') := by
  obtain ⟨n, hn⟩ : ∃ n, xs.length = n := ⟨_, rfl⟩
  have hq := room_bd r.rm
  have hle := r.le
  have HS := Lib.hid (size_any r.c0 r.hx r.hl)
  rw [hn] at HS hle ⊢
  have hw2 : IntKind.i64.wrap (n : Int) = (n : Int) := IntWalk.i64_in _ (by omega)
  clear r hn
  go_enter Try.func26, Try.ntmps26
  go_wp2_with (go_at_call 40; refine HS.out.mono ?_; rintro e w' ⟨rfl, rfl⟩)
  go_ret
  exact ⟨rfl, rfl⟩
theorem len_none (w : World) : Calls Try.prog 26 #[.pointer none] w (fun e w' => e = .returned (.int .i64 0) ∧ w = w') := by
  go_enter Try.func26, Try.ntmps26
  go_wp2_with fail
  go_ret
  exact ⟨rfl, rfl⟩
theorem lay_none (w : World) (S : Nat → Prop) (v : Value) (l : List Int) (hv : SlIs S w v l) : Calls Try.prog 19 #[.pointer none, v] w (Ans (.int .i64 0) w) := by
  obtain ⟨pl, nl, cl, rfl, hnl⟩ := hid_slice hv
  have hcap : nl ≤ cl := by obtain ⟨p, c, e, h1, _⟩ := hv; cases e; exact h1
  have hcapi : (nl : Int) ≤ (cl : Int) := by omega
  have h0 : ¬ ((nl : Int) < 0) := by omega
  clear hv hnl
  rcases Nat.eq_zero_or_pos nl with rfl | hp
  · go_enter Try.func19, Try.ntmps19
    go_wp2_with (first
      | (go_at_call 25; refine (room_none _).mono ?_; rintro e w' ⟨rfl, rfl⟩)
      | (go_at_call 26; refine (len_none _).mono ?_; rintro e w' ⟨rfl, rfl⟩))
    all_goals
      go_loopw [20] (fun vi wr => vi = .int .i64 0 ∧ wr = w) (fun _ _ => 0)
      case atStart => exact ⟨rfl, rfl⟩
      case round =>
        obtain ⟨rfl, rfl⟩ := hrel
        go_wp2_with fail
        go_ret
        exact ⟨rfl, Below.refl _ _⟩
  · have hpi : (0 : Int) < (nl : Int) := by omega
    have hpn : ¬ ((nl : Int) ≤ 0) := by omega
    go_enter Try.func19, Try.ntmps19
    go_wp2_with (first
      | (go_at_call 25; refine (room_none _).mono ?_; rintro e w' ⟨rfl, rfl⟩)
      | (go_at_call 26; refine (len_none _).mono ?_; rintro e w' ⟨rfl, rfl⟩))
    all_goals
      go_loopw [20] (fun vi wr => vi = .int .i64 0 ∧ wr = w) (fun _ _ => 0)
      case atStart => exact ⟨rfl, rfl⟩
      case round =>
        obtain ⟨rfl, rfl⟩ := hrel
        go_wp2_with fail
        go_ret
        exact ⟨rfl, Below.refl _ _⟩
set_option maxRecDepth 20000 in
set_option maxHeartbeats 4000000 in
theorem lay_ring {w : World} {db g x q : Nat} {xs : List Int} (r : RingAt w db g x q xs) (v : Value) (l : List Int) (hv : SlIs (fun k => k = db ∨ k = g) w v l) (hl : l.length ≤ 1000000000000000) : Calls Try.prog 19 #[dptr db, v] w (fun e w' => e = .returned (.int .i64 (layN q xs l)) ∧ Hid (∃ x', RingAt w' db g x' q (layL q xs l)) ∧ Hid (Tch (fun k => k = db ∨ k = g) w w')) := by
  obtain ⟨pl, nl, cl, rfl, hnl⟩ := hid_slice hv
  obtain ⟨rm, hrm⟩ : ∃ rm, xs.length + rm = q := ⟨q - xs.length, by have := r.le; omega⟩
  have hb := room_bd r.rm
  obtain ⟨m, hm, hm1, hm2⟩ : ∃ m, layN q xs l = m ∧ m ≤ nl ∧ m ≤ rm := ⟨_, rfl, by rw [hnl]; exact layN_le q xs l, by unfold layN; omega⟩
  have hcap : nl ≤ cl := by obtain ⟨p, c, e, h1, _⟩ := hv; cases e; exact h1
  have hcapi : (nl : Int) ≤ (cl : Int) := by omega
  have hw1 : IntKind.i64.wrap ((q : Int) - (xs.length : Int)) = (rm : Int) := by rw [IntWalk.i64_in _ (by omega)]; omega
  have HRm := Lib.hid (room_ring r)
  have HLn := Lib.hid (len_ring r)
  have HR := Lib.hid r
  have HV := Lib.hid hv
  have HM := Lib.hid hm
  have hm1i : (m : Int) ≤ (nl : Int) := by omega
  have hmc : m ≤ cl := by omega
  have hmci : (m : Int) ≤ (cl : Int) := by omega
  have hdis : (rm < nl ∧ m = rm) ∨ (¬ (rm < nl) ∧ m = nl) := by
    have := hnl
    unfold layN at hm
    omega
  have HNL := Lib.hid hnl
  rw [hm]
  clear r hv hm hl hnl
  go_enter Try.func19, Try.ntmps19
  go_upto_region 1 with (fail)
  go_cut [5] (fun v5 wc => v5 = .int .i64 m ∧ wc = w)
  case first =>
    rcases hdis with ⟨d1, rfl⟩ | ⟨d1, rfl⟩
    · have d1i : (m : Int) < (nl : Int) := by omega
      have d2i : ¬ ((nl : Int) < (m : Int)) := by omega
      have d3i : ¬ ((nl : Int) ≤ (m : Int)) := by omega
      go_wp2_with (first
        | (go_at_call 25; refine HRm.out.mono ?_; rintro e w' ⟨rfl, rfl⟩)
        | (go_at_call 26; refine HLn.out.mono ?_; rintro e w' ⟨rfl, rfl⟩))
      go_meet
      exact ⟨rfl, rfl⟩
    · have d1i : ¬ ((rm : Int) < (m : Int)) := by omega
      by_cases d2 : m = rm
      · subst d2
        go_wp2_with (first
          | (go_at_call 25; refine HRm.out.mono ?_; rintro e w' ⟨rfl, rfl⟩)
          | (go_at_call 26; refine HLn.out.mono ?_; rintro e w' ⟨rfl, rfl⟩))
        go_meet
        exact ⟨rfl, rfl⟩
      · have d2i : (m : Int) < (rm : Int) := by omega
        have d3i : (m : Int) ≤ (rm : Int) := by omega
        go_wp2_with (first
          | (go_at_call 25; refine HRm.out.mono ?_; rintro e w' ⟨rfl, rfl⟩)
          | (go_at_call 26; refine HLn.out.mono ?_; rintro e w' ⟨rfl, rfl⟩))
        go_meet
        exact ⟨rfl, rfl⟩
  case rest =>
    clear hdis hw1
    obtain ⟨rfl, hwc⟩ := hcut
    obtain rfl : w = wc := hwc.symm
    have HT0 : Hid ((∃ x', RingAt w db g x' q (xs ++ l.take 0)) ∧ SlIs (fun k => k = db ∨ k = g) w (.slice pl nl cl) l ∧ Tch (fun k => k = db ∨ k = g) w w) :=
      ⟨⟨x, by rw [List.take_zero, List.append_nil]; exact HR.out⟩, HV.out, .of _ (Below.refl _ _)⟩
    clear HR HV HRm HLn
    go_wp2_with fail
    go_loopw [20] (fun vi wr => ∃ k : Nat, k ≤ m ∧ vi = .int .i64 k ∧ Hid ((∃ x', RingAt wr db g x' q (xs ++ l.take k)) ∧ SlIs (fun k => k = db ∨ k = g) wr (.slice pl nl cl) l ∧ Tch (fun k => k = db ∨ k = g) w wr)) (fun vi _ => m - (intOf vi).toNat)
    case atStart => exact ⟨0, by omega, rfl, HT0⟩
    case round =>
      clear HT0
      obtain ⟨k, hk, rfl, HT⟩ := hrel
      by_cases hlt : k < m
      · have hkl : k < l.length := by rw [← HNL.out]; omega
        obtain ⟨⟨y, hr⟩, hs, hT⟩ := HT.out
        obtain ⟨b, o, rfl, hbn, hcx⟩ : ∃ b o, pl = some ⟨b, o, none⟩ ∧ ¬ (b = db ∨ b = g) ∧ wr.cell? ⟨b, o + k, none⟩ = some (.int .i64 (l.getD k 0)) := by
          obtain ⟨p', c', e, _, _, _, h5⟩ := hs
          cases e
          exact h5.cells k hkl
        obtain ⟨z, hz⟩ : ∃ z, l.getD k 0 = z := ⟨_, rfl⟩
        rw [hz] at hcx
        have hnl2 : (xs ++ l.take k).length = xs.length + k := by rw [List.length_append, List.length_take]; omega
        have c0 := hr.c0
        obtain ⟨t, ht⟩ : ∃ t, tl y = t := ⟨_, rfl⟩
        obtain ⟨s, hsq⟩ : ∃ s, t % q = s := ⟨_, rfl⟩
        have HTl : Hid (∀ w, Calls Try.prog 43 #[.int .u64 y] w fun e w' => e = .returned (.int .u32 (t : Nat)) ∧ w = w') := by
          rw [← ht]; exact tail_any y hr.hx
        have hsl := dslot_any hr t (by rw [← ht]; exact tl_lt y)
        rw [hsq] at hsl
        have HSl : Hid (Calls Try.prog 42 #[dptr db, .int .u32 t] wr (fun e w' => e = .returned (.pointer (some ⟨g, s, none⟩)) ∧ Hid (Below wr.heap.size wr w') ∧ (∃ z0, w'.cell? ⟨g, s, none⟩ = some (.int .i64 z0)) ∧ w'.frozen? ⟨g, s, none⟩ = false)) := by
          refine hsl.mono ?_
          rintro e w3 ⟨rfl, hb⟩
          obtain ⟨z0, hz0, hf0⟩ := (hr.on hb).all s (by rw [← hsq]; exact Nat.mod_lt _ (by omega))
          exact ⟨rfl, hb, ⟨z0, hz0⟩, hf0⟩
        have hki : (k : Int) < (m : Int) := by omega
        have HE : Hid (xs ++ l.take (k + 1) = (xs ++ l.take k) ++ [z]) := by
          show _ = _
          rw [List.take_add_one, List.getElem?_eq_getElem hkl, List.append_assoc, ← hz]
          simp [List.getD, hkl]
        have HP : Hid (∀ w3, Below wr.heap.size wr w3 → Hid ((∃ x', RingAt ((w3.setCell ⟨g, s, none⟩ (.int .i64 z)).setCell ⟨db, 0, none⟩ (.int .u64 (growW y 1))) db g x' q (xs ++ l.take (k + 1))) ∧ SlIs (fun k => k = db ∨ k = g) ((w3.setCell ⟨g, s, none⟩ (.int .i64 z)).setCell ⟨db, 0, none⟩ (.int .u64 (growW y 1))) (.slice (some ⟨b, o, none⟩) nl cl) l ∧ Tch (fun k => k = db ∨ k = g) w ((w3.setCell ⟨g, s, none⟩ (.int .i64 z)).setCell ⟨db, 0, none⟩ (.int .u64 (growW y 1))))) := fun w3 hb => by
          have t2 : Tch (fun k => k = db ∨ k = g) wr ((w3.setCell ⟨g, s, none⟩ (.int .i64 z)).setCell ⟨db, 0, none⟩ (.int .u64 (growW y 1))) := ((Tch.of _ hb).setCell (p := ⟨g, s, none⟩) (.inl (.inr rfl)) _).setCell (p := ⟨db, 0, none⟩) (.inl (.inl rfl)) _
          refine ⟨⟨growW y 1, ?_⟩, hs.tch t2, hT.trans t2⟩
          rw [HE.out]
          exact (hr.on hb).push z (by rw [hnl2]; omega) s (by rw [ht, hsq])
        have HG : Hid (∀ w3, Below wr.heap.size wr w3 → Calls Try.prog 44 #[dptr db] (w3.setCell ⟨g, s, none⟩ (.int .i64 z)) (fun e w' => (∃ v, e = .returned v) ∧ (w3.setCell ⟨g, s, none⟩ (.int .i64 z)).setCell ⟨db, 0, none⟩ (.int .u64 (growW y 1)) = w')) := fun w3 hb => by
          have r3 := hr.on hb
          refine grow_call ?_ ?_ hr.hx rfl
          · rw [World.cell?_setCell_far _ _ _ _ (fun e => hr.ne e.symm)]; exact r3.c0
          · rw [World.frozen?_setCell]; exact r3.f0
        clear hr hs hT HT hz hnl2 ht hsq hsl HE hkl hbn
        go_wp2_with (first
          | (go_at_call 43; refine (HTl.out _).mono ?_; rintro e w3 ⟨rfl, rfl⟩)
          | (go_at_call 42; refine HSl.out.mono ?_; rintro e w3 ⟨rfl, hb3, ⟨z0, hz0⟩, hf0⟩)
          | (go_at_call 44; refine (HG.out _ hb3.out).mono ?_; rintro e w4 ⟨⟨v4, rfl⟩, rfl⟩))
        go_round
        case rel => exact ⟨k + 1, by omega, by go_num, HP.out _ hb3.out⟩
        case measure =>
          show _ < _
          simp only [intOf]; omega
      · obtain rfl : k = m := by omega
        go_wp2_with fail
        go_ret
        refine ⟨rfl, ?_, HT.out.2.2⟩
        have := HT.out.1
        unfold layL
        rw [HM.out]
        exact this
end Go.Proofs.Ytjdbmedealhbjaa
