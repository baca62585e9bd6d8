/- Steal and Put of a ring (layer 8). -/
import Derived.Test.YtjdbmedealhbjaaRs
import Derived.Test.YtjdbmedealhbjaaAp
set_option linter.unusedSimpArgs false
set_option linter.unusedVariables false
namespace Go.Proofs.Ytjdbmedealhbjaa
open Go.RowKit Go.Wd Go.Dk

abbrev ringS (db g : Nat) : Nat → Prop := fun k => k = db ∨ k = g
/-- a new row stands apart from the ring -/
theorem RingAt.apart {w : World} {db g x q : Nat} {xs : List Int} (r : RingAt w db g x q xs) {w1 : World} {v : Value} {ys : List Int} {B : Nat} (h : NewRow B w1 v ys) (hB : w.heap.size ≤ B) : ∀ k, v.ownBlock = some k → ¬ ringS db g k := by
  intro k hk hs
  have h1 := (h.lt k hk).1
  have := r.lt
  rcases hs with hs | hs <;> omega
theorem steal_ring {w : World} {db g x q : Nat} {xs : List Int} (r : RingAt w db g x q xs) : Calls Try.prog 21 #[dptr db] w (OutPost DqIs (ringS db g) db q (stL xs) (stO xs) w) := by
  have h0 := r.nmax
  obtain ⟨n, hn⟩ : ∃ n, xs.length = n := ⟨_, rfl⟩
  obtain ⟨o, ho⟩ : ∃ o, stN xs = o := ⟨_, rfl⟩
  have hon : o ≤ n := by rw [← ho, ← hn]; unfold stN; omega
  have HS := Lib.hid (size_any r.c0 r.hx r.hl)
  rw [hn] at HS h0
  have HO : Hid (∀ w, Calls Try.prog 47 #[.int .u32 n] w fun e w' => e = .returned (.int .u32 (o : Nat)) ∧ w = w') := by
    have e : older n = o := by rw [← ho, ← hn]; rfl
    rw [← e]; exact fun w => older_any n (by omega) w
  have hl := list_src (r.src 0 o) (by rw [List.length_take, List.length_drop]; omega)
  rw [List.drop_zero, show xs.take o = stO xs by unfold stO; rw [ho]] at hl
  have HL := Lib.hid hl
  have HG : Hid (∀ w', Below w.heap.size w w' → Calls Try.prog 46 #[dptr db, .int .u32 o] w' (fun e w2 => (∃ v, e = .returned v) ∧ w'.setCell ⟨db, 0, none⟩ (.int .u64 (gainW x o)) = w2)) := fun w' hb => gain_call (r.on hb).c0 (r.on hb).f0 r.hx (by omega) rfl
  have HP : Hid (∀ w', Below w.heap.size w w' → RingAt (w'.setCell ⟨db, 0, none⟩ (.int .u64 (gainW x o))) db g (gainW x o) q (stL xs)) := fun w' hb => by
    have := (r.on hb).pop o (by omega)
    unfold stL
    rw [ho]; exact this
  have HR := Lib.hid r
  clear r h0 hn ho hon hl
  go_enter Try.func21, Try.ntmps21
  go_wp2_with (first
    | (go_at_call 40; refine HS.out.mono ?_; rintro e w' ⟨rfl, rfl⟩)
    | (go_at_call 47; refine (HO.out _).mono ?_; rintro e w' ⟨rfl, rfl⟩)
    | (go_at_call 39; refine HL.out.mono ?_; rintro e w2 ⟨p, k, c, rfl, hk, hO, hb⟩; have HB2 := Lib.hid hb; have HO2 := Lib.hid hO; clear hb hO)
    | (go_at_call 46; refine (HG.out _ HB2.out).mono ?_; rintro e w3 ⟨⟨v3, rfl⟩, rfl⟩))
  go_ret
  have hap := HR.out.apart HO2.out (Nat.le_refl _)
  have ht := (Tch.refl (ringS db g) w2).setCell (p := ⟨db, 0, none⟩) (.inl (.inl rfl)) (.int .u64 (gainW x o))
  exact ⟨p, k, c, _, rfl, hk, ⟨g, _, rfl, HP.out _ HB2.out⟩, HO2.out.tch ht hap, hap, fun k h => .inl h, (Tch.of _ HB2.out).trans ((Tch.refl _ w2).setCell (p := ⟨db, 0, none⟩) (.inl (.inl rfl)) _)⟩
theorem steal_none (w : World) : Calls Try.prog 21 #[.pointer none] w (RowPost8 [] w) := by
  go_enter Try.func21, Try.ntmps21
  go_wp2_with fail
  go_ret
  exact (NewRow.nil w.heap.size w).post (Below.refl _ _)
theorem put_none (g : Int) (w : World) : Calls Try.prog 18 #[.pointer none, .int .i64 g] w (RowPost8 [] w) := by
  go_enter Try.func18, Try.ntmps18
  go_wp2_with fail
  go_ret
  exact (NewRow.nil w.heap.size w).post (Below.refl _ _)
theorem get_none (w : World) : Calls Try.prog 20 #[.pointer none] w (Ans (.tuple #[.int .i64 0, .bool false]) w) := by
  go_enter Try.func20, Try.ntmps20
  go_wp2_with (go_at_call 26; refine (len_none _).mono ?_; rintro e w' ⟨rfl, rfl⟩)
  go_ret2
  exact ⟨rfl, Below.refl _ _⟩
set_option maxHeartbeats 1000000 in
theorem put_some {w : World} {db g x q : Nat} {xs : List Int} (r : RingAt w db g x q xs) (z : Int) (hlt : xs.length < q) : Calls Try.prog 18 #[dptr db, .int .i64 z] w (OutPost DqIs (ringS db g) db q (xs ++ [z]) [] w) := by
  have hsl := sl_one (S := ringS db g) z w 3 w.heap.size rfl (by have := r.lt; rintro (h | h) <;> omega)
  have hbA : Below w.heap.size w (w.alloc (.cells #[.int .i64 z] 3)) := (Below.refl _ _).alloc (Nat.le_refl _) _
  have hL := lay_ring (r.on hbA) _ _ hsl (by simp)
  have e1 : layN q xs [z] = 1 := by unfold layN; simp; omega
  have e2 : layL q xs [z] = xs ++ [z] := by unfold layL; rw [e1]; rfl
  rw [e1, e2] at hL
  have HL := Lib.hid hL
  have HA := Lib.hid hbA
  clear hL hsl hbA e1 e2 hlt r
  go_enter Try.func18, Try.ntmps18
  go_wp2_with (go_at_call 19; refine HL.out.mono ?_; rintro e w2 ⟨rfl, hR, hT⟩)
  go_ret
  obtain ⟨x', h2⟩ := hR.out
  exact ⟨none, 0, 0, _, rfl, rfl, ⟨g, x', rfl, h2⟩, NewRow.nil _ _, by simp [Value.ownBlock], fun k h => .inl h, (Tch.of _ HA.out).trans hT.out⟩
theorem RingAt.tch {R : Nat → Prop} {w w' : World} {db g x q : Nat} {xs : List Int} (r : RingAt w db g x q xs) (ht : Tch R w w') (hs : ∀ k, ringS db g k → ¬ R k) : RingAt w' db g x q xs :=
  r.blocks (ht.block _ r.lt.1 (hs _ (.inl rfl))) (ht.block _ r.lt.2 (hs _ (.inr rfl)))
theorem tch_grow {S : Nat → Prop} {a w w' : World} {row : Option Nat} (h : Tch S a w) (hg : w.grownBy w' row) (hr : ∀ k, row = some k → a.heap.size ≤ k) : Tch S a w' :=
  ⟨hg.os.trans h.os, hg.tape.trans h.tape, hg.output.trans h.output, Nat.le_trans h.size hg.size, fun k hk hn => (hg.block k (Nat.lt_of_lt_of_le hk h.size) (fun e => by have := hr k e.symm; omega)).trans (h.block k hk hn)⟩
/-- all that holds behind a put into a full ring -/
theorem put_end {w w2 w3 w5 : World} {db g x q hf : Nat} {xs ys : List Int} {z : Int} {v v5 : Value} {t : TypeId} (hT : Tch (ringS db g) w w2) (r2 : RingAt w2 db g x q xs) (hb : Below w2.heap.size w2 w3) (hn : NewRow w2.heap.size w3 v ys) (hh : hf ≤ xs.length)
    (h5 : NewRow w2.heap.size w5 v5 (ys ++ [z])) (hg : ((w3.setCell ⟨db, 0, none⟩ (.int .u64 (dropW x hf))).alloc (.cells #[.int .i64 z] t)).grownBy w5 v.ownBlock) :
    OutPost DqIs (ringS db g) db q (xs.take (xs.length - hf)) (ys ++ [z]) w (.returned v5) w5 := by
  obtain ⟨p, n, c, rfl, e⟩ := h5.form
  have r3 := (r2.on hb).cut hf hh
  have r4 := r3.on ((Below.refl _ _).alloc (Nat.le_refl _) (.cells #[.int .i64 z] t))
  have hap := r2.apart hn (Nat.le_refl _)
  have r5 := r4.tch (Tch.grown hg) (fun k hk e => hap k e hk)
  have t1 : Tch (ringS db g) w (w3.setCell ⟨db, 0, none⟩ (.int .u64 (dropW x hf))) := (hT.trans (.of _ hb)).setCell (p := ⟨db, 0, none⟩) (.inl (.inl rfl)) _
  exact ⟨p, n, c, _, rfl, e, ⟨g, _, rfl, r5⟩, h5.base hT.size, r2.apart h5 (Nat.le_refl _), fun k h => .inl h,
    tch_grow (t1.alloc _) hg (fun k e => Nat.le_trans hT.size (hn.lt k e).1)⟩
theorem put_row {w2 w3 : World} {db g x q hf : Nat} {xs ys : List Int} {z : Int} {v : Value} {t : TypeId} (r2 : RingAt w2 db g x q xs) (hn : NewRow w2.heap.size w3 v ys) :
    NewRow w2.heap.size ((w3.setCell ⟨db, 0, none⟩ (.int .u64 (dropW x hf))).alloc (.cells #[.int .i64 z] t)) v ys :=
  (hn.tch ((Tch.refl (ringS db g) w3).setCell (p := ⟨db, 0, none⟩) (.inl (.inl rfl)) _) (r2.apart hn (Nat.le_refl _))).on ((Below.refl _ _).alloc (Nat.le_refl _) _)
set_option maxRecDepth 20000 in
set_option maxHeartbeats 4000000 in
theorem put_full {w : World} {db g x q : Nat} {xs : List Int} (r : RingAt w db g x q xs) (z : Int) (hlt : xs.length = q) : Calls Try.prog 18 #[dptr db, .int .i64 z] w (OutPost DqIs (ringS db g) db q (xs.take (xs.length - q / 2)) (xs.drop (xs.length - q / 2) ++ [z]) w) := by
  have hq := room_bd r.rm
  have hsl := sl_one (S := ringS db g) z w 3 w.heap.size rfl (by have := r.lt; rintro (h | h) <;> omega)
  have hbA : Below w.heap.size w (w.alloc (.cells #[.int .i64 z] 3)) := (Below.refl _ _).alloc (Nat.le_refl _) _
  have hL := lay_ring (r.on hbA) _ _ hsl (by simp)
  have e1 : layN q xs [z] = 0 := by unfold layN; simp; omega
  have e2 : layL q xs [z] = xs := by unfold layL; rw [e1]; simp
  rw [e1, e2] at hL
  have HL := Lib.hid hL
  have HA := Lib.hid hbA
  obtain ⟨hf, hh, hh2⟩ : ∃ hf, q / 2 = hf ∧ hf ≤ q := ⟨_, rfl, Nat.div_le_self _ _⟩
  obtain ⟨fr, hfr⟩ : ∃ fr, fr + hf = q := ⟨q - hf, by omega⟩
  have q1 : (q : Int).tdiv 2 = (hf : Int) := by
    rw [← hh, Int.tdiv_eq_ediv_of_nonneg (by omega)]; omega
  have q1b : (q : Int) / 2 = (hf : Int) := by omega
  have q2 : IntKind.i64.wrap (hf : Int) = (hf : Int) := IntWalk.i64_in _ (by omega)
  have q3 : IntKind.u32.wrap (hf : Int) = (hf : Int) := by rw [w32]; omega
  have q4 : IntKind.u32.wrap ((q : Int) - (hf : Int)) = (fr : Int) := by rw [w32]; omega
  have HX : Hid (xs.length = q ∧ q ≤ 65536 ∧ hf ≤ xs.length ∧ hf < 4294967296 ∧ xs.length - q / 2 = fr ∧ (xs.drop fr).take hf = xs.drop fr ∧ q / 2 = hf) := ⟨hlt, by omega, by omega, by omega, by omega, List.take_of_length_le (by rw [List.length_drop]; omega), hh⟩
  rw [show xs.length - q / 2 = fr by omega]
  clear hL hsl hbA e1 e2 hlt r hh hq
  go_enter Try.func18, Try.ntmps18
  go_wp2_with (first
    | (go_at_call 19; refine HL.out.mono ?_; rintro e w2 ⟨rfl, hR, hT⟩; obtain ⟨x', r2⟩ := hR.out; obtain ⟨cp, c1, hcp, -⟩ := r2.c1; have HR2 := Lib.hid r2; clear hR r2)
    | (go_at_call 40; refine (size_any HR2.out.c0 HR2.out.hx (n := q) (by rw [HR2.out.hl]; exact HX.out.1)).mono ?_; rintro e w' ⟨rfl, rfl⟩)
    | (go_at_call 39; refine (list_src (HR2.out.src fr hf) (by have := HX.out; rw [List.length_take, List.length_drop]; omega)).mono ?_; rintro e w3 ⟨p, k, c, rfl, hk, hO, hb⟩; rw [HX.out.2.2.2.2.2.1] at hO; have HB3 := Lib.hid hb; have HO3 := Lib.hid hO; clear hb hO hk)
    | (go_at_call 41; refine (drop_call (n := hf) (HR2.out.on HB3.out).c0 (HR2.out.on HB3.out).f0 HR2.out.hx HX.out.2.2.2.1 rfl).mono ?_; rintro e w4 ⟨⟨v3, rfl⟩, rfl⟩)
    | (at_builtin; refine append_new (B := w2.heap.size) _ rfl (.tmp 37) (.tmp 39) (by rfl) (.slice (some ⟨w3.heap.size, 0, none⟩) 1 1) (.slice p k c) (xs.drop fr) [z] (by kernel_rfl) (put_row HR2.out HO3.out) (by kernel_rfl) (sl_one (S := fun _ => False) z _ _ _ (by simp [World.setCell]) id) (by have := HX.out; rw [List.length_drop]; simp; omega) (by have := HB3.out.size; simp [World.size_alloc]; omega) ?_; intro v5 w5 hn5 hg5; have HF := Lib.hid (put_end ((Tch.of _ HA.out).trans hT.out) HR2.out HB3.out HO3.out HX.out.2.2.1 hn5 hg5); clear hn5 hg5))
  go_ret
  have hF := HF.out
  rw [show xs.length - hf = fr by have := HX.out; omega] at hF
  exact hF
end Go.Proofs.Ytjdbmedealhbjaa
