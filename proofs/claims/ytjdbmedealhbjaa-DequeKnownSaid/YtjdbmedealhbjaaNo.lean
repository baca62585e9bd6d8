/- The law DequeNobody (layer 8), walked. -/
import Derived.Test.YtjdbmedealhbjaaWk
import Derived.Test.YtjdbmedealhbjaaFw
import Derived.Test.YtjdbmedealhbjaaDm
import Derived.Test.YtjdbmedealhbjaaPk
import Derived.Test.YtjdbmedealhbjaaPs
import Derived.Deep.Cut
import Derived.Maps.AppendAt
import Derived.Deep.DeepCutAuto
import Derived.Deep.CutBlock
set_option linter.unusedSimpArgs false
set_option linter.unusedVariables false
namespace Go.Proofs.Ytjdbmedealhbjaa
open Go.RowKit Go.Wd Go.Dk

/-- append(s, x...), s a row of one's own: where the new row lies, too -/
theorem append_new_at {ops : Array Oper} {rest : List Oper} {o : Oper} {a : Act} {Q : Exit → Act → World → Prop} {R : Nat → Prop} {B : Nat} (w : World) (hgd : o.guard = none) (s x : Operand)
    (ho : o.op = .call { callee := .builtin .append, args := #[s, x], argTypes := #[22, 22] }) (u v : Value) (xs ys : List Int) (hs : a.eval s = v) (hv : NewRow B w v xs) (hx : a.eval x = u) (hy : SlIs R w u ys) (hb : xs.length + ys.length ≤ 1000000) (hB : B ≤ w.heap.size)
    (h : ∀ v' w', NewRow B w' v' (xs ++ ys) → w.grownBy w' v.ownBlock → (v'.ownBlock = v.ownBlock ∨ v'.ownBlock = some w.heap.size) → wpList Try.prog ops Q rest (a.put o.dst v') w') : wpList Try.prog ops Q (o :: rest) a w := by
  obtain ⟨i0, hi, hz0, hz1, hz2⟩ := info_parts infoInt
  obtain ⟨p, c, rfl, h1, h2, h3, h4⟩ := hy
  have hU := Try.underlying22
  cases p with
  | none =>
    have hc := h3 rfl
    subst hc
    have h0 : ys = [] := List.eq_nil_of_length_eq_zero (by omega)
    subst h0
    refine wpList_append_own_none hgd s x 22 ho B 3 i0 1 hU hi v xs.length (xs.map (Value.int .i64)) hs hv hx ?_
    refine h _ _ (by rw [List.append_nil]; exact hv) ?_ (.inl rfl)
    exact ⟨rfl, rfl, rfl, Nat.le_refl _, fun _ _ _ => rfl⟩
  | some ad =>
    have hm : (ys.map (Value.int .i64)).length = ys.length * 1 := by rw [List.length_map, Nat.mul_one]
    refine wpList_append_own_at w hgd s x 22 ho B 3 i0 (.int .i64 0) 1 8 hU hi hz0 hz1 hz2 rfl (by decide) v xs.length (xs.map (Value.int .i64)) hs hv ad ys.length c (ys.map (Value.int .i64)) hx hm ?_ ?_ (by unfold maxLen; omega) (by omega) hB ?_
    · intro j y hj
      rw [List.getElem?_map] at hj
      have hjl : j < ys.length := by
        rcases Nat.lt_or_ge j ys.length with h' | h'
        · exact h'
        · rw [List.getElem?_eq_none h'] at hj; cases hj
      obtain ⟨b, o', hp, _, hc⟩ := h4.cells j hjl
      cases hp
      rw [List.getElem?_eq_getElem hjl] at hj
      cases hj
      rw [Addr.add_mid, hc]
      simp [List.getD, hjl]
    · intro y hy
      obtain ⟨z, _, rfl⟩ := List.mem_map.1 hy
      rfl
    · intro v' w' g1 g2 _ g3
      refine h v' w' ?_ g2 g3
      unfold NewRow
      rw [List.length_append, List.map_append]
      exact g1
theorem at_own {v v' : Value} {H : Nat} (h : v'.ownBlock = v.ownBlock ∨ v'.ownBlock = some H) : ∀ k, v'.ownBlock = some k → v.ownBlock = some k ∨ H ≤ k := fun k e => by
  rcases h with h | h
  · left; rw [← h]; exact e
  · right; rw [h] at e; cases e; exact Nat.le_refl _
/-- between two acts: the deque, and the row of what was answered -/
structure NS (D : DqApi) (w0 W : World) (db q : Nat) (S : Nat → Prop) (xs out : List Int) (v : Value) : Prop where
  is : D.Is S W db q xs
  row : NewRow w0.heap.size W v out
  ne : ∀ k, v.ownBlock = some k → ¬ S k
  be : Below w0.heap.size w0 W
  ge : ∀ k, S k → w0.heap.size ≤ k
section
variable {D : DqApi} {w0 W W' : World} {db q : Nat} {S S' O : Nat → Prop} {xs out xs' out' : List Int} {v v' : Value}
theorem NS.on (h : NS D w0 W db q S xs out v) (hb : Below W.heap.size W W') : NS D w0 W' db q S xs out v := ⟨D.on h.is hb, h.row.on hb, h.ne, h.be.trans (hb.mono h.be.size), h.ge⟩
/-- a call on the deque -/
theorem NS.call (h : NS D w0 W db q S xs out v) (hI : D.Is S' W' db q xs') (hs : ∀ k, S' k → S k ∨ W.heap.size ≤ k) (ht : Tch S W W') : NS D w0 W' db q S' xs' out v := by
  have hr := h.row.lt
  refine ⟨hI, h.row.tch ht h.ne, fun k e e2 => ?_, h.be.trans (ht.below h.be.size h.ge), fun k e => ?_⟩
  · rcases hs k e2 with e3 | e3
    · exact h.ne k e e3
    · have := (hr k e).2; omega
  · rcases hs k e with e3 | e3
    · exact h.ge k e3
    · have := h.be.size; omega
/-- what is newer -/
theorem NS.far (h : NS D w0 W db q S xs out v) (ht : Tch O W W') (hO : ∀ k, O k → W.heap.size ≤ k) : NS D w0 W' db q S xs out v :=
  ⟨D.tch h.is ht (fun k e e2 => by have := D.lt h.is k e; have := hO k e2; omega), h.row.tch ht (fun k e e2 => by have := (h.row.lt k e).2; have := hO k e2; omega), h.ne, h.be.trans (ht.below h.be.size (fun k e => by have := hO k e; have := h.be.size; omega)), h.ge⟩
/-- the row grows -/
theorem NS.grow (h : NS D w0 W db q S xs out v) (hn : NewRow w0.heap.size W' v' out') (hg : W.grownBy W' v.ownBlock) (hv : ∀ k, v'.ownBlock = some k → v.ownBlock = some k ∨ W.heap.size ≤ k) : NS D w0 W' db q S xs out' v' := by
  have t := Tch.grown hg
  refine ⟨D.tch h.is t (fun k e e2 => h.ne k e2 e), hn, fun k e e2 => ?_, h.be.grown hg h.be.size (fun k e => (h.row.lt k e).1), h.ge⟩
  rcases hv k e with e3 | e3
  · exact h.ne k e3 e2
  · have := D.lt h.is k e2; omega
end
set_option maxRecDepth 20000 in
set_option maxHeartbeats 8000000 in
theorem nobody_go (D : DqApi) (rm : Int) (hrm : 0 ≤ rm ∧ rm ≤ 255) (pa : Option Addr) (na ca : Nat) (zs : List Int) (w : World) (hz : SlIs (fun _ => False) w (.slice pa na ca) zs) (hzn : na = zs.length) (hwf : ∀ z ∈ zs, -9223372036854775808 ≤ z ∧ z ≤ 9223372036854775807) (hn : na ≤ 150) :
    Calls Try.prog 4 #[.int .u8 rm, .slice pa na ca] w (Ans (.bool true) w) := by
  obtain ⟨p, hp, hpr, hp64⟩ := other_room rm hrm
  have HNew2 : Hid (∀ W, Calls Try.prog 10 #[.int .i64 p, .slice none 0 0] W (MadePost D.Is p [] (fun x => .tuple #[x, .int .i64 0]) W)) := fun W => by have := D.new_yes p _ [] W hpr (SlIs.nil _ W) (by simp); rw [List.take_nil] at this; exact this
  have HRp := Lib.hid (And.intro hpr hp64)
  have hp0 : (0 : Int) ≤ (p : Int) := by omega
  have HZ := Lib.hid hz
  have HZn := Lib.hid (And.intro hzn hwf)
  have HN := Lib.hid hn
  have l1 : ¬ ((150 : Int) < (na : Int)) := by omega
  obtain ⟨rm0, rm1⟩ := hrm
  clear hpr hp64 hz hzn hwf hn
  go_enter Try.func4, Try.ntmps4
  go_wp2_with fail
  refine (HNew2.out _).mono ?_
  rintro e w1 ⟨db, S, rfl, hi, hg, hb1⟩
  have HS0 : Hid (NS D w w1 db p S [] [] (.slice none 0 0)) := ⟨hi, .nil _ _, (fun k e => by cases e), hb1, hg⟩
  clear hi hg hb1 hp HNew2
  go_wp2_with fail
  go_loopw [7, 8, 9] (fun v7 v8 v9 wr => ∃ i : Nat, i ≤ na ∧ v9 = .int .i64 i ∧ ∃ (n : Nat) (S : Nat → Prop) (xs out : List Int) (pp : Option Addr) (nn cc : Nat), n ≤ 3 * i ∧ v7 = .int .i64 n ∧ v8 = .slice pp nn cc ∧ Hid (NB xs out n) ∧ Hid (NS D w wr db p S xs out (.slice pp nn cc))) (fun _ _ v9 _ => na - (intOf v9).toNat)
  case atStart => exact ⟨0, by omega, rfl, 0, S, [], [], none, 0, 0, by omega, rfl, rfl, Lib.hid NB.nil, HS0⟩
  case round =>
    clear HS0
    obtain ⟨i, hi, rfl, n, S, xs, out, pp, nn, cc, hn, rfl, rfl, HNB, HS⟩ := hrel
    by_cases hlt : i < na
    · obtain ⟨ab, ao, rfl, hq1, hq2, hq3, hq4, hcell⟩ := (HZ.out.on HS.out.be).at (show 0 < na by omega)
      have hc := hcell i hlt
      have hmem : zs.getD i 0 ∈ zs := by
        have hl : i < zs.length := by have := HZn.out.1; omega
        have : zs.getD i 0 = zs[i] := by simp [List.getD, hl]
        rw [this]; exact List.getElem_mem hl
      have hw := HZn.out.2 _ hmem
      obtain ⟨z, hz⟩ : ∃ z, zs.getD i 0 = z := ⟨_, rfl⟩
      rw [hz] at hc hw
      have HPk := Lib.hid (fun W => pick_nat z 6 hw ⟨by omega, by omega⟩ W)
      have HK := Lib.hid hlt
      have HI := Lib.hid (And.intro hi hn)
      have i2 : (i : Int) < (na : Int) := by omega
      clear hcell hmem hw hz hq1 hq2 hq3 hq4
      have hn0 : (n : Int) ≤ 1000 := by have := HN.out; omega
      have hn1 : (0 : Int) ≤ (n : Int) := by omega
      have hlen := HNB.out.len
      rw [List.length_append] at hlen
      have HLe := Lib.hid hlen
      clear hlen
      go_upto_block 2 with (fail)
      refine (HPk.out wr).mono ?_
      rintro e wr' ⟨k, hk, rfl, rfl⟩
      have hk6 : k = 0 ∨ k = 1 ∨ k = 2 ∨ k = 3 ∨ k = 4 ∨ k = 5 := by omega
      clear hk
      go_upto_block 2 with (fail)
      go_cut [7, 8] (fun v7 v8 wx => ∃ (n' : Nat) (S' : Nat → Prop) (xs' out' : List Int) (p6 : Option Addr) (n6 c6 : Nat), n' ≤ 3 * (i + 1) ∧ v7 = .int .i64 n' ∧ v8 = .slice p6 n6 c6 ∧ Hid (NB xs' out' n') ∧ Hid (NS D w wx db p S' xs' out' (.slice p6 n6 c6)))
      case first =>
        rcases hk6 with rfl | rfl | rfl | rfl | rfl | rfl
        · go_wp2_with fail
          refine (D.put_any (n : Int) HS.out.is).mono ?_
          rintro e w2 ⟨p5, n5, c5, S', rfl, hn5, hI, hrow, hap, hsub, ht2⟩
          have HS2 := Lib.hid (HS.out.call hI hsub ht2)
          have HO2 : Hid (SlIs (fun _ => False) w2 (.slice p5 n5 c5) (putO p xs (n : Int))) := hrow.sl (by have := putO_len (q := p) (l := xs) (n : Int); have := HRp.out; have := HLe.out; omega) (fun _ _ e => e)
          have HLn : Hid (out.length + (putO p xs (n : Int)).length ≤ 1000000) := by have := putO_len (q := p) (l := xs) (n : Int); have := HRp.out; have := HN.out; have := HLe.out; show _ ≤ _; omega
          clear hn5 hI hrow hap hsub ht2
          go_wp2_with (at_builtin; ((refine append_new_at (B := w.heap.size) w2 rfl (.tmp 48) (.tmp 51) (by rfl) _ (.slice pp nn cc) out (putO p xs (n : Int)) (by kernel_rfl) HS2.out.row (by kernel_rfl) HO2.out HLn.out HS2.out.be.size ?_); intro v6 w3 hn6 hg6 hat6; obtain ⟨p6, n6, c6, rfl, e6⟩ := hn6.form; have HS3 := Lib.hid (HS2.out.grow hn6 hg6 (at_own hat6)); clear hn6 hg6 hat6 e6))
          go_meet
          exact ⟨n + 1, S', _, _, p6, n6, c6, by omega, by go_num, rfl, Lib.hid (HNB.out.put p), HS3⟩
        · go_wp2_with fail
          refine (D.put_any (n : Int) HS.out.is).mono ?_
          rintro e w2 ⟨p5, n5, c5, S', rfl, hn5, hI, hrow, hap, hsub, ht2⟩
          have HS2 := Lib.hid (HS.out.call hI hsub ht2)
          have HO2 : Hid (SlIs (fun _ => False) w2 (.slice p5 n5 c5) (putO p xs (n : Int))) := hrow.sl (by have := putO_len (q := p) (l := xs) (n : Int); have := HRp.out; have := HLe.out; omega) (fun _ _ e => e)
          have HLn : Hid (out.length + (putO p xs (n : Int)).length ≤ 1000000) := by have := putO_len (q := p) (l := xs) (n : Int); have := HRp.out; have := HN.out; have := HLe.out; show _ ≤ _; omega
          clear hn5 hI hrow hap hsub ht2
          go_wp2_with (at_builtin; ((refine append_new_at (B := w.heap.size) w2 rfl (.tmp 48) (.tmp 51) (by rfl) _ (.slice pp nn cc) out (putO p xs (n : Int)) (by kernel_rfl) HS2.out.row (by kernel_rfl) HO2.out HLn.out HS2.out.be.size ?_); intro v6 w3 hn6 hg6 hat6; obtain ⟨p6, n6, c6, rfl, e6⟩ := hn6.form; have HS3 := Lib.hid (HS2.out.grow hn6 hg6 (at_own hat6)); clear hn6 hg6 hat6 e6))
          go_meet
          exact ⟨n + 1, S', _, _, p6, n6, c6, by omega, by go_num, rfl, Lib.hid (HNB.out.put p), HS3⟩
        · go_wp2_with fail
          refine (D.put_any (n : Int) HS.out.is).mono ?_
          rintro e w2 ⟨p5, n5, c5, S', rfl, hn5, hI, hrow, hap, hsub, ht2⟩
          have HS2 := Lib.hid (HS.out.call hI hsub ht2)
          have HO2 : Hid (SlIs (fun _ => False) w2 (.slice p5 n5 c5) (putO p xs (n : Int))) := hrow.sl (by have := putO_len (q := p) (l := xs) (n : Int); have := HRp.out; have := HLe.out; omega) (fun _ _ e => e)
          have HLn : Hid (out.length + (putO p xs (n : Int)).length ≤ 1000000) := by have := putO_len (q := p) (l := xs) (n : Int); have := HRp.out; have := HN.out; have := HLe.out; show _ ≤ _; omega
          clear hn5 hI hrow hap hsub ht2
          go_wp2_with (at_builtin; ((refine append_new_at (B := w.heap.size) w2 rfl (.tmp 48) (.tmp 51) (by rfl) _ (.slice pp nn cc) out (putO p xs (n : Int)) (by kernel_rfl) HS2.out.row (by kernel_rfl) HO2.out HLn.out HS2.out.be.size ?_); intro v6 w3 hn6 hg6 hat6; obtain ⟨p6, n6, c6, rfl, e6⟩ := hn6.form; have HS3 := Lib.hid (HS2.out.grow hn6 hg6 (at_own hat6)); clear hn6 hg6 hat6 e6))
          go_meet
          exact ⟨n + 1, S', _, _, p6, n6, c6, by omega, by go_num, rfl, Lib.hid (HNB.out.put p), HS3⟩
        · have HL3 : SlIs S (wr.alloc (.cells #[.int .i64 n, .int .i64 ((n : Int) + 1), .int .i64 ((n : Int) + 2)] 3)) (.slice (some ⟨wr.heap.size, 0, none⟩) 3 3) [(n : Int), (n : Int) + 1, (n : Int) + 2] := sl_lit [(n : Int), (n : Int) + 1, (n : Int) + 2] wr _ _ rfl (fun e => by have := D.lt HS.out.is _ e; omega) (by simp)
          have HS1 := Lib.hid (HS.out.on ((Below.refl wr.heap.size wr).alloc (Nat.le_refl _) (.cells #[.int .i64 n, .int .i64 ((n : Int) + 1), .int .i64 ((n : Int) + 2)] 3)))
          have HLay := D.lay_any _ _ HS1.out.is HL3 (by simp)
          obtain ⟨m, hm⟩ : ∃ m, layN p xs [(n : Int), (n : Int) + 1, (n : Int) + 2] = m := ⟨_, rfl⟩
          have hm3 : m ≤ 3 := by rw [← hm]; exact layN_le _ _ _
          have hll : layL p xs [(n : Int), (n : Int) + 1, (n : Int) + 2] = xs ++ [(n : Int), (n : Int) + 1, (n : Int) + 2].take m := by unfold layL; rw [hm]
          rw [hll, hm] at HLay
          have HLh := Lib.hid HLay
          have HM := Lib.hid hm3
          have m0 : (m : Int) ≤ 3 := by omega
          have m1 : (0 : Int) ≤ (m : Int) := by omega
          clear hm hm3 hll HLay HL3
          go_wp2_with fail
          refine HLh.out.mono ?_
          rintro e w2 ⟨S', rfl, hI, hsub, ht2⟩
          have HS2 := Lib.hid (HS1.out.call hI hsub ht2)
          clear hI hsub ht2
          go_wp2_with fail
          go_meet
          exact ⟨n + m, S', _, _, pp, nn, cc, by have := HM.out; omega, by go_num, rfl, Lib.hid (HNB.out.lay m HM.out), HS2⟩
        · cases xs with
          | nil =>
            go_wp2_with fail
            refine (D.get_any HS.out.is).mono ?_
            rintro e w2 ⟨S', rfl, hI, hsub, ht2⟩
            have HS2 := Lib.hid (HS.out.call hI hsub ht2)
            clear hI hsub ht2
            go_wp2_with fail
            go_meet
            exact ⟨n, S', _, _, pp, nn, cc, by omega, rfl, rfl, HNB, HS2⟩
          | cons x r =>
            go_wp2_with fail
            refine (D.get_any HS.out.is).mono ?_
            rintro e w2 ⟨S', rfl, hI, hsub, ht2⟩
            have HS2 := Lib.hid ((HS.out.call hI hsub ht2).on ((Below.refl w2.heap.size w2).alloc (Nat.le_refl _) (.cells #[.int .i64 x] 3)))
            have HO2 : Hid (SlIs (fun _ => False) (w2.alloc (.cells #[.int .i64 x] 3)) (.slice (some ⟨w2.heap.size, 0, none⟩) 1 1) [x]) := sl_lit [x] w2 _ _ rfl id (by simp)
            have HLn : Hid (out.length + [x].length ≤ 1000000) := by have := HN.out; have := HLe.out; show _ ≤ _; simp; omega
            clear hI hsub ht2
            go_wp2_with (at_builtin; ((refine append_new_at (B := w.heap.size) (w2.alloc (.cells #[.int .i64 x] 3)) rfl (.tmp 76) (.tmp 78) (by rfl) _ (.slice pp nn cc) out [x] (by kernel_rfl) HS2.out.row (by kernel_rfl) HO2.out HLn.out HS2.out.be.size ?_); intro v6 w3 hn6 hg6 hat6; obtain ⟨p6, n6, c6, rfl, e6⟩ := hn6.form; have HS3 := Lib.hid (HS2.out.grow hn6 hg6 (at_own hat6)); clear hn6 hg6 hat6 e6))
            go_meet
            exact ⟨n, S', _, _, p6, n6, c6, by omega, rfl, rfl, Lib.hid HNB.out.get, HS3⟩
        · go_wp2_with fail
          refine (D.steal_any HS.out.is).mono ?_
          rintro e w2 ⟨p5, n5, c5, S', rfl, hn5, hI, hrow, hap, hsub, ht2⟩
          have HS2 := Lib.hid (HS.out.call hI hsub ht2)
          have HO2 : Hid (SlIs (fun _ => False) w2 (.slice p5 n5 c5) (stO xs)) := hrow.sl (by have := stO_len xs; have := (show stN xs ≤ xs.length from by unfold stN; omega); have := HRp.out; have := HLe.out; omega) (fun _ _ e => e)
          have HLn : Hid (out.length + (stO xs).length ≤ 1000000) := by have := stO_len xs; have := (show stN xs ≤ xs.length from by unfold stN; omega); have := HRp.out; have := HN.out; have := HLe.out; show _ ≤ _; omega
          clear hn5 hI hrow hap hsub ht2
          go_wp2_with (at_builtin; ((refine append_new_at (B := w.heap.size) w2 rfl (.tmp 40) (.tmp 42) (by rfl) _ (.slice pp nn cc) out (stO xs) (by kernel_rfl) HS2.out.row (by kernel_rfl) HO2.out HLn.out HS2.out.be.size ?_); intro v6 w3 hn6 hg6 hat6; obtain ⟨p6, n6, c6, rfl, e6⟩ := hn6.form; have HS3 := Lib.hid (HS2.out.grow hn6 hg6 (at_own hat6)); clear hn6 hg6 hat6 e6))
          go_meet
          exact ⟨n, S', _, _, p6, n6, c6, by omega, rfl, rfl, Lib.hid HNB.out.steal, HS3⟩
      case rest =>
        clear HS HNB HLe HPk hc hn0 hn1 hk6
        obtain ⟨n', S', xs', out', p6, n6, c6, hn', rfl, rfl, HNB, HS⟩ := hcut
        have hlen := HNB.out.len
        rw [List.length_append] at hlen
        have HLe := Lib.hid hlen
        have hn450 : n' ≤ 450 := by have := HN.out; have := HK.out; omega
        obtain ⟨i0, hi, hz0, hz1, hz2⟩ := info_parts infoBool
        clear hlen
        go_wp2_with fail
        refine (D.all_any HS.out.is).mono ?_
        rintro e w2 ⟨p7, n7, c7, rfl, hn7, hrow7, hb7⟩
        have HR7 := Lib.hid hrow7
        have HS2 := Lib.hid (HS.out.on hb7)
        have HO2 : Hid (SlIs (fun _ => False) w2 (.slice p6 n6 c6) out') := HS2.out.row.sl (by have := HLe.out; omega) (fun _ _ e => e)
        have HLn : Hid (xs'.length + out'.length ≤ 1000000) := by have := HLe.out; show _ ≤ _; omega
        have HZ7 := Lib.hid hb7.size
        have HB7 := Lib.hid hb7
        clear hn7 hrow7 hb7
        go_wp2_with (first
          | (at_builtin; ((refine append_new_at (B := wc.heap.size) w2 rfl (.tmp 81) (.tmp 82) (by rfl) _ (.slice p7 n7 c7) xs' out' (by kernel_rfl) HR7.out (by kernel_rfl) HO2.out HLn.out HZ7.out ?_); intro v8 w3 hn8 hg8 hat8; obtain ⟨p8, n8, c8, rfl, e8⟩ := hn8.form; obtain rfl : n8 = n' := (by rw [e8]; exact HNB.out.len); have HS3 := Lib.hid (HS.out.far ((Tch.of (fun k => (Value.slice p7 n7 c7).ownBlock = some k) HB7.out).trans (grown_tch hg8)) (fun k e => (HR7.out.lt k e).1)); have HR8 := Lib.hid hn8; clear hn8 hg8 hat8 e8))
          | (at_make; refine wpList_make_full _ rfl _ _ 49 rfl w3.heap.size 4 i0 (.bool false) 1 Try.underlying49 hi hz0 hz1 _ _ _ _ n8 rfl rfl (by omega) (by omega) ?b2 ?b3 ?b4 ?_))
        case b2 => rw [hz2]; omega
        case b3 => unfold maxLen; omega
        case b4 => exact Nat.le_refl _
        intro w4 hown hgrow
        have HB4 := Lib.hid ((Below.refl w3.heap.size w3).grown hgrow (Nat.le_refl _) (fun k hk => by cases hk))
        have ho : w4.ownsRow w3.heap.size 4 1 (.slice (some ⟨w3.heap.size, 0, none⟩) n8 n8) n8 (seenA (xs' ++ out') n8 0) := by rw [← seenA_zero]; exact hown
        obtain ⟨sb, hsb⟩ : ∃ sb, w3.heap.size = sb := ⟨_, rfl⟩
        have HSb := Lib.hid hsb
        rw [hsb] at ho
        rw [hsb]
        have HOw := Lib.hid ho
        have HS4 := Lib.hid (HS3.out.on HB4.out)
        have HA4 := Lib.hid (HR8.out.on HB4.out)
        have HAl : Hid (∀ k, (Value.slice p8 n8 c8).ownBlock = some k → k < sb) := fun k e => by have := (HR8.out.lt k e).2; rw [HSb.out] at this; exact this
        clear hown hgrow hi hz0 hz1 hz2 ho hsb
        go_wp2_with fail
        obtain ⟨wo, rfl⟩ : ∃ wo : World, wo = w4 := ⟨_, rfl⟩
        go_loopw [15] (fun vi wx => ∃ k : Nat, k ≤ n8 ∧ vi = .int .i64 k ∧ Hid (wx.ownsRow sb 4 1 (.slice (some ⟨sb, 0, none⟩) n8 n8) n8 (seenA (xs' ++ out') n8 k)) ∧ Hid (Tch (fun j => j = sb) wo wx)) (fun vi _ => n8 - (intOf vi).toNat)
        case atStart => exact ⟨0, by omega, rfl, HOw, Lib.hid (Tch.refl _ _)⟩
        case round =>
          obtain ⟨k, hk, rfl, HO, HT⟩ := hrel
          by_cases hk8 : k < n8
          · have HAr : Hid (NewRow wc.heap.size wr (.slice p8 n8 c8) (xs' ++ out')) := HA4.out.tch HT.out (fun j e e2 => by have := HAl.out j e; omega)
            have hsl : SlIs (fun _ => False) wr (.slice p8 n8 c8) (xs' ++ out') := HAr.out.sl (by rw [HNB.out.len]; omega) (fun _ _ e => e)
            obtain ⟨b8, o8, rfl, z1, z2, z3, z4, hcell8⟩ := hsl.at (by omega)
            obtain ⟨y, hy, hyn⟩ := HNB.out.at hk8
            have hcc := hcell8 k hk8
            rw [hy] at hcc
            have hsee : wr.cell? ⟨sb, y, none⟩ = some (.bool false) := by
              rw [HO.out.cellAt y (by omega)]
              exact seenA_at hy hyn (fun j hj e => by have := HNB.out.inj (show j < n8 by omega) hk8 e; omega)
            have hfr := HO.out.frozenAt y
            obtain ⟨st1, st2⟩ := HO.out.stored y (.bool true)
            rw [seenA_step hy] at st1
            have ST1 := Lib.hid st1
            have ST2 := Lib.hid (HT.out.setCell (p := ⟨sb, y, none⟩) (.inl rfl) (.bool true))
            have y0 : ¬ ((y : Int) < 0) := by omega
            have y1 : (y : Int) < (n8 : Int) := by omega
            have y2 : (0 : Int) ≤ (y : Int) := by omega
            have y3 : ¬ ((n8 : Int) ≤ (y : Int)) := by omega
            have k2 : (k : Int) < (n8 : Int) := by omega
            have HK8 := Lib.hid hk8
            clear st1 st2 hy z1 z2 z3 z4 hcell8 hsl
            go_wp2_with fail
            go_roundw
            case rel => exact ⟨k + 1, HK8.out, by go_num, ST1, ST2⟩
            case measure =>
              show _ < _
              have := HK8.out
              simp only [intOf]; omega
          · have HSf := Lib.hid (HS3.out.far ((Tch.of (fun j => j = sb) HB4.out).trans HT.out) (fun j e => by rw [HSb.out]; omega))
            have i5 : IntKind.i64.wrap ((i : Int) + 1) = (i : Int) + 1 := IntWalk.i64_in _ (by have := HN.out; omega)
            have HN8 := Lib.hid hn'
            clear HO HT HS3 HS4 HA4 HOw HS hn'
            go_wp2_with fail
            go_roundw
            case rel => exact ⟨i + 1, HK.out, by go_num, n8, S', xs', out', p6, n6, c6, HN8.out, rfl, rfl, HNB, HSf⟩
            case measure =>
              show _ < _
              have := HK.out
              simp only [intOf]; omega
    · have HBe := Lib.hid HS.out.be
      clear HS HNB
      go_wp2_with fail
      refine (works_any D wr).mono ?_
      rintro e w9 ⟨rfl, hb9⟩
      have HB9 := Lib.hid (HBe.out.trans (hb9.mono HBe.out.size))
      clear hb9
      go_wp2
      go_ret
      exact ⟨rfl, HB9.out⟩
set_option maxHeartbeats 1000000 in
theorem nobody_long (D : DqApi) (rm : Int) (pa : Option Addr) (na ca : Nat) (w : World) (hn : 150 < na) :
    Calls Try.prog 4 #[.int .u8 rm, .slice pa na ca] w (Ans (.bool true) w) := by
  have l1 : (150 : Int) < (na : Int) := by omega
  go_enter Try.func4, Try.ntmps4
  go_wp2_with fail
  refine (works_any D w).mono ?_
  rintro e w1 ⟨rfl, hb1⟩
  have HB := Lib.hid hb1
  clear hb1
  go_wp2
  go_ret
  exact ⟨rfl, HB.out⟩
theorem nobody_any (D : DqApi) (rm : Int) (hrm : 0 ≤ rm ∧ rm ≤ 255) (v : Value) (zs : List Int) (w : World) (hz : SlIs (fun _ => False) w v zs) (hwf : ∀ z ∈ zs, -9223372036854775808 ≤ z ∧ z ≤ 9223372036854775807) :
    Calls Try.prog 4 #[.int .u8 rm, v] w (Ans (.bool true) w) := by
  obtain ⟨pa, na, ca, rfl, hn⟩ := hid_slice hz
  by_cases h : na ≤ 150
  · exact nobody_go D rm hrm pa na ca zs w hz hn hwf h
  · exact nobody_long D rm pa na ca w (by omega)
/-- of whatever length -/
theorem nobody_in (D : DqApi) (rm : Int) (hrm : 0 ≤ rm ∧ rm ≤ 255) (v : Value) (zs : List Int) (w : World) (hz : InSl w v zs) (hwf : ∀ z ∈ zs, -9223372036854775808 ≤ z ∧ z ≤ 9223372036854775807) :
    Calls Try.prog 4 #[.int .u8 rm, v] w (Ans (.bool true) w) := by
  by_cases h : zs.length ≤ 1000
  · exact nobody_any D rm hrm v zs w (hz.sl h) hwf
  · obtain ⟨p, n, c, rfl, hn, -, -⟩ := hz
    exact nobody_long D rm p n c w (by omega)
end Go.Proofs.Ytjdbmedealhbjaa
