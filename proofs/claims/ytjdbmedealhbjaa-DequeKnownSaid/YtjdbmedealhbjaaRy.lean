/- The ring gone over: the closure that some hands back (layer 8). -/
import Derived.Test.YtjdbmedealhbjaaRx
import Derived.Test.YtjdbmedealhbjaaRk
import Derived.Test.YtjdbmedealhbjaaWp
import Derived.RangeFuncNested
import Derived.RangeFuncBound
import Derived.RangeFuncCalls
import Derived.RangeFuncLeaves
import Derived.Shelf.Abstract
import Derived.Shelf.RegionOpen
import Derived.WalkKit
import Derived.OwnWalkIn
import Derived.TacticsInMore
import Derived.LoopNIn
import Derived.LoopIn
import Derived.Sort.CutIn
namespace Go.Proofs.Ytjdbmedealhbjaa
open Go.RowKit Go.Shelf Go.Wd Go.Dk
attribute [local go_sem] Oper.semAt_some

/-- what is gone over: nothing of none, or a ring's numbers from the fr-th on, m at most -/
def SrcIs (n₀ : Nat) (W : World) (v : Value) (fr m : Nat) (ys : List Int) : Prop :=
  (v = .pointer none ∧ ys = []) ∨ ∃ db g x q xs, v = dptr db ∧ db < n₀ ∧ g < n₀ ∧ RingAt W db g x q xs ∧ ys = (xs.drop fr).take m
theorem SrcIs.bel {n₀ : Nat} {W W' : World} {v : Value} {fr m : Nat} {ys : List Int} (h : SrcIs n₀ W v fr m ys) (hb : Below n₀ W W') : SrcIs n₀ W' v fr m ys := by
  rcases h with h | ⟨db, g, x, q, xs, h1, h2, h3, h4, h5⟩
  · exact .inl h
  · exact .inr ⟨db, g, x, q, xs, h1, h2, h3, h4.bel hb h2 h3, h5⟩
abbrev tsD : List TypeId := [27, 71]
theorem pls_at {x fr m q : Nat} {xs : List Int} (hl : ln x = xs.length) (hq : xs.length ≤ q) (hq2 : q ≤ 65536) : pls x fr m = (List.range ((xs.drop fr).take m).length).map fun j => ((pat x fr j : Nat) : Int) := by
  rw [pls_some (by omega), List.length_take, List.length_drop, hl]
set_option maxRecDepth 100000 in
set_option maxHeartbeats 4000000 in
theorem places_src {W : World} {db g x q : Nat} {xs : List Int} (r : RingAt W db g x q xs) (fr m N : Nat) (hN : ((xs.drop fr).take m).length = N) (W2 : World) : Calls Try.prog 55 #[.int .u64 x, .int .u32 fr, .int .u32 m] W2 (fun e w' => ∃ p c, e = .returned (.slice p N c) ∧ Hid (w'.ownsRow W2.heap.size 71 1 (.slice p N c) N ((List.range N).map fun j => Value.int .u32 ((pat x fr j : Nat) : Int))) ∧ Hid (Below W2.heap.size W2 w')) := by
  have hq := room_bd r.rm
  refine (places_any x fr m r.hx W2).mono ?_
  rintro e w' ⟨v, rfl, hO, hb⟩
  rw [pls_at r.hl r.le (by omega), hN] at hO
  simp only [List.length_map, List.length_range, List.map_map] at hO
  obtain ⟨p, c, rfl⟩ := ownk_form hO
  exact ⟨p, c, rfl, hO, hb⟩
set_option maxRecDepth 100000 in
set_option maxHeartbeats 4000000 in
theorem some1_in (n : Nat) (hn : 1 ≤ n) (l n₀ Bd Bf Bm fr m : Nat) (v : Value) (ys : List Int) (J Jx : List Int → World → Prop)
    (hY : ∀ pre x W, J pre W → pre.length < ys.length → YieldAt Fence.wide (n - 1) Try.prog l #[.int .i64 x] W fun e W' =>
      (e = .returned (.bool true) ∧ J (pre ++ [x]) W' ∧ KpT n₀ tsD W W') ∨ (e = .returned (.bool false) ∧ Jx (pre ++ [x]) W'))
    (hJ : ∀ p A B, J p A → Below A.heap.size A B → J p B)
    (W : World) (hBd : Boxed W Bd 27 v) (hBf : Boxed W Bf 71 (.int .u32 fr)) (hBm : Boxed W Bm 71 (.int .u32 m)) (hS : SrcIs n₀ W v fr m ys) (hn0 : n₀ ≤ W.heap.size) (h0 : J [] W) :
    CallsIn Fence.wide n Try.prog 54 #[.func (.yield l) #[] #[], .pointer (some ⟨Bd, 0, none⟩), .pointer (some ⟨Bf, 0, none⟩), .pointer (some ⟨Bm, 0, none⟩)] W fun e W' => (∃ v, e = .returned v) ∧
      ((∃ zs, zs = ys ∧ J zs W') ∨ (∃ pre, (∃ k, k ≤ ys.length ∧ pre = ys.take k) ∧ Jx pre W')) := by
  have cBd := hBd.cell
  rcases hS with ⟨rfl, rfl⟩ | ⟨db, g, x, q, xs, rfl, hdb, hg, hR, hys⟩
  · refine callsIn_of_wp Try.func54 rfl trivial ?_ rfl
    simp only [Try.ntmps54, List.size_toArray, List.length_cons, List.length_nil, Nat.reduceAdd, Nat.reduceSub, Array.replicate_succ, Array.replicate_zero, List.push_toArray, List.append_toArray, List.nil_append, List.cons_append]
    clear hBd hBf hBm hY hJ
    gi_wp2
    refine bodyPost_ret (results_none rfl _ _ _) rfl ?_
    exact ⟨⟨_, rfl⟩, .inl ⟨_, rfl, h0⟩⟩
  · obtain ⟨N, hN⟩ : ∃ N, ys.length = N := ⟨_, rfl⟩
    have cBf := hBf.cell
    have cBm := hBm.cell
    have c0 := hR.c0
    have hq := room_bd hR.rm
    have hN2 : N ≤ 65536 := by
      rw [← hN, hys, List.length_take, List.length_drop]
      have := hR.le
      omega
    have HP : Hid (∀ W2, Below W.heap.size W W2 → Calls Try.prog 55 #[.int .u64 x, .int .u32 fr, .int .u32 m] W2 (fun e w' => ∃ p c, e = .returned (.slice p N c) ∧ Hid (w'.ownsRow n₀ 71 1 (.slice p N c) N ((List.range N).map fun j => Value.int .u32 ((pat x fr j : Nat) : Int))) ∧ Hid (Below W.heap.size W w') ∧ w'.cell? ⟨Bd, 0, none⟩ = some (dptr db) ∧ w'.cell? ⟨Bf, 0, none⟩ = some (.int .u32 fr) ∧ w'.cell? ⟨Bm, 0, none⟩ = some (.int .u32 m) ∧ w'.cell? ⟨db, 0, none⟩ = some (.int .u64 x))) := fun W2 hb => by
      refine (places_src hR fr m N (by rw [← hys]; exact hN) W2).mono ?_
      rintro e w' ⟨p, c, rfl, h1, h2⟩
      have hb2 : Below W.heap.size W w' := hb.trans (h2.out.mono hb.size)
      exact ⟨p, c, rfl, ownk_base h1.out (Nat.le_trans hn0 hb.size), hb2, by rw [hb2.cell (block_lt_of_cell cBd)]; exact cBd, by rw [hb2.cell (block_lt_of_cell cBf)]; exact cBf, by rw [hb2.cell (block_lt_of_cell cBm)]; exact cBm, by rw [hb2.cell (block_lt_of_cell c0)]; exact c0⟩
    have HY := Lib.hid hY
    have HJ := Lib.hid hJ
    have H0 := Lib.hid h0
    have HR := Lib.hid hR
    have HYS := Lib.hid hys
    have HN := Lib.hid hN
    have HB := Lib.hid hBd
    have HZ := Lib.hid (And.intro hn0 (And.intro hdb hg))
    have hmx : Try.prog.follows .mixedOrders = true := by kernel_rfl
    clear hY hJ h0 hR hys hN hBd hBf hBm hq hdb hg hn0
    refine callsIn_of_wp Try.func54 rfl trivial ?_ rfl
    simp only [Try.ntmps54, List.size_toArray, List.length_cons, List.length_nil, Nat.reduceAdd, Nat.reduceSub, Array.replicate_succ, Array.replicate_zero, List.push_toArray, List.append_toArray, List.nil_append, List.cons_append]
    gi_wp2_with fail
    gi_cut [16, 17, 18] from 31 (fun s16 s17 s18 wc => ∃ p c, s16 = .slice p N c ∧ s17 = .int .i64 N ∧ s18 = .int .i64 0 ∧ Hid (wc.ownsRow n₀ 71 1 (.slice p N c) N ((List.range N).map fun j => Value.int .u32 ((pat x fr j : Nat) : Int))) ∧ Hid (Below W.heap.size W wc))
    case first =>
      gi_region_with_o (first
        | (refine ⟨trivial, ?_⟩; gi_at_call 55; refine (callsIn_wide.2 (HP.out _ (by first | exact Below.refl _ _ | exact (Below.refl _ _).drew))).mono ?_; rintro e w2 ⟨p, c, rfl, HO, hb2, d1, d2, d3, d4⟩))
      all_goals
        gi_wp2_with fail
        gi_meet
        exact ⟨p, c, rfl, rfl, rfl, HO, hb2⟩
    case rest =>
      obtain ⟨p, c, rfl, rfl, rfl, HO, HBw⟩ := hcut
      clear HP c0 cBd cBf cBm
      gi_wp2_with fail
      gi_loopw [18] (fun i wr => ∃ k : Nat, k ≤ N ∧ i = .int .i64 k ∧ Hid (J (ys.take k) wr ∧ KpT n₀ tsD wc wr)) (fun i _ => N - (intOf i).toNat)
      case atStart => exact ⟨0, Nat.zero_le _, rfl, by rw [List.take_zero]; exact HJ.out _ _ _ H0.out HBw.out, kpT_refl _⟩
      case round =>
        obtain ⟨k, hk, rfl, hJs⟩ := hrel
        by_cases hlt : k < N
        · have hki : (k : Int) < (N : Int) := by omega
          obtain ⟨pt, hpt, hpt2⟩ : ∃ pt, pat x fr k = pt ∧ pt < 4294967296 := ⟨_, rfl, Nat.mod_lt _ (by decide)⟩
          have hrow := hJs.out.2.row (e := 71) (by simp) HO.out
          obtain ⟨b, rfl, hc⟩ : ∃ b, p = some ⟨b, 0, none⟩ ∧ wr.cell? ⟨b, k, none⟩ = some (.int .u32 (pt : Int)) := by
            rcases hrow.2 with ⟨hv, h0⟩ | ⟨b, cap, cur, hv, hB, hg, h1, h2, h3, h4⟩
            · omega
            · cases hv
              refine ⟨b, rfl, ?_⟩
              have := hrow.cellAt k (by omega)
              rw [this, ← hpt]
              simp [List.getElem?_map, hlt]
          have hdz := (hJs.out.2.boxed (by simp) (show Boxed wc Bd 27 (dptr db) from (HBw.out.block _ HB.out.lt).trans HB.out)).cell
          have HRr := Lib.hid ((HR.out.bel (HBw.out.mono HZ.out.1) HZ.out.2.1 HZ.out.2.2).bel hJs.out.2.1 HZ.out.2.1 HZ.out.2.2)
          obtain ⟨y, hy⟩ : ∃ y, ys.getD k 0 = y := ⟨_, rfl⟩
          obtain ⟨s, hs⟩ : ∃ s, pt % q = s := ⟨_, rfl⟩
          have hcs : ∀ W2, Below wr.heap.size wr W2 → W2.cell? ⟨g, s, none⟩ = some (.int .i64 y) := fun W2 hb => by
            have h1 : fr + k < xs.length := by
              have e1 := HN.out
              rw [HYS.out, List.length_take, List.length_drop] at e1
              omega
            have := (HRr.out.on hb).cells (fr + k) h1
            rw [← Nat.add_assoc, show (hd x + fr + k) % 4294967296 = pt from hpt, hs] at this
            rw [this, ← hy, HYS.out]
            have e2 : k < m := by
              have e1 := HN.out
              rw [HYS.out, List.length_take, List.length_drop] at e1
              omega
            simp [List.getD, List.getElem?_take, List.getElem?_drop, e2]
          have HSl : Hid (Calls Try.prog 42 #[dptr db, .int .u32 pt] wr (fun e w' => e = .returned (.pointer (some ⟨g, s, none⟩)) ∧ Hid (Below wr.heap.size wr w') ∧ w'.cell? ⟨g, s, none⟩ = some (.int .i64 y))) := by
            have := dslot_any HRr.out pt hpt2
            rw [hs] at this
            refine this.mono ?_
            rintro e w' ⟨rfl, hb2⟩
            exact ⟨rfl, hb2, hcs _ hb2⟩
          have HTk : Hid (ys.take (k + 1) = ys.take k ++ [y]) := by
            have e1 : k < ys.length := by rw [HN.out]; exact hlt
            show _ = _
            rw [List.take_add_one, List.getElem?_eq_getElem e1, ← hy]
            simp [List.getD, e1]
          have HYy : Hid (∀ W2, Below wr.heap.size wr W2 → YieldAt Fence.wide (n - 1) Try.prog l #[.int .i64 y] W2 fun e W' =>
              ∃ b, e = .returned (.bool b) ∧ Hid ((b = true ∧ J (ys.take (k + 1)) W' ∧ KpT n₀ tsD wc W') ∨ (b = false ∧ Jx (ys.take (k + 1)) W'))) := fun W2 hb => by
            have z := (HBw.out.mono HZ.out.1).size
            have z2 := hJs.out.2.1.size
            have hKp : KpT n₀ tsD wc W2 := kpT_t hJs.out.2 (KpT.of hb (by have := HZ.out.1; omega))
            refine (HY.out _ y W2 (HJ.out _ _ _ hJs.out.1 hb) (by rw [List.length_take, HN.out]; omega)).mono ?_
            rw [HTk.out]
            rintro e W' (⟨rfl, h1, h2⟩ | ⟨rfl, h1⟩)
            · exact ⟨true, rfl, .inl ⟨rfl, h1, kpT_t hKp h2⟩⟩
            · exact ⟨false, rfl, .inr ⟨rfl, h1⟩⟩
          clear hpt hy hs hcs hrow hJs H0 HO
          gi_wp2_with (first
            | (refine ⟨trivial, ?_⟩; gi_at_call 42; refine (callsIn_wide.2 HSl.out).mono ?_; rintro e w2 ⟨rfl, hb2, hc2⟩; obtain ⟨fn, tmps, assign, body, hy, hR⟩ := HYy.out w2 hb2.out)
            | (refine hR.mono ?_; rintro e W3 ⟨b, rfl, HB3⟩))
          · rename_i hbb
            rcases HB3.out with ⟨rfl, h1⟩ | ⟨rfl, h1⟩
            · exact absurd hbb (by decide)
            · refine bodyPost_ret (results_none rfl _ _ _) rfl ?_
              exact ⟨⟨_, rfl⟩, .inr ⟨_, ⟨k + 1, by rw [HN.out]; omega, rfl⟩, h1⟩⟩
          · rename_i hbb
            rcases HB3.out with ⟨rfl, h1, h2⟩ | ⟨rfl, h1⟩
            · refine ⟨⟨k + 1, by omega, by go_num, h1, h2⟩, ?_⟩
              simp only [intOf]; omega
            · exact absurd hbb (by decide)
        · obtain rfl : k = N := by omega
          have hJ9 := hJs.out.1
          rw [← HN.out, List.take_length] at hJ9
          have HJ9 := Lib.hid hJ9
          clear hJ9 HO H0
          gi_wp2
          go_end0
          exact ⟨⟨_, rfl⟩, .inl ⟨_, rfl, HJ9.out⟩⟩
end Go.Proofs.Ytjdbmedealhbjaa
