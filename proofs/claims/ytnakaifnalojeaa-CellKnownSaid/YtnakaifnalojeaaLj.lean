/- The law's mems, walked (layer 6). -/
import Derived.Test.YtnakaifnalojeaaLi
set_option linter.unusedSimpArgs false
set_option linter.unusedVariables false
namespace Go.Proofs.Ytnakaifnalojeaa
open Go.RowKit Go.Ce

/-- the reference's memory in the box tb, behind some calls -/
structure Ms (w0 W : World) (tb : Nat) (m : PM) (p : Option Addr) (l c : Nat) : Prop where
  box : Row tb 76 [.slice p l c, .int .u64 m.k.ops] W
  rm : RM W p l c m.cs
  bel : Below w0.heap.size w0 W
  ht : w0.heap.size ≤ tb
theorem Ms.put {w0 W : World} {tb : Nat} {m : PM} {q : Option Addr} {l2 c2 : Nat} {y : Value} {lq cq : Nat} {q0 : Option Addr} (hr : Row tb 76 [.slice q0 lq cq, y] W) (hm : RM W q l2 c2 m.cs) (hb : Below w0.heap.size w0 W) (ht : w0.heap.size ≤ tb) :
    Ms w0 ((W.setCell ⟨tb, 0, none⟩ (.slice q l2 c2)).setCell ⟨tb, 1, none⟩ (.int .u64 m.k.ops)) tb m q l2 c2 :=
  ⟨hr.put2 _ _, (hm.put hr _).put (hr.set 0 (.slice q l2 c2)) _, (hb.setCell (p := ⟨tb, 0, none⟩) ht _).setCell (p := ⟨tb, 1, none⟩) ht _, ht⟩
theorem Ms.drew {w0 W : World} {tb : Nat} {m : PM} {p : Option Addr} {l c : Nat} (h : Ms w0 W tb m p l c) : Ms w0 W.drew tb m p l c := ⟨h.box, h.rm.on (Below.refl _ _).drew, h.bel.drew, h.ht⟩

set_option maxRecDepth 20000 in
set_option maxHeartbeats 8000000 in
theorem mems_any (n : Int) (N : Nat) (hN : nN n = N) (h40 : N ≤ 1000) {b g : Nat} (pa : Option Addr) (ca : Nat) (l0 : List Acc) (w : World) (hl : LiesA w pa l0) (hll : l0.length ≤ 1000) (hm : MemIs w b g (runM (PM.new N) l0)) :
    Calls Try.prog 15 #[.pointer (some ⟨b, 0, none⟩), .int .i64 n, .slice pa l0.length ca] w (Ans (.bool true) w) := by
  have HL := Lib.hid hl
  have HM := Lib.hid hm
  obtain ⟨la, hla⟩ : ∃ k, l0.length = k := ⟨_, rfl⟩
  have HLA := Lib.hid (And.intro hla (by rw [hla] at hll; exact hll))
  rw [hla]
  have hnew := rnew_any n N hN h40 w
  have hops : ∀ i, i ≤ l0.length → (runM (PM.new N) (l0.take i)).k.ops ≤ i := fun i hi => by
    have := run_tied (l0.take i) (Tied.new N)
    rw [this.ops]
    have := runX_len N [] (l0.take i)
    rw [List.length_take] at this
    simp at this
    omega
  have HOps := Lib.hid hops
  clear hl hm hla hll hN h40 hops
  go_enter Try.func15, Try.ntmps15
  go_wp2_with fail
  refine hnew.mono ?_
  rintro e w1 ⟨p1, l1, c1, rfl, hm1, hb1⟩
  have HMs : Hid (Ms w (w1.alloc (.cells #[.slice p1 l1 c1, .int .u64 0] 76)) w1.heap.size (runM (PM.new N) (l0.take 0)) p1 l1 c1) := by
    have a1 := (Below.refl w1.heap.size w1).alloc (Nat.le_refl _) (.cells #[.slice p1 l1 c1, .int .u64 0] 76)
    exact ⟨Row.new w1 _ [.slice p1 l1 c1, .int .u64 0], hm1.on a1, hb1.trans (a1.mono hb1.size), hb1.size⟩
  clear hm1 hb1 hnew
  go_upto_region 2 with (fail)
  obtain ⟨W, hW⟩ : ∃ W, w1.alloc (.cells #[.slice p1 l1 c1, .int .u64 0] 76) = W := ⟨_, rfl⟩
  obtain ⟨tb, htb⟩ : ∃ tb, w1.heap.size = tb := ⟨_, rfl⟩
  rw [hW, htb] at HMs
  rw [hW, htb]
  clear hW htb
  go_wp2_with fail
  go_loopw [8] (fun vi wr => ∃ i : Nat, i ≤ la ∧ vi = .int .i64 i ∧ ∃ p l c, Hid (Ms w wr tb (runM (PM.new N) (l0.take i)) p l c)) (fun vi _ => la - (intOf vi).toNat)
  case atStart => exact ⟨0, by omega, rfl, p1, l1, c1, HMs⟩
  case round =>
    clear HMs
    obtain ⟨i, hi, rfl, p, l, c, HR⟩ := hrel
    by_cases hlt : i < la
    · have hil : i < l0.length := by rw [HLA.out.1]; exact hlt
      obtain ⟨ab, ao, rfl, e0, e1, e2, e3⟩ := (HL.out.on HR.out.bel).at hil
      obtain ⟨x, hx⟩ : ∃ x, l0.getD i default = x := ⟨_, rfl⟩
      rw [hx] at e0 e1 e2 e3
      have hop := HOps.out i (by omega)
      obtain ⟨m, hm⟩ : ∃ m, runM (PM.new N) (l0.take i) = m := ⟨_, rfl⟩
      have hm2 := run_take (PM.new N) l0 i hil
      rw [hm, hx] at hm2
      rw [hm] at HR hop
      have HM2 := Lib.hid hm2
      have HOp := Lib.hid (show m.k.ops ≤ 1000000 by have := HLA.out; omega)
      have i2 : (i : Int) < (la : Int) := by omega
      have hwi : IntKind.i64.wrap ((i : Int) + 1) = (i : Int) + 1 := IntWalk.i64_in _ (by have := HLA.out.2; omega)
      have HK := Lib.hid hlt
      have t0 := HR.out.box.cell 0
      have t1 := HR.out.box.cell 1
      simp only [List.getElem?_cons_zero, List.getElem?_cons_succ] at t0 t1
      obtain ⟨no, hno⟩ : ∃ no : Nat, m.k.ops = no := ⟨_, rfl⟩
      have HNo := Lib.hid hno
      rw [hno] at t1
      obtain ⟨xk, xa, xo, xn⟩ := x
      simp only at e0 e1 e2 e3 HM2
      have hbl : Below wr.heap.size wr wr.drew := (Below.refl _ _).drew
      have hRMd := HR.out.rm.on hbl
      have hl1 := mload xa xo xn hRMd HOp.out
      have hl2 := mstore xa xo xn hRMd HOp.out
      have hl3 := mcas xa xo xn hRMd HOp.out
      have hl4 := madd xa xo xn hRMd HOp.out
      rw [hno] at hl1 hl2 hl3 hl4
      have HC1 := Lib.hid hl1
      have HC2 := Lib.hid hl2
      have HC3 := Lib.hid hl3
      have HC4 := Lib.hid hl4
      have HBd : Hid (Below w.heap.size w wr.drew) := HR.out.bel.drew
      have HS : Hid (∀ W, Below w.heap.size w W → W.cell? ⟨ab, ao + i * 4, none⟩ = some (.int .i64 xk) ∧ W.cell? ⟨ab, ao + i * 4 + 1, none⟩ = some (.int .i64 xa) ∧ W.cell? ⟨ab, ao + i * 4 + 2, none⟩ = some (.int .u64 xo) ∧ W.cell? ⟨ab, ao + i * 4 + 3, none⟩ = some (.int .u64 xn)) := fun W hb => by
        obtain ⟨b', o', hp, q⟩ := (HL.out.on hb).at hil
        cases hp
        rw [hx] at q
        exact q
      clear hm hm2 hx hlt hil hop hno hi hl1 hl2 hl3 hl4 hRMd hbl
      by_cases h1 : xk = 1
      · subst h1
        go_wp2_with fail
        refine wp_region_held_drew (S := fun w' => w'.cell? ⟨ab, ao + i * 4, none⟩ = some (.int .i64 1) ∧ w'.cell? ⟨ab, ao + i * 4 + 1, none⟩ = some (.int .i64 xa) ∧ w'.cell? ⟨ab, ao + i * 4 + 2, none⟩ = some (.int .u64 xo) ∧ w'.cell? ⟨ab, ao + i * 4 + 3, none⟩ = some (.int .u64 xn)) (by kernel_rfl) (HS.out _ HBd.out) (fun hHeld => ?_)
        refine wpAnyH_take (i := 1) (v := .slice (some ⟨ab, ao, none⟩) la ca) rfl (by kernel_rfl) (by kernel_rfl) (by kernel_rfl) (fun _ _ _ h => h) (Or.inl ⟨by rfl, fun w hSw => by obtain ⟨y1, y2, y3, y4⟩ := hSw; go_simp⟩) hHeld ?_
        (try simp only [Act.put, List.setIfInBounds_toArray, List.set_cons_zero, List.set_cons_succ])
        refine wpAnyH_take (i := 2) (v := .int .i64 (i : Int)) rfl (by kernel_rfl) (by kernel_rfl) (by kernel_rfl) (fun _ _ _ h => h) (Or.inl ⟨by rfl, fun w hSw => by obtain ⟨y1, y2, y3, y4⟩ := hSw; go_simp⟩) hHeld ?_
        (try simp only [Act.put, List.setIfInBounds_toArray, List.set_cons_zero, List.set_cons_succ])
        refine wpAnyH_take (i := 3) (v := .pointer (some ⟨ab, ao + i * 4, none⟩)) rfl (by kernel_rfl) (by kernel_rfl) (by kernel_rfl) (fun _ _ _ h => h) (Or.inl ⟨by rfl, fun w hSw => by obtain ⟨y1, y2, y3, y4⟩ := hSw; go_simp⟩) hHeld ?_
        (try simp only [Act.put, List.setIfInBounds_toArray, List.set_cons_zero, List.set_cons_succ])
        refine wpAnyH_take (i := 4) (v := .pointer (some ⟨ab, ao + i * 4 + 1, none⟩)) rfl (by kernel_rfl) (by kernel_rfl) (by kernel_rfl) (fun _ _ _ h => h) (Or.inl ⟨by rfl, fun w hSw => by obtain ⟨y1, y2, y3, y4⟩ := hSw; go_simp⟩) hHeld ?_
        (try simp only [Act.put, List.setIfInBounds_toArray, List.set_cons_zero, List.set_cons_succ])
        refine wpAnyH_take (i := 5) (v := .int .i64 xa) rfl (by kernel_rfl) (by kernel_rfl) (by kernel_rfl) (fun _ _ _ h => h) (Or.inl ⟨by rfl, fun w hSw => by obtain ⟨y1, y2, y3, y4⟩ := hSw; go_simp⟩) hHeld ?_
        (try simp only [Act.put, List.setIfInBounds_toArray, List.set_cons_zero, List.set_cons_succ])
        refine wpAnyH_ready (rs := [0]) (by kernel_rfl) (by simp) ?_
        refine AllReadyH.cons rfl (fun K hK => ?_) AllReadyH.nil
        go_simp
        refine hK.out _ _ hHeld (fun hHeld2 => ?_)
        clear hK K hHeld
        (try simp only [Act.put, List.setIfInBounds_toArray, List.set_cons_zero, List.set_cons_succ])
        refine wpAnyH_ready (rs := [6]) (by kernel_rfl) (by simp) ?_
        refine AllReadyH.cons rfl (fun K hK => ?_) AllReadyH.nil
        go_simp
        refine HC1.out.mono ?_
        rintro e w3 ⟨q, l2, c2, v, rfl, hm3, hb3⟩
        have hb4 : Below wr.heap.size wr w3 := ((Below.refl wr.heap.size wr).drew).trans hb3
        have HB4 := Lib.hid (HR.out.bel.trans (hb4.mono HR.out.bel.size))
        have HBx := Lib.hid (HR.out.box.on' hb4)
        have HMs2 := Lib.hid (Ms.put (w0 := w) HBx.out hm3 (HR.out.bel.trans (hb4.mono HR.out.bel.size)) HR.out.ht)
        have d0 := HBx.out.cell 0
        have d1 := HBx.out.cell 1
        have f0 := HBx.out.frozen 0
        have f1 := HBx.out.frozen 1
        simp only [List.getElem?_cons_zero, List.getElem?_cons_succ] at d0 d1
        clear hm3 hb3 hb4 hHeld2
        go_simp
        refine hK.out _ _ (HS.out _ HB4.out) (fun hHeld => ?_)
        clear hK K
        (try simp only [Act.put, List.setIfInBounds_toArray, List.set_cons_zero, List.set_cons_succ])
        refine wpAnyH_take (i := 7) (v := .tuple #[.agg #[.slice q l2 c2, .int .u64 (m.go 1 xa xo xn).k.ops], v]) rfl (by kernel_rfl) (by kernel_rfl) (by kernel_rfl) (fun _ _ _ h => h) (Or.inl ⟨by rfl, fun w hSw => by obtain ⟨y1, y2, y3, y4⟩ := hSw; go_simp⟩) hHeld ?_
        (try simp only [Act.put, List.setIfInBounds_toArray, List.set_cons_zero, List.set_cons_succ])
        refine wpAnyH_take (i := 8) (v := .agg #[.slice q l2 c2, .int .u64 (m.go 1 xa xo xn).k.ops]) rfl (by kernel_rfl) (by kernel_rfl) (by kernel_rfl) (fun _ _ _ h => h) (Or.inl ⟨by rfl, fun w hSw => by obtain ⟨y1, y2, y3, y4⟩ := hSw; go_simp⟩) hHeld ?_
        (try simp only [Act.put, List.setIfInBounds_toArray, List.set_cons_zero, List.set_cons_succ])
        refine wpAnyH_take (i := 9) (v := v) rfl (by kernel_rfl) (by kernel_rfl) (by kernel_rfl) (fun _ _ _ h => h) (Or.inl ⟨by rfl, fun w hSw => by obtain ⟨y1, y2, y3, y4⟩ := hSw; go_simp⟩) hHeld ?_
        (try simp only [Act.put, List.setIfInBounds_toArray, List.set_cons_zero, List.set_cons_succ])
        refine wpAnyH_ready (rs := [10]) (by kernel_rfl) (by simp) ?_
        refine AllReadyH.cons rfl (fun K hK => ?_) AllReadyH.nil
        go_simp
        refine hK.out _ _ (HS.out _ HMs2.out.bel) (fun hHeld2 => ?_)
        clear hK K hHeld
        refine wpAnyH_done (by kernel_rfl) ?_ _
        go_wp2_with fail
        go_roundw
        case rel => exact ⟨i + 1, HK.out, by go_num, q, l2, c2, by show Ms _ _ _ _ _ _ _; rw [HM2.out]; exact HMs2.out⟩
        case measure =>
          show _ < _
          have := HK.out
          simp only [intOf]; omega
      by_cases h2 : xk = 2
      · subst h2
        go_wp2_with fail
        refine wp_region_held_drew (S := fun w' => w'.cell? ⟨ab, ao + i * 4, none⟩ = some (.int .i64 2) ∧ w'.cell? ⟨ab, ao + i * 4 + 1, none⟩ = some (.int .i64 xa) ∧ w'.cell? ⟨ab, ao + i * 4 + 2, none⟩ = some (.int .u64 xo) ∧ w'.cell? ⟨ab, ao + i * 4 + 3, none⟩ = some (.int .u64 xn)) (by kernel_rfl) (HS.out _ HBd.out) (fun hHeld => ?_)
        refine wpAnyH_take (i := 1) (v := .slice (some ⟨ab, ao, none⟩) la ca) rfl (by kernel_rfl) (by kernel_rfl) (by kernel_rfl) (fun _ _ _ h => h) (Or.inl ⟨by rfl, fun w hSw => by obtain ⟨y1, y2, y3, y4⟩ := hSw; go_simp⟩) hHeld ?_
        (try simp only [Act.put, List.setIfInBounds_toArray, List.set_cons_zero, List.set_cons_succ])
        refine wpAnyH_take (i := 2) (v := .int .i64 (i : Int)) rfl (by kernel_rfl) (by kernel_rfl) (by kernel_rfl) (fun _ _ _ h => h) (Or.inl ⟨by rfl, fun w hSw => by obtain ⟨y1, y2, y3, y4⟩ := hSw; go_simp⟩) hHeld ?_
        (try simp only [Act.put, List.setIfInBounds_toArray, List.set_cons_zero, List.set_cons_succ])
        refine wpAnyH_take (i := 3) (v := .pointer (some ⟨ab, ao + i * 4, none⟩)) rfl (by kernel_rfl) (by kernel_rfl) (by kernel_rfl) (fun _ _ _ h => h) (Or.inl ⟨by rfl, fun w hSw => by obtain ⟨y1, y2, y3, y4⟩ := hSw; go_simp⟩) hHeld ?_
        (try simp only [Act.put, List.setIfInBounds_toArray, List.set_cons_zero, List.set_cons_succ])
        refine wpAnyH_take (i := 4) (v := .pointer (some ⟨ab, ao + i * 4 + 1, none⟩)) rfl (by kernel_rfl) (by kernel_rfl) (by kernel_rfl) (fun _ _ _ h => h) (Or.inl ⟨by rfl, fun w hSw => by obtain ⟨y1, y2, y3, y4⟩ := hSw; go_simp⟩) hHeld ?_
        (try simp only [Act.put, List.setIfInBounds_toArray, List.set_cons_zero, List.set_cons_succ])
        refine wpAnyH_take (i := 5) (v := .int .i64 xa) rfl (by kernel_rfl) (by kernel_rfl) (by kernel_rfl) (fun _ _ _ h => h) (Or.inl ⟨by rfl, fun w hSw => by obtain ⟨y1, y2, y3, y4⟩ := hSw; go_simp⟩) hHeld ?_
        (try simp only [Act.put, List.setIfInBounds_toArray, List.set_cons_zero, List.set_cons_succ])
        refine wpAnyH_take (i := 6) (v := .slice (some ⟨ab, ao, none⟩) la ca) rfl (by kernel_rfl) (by kernel_rfl) (by kernel_rfl) (fun _ _ _ h => h) (Or.inl ⟨by rfl, fun w hSw => by obtain ⟨y1, y2, y3, y4⟩ := hSw; go_simp⟩) hHeld ?_
        (try simp only [Act.put, List.setIfInBounds_toArray, List.set_cons_zero, List.set_cons_succ])
        refine wpAnyH_take (i := 7) (v := .int .i64 (i : Int)) rfl (by kernel_rfl) (by kernel_rfl) (by kernel_rfl) (fun _ _ _ h => h) (Or.inl ⟨by rfl, fun w hSw => by obtain ⟨y1, y2, y3, y4⟩ := hSw; go_simp⟩) hHeld ?_
        (try simp only [Act.put, List.setIfInBounds_toArray, List.set_cons_zero, List.set_cons_succ])
        refine wpAnyH_take (i := 8) (v := .pointer (some ⟨ab, ao + i * 4, none⟩)) rfl (by kernel_rfl) (by kernel_rfl) (by kernel_rfl) (fun _ _ _ h => h) (Or.inl ⟨by rfl, fun w hSw => by obtain ⟨y1, y2, y3, y4⟩ := hSw; go_simp⟩) hHeld ?_
        (try simp only [Act.put, List.setIfInBounds_toArray, List.set_cons_zero, List.set_cons_succ])
        refine wpAnyH_take (i := 9) (v := .pointer (some ⟨ab, ao + i * 4 + 3, none⟩)) rfl (by kernel_rfl) (by kernel_rfl) (by kernel_rfl) (fun _ _ _ h => h) (Or.inl ⟨by rfl, fun w hSw => by obtain ⟨y1, y2, y3, y4⟩ := hSw; go_simp⟩) hHeld ?_
        (try simp only [Act.put, List.setIfInBounds_toArray, List.set_cons_zero, List.set_cons_succ])
        refine wpAnyH_take (i := 10) (v := .int .u64 xn) rfl (by kernel_rfl) (by kernel_rfl) (by kernel_rfl) (fun _ _ _ h => h) (Or.inl ⟨by rfl, fun w hSw => by obtain ⟨y1, y2, y3, y4⟩ := hSw; go_simp⟩) hHeld ?_
        (try simp only [Act.put, List.setIfInBounds_toArray, List.set_cons_zero, List.set_cons_succ])
        refine wpAnyH_ready (rs := [0]) (by kernel_rfl) (by simp) ?_
        refine AllReadyH.cons rfl (fun K hK => ?_) AllReadyH.nil
        go_simp
        refine hK.out _ _ hHeld (fun hHeld2 => ?_)
        clear hK K hHeld
        (try simp only [Act.put, List.setIfInBounds_toArray, List.set_cons_zero, List.set_cons_succ])
        refine wpAnyH_ready (rs := [11]) (by kernel_rfl) (by simp) ?_
        refine AllReadyH.cons rfl (fun K hK => ?_) AllReadyH.nil
        go_simp
        refine HC2.out.mono ?_
        rintro e w3 ⟨q, l2, c2, rfl, hm3, hb3⟩
        have hb4 : Below wr.heap.size wr w3 := ((Below.refl wr.heap.size wr).drew).trans hb3
        have HB4 := Lib.hid (HR.out.bel.trans (hb4.mono HR.out.bel.size))
        have HBx := Lib.hid (HR.out.box.on' hb4)
        have HMs2 := Lib.hid (Ms.put (w0 := w) HBx.out hm3 (HR.out.bel.trans (hb4.mono HR.out.bel.size)) HR.out.ht)
        have d0 := HBx.out.cell 0
        have d1 := HBx.out.cell 1
        have f0 := HBx.out.frozen 0
        have f1 := HBx.out.frozen 1
        simp only [List.getElem?_cons_zero, List.getElem?_cons_succ] at d0 d1
        clear hm3 hb3 hb4 hHeld2
        go_simp
        refine hK.out _ _ (HS.out _ HB4.out) (fun hHeld => ?_)
        clear hK K
        (try simp only [Act.put, List.setIfInBounds_toArray, List.set_cons_zero, List.set_cons_succ])
        refine wpAnyH_ready (rs := [12]) (by kernel_rfl) (by simp) ?_
        refine AllReadyH.cons rfl (fun K hK => ?_) AllReadyH.nil
        go_simp
        refine hK.out _ _ (HS.out _ HMs2.out.bel) (fun hHeld2 => ?_)
        clear hK K hHeld
        refine wpAnyH_done (by kernel_rfl) ?_ _
        go_wp2_with fail
        go_roundw
        case rel => exact ⟨i + 1, HK.out, by go_num, q, l2, c2, by show Ms _ _ _ _ _ _ _; rw [HM2.out]; exact HMs2.out⟩
        case measure =>
          show _ < _
          have := HK.out
          simp only [intOf]; omega
      by_cases h3 : xk = 3
      · subst h3
        go_wp2_with fail
        refine wp_region_held_drew (S := fun w' => w'.cell? ⟨ab, ao + i * 4, none⟩ = some (.int .i64 3) ∧ w'.cell? ⟨ab, ao + i * 4 + 1, none⟩ = some (.int .i64 xa) ∧ w'.cell? ⟨ab, ao + i * 4 + 2, none⟩ = some (.int .u64 xo) ∧ w'.cell? ⟨ab, ao + i * 4 + 3, none⟩ = some (.int .u64 xn)) (by kernel_rfl) (HS.out _ HBd.out) (fun hHeld => ?_)
        refine wpAnyH_take (i := 1) (v := .slice (some ⟨ab, ao, none⟩) la ca) rfl (by kernel_rfl) (by kernel_rfl) (by kernel_rfl) (fun _ _ _ h => h) (Or.inl ⟨by rfl, fun w hSw => by obtain ⟨y1, y2, y3, y4⟩ := hSw; go_simp⟩) hHeld ?_
        (try simp only [Act.put, List.setIfInBounds_toArray, List.set_cons_zero, List.set_cons_succ])
        refine wpAnyH_take (i := 2) (v := .int .i64 (i : Int)) rfl (by kernel_rfl) (by kernel_rfl) (by kernel_rfl) (fun _ _ _ h => h) (Or.inl ⟨by rfl, fun w hSw => by obtain ⟨y1, y2, y3, y4⟩ := hSw; go_simp⟩) hHeld ?_
        (try simp only [Act.put, List.setIfInBounds_toArray, List.set_cons_zero, List.set_cons_succ])
        refine wpAnyH_take (i := 3) (v := .pointer (some ⟨ab, ao + i * 4, none⟩)) rfl (by kernel_rfl) (by kernel_rfl) (by kernel_rfl) (fun _ _ _ h => h) (Or.inl ⟨by rfl, fun w hSw => by obtain ⟨y1, y2, y3, y4⟩ := hSw; go_simp⟩) hHeld ?_
        (try simp only [Act.put, List.setIfInBounds_toArray, List.set_cons_zero, List.set_cons_succ])
        refine wpAnyH_take (i := 4) (v := .pointer (some ⟨ab, ao + i * 4 + 1, none⟩)) rfl (by kernel_rfl) (by kernel_rfl) (by kernel_rfl) (fun _ _ _ h => h) (Or.inl ⟨by rfl, fun w hSw => by obtain ⟨y1, y2, y3, y4⟩ := hSw; go_simp⟩) hHeld ?_
        (try simp only [Act.put, List.setIfInBounds_toArray, List.set_cons_zero, List.set_cons_succ])
        refine wpAnyH_take (i := 5) (v := .int .i64 xa) rfl (by kernel_rfl) (by kernel_rfl) (by kernel_rfl) (fun _ _ _ h => h) (Or.inl ⟨by rfl, fun w hSw => by obtain ⟨y1, y2, y3, y4⟩ := hSw; go_simp⟩) hHeld ?_
        (try simp only [Act.put, List.setIfInBounds_toArray, List.set_cons_zero, List.set_cons_succ])
        refine wpAnyH_take (i := 6) (v := .slice (some ⟨ab, ao, none⟩) la ca) rfl (by kernel_rfl) (by kernel_rfl) (by kernel_rfl) (fun _ _ _ h => h) (Or.inl ⟨by rfl, fun w hSw => by obtain ⟨y1, y2, y3, y4⟩ := hSw; go_simp⟩) hHeld ?_
        (try simp only [Act.put, List.setIfInBounds_toArray, List.set_cons_zero, List.set_cons_succ])
        refine wpAnyH_take (i := 7) (v := .int .i64 (i : Int)) rfl (by kernel_rfl) (by kernel_rfl) (by kernel_rfl) (fun _ _ _ h => h) (Or.inl ⟨by rfl, fun w hSw => by obtain ⟨y1, y2, y3, y4⟩ := hSw; go_simp⟩) hHeld ?_
        (try simp only [Act.put, List.setIfInBounds_toArray, List.set_cons_zero, List.set_cons_succ])
        refine wpAnyH_take (i := 8) (v := .pointer (some ⟨ab, ao + i * 4, none⟩)) rfl (by kernel_rfl) (by kernel_rfl) (by kernel_rfl) (fun _ _ _ h => h) (Or.inl ⟨by rfl, fun w hSw => by obtain ⟨y1, y2, y3, y4⟩ := hSw; go_simp⟩) hHeld ?_
        (try simp only [Act.put, List.setIfInBounds_toArray, List.set_cons_zero, List.set_cons_succ])
        refine wpAnyH_take (i := 9) (v := .pointer (some ⟨ab, ao + i * 4 + 2, none⟩)) rfl (by kernel_rfl) (by kernel_rfl) (by kernel_rfl) (fun _ _ _ h => h) (Or.inl ⟨by rfl, fun w hSw => by obtain ⟨y1, y2, y3, y4⟩ := hSw; go_simp⟩) hHeld ?_
        (try simp only [Act.put, List.setIfInBounds_toArray, List.set_cons_zero, List.set_cons_succ])
        refine wpAnyH_take (i := 10) (v := .int .u64 xo) rfl (by kernel_rfl) (by kernel_rfl) (by kernel_rfl) (fun _ _ _ h => h) (Or.inl ⟨by rfl, fun w hSw => by obtain ⟨y1, y2, y3, y4⟩ := hSw; go_simp⟩) hHeld ?_
        (try simp only [Act.put, List.setIfInBounds_toArray, List.set_cons_zero, List.set_cons_succ])
        refine wpAnyH_take (i := 11) (v := .slice (some ⟨ab, ao, none⟩) la ca) rfl (by kernel_rfl) (by kernel_rfl) (by kernel_rfl) (fun _ _ _ h => h) (Or.inl ⟨by rfl, fun w hSw => by obtain ⟨y1, y2, y3, y4⟩ := hSw; go_simp⟩) hHeld ?_
        (try simp only [Act.put, List.setIfInBounds_toArray, List.set_cons_zero, List.set_cons_succ])
        refine wpAnyH_take (i := 12) (v := .int .i64 (i : Int)) rfl (by kernel_rfl) (by kernel_rfl) (by kernel_rfl) (fun _ _ _ h => h) (Or.inl ⟨by rfl, fun w hSw => by obtain ⟨y1, y2, y3, y4⟩ := hSw; go_simp⟩) hHeld ?_
        (try simp only [Act.put, List.setIfInBounds_toArray, List.set_cons_zero, List.set_cons_succ])
        refine wpAnyH_take (i := 13) (v := .pointer (some ⟨ab, ao + i * 4, none⟩)) rfl (by kernel_rfl) (by kernel_rfl) (by kernel_rfl) (fun _ _ _ h => h) (Or.inl ⟨by rfl, fun w hSw => by obtain ⟨y1, y2, y3, y4⟩ := hSw; go_simp⟩) hHeld ?_
        (try simp only [Act.put, List.setIfInBounds_toArray, List.set_cons_zero, List.set_cons_succ])
        refine wpAnyH_take (i := 14) (v := .pointer (some ⟨ab, ao + i * 4 + 3, none⟩)) rfl (by kernel_rfl) (by kernel_rfl) (by kernel_rfl) (fun _ _ _ h => h) (Or.inl ⟨by rfl, fun w hSw => by obtain ⟨y1, y2, y3, y4⟩ := hSw; go_simp⟩) hHeld ?_
        (try simp only [Act.put, List.setIfInBounds_toArray, List.set_cons_zero, List.set_cons_succ])
        refine wpAnyH_take (i := 15) (v := .int .u64 xn) rfl (by kernel_rfl) (by kernel_rfl) (by kernel_rfl) (fun _ _ _ h => h) (Or.inl ⟨by rfl, fun w hSw => by obtain ⟨y1, y2, y3, y4⟩ := hSw; go_simp⟩) hHeld ?_
        (try simp only [Act.put, List.setIfInBounds_toArray, List.set_cons_zero, List.set_cons_succ])
        refine wpAnyH_ready (rs := [0]) (by kernel_rfl) (by simp) ?_
        refine AllReadyH.cons rfl (fun K hK => ?_) AllReadyH.nil
        go_simp
        refine hK.out _ _ hHeld (fun hHeld2 => ?_)
        clear hK K hHeld
        (try simp only [Act.put, List.setIfInBounds_toArray, List.set_cons_zero, List.set_cons_succ])
        refine wpAnyH_ready (rs := [16]) (by kernel_rfl) (by simp) ?_
        refine AllReadyH.cons rfl (fun K hK => ?_) AllReadyH.nil
        go_simp
        refine HC3.out.mono ?_
        rintro e w3 ⟨q, l2, c2, v, rfl, hm3, hb3⟩
        have hb4 : Below wr.heap.size wr w3 := ((Below.refl wr.heap.size wr).drew).trans hb3
        have HB4 := Lib.hid (HR.out.bel.trans (hb4.mono HR.out.bel.size))
        have HBx := Lib.hid (HR.out.box.on' hb4)
        have HMs2 := Lib.hid (Ms.put (w0 := w) HBx.out hm3 (HR.out.bel.trans (hb4.mono HR.out.bel.size)) HR.out.ht)
        have d0 := HBx.out.cell 0
        have d1 := HBx.out.cell 1
        have f0 := HBx.out.frozen 0
        have f1 := HBx.out.frozen 1
        simp only [List.getElem?_cons_zero, List.getElem?_cons_succ] at d0 d1
        clear hm3 hb3 hb4 hHeld2
        go_simp
        refine hK.out _ _ (HS.out _ HB4.out) (fun hHeld => ?_)
        clear hK K
        (try simp only [Act.put, List.setIfInBounds_toArray, List.set_cons_zero, List.set_cons_succ])
        refine wpAnyH_take (i := 17) (v := .tuple #[.agg #[.slice q l2 c2, .int .u64 (m.go 3 xa xo xn).k.ops], v]) rfl (by kernel_rfl) (by kernel_rfl) (by kernel_rfl) (fun _ _ _ h => h) (Or.inl ⟨by rfl, fun w hSw => by obtain ⟨y1, y2, y3, y4⟩ := hSw; go_simp⟩) hHeld ?_
        (try simp only [Act.put, List.setIfInBounds_toArray, List.set_cons_zero, List.set_cons_succ])
        refine wpAnyH_take (i := 18) (v := .agg #[.slice q l2 c2, .int .u64 (m.go 3 xa xo xn).k.ops]) rfl (by kernel_rfl) (by kernel_rfl) (by kernel_rfl) (fun _ _ _ h => h) (Or.inl ⟨by rfl, fun w hSw => by obtain ⟨y1, y2, y3, y4⟩ := hSw; go_simp⟩) hHeld ?_
        (try simp only [Act.put, List.setIfInBounds_toArray, List.set_cons_zero, List.set_cons_succ])
        refine wpAnyH_take (i := 19) (v := v) rfl (by kernel_rfl) (by kernel_rfl) (by kernel_rfl) (fun _ _ _ h => h) (Or.inl ⟨by rfl, fun w hSw => by obtain ⟨y1, y2, y3, y4⟩ := hSw; go_simp⟩) hHeld ?_
        (try simp only [Act.put, List.setIfInBounds_toArray, List.set_cons_zero, List.set_cons_succ])
        refine wpAnyH_ready (rs := [20]) (by kernel_rfl) (by simp) ?_
        refine AllReadyH.cons rfl (fun K hK => ?_) AllReadyH.nil
        go_simp
        refine hK.out _ _ (HS.out _ HMs2.out.bel) (fun hHeld2 => ?_)
        clear hK K hHeld
        refine wpAnyH_done (by kernel_rfl) ?_ _
        go_wp2_with fail
        go_roundw
        case rel => exact ⟨i + 1, HK.out, by go_num, q, l2, c2, by show Ms _ _ _ _ _ _ _; rw [HM2.out]; exact HMs2.out⟩
        case measure =>
          show _ < _
          have := HK.out
          simp only [intOf]; omega
      by_cases h4 : xk = 4
      · subst h4
        go_wp2_with fail
        refine wp_region_held_drew (S := fun w' => w'.cell? ⟨ab, ao + i * 4, none⟩ = some (.int .i64 4) ∧ w'.cell? ⟨ab, ao + i * 4 + 1, none⟩ = some (.int .i64 xa) ∧ w'.cell? ⟨ab, ao + i * 4 + 2, none⟩ = some (.int .u64 xo) ∧ w'.cell? ⟨ab, ao + i * 4 + 3, none⟩ = some (.int .u64 xn)) (by kernel_rfl) (HS.out _ HBd.out) (fun hHeld => ?_)
        refine wpAnyH_take (i := 1) (v := .slice (some ⟨ab, ao, none⟩) la ca) rfl (by kernel_rfl) (by kernel_rfl) (by kernel_rfl) (fun _ _ _ h => h) (Or.inl ⟨by rfl, fun w hSw => by obtain ⟨y1, y2, y3, y4⟩ := hSw; go_simp⟩) hHeld ?_
        (try simp only [Act.put, List.setIfInBounds_toArray, List.set_cons_zero, List.set_cons_succ])
        refine wpAnyH_take (i := 2) (v := .int .i64 (i : Int)) rfl (by kernel_rfl) (by kernel_rfl) (by kernel_rfl) (fun _ _ _ h => h) (Or.inl ⟨by rfl, fun w hSw => by obtain ⟨y1, y2, y3, y4⟩ := hSw; go_simp⟩) hHeld ?_
        (try simp only [Act.put, List.setIfInBounds_toArray, List.set_cons_zero, List.set_cons_succ])
        refine wpAnyH_take (i := 3) (v := .pointer (some ⟨ab, ao + i * 4, none⟩)) rfl (by kernel_rfl) (by kernel_rfl) (by kernel_rfl) (fun _ _ _ h => h) (Or.inl ⟨by rfl, fun w hSw => by obtain ⟨y1, y2, y3, y4⟩ := hSw; go_simp⟩) hHeld ?_
        (try simp only [Act.put, List.setIfInBounds_toArray, List.set_cons_zero, List.set_cons_succ])
        refine wpAnyH_take (i := 4) (v := .pointer (some ⟨ab, ao + i * 4 + 1, none⟩)) rfl (by kernel_rfl) (by kernel_rfl) (by kernel_rfl) (fun _ _ _ h => h) (Or.inl ⟨by rfl, fun w hSw => by obtain ⟨y1, y2, y3, y4⟩ := hSw; go_simp⟩) hHeld ?_
        (try simp only [Act.put, List.setIfInBounds_toArray, List.set_cons_zero, List.set_cons_succ])
        refine wpAnyH_take (i := 5) (v := .int .i64 xa) rfl (by kernel_rfl) (by kernel_rfl) (by kernel_rfl) (fun _ _ _ h => h) (Or.inl ⟨by rfl, fun w hSw => by obtain ⟨y1, y2, y3, y4⟩ := hSw; go_simp⟩) hHeld ?_
        (try simp only [Act.put, List.setIfInBounds_toArray, List.set_cons_zero, List.set_cons_succ])
        refine wpAnyH_take (i := 6) (v := .slice (some ⟨ab, ao, none⟩) la ca) rfl (by kernel_rfl) (by kernel_rfl) (by kernel_rfl) (fun _ _ _ h => h) (Or.inl ⟨by rfl, fun w hSw => by obtain ⟨y1, y2, y3, y4⟩ := hSw; go_simp⟩) hHeld ?_
        (try simp only [Act.put, List.setIfInBounds_toArray, List.set_cons_zero, List.set_cons_succ])
        refine wpAnyH_take (i := 7) (v := .int .i64 (i : Int)) rfl (by kernel_rfl) (by kernel_rfl) (by kernel_rfl) (fun _ _ _ h => h) (Or.inl ⟨by rfl, fun w hSw => by obtain ⟨y1, y2, y3, y4⟩ := hSw; go_simp⟩) hHeld ?_
        (try simp only [Act.put, List.setIfInBounds_toArray, List.set_cons_zero, List.set_cons_succ])
        refine wpAnyH_take (i := 8) (v := .pointer (some ⟨ab, ao + i * 4, none⟩)) rfl (by kernel_rfl) (by kernel_rfl) (by kernel_rfl) (fun _ _ _ h => h) (Or.inl ⟨by rfl, fun w hSw => by obtain ⟨y1, y2, y3, y4⟩ := hSw; go_simp⟩) hHeld ?_
        (try simp only [Act.put, List.setIfInBounds_toArray, List.set_cons_zero, List.set_cons_succ])
        refine wpAnyH_take (i := 9) (v := .pointer (some ⟨ab, ao + i * 4 + 3, none⟩)) rfl (by kernel_rfl) (by kernel_rfl) (by kernel_rfl) (fun _ _ _ h => h) (Or.inl ⟨by rfl, fun w hSw => by obtain ⟨y1, y2, y3, y4⟩ := hSw; go_simp⟩) hHeld ?_
        (try simp only [Act.put, List.setIfInBounds_toArray, List.set_cons_zero, List.set_cons_succ])
        refine wpAnyH_take (i := 10) (v := .int .u64 xn) rfl (by kernel_rfl) (by kernel_rfl) (by kernel_rfl) (fun _ _ _ h => h) (Or.inl ⟨by rfl, fun w hSw => by obtain ⟨y1, y2, y3, y4⟩ := hSw; go_simp⟩) hHeld ?_
        (try simp only [Act.put, List.setIfInBounds_toArray, List.set_cons_zero, List.set_cons_succ])
        refine wpAnyH_ready (rs := [0]) (by kernel_rfl) (by simp) ?_
        refine AllReadyH.cons rfl (fun K hK => ?_) AllReadyH.nil
        go_simp
        refine hK.out _ _ hHeld (fun hHeld2 => ?_)
        clear hK K hHeld
        (try simp only [Act.put, List.setIfInBounds_toArray, List.set_cons_zero, List.set_cons_succ])
        refine wpAnyH_ready (rs := [11]) (by kernel_rfl) (by simp) ?_
        refine AllReadyH.cons rfl (fun K hK => ?_) AllReadyH.nil
        go_simp
        refine HC4.out.mono ?_
        rintro e w3 ⟨q, l2, c2, v, rfl, hm3, hb3⟩
        have hb4 : Below wr.heap.size wr w3 := ((Below.refl wr.heap.size wr).drew).trans hb3
        have HB4 := Lib.hid (HR.out.bel.trans (hb4.mono HR.out.bel.size))
        have HBx := Lib.hid (HR.out.box.on' hb4)
        have HMs2 := Lib.hid (Ms.put (w0 := w) HBx.out hm3 (HR.out.bel.trans (hb4.mono HR.out.bel.size)) HR.out.ht)
        have d0 := HBx.out.cell 0
        have d1 := HBx.out.cell 1
        have f0 := HBx.out.frozen 0
        have f1 := HBx.out.frozen 1
        simp only [List.getElem?_cons_zero, List.getElem?_cons_succ] at d0 d1
        clear hm3 hb3 hb4 hHeld2
        go_simp
        refine hK.out _ _ (HS.out _ HB4.out) (fun hHeld => ?_)
        clear hK K
        (try simp only [Act.put, List.setIfInBounds_toArray, List.set_cons_zero, List.set_cons_succ])
        refine wpAnyH_take (i := 12) (v := .tuple #[.agg #[.slice q l2 c2, .int .u64 (m.go 4 xa xo xn).k.ops], v]) rfl (by kernel_rfl) (by kernel_rfl) (by kernel_rfl) (fun _ _ _ h => h) (Or.inl ⟨by rfl, fun w hSw => by obtain ⟨y1, y2, y3, y4⟩ := hSw; go_simp⟩) hHeld ?_
        (try simp only [Act.put, List.setIfInBounds_toArray, List.set_cons_zero, List.set_cons_succ])
        refine wpAnyH_take (i := 13) (v := .agg #[.slice q l2 c2, .int .u64 (m.go 4 xa xo xn).k.ops]) rfl (by kernel_rfl) (by kernel_rfl) (by kernel_rfl) (fun _ _ _ h => h) (Or.inl ⟨by rfl, fun w hSw => by obtain ⟨y1, y2, y3, y4⟩ := hSw; go_simp⟩) hHeld ?_
        (try simp only [Act.put, List.setIfInBounds_toArray, List.set_cons_zero, List.set_cons_succ])
        refine wpAnyH_take (i := 14) (v := v) rfl (by kernel_rfl) (by kernel_rfl) (by kernel_rfl) (fun _ _ _ h => h) (Or.inl ⟨by rfl, fun w hSw => by obtain ⟨y1, y2, y3, y4⟩ := hSw; go_simp⟩) hHeld ?_
        (try simp only [Act.put, List.setIfInBounds_toArray, List.set_cons_zero, List.set_cons_succ])
        refine wpAnyH_ready (rs := [15]) (by kernel_rfl) (by simp) ?_
        refine AllReadyH.cons rfl (fun K hK => ?_) AllReadyH.nil
        go_simp
        refine hK.out _ _ (HS.out _ HMs2.out.bel) (fun hHeld2 => ?_)
        clear hK K hHeld
        refine wpAnyH_done (by kernel_rfl) ?_ _
        go_wp2_with fail
        go_roundw
        case rel => exact ⟨i + 1, HK.out, by go_num, q, l2, c2, by show Ms _ _ _ _ _ _ _; rw [HM2.out]; exact HMs2.out⟩
        case measure =>
          show _ < _
          have := HK.out
          simp only [intOf]; omega
      have z1 : (xk == 1) = false := by simpa using h1
      have z2 : (xk == 2) = false := by simpa using h2
      have z3 : (xk == 3) = false := by simpa using h3
      have z4 : (xk == 4) = false := by simpa using h4
      have HM3 : Hid (runM (PM.new N) (l0.take (i + 1)) = m) := by show _ = _; rw [HM2.out]; exact go_not (.inr ⟨h1, h2, h3, h4⟩)
      clear h1 h2 h3 h4
      go_wp2_with fail
      go_roundw
      case rel => exact ⟨i + 1, HK.out, by go_num, p, l, c, by show Ms _ _ _ _ _ _ _; rw [HM3.out]; exact HR.out⟩
      case measure =>
        show _ < _
        have := HK.out
        simp only [intOf]; omega
    · obtain rfl : i = la := by omega
      have hfull : l0.take i = l0 := List.take_of_length_le (by have := HLA.out; omega)
      rw [hfull] at HR
      obtain ⟨m, hm⟩ : ∃ m, runM (PM.new N) l0 = m := ⟨_, rfl⟩
      rw [hm] at HR HM
      obtain ⟨no, hno⟩ : ∃ no : Nat, m.k.ops = no := ⟨_, rfl⟩
      have t0 := HR.out.box.cell 0
      have t1 := HR.out.box.cell 1
      simp only [List.getElem?_cons_zero, List.getElem?_cons_succ] at t0 t1
      rw [hno] at t1
      have hs := samemem_any wr (HM.out.on HR.out.bel) HR.out.rm hno
      clear hfull hm hno
      go_wp2_with fail
      refine hs.mono ?_
      rintro e w4 ⟨rfl, hb4⟩
      go_wp2
      go_ret
      exact ⟨rfl, HR.out.bel.trans (hb4.mono HR.out.bel.size)⟩
end Go.Proofs.Ytnakaifnalojeaa
