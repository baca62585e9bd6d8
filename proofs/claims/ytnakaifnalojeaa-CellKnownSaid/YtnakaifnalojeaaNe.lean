/- Equal rows, Same, Log of a memory (layer 6). -/
import Derived.Test.YtnakaifnalojeaaNd
import Derived.Test.YtnakaifnalojeaaMb
import Derived.LoopTactic
import Derived.LoopN
import Derived.BigQuiet
namespace Go.Proofs.Ytnakaifnalojeaa
open Go.RowKit Go.Ce

theorem below_dN {B : Nat} {a w : World} (h : Below B a w) (n : Nat) : Below B a (w.drewN n) := h.trans ⟨rfl, rfl, rfl, Nat.le_refl _, fun _ _ => rfl⟩
theorem eq_prefix {xs ys : List Int} (hl : xs.length = ys.length) (h : ∀ j, j < xs.length → xs.getD j 0 = ys.getD j 0) : xs = ys := by
  apply List.ext_getElem hl
  intro i h1 h2
  have := h i h1
  simpa [List.getD, h1, h2] using this
set_option maxHeartbeats 1000000 in
theorem equal_any (xs ys : List Int) (p1 p2 : Option Addr) (c1 c2 : Nat) (w : World) (h1 : Lies .u64 w p1 xs) (h2 : Lies .u64 w p2 ys) : Calls Try.prog 44 #[.slice p1 xs.length c1, .slice p2 ys.length c2] w (Ans (.bool (decide (xs = ys))) w) := by
  have hm1 := h1.len
  have hm2 := h2.len
  have H1 := Lib.hid h1
  have H2 := Lib.hid h2
  clear h1 h2
  by_cases hl : xs.length = ys.length
  · have HX := Lib.hid hl
    obtain ⟨n, hn⟩ : ∃ n, xs.length = n := ⟨_, rfl⟩
    have HN := Lib.hid hn
    rw [← hl, hn]
    rw [hn] at hm1
    clear hl hn hm2
    go_enter Try.func44, Try.ntmps44
    go_wp2_with fail
    go_loopw [13] (fun vi wr => ∃ k : Nat, k ≤ n ∧ vi = .int .i64 k ∧ Hid (Below w.heap.size w wr) ∧ Hid (∀ j, j < k → xs.getD j 0 = ys.getD j 0)) (fun vi _ => n - (intOf vi).toNat)
    case atStart => exact ⟨0, by omega, rfl, Lib.hid (.refl _ _), fun j hj => by omega⟩
    case round =>
      obtain ⟨k, hk, rfl, HB, HP⟩ := hrel
      by_cases hlt : k < n
      · have i1 : (0 : Int) ≤ (k : Int) := by omega
        have i2 : (k : Int) < (n : Int) := by omega
        obtain ⟨b1, o1, rfl, e1⟩ := (H1.out.on HB.out).cells k (by rw [HN.out]; exact hlt)
        obtain ⟨b2, o2, rfl, e2⟩ := (H2.out.on HB.out).cells k (by rw [← HX.out, HN.out]; exact hlt)
        obtain ⟨x, hx⟩ : ∃ x, xs.getD k 0 = x := ⟨_, rfl⟩
        obtain ⟨y, hy⟩ : ∃ y, ys.getD k 0 = y := ⟨_, rfl⟩
        rw [hx] at e1
        rw [hy] at e2
        have HXY := Lib.hid (And.intro hx hy)
        clear hx hy
        by_cases hxy : x = y
        · subst hxy
          have HP2 : Hid (∀ j, j < k + 1 → xs.getD j 0 = ys.getD j 0) := fun j hj => by
            by_cases e : j = k
            · subst e; rw [HXY.out.1, HXY.out.2]
            · exact HP.out j (by omega)
          go_wp2_with fail
          go_quiet (fail)
          have HB2 := Lib.hid (below_dN HB.out nq)
          go_wp2_with fail
          go_roundw
          case rel => exact ⟨k + 1, by omega, by go_num, HB2, HP2⟩
          case measure =>
            show _ < _
            simp only [intOf]; omega
        · have z1 : (x == y) = false := by simpa using hxy
          have z2 : (x != y) = true := by simpa using hxy
          have HF : Hid (decide (xs = ys) = false) := decide_eq_false (fun e => hxy (by rw [← HXY.out.1, ← HXY.out.2, e]))
          clear hxy
          go_wp2_with fail
          go_quiet (fail)
          have HB2 := Lib.hid (below_dN HB.out nq)
          go_wp2
          go_ret
          exact ⟨by rw [HF.out]; rfl, HB2.out⟩
      · have HF : Hid (decide (xs = ys) = true) := decide_eq_true (eq_prefix HX.out (fun j hj => HP.out j (by have := HN.out; omega)))
        go_wp2
        go_ret
        exact ⟨by rw [HF.out]; rfl, HB.out⟩
  · have HF : Hid (decide (xs = ys) = false) := decide_eq_false (fun e => hl (by rw [e]))
    obtain ⟨n, hn⟩ : ∃ n, xs.length = n := ⟨_, rfl⟩
    obtain ⟨m, hm⟩ : ∃ n, ys.length = n := ⟨_, rfl⟩
    rw [hn, hm] at hl ⊢
    have z1 : ((n : Int) == (m : Int)) = false := by rw [beq_eq_false_iff_ne]; omega
    have z2 : ((n : Int) != (m : Int)) = true := by rw [bne_iff_ne]; omega
    clear hn hm hl
    go_enter Try.func44, Try.ntmps44
    go_wp2
    go_ret
    exact ⟨by rw [HF.out]; rfl, .refl _ _⟩

theorem MemIs.lies {w : World} {b g : Nat} {m : PM} (h : MemIs w b g m) : Lies .u64 w (some ⟨g, 0, none⟩) m.cs := by
  obtain ⟨rest, hg⟩ := h.cel
  refine ⟨by have := h.short; omega, fun j hj => ⟨g, 0, rfl, ?_⟩⟩
  rw [Nat.zero_add, hg.cell, List.getElem?_append_left (by simpa using hj), List.getElem?_map]
  simp [List.getD, hj]
/-- a pointer to a memory, or none -/
def PtrIs (w : World) (p : Option Addr) (cs : List Int) : Prop := (p = none ∧ cs = []) ∨ ∃ b g m, p = some ⟨b, 0, none⟩ ∧ MemIs w b g m ∧ m.cs = cs
theorem PtrIs.some {w : World} {b g : Nat} {m : PM} (h : MemIs w b g m) : PtrIs w (some ⟨b, 0, none⟩) m.cs := .inr ⟨b, g, m, rfl, h, rfl⟩
theorem PtrIs.none (w : World) : PtrIs w none [] := .inl ⟨rfl, rfl⟩
theorem PtrIs.on {w w' : World} {p : Option Addr} {cs : List Int} (h : PtrIs w p cs) (hb : Below w.heap.size w w') : PtrIs w' p cs := by
  rcases h with h | ⟨b, g, m, h1, h2, h3⟩
  · exact .inl h
  · exact .inr ⟨b, g, m, h1, h2.on hb, h3⟩
theorem row_ptr {p : Option Addr} {cs : List Int} {w : World} (h : PtrIs w p cs) : Calls Try.prog 31 #[.pointer p] w (fun e w' => ∃ q c, e = .returned (.slice q cs.length c) ∧ Lies .u64 w' q cs ∧ Below w.heap.size w w') := by
  rcases h with ⟨rfl, rfl⟩ | ⟨b, g, m, rfl, h2, rfl⟩
  · exact (row_nil w).mono fun e w' ⟨he, hb⟩ => ⟨none, 0, he, ⟨by simp, fun j hj => by simp at hj⟩, hb⟩
  · obtain ⟨c, _, _, hrow⟩ := row_any h2
    exact hrow.mono fun e w' ⟨he, hb⟩ => ⟨_, c, he, (h2.on hb).lies, hb⟩
theorem same_any {p1 p2 : Option Addr} {xs ys : List Int} {w : World} (h1 : PtrIs w p1 xs) (h2 : PtrIs w p2 ys) : Calls Try.prog 20 #[.pointer p1, .pointer p2] w (Ans (.bool (decide (xs = ys))) w) := by
  have H1 := Lib.hid h1
  have H2 := Lib.hid h2
  clear h1 h2
  go_enter Try.func20, Try.ntmps20
  go_wp2_with fail
  refine (row_ptr H1.out).mono ?_
  rintro e w1 ⟨q1, c1, rfl, hl1, hb1⟩
  have HL1 := Lib.hid hl1
  have HB1 := Lib.hid hb1
  clear hl1 hb1
  go_wp2_with fail
  refine (row_ptr (H2.out.on HB1.out)).mono ?_
  rintro e w2 ⟨q2, c2, rfl, hl2, hb2⟩
  have HL2 := Lib.hid hl2
  have HB2 := Lib.hid hb2
  clear hl2 hb2
  go_wp2_with fail
  refine (equal_any xs ys q1 q2 c1 c2 w2 (HL1.out.on HB2.out) HL2.out).mono ?_
  rintro e w3 ⟨rfl, hb3⟩
  have HB3 := Lib.hid (Bel.trans (Bel.trans HB1.out HB2.out) hb3)
  clear hb3
  go_wp2
  go_ret
  exact ⟨rfl, HB3.out⟩

/-- the log -/
def logK (m : PM) (s k : Nat) : List Acc := (List.range k).map fun t => m.L.getD ((s + t) % 256) default
def logP (m : PM) : List Acc := logK m (m.k.ops - min m.k.ops 256) (min m.k.ops 256)
theorem logK_more (m : PM) (s k : Nat) : logK m s (k + 1) = logK m s k ++ [m.L.getD ((s + k) % 256) default] := by
  unfold logK; rw [List.range_succ, List.map_append]; rfl
theorem logK_length (m : PM) (s k : Nat) : (logK m s k).length = k := by unfold logK; simp
theorem infoCA : (Try.prog.info? 38).map (fun i => (i.zero, i.size, i.bytes)) = some (some (.agg #[.int .i64 0, .int .i64 0, .int .u64 0, .int .u64 0]), 4, 32) := by kernel_rfl
def OwnAccs (xs : List Acc) (w : World) (e : Ending) (w' : World) : Prop := ∃ v, e = .returned v ∧ w'.ownsRow w.heap.size 38 4 v xs.length (xs.flatMap accC) ∧ Below w.heap.size w w'
theorem own4_form {w : World} {B n : Nat} {E : TypeId} {v : Value} {xs : List Value} (h : w.ownsRow B E 4 v n xs) : ∃ p cap, v = .slice p n cap := by
  rcases h.2 with ⟨h1, h2⟩ | ⟨g, cap, cur, h1, _⟩
  · exact ⟨none, 0, by rw [h1, h2]⟩
  · exact ⟨_, cap, h1⟩
set_option maxHeartbeats 1000000 in
theorem clog_any {b g : Nat} {m : PM} {w : World} (h : MemIs w b g m) : Calls Try.prog 24 #[.pointer (some ⟨b, 0, none⟩)] w (OwnAccs (logP m) w) := by
  have hops := ops_any h
  have hfew := h.few
  have HM := Lib.hid h
  obtain ⟨n, hn⟩ : ∃ n, m.k.ops = n := ⟨_, rfl⟩
  obtain ⟨r, hr⟩ : ∃ r, min n 256 = r := ⟨_, rfl⟩
  have HLP : Hid (logP m = logK m (n - r) r) := by show _ = _; unfold logP; rw [hn, hr]
  rw [hn] at hops hfew
  obtain ⟨i0, hi, hz0, hz1, hz2⟩ := info_parts infoCA
  obtain ⟨s, hs⟩ : ∃ s, n - r = s := ⟨_, rfl⟩
  rw [hs] at HLP
  have hcase : (n ≤ 256 ∧ r = n ∧ s = 0) ∨ (256 < n ∧ r = 256 ∧ s = n - 256) := by omega
  have HSR := Lib.hid (show s + r = n ∧ r ≤ 256 by omega)
  have hfew2 : (n : Int) ≤ 1000000000000 := by omega
  have HW : Hid (∀ k : Nat, k < r → IntKind.u64.wrap (((s + k : Nat) : Int) + 1) = ((s + (k + 1) : Nat) : Int)) := fun k hk => by rw [IntWalk.u64_in _ (by omega)]; omega
  have HLs : Hid (∀ w', Below w.heap.size w w' → ∀ q : Nat, q < 256 → ∀ x, m.L.getD q default = x → w'.cell? ⟨b, 6 + q * 4, none⟩ = some (.int .i64 x.k) ∧ w'.cell? ⟨b, 6 + q * 4 + 1, none⟩ = some (.int .i64 x.a) ∧ w'.cell? ⟨b, 6 + q * 4 + 2, none⟩ = some (.int .u64 x.o) ∧ w'.cell? ⟨b, 6 + q * 4 + 3, none⟩ = some (.int .u64 x.n)) := fun w' hb q hq x hx => by
    obtain ⟨c, hr, hc⟩ := (HM.out.on hb).blk
    subst hx
    refine ⟨?_, ?_, ?_, ?_⟩
    all_goals rw [hr.cell]
    · exact mem_log q 0 (by rw [HM.out.ll]; exact hq) (by decide)
    · exact mem_log q 1 (by rw [HM.out.ll]; exact hq) (by decide)
    · exact mem_log q 2 (by rw [HM.out.ll]; exact hq) (by decide)
    · exact mem_log q 3 (by rw [HM.out.ll]; exact hq) (by decide)
  have HFew := Lib.hid hfew
  clear h hn hr hfew hfew2 hs
  go_enter Try.func24, Try.ntmps24
  go_wp2_with fail
  refine hops.mono ?_
  rintro e w1 ⟨rfl, hb1⟩
  have HB1 := Lib.hid hb1
  clear hb1
  have hstart : ∃ z : Int, z = ((s + 0 : Nat) : Int) ∧ ((n ≤ 256 ∧ z = 0) ∨ (¬ (n ≤ 256) ∧ IntKind.u64.wrap ((n : Int) - 256) = z)) := by
    rcases hcase with ⟨h1, h2, h3⟩ | ⟨h1, h2, h3⟩
    · exact ⟨_, rfl, .inl ⟨h1, by omega⟩⟩
    · exact ⟨_, rfl, .inr ⟨by omega, by rw [IntWalk.u64_in _ (by have := HSR.out; have := HFew.out; omega)]; omega⟩⟩
  obtain ⟨z, hz, hstart⟩ := hstart
  have HC := Lib.hid hz
  clear hcase hz
  rcases hstart with ⟨h1, rfl⟩ | ⟨h1, h2⟩
  all_goals
    go_wp2_with fail
    (try clear h2)
    clear h1
    go_loopw [3, 5] (fun v vi wr => ∃ k : Nat, k ≤ r ∧ vi = .int .u64 ((s + k : Nat) : Int) ∧ Hid (wr.ownsRow w.heap.size 38 4 v k ((logK m s k).flatMap accC)) ∧ Hid (Below w.heap.size w wr)) (fun _ vi _ => n - (intOf vi).toNat)
    case atStart => exact ⟨0, by omega, by rw [HC.out], World.ownsRow_nil _ _ _ _, HB1⟩
    case round =>
      obtain ⟨k, hk, rfl, HO, HB⟩ := hrel
      obtain ⟨pp, cap2, rfl⟩ := own4_form HO.out
      obtain ⟨t, ht⟩ : ∃ t, s + k = t := ⟨_, rfl⟩
      have HW2 := HW.out k
      rw [ht] at HW2 ⊢
      by_cases hlt : k < r
      · have hw := HW2 hlt
        obtain ⟨q, hq⟩ : ∃ q, t % 256 = q := ⟨_, rfl⟩
        have hq2 : q < 256 := by omega
        obtain ⟨x, hx⟩ : ∃ x, m.L.getD q default = x := ⟨_, rfl⟩
        obtain ⟨m0, m1, m2, m3⟩ := HLs.out wr HB.out q hq2 x hx
        have z2 : ((t : Nat) : Int).tmod 256 = (q : Int) := by rw [IntWalk.rem_in _ _ (by omega)]; omega
        have z5 : (q : Int) < 256 := by omega
        have HT := Lib.hid ht
        have hso := HB.out.size
        have hlt2 : (t : Int) < (n : Int) := by have := HSR.out; omega
        have HK := Lib.hid hlt
        have HX := Lib.hid (And.intro hq hx)
        have HKM := Lib.hid (And.intro (show k + 1 ≤ maxLen by have := HSR.out; unfold maxLen; omega) (show (k + 1) * 32 ≤ 140737488355328 by have := HSR.out; omega))
        clear ht hq hx HW2 hlt
        go_wp2_with (at_builtin; go_loud (refine wpList_append_lies _ rfl (.tmp 17) (.tmp 25) 51 (by rfl) w.heap.size 38 i0 (.agg #[.int .i64 0, .int .i64 0, .int .u64 0, .int .u64 0]) 4 32 Try.underlying51 hi hz0 hz1 hz2 rfl (by decide) _ k ((logK m s k).flatMap accC) (by kernel_rfl) (HO.out.alloc _) ⟨wr.heap.size, 0, none⟩ 1 1 (accC x) (by kernel_rfl) rfl (acc_new x wr _) (acc_one _) (by decide) HKM.out.1 HKM.out.2 (by simp; omega) (wr.heap.size + 1) (by simp) ?_); intro g4 cap4 W4 hown4 hgrow4 hat4 hlt4)
        have HB2 : Hid (Below w.heap.size w W4) := (HB.out.alloc hso _).grown hgrow4 (by simp; omega) (fun j hj => (HO.out.lt j hj).1)
        have HO2 : Hid (W4.ownsRow w.heap.size 38 4 (.slice (some ⟨g4, 0, none⟩) (k + 1) cap4) (k + 1) ((logK m s (k + 1)).flatMap accC)) := by
          show World.ownsRow _ _ _ _ _ _ _
          rw [logK_more, HT.out, HX.out.1, HX.out.2, List.flatMap_append, show [x].flatMap accC = accC x from List.append_nil _]; exact hown4
        clear hown4 hgrow4 hat4 hlt4
        go_wp2_with fail
        go_roundw
        case rel => exact ⟨k + 1, HK.out, by go_num, HO2, HB2⟩
        case measure =>
          show _ < _
          simp only [intOf]
          have := HT.out
          omega
      · obtain rfl : k = r := by omega
        have q7 : ¬ ((t : Int) < (n : Int)) := by have := HSR.out; omega
        have HFin : Hid (OwnAccs (logP m) w (.returned (.slice pp k cap2)) wr) := ⟨_, rfl, by rw [HLP.out, logK_length]; exact HO.out, HB.out⟩
        clear HO
        go_wp2
        go_ret
        exact HFin.out
/-- beside all accesses: the last 256 -/
theorem logP_tied {m : PM} {N : Nat} {xs : List Acc} (h : Tied m N xs) : logP m = xs.drop (xs.length - 256) := by
  unfold logP
  rw [h.ops]
  apply List.ext_getElem?
  intro i
  by_cases hi : i < min xs.length 256
  · have h1 := h.log (xs.length - min xs.length 256 + i) (by omega) (by omega)
    have h2 : xs.length - 256 + i = xs.length - min xs.length 256 + i := by omega
    have h3 : xs.length - min xs.length 256 + i < xs.length := by omega
    unfold logK
    rw [List.getElem?_map, List.getElem?_range hi, List.getElem?_drop, h2, List.getElem?_eq_getElem h3]
    show some (m.L.getD ((xs.length - min xs.length 256 + i) % 256) default) = _
    rw [h1]
    simp [List.getD, h3]
  · rw [List.getElem?_eq_none (by rw [logK_length]; omega), List.getElem?_eq_none (by rw [List.length_drop]; omega)]
theorem clog_nil (w : World) : Calls Try.prog 24 #[.pointer none] w (Ans (.slice none 0 0) w) := by
  go_enter Try.func24, Try.ntmps24
  go_wp2_with fail
  refine (ops_nil _).mono ?_
  rintro e w1 ⟨rfl, hb1⟩
  go_wp2_with fail
  refine wp_loop_rounds 1 ?_
  rw [rounds_succ]
  go_wp2
  go_ret
  exact ⟨rfl, hb1⟩
end Go.Proofs.Ytnakaifnalojeaa
