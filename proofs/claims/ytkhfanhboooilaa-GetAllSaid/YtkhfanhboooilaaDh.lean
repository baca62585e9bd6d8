/- The documents' Thief (from layer 9 on), walked. -/
import Derived.Test.YtkhfanhboooilaaDg
set_option linter.unusedSimpArgs false
set_option linter.unusedVariables false
namespace Go.Proofs.Ytkhfanhboooilaa
open Go.RowKit Go.Cg Go.Pu Go.Wd Go.Ce

/-- a new row's first ones -/
theorem NewRow.cut {B : Nat} {w : World} {q : Option Addr} {n c : Nat} {xs : List Int} (h : NewRow B w (.slice q n c) xs) {k : Nat} (hk : k ≤ n) (hk0 : 0 < k) : NewRow B w (.slice q k c) (xs.take k) := by
  have hl : xs.length = n := by
    rcases h.2 with ⟨hv, h0⟩ | ⟨g', cap, cur, hv, _⟩
    · cases hv; exact h0
    · cases hv; rfl
  refine ⟨by simp, ?_⟩
  rcases h.2 with ⟨hv, h0⟩ | ⟨g', cap, cur, hv, hB, hg, h1, h2, h3, h4⟩
  · cases hv; omega
  · cases hv
    refine .inr ⟨g', c, cur, by rw [List.length_take, Nat.min_eq_left (by omega)], hB, hg, by rw [List.length_take]; omega, h2, h3, ?_⟩
    simp only [Nat.mul_one] at h4 ⊢
    rw [List.length_take, Nat.min_eq_left (by omega), List.map_take, ← h4, List.take_take, Nat.min_eq_left (by omega)]
def ThiefPost (c : Cfg) (p : Int) (b g : Nat) (m : PM) (most : Nat) (w : World) (e : Ending) (w' : World) : Prop :=
  ∃ q k c2, e = .returned (.slice q k c2) ∧ Hid (NewRow w.heap.size w' (.slice q k c2) ((rng c p m).take (thN (rng c p m) most))) ∧ Hid (MemIs w' b g (thiefM c p m most)) ∧ Hid (Tch (Own b g) w w')
set_option maxRecDepth 100000 in
set_option maxHeartbeats 4000000 in
theorem thief_any {w : World} {b g : Nat} {m : PM} (N Q G M T S : Nat) (p most : Nat) (hk : Mk ⟨N, Q, G, M, T, S⟩ p m) (h : MemIs w b g m) (hf : m.k.ops + 2 ≤ 1000000000000) (hmost : most ≤ 100000) :
    Calls Try.prog 50 #[cVal ⟨N, Q, G, M, T, S⟩, .pointer (some ⟨b, 0, none⟩), .int .i64 p, .int .i64 most] w (ThiefPost ⟨N, Q, G, M, T, S⟩ p b g m most w) := by
  obtain ⟨xs, hxs⟩ : ∃ xs, rng ⟨N, Q, G, M, T, S⟩ p m = xs := ⟨_, rfl⟩
  obtain ⟨l, hl⟩ : ∃ l, xs.length = l := ⟨_, rfl⟩
  have hth := hk.th
  have hQ : 2 ≤ Q ∧ Q ≤ 64 := by have := hth.1.q; simp only at this; omega
  have hl64 : l ≤ 64 := by
    rw [← hl, ← hxs]
    unfold rng
    split
    · rename_i hh
      rw [rngW_length]
      have e : ((Q : Nat) : Int).toNat = Q := Int.toNat_natCast Q
      have hh2 : ln (wdN ⟨N, Q, G, M, T, S⟩ p m) ≤ Q := by rw [← e]; exact hh
      omega
    · simp
  obtain ⟨n, hn⟩ : ∃ n, thN xs most = n := ⟨_, rfl⟩
  have hn2 : n = min most (l - l / 2) := by rw [← hn, ← hl]; rfl
  have HRing := Lib.hid (fun W (hb : Below w.heap.size w W) => ring_any N Q G M T S p hk (h.on hb))
  rw [hxs] at HRing
  obtain ⟨hd2, hhd2⟩ : ∃ z : Nat, l / 2 = z := ⟨_, rfl⟩
  obtain ⟨r, hr⟩ : ∃ r, l - hd2 = r := ⟨_, rfl⟩
  have HBx := Lib.hid (Row.new w 23 (cCells ⟨N, Q, G, M, T, S⟩))
  have HB0 : Hid (Below w.heap.size w (w.alloc (.cells #[.int .i64 N, .int .i64 Q, .int .i64 G, .int .i64 M, .int .i64 T, .int .i64 S] 23))) := (Below.refl _ _).alloc (Nat.le_refl _) _
  have q1 : (l : Int) / 2 = (hd2 : Int) := by omega
  have q1b : (l : Int).tdiv 2 = (hd2 : Int) := by rw [← hhd2, Int.tdiv_eq_ediv_of_nonneg (by omega)]; omega
  have q2 : IntKind.i64.wrap (hd2 : Int) = (hd2 : Int) := IntWalk.i64_in _ (by omega)
  have q3 : IntKind.i64.wrap ((l : Int) - (hd2 : Int)) = (r : Int) := by rw [IntWalk.i64_in _ (by omega)]; omega
  have HL := Lib.hid hl
  have HH := Lib.hid h
  obtain ⟨A, hA⟩ : ∃ A, 4 + p * (6 + Q) = A := ⟨_, rfl⟩
  have hAi : (4 : Int) + (p : Int) * (6 + (Q : Int)) = (A : Int) := by rw [← hA]; push_cast; rfl
  have hAw : aW ⟨N, Q, G, M, T, S⟩ p = (A : Int) := by unfold aW; exact hAi
  obtain ⟨x, hx⟩ : ∃ x, wdN ⟨N, Q, G, M, T, S⟩ p m = x := ⟨_, rfl⟩
  have hwlt := wd_lt hk
  rw [hx] at hwlt
  have hans : m.ans (A : Int) = (x : Int) := by rw [← hAw, ← hx, ← wd_at hk]; unfold PM.ans; rw [if_pos hk.hasW]
  have HWd : Hid (∀ W, Calls Try.prog 33 #[.agg #[.int .i64 N, .int .i64 Q, .int .i64 G, .int .i64 M, .int .i64 T, .int .i64 S], .int .i64 p] W (Ans (.int .i64 A) W)) := fun W => by
    have := word_any ⟨N, Q, G, M, T, S⟩ p W
    rw [plV_yes hth] at this
    simp only at this
    rw [hAi, show ((A : Int) + ((0 : Nat) : Int)) = (A : Int) by simp] at this
    exact this
  obtain ⟨m1, hm1⟩ : ∃ m1, m.load (A : Int) = m1 := ⟨_, rfl⟩
  have hm1f : m1.k.ops + 1 ≤ 1000000000000 := by rw [← hm1]; have := (mem_load m (A : Int)).2.2; omega
  have HLd : Hid (∀ W, MemIs W b g m → Calls Try.prog 101 #[.pointer (some ⟨b, 0, none⟩), .int .i64 A] W (MemPost b g m1 (.int .u64 x) W)) := fun W hW => by
    have := load_any (A : Int) W hW (by omega)
    rw [hm1, hans] at this
    exact this
  obtain ⟨H, hH, hH2⟩ : ∃ H, hd x = H ∧ H = x / 4294967296 := ⟨_, rfl, rfl⟩
  obtain ⟨t, ht, ht2⟩ : ∃ t, tl x = t ∧ t = x % 4294967296 := ⟨_, rfl, rfl⟩
  have hH32 : H < 4294967296 := by omega
  have ht32 : t < 4294967296 := by omega
  obtain ⟨H2, hH3⟩ : ∃ H2, (H + n) % 4294967296 = H2 := ⟨_, rfl⟩
  have hH232 : H2 < 4294967296 := by omega
  obtain ⟨V, hV⟩ : ∃ V, gainW x n = V := ⟨_, rfl⟩
  have hVp : pk H2 t = V := by rw [← hV, ← hH3, ← hH, ← ht]; rfl
  have f1 : (x : Int) / 4294967296 % 4294967296 = (H : Int) := by omega
  have f1b : (x : Int) / 4294967296 = (H : Int) := by omega
  have f2 : (x : Int) % 4294967296 = (t : Int) := by omega
  have f3 : IntKind.u32.wrap ((H : Int) + (n : Int)) = (H2 : Int) := by rw [w32y]; omega
  have f3b : ((H : Int) + (n : Int)) % 4294967296 = (H2 : Int) := by omega
  have f5 : IntKind.u32.wrap (n : Int) = (n : Int) := by rw [w32y]; omega
  have f6 : bits BinOp.or IntKind.u64 ((H2 : Int) * 4294967296) (t : Int) = (V : Int) := by rw [← hVp]; exact or64y H2 t hH232 ht32
  have HSt : Hid (∀ W, MemIs W b g m1 → Calls Try.prog 44 #[.pointer (some ⟨b, 0, none⟩), .int .i64 A, .int .u64 V] W (MemPost b g (m1.store (A : Int) V) (.tuple #[]) W)) := fun W hW => store_any (A : Int) V W hW hm1f
  have HTh : Hid (n ≠ 0 → thiefM ⟨N, Q, G, M, T, S⟩ p m most = m1.store (A : Int) V) := fun h0 => by
    unfold thiefM
    rw [hxs, hn, if_neg h0, hAw, hm1, hx, hV]
  have HTh0 : Hid (n = 0 → thiefM ⟨N, Q, G, M, T, S⟩ p m most = m) := fun h0 => by
    unfold thiefM
    rw [hxs, hn, if_pos h0]
  have HXs : Hid (rng ⟨N, Q, G, M, T, S⟩ p m = xs ∧ thN xs most = n) := ⟨hxs, hn⟩
  have HLt : Hid (b < w.heap.size ∧ g < w.heap.size) := h.lt
  have hdis : (most < r ∧ n = most) ∨ (¬ (most < r) ∧ n = r) := by omega
  have HB64 := Lib.hid hl64
  clear hxs hl h hn2 hn hA hAi hAw hx hwlt hans hm1 hm1f hH hH2 ht ht2 hH3 hV hVp hhd2 hr hk hth hf hmost hl64 hQ
  show Calls _ _ #[.agg #[.int .i64 N, .int .i64 Q, .int .i64 G, .int .i64 M, .int .i64 T, .int .i64 S], _, _, _] _ _
  go_enter Try.func50, Try.ntmps50
  go_upto_region 2 with (go_at_call 46; refine (HRing.out _ HB0.out).mono ?_; rintro e w1 ⟨q, k2, c2, rfl, hk2, hO, hb⟩; have HB1 := Lib.hid (HB0.out.trans (hb.mono HB0.out.size)); have HBx1 := Lib.hid (HBx.out.on' hb); have HO1 := Lib.hid (hO.base (C := w.heap.size) HB0.out.size); have hk3 : k2 = l := (by rw [← HL.out]; exact hk2.out); clear hb hO hk2)
  subst hk3
  obtain ⟨bb, hbb⟩ : ∃ z, w.heap.size = z := ⟨_, rfl⟩
  have HBB := Lib.hid hbb
  rw [hbb] at HBx1
  rw [hbb]
  clear HBx HB0 hbb HRing
  go_cut [10] (fun v10 wc => v10 = .int .i64 n ∧ wc = w1)
  case first =>
    rcases hdis with ⟨d1, rfl⟩ | ⟨d1, rfl⟩
    · have d1i : (n : Int) < (r : Int) := by omega
      have d2i : ¬ ((r : Int) < (n : Int)) := by omega
      have d3i : ¬ ((r : Int) ≤ (n : Int)) := by omega
      go_wp2_with fail
      go_meet
      exact ⟨rfl, rfl⟩
    · have d1i : ¬ ((most : Int) < (n : Int)) := by omega
      by_cases d2 : n = most
      · subst d2
        go_wp2_with fail
        go_meet
        exact ⟨rfl, rfl⟩
      · have d2i : (n : Int) < (most : Int) := by omega
        have d3i : (n : Int) ≤ (most : Int) := by omega
        go_wp2_with fail
        go_meet
        exact ⟨rfl, rfl⟩
  case rest =>
    obtain ⟨rfl, hwc⟩ := hcut
    obtain rfl : w1 = wc := hwc.symm
    have hnk : n ≤ k2 := by
      have := HXs.out.2
      have := HL.out
      unfold thN at *
      omega
    clear hdis q1 q1b q2 q3
    by_cases h0 : n = 0
    · have h0i : ((n : Nat) : Int) ≤ 0 := by omega
      have HT0 := Lib.hid (HTh0.out h0)
      have HN0 := Lib.hid h0
      clear h0
      go_wp2_with fail
      go_ret
      refine ⟨none, 0, 0, rfl, ?_, ?_, Tch.of _ HB1.out⟩
      · rw [HXs.out.1, HXs.out.2, HN0.out, List.take_zero]; exact NewRow.nil _ _
      · rw [HT0.out]; exact HH.out.on HB1.out
    · have h0i : ¬ (((n : Nat) : Int) ≤ 0) := by omega
      have hpos : (0 : Int) < (n : Int) := by omega
      have HT0 := Lib.hid (HTh.out h0)
      have HN0 := Lib.hid h0
      have hnki : (n : Int) ≤ (k2 : Int) := by omega
      have hcap : k2 ≤ c2 := by
        rcases HO1.out.2 with ⟨hv, hz⟩ | ⟨g', cap, cur, hv, _, _, h1, _⟩
        · cases hv; omega
        · cases hv; exact h1
      have hncap : n ≤ c2 := by omega
      have hncapi : (n : Int) ≤ (c2 : Int) := by omega
      clear h0
      have c0 := HBx1.out.cell 0
      have c1 := HBx1.out.cell 1
      have c3 := HBx1.out.cell 2
      have c4 := HBx1.out.cell 3
      have c5 := HBx1.out.cell 4
      have c6 := HBx1.out.cell 5
      simp only [cCells, List.getElem?_cons_zero, List.getElem?_cons_succ] at c0 c1 c3 c4 c5 c6
      go_wp2_with (first
        | (go_at_call 33; (with_reducible refine (HWd.out _).mono ?_); rintro e w2 ⟨rfl, hb2⟩; have HO2 := Lib.hid (HO1.out.on hb2); have HB2 := Lib.hid (HB1.out.trans (hb2.mono HB1.out.size)); clear hb2)
        | (go_at_call 101; (with_reducible refine (HLd.out _ (HH.out.on HB2.out)).mono ?_); rintro e w3 ⟨rfl, hm3, ht3⟩; have HM3 := Lib.hid hm3; have HT3 := Lib.hid ht3; clear hm3 ht3)
        | (go_at_call 44; (with_reducible refine (HSt.out _ HM3.out).mono ?_); rintro e w4 ⟨rfl, hm4, ht4⟩; have HM4 := Lib.hid hm4; have HT4 := Lib.hid ht4; clear hm4 ht4))
      go_ret
      have ht34 := HT3.out.trans HT4.out
      have hap : ∀ k, (Value.slice q k2 c2).ownBlock = some k → ¬ Own b g k := fun k e hk => by
        have h1 := (HO2.out.lt k e).1
        have h2 := HLt.out
        rcases hk with hk | hk <;> omega
      refine ⟨q, n, c2, rfl, ?_, ?_, (Tch.of _ HB2.out).trans ht34⟩
      · rw [HXs.out.1, HXs.out.2]
        exact (HO2.out.tch ht34 hap).cut hnk (by omega)
      · rw [HT0.out]; exact HM4.out
end Go.Proofs.Ytkhfanhboooilaa
