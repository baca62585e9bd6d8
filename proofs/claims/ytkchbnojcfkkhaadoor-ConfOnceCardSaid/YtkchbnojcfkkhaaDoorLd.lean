/- The law ConfOnce (layer 5), walked. -/
import Derived.Test.YtkchbnojcfkkhaaDoorLa
namespace Go.Proofs.YtkchbnojcfkkhaaDoor
open Go.RowKit Go.Tx Go.Cg

/-- the addresses, so far -/
def rng (k : Nat) : List Int := (List.range k).map fun (j : Nat) => (j : Int)
theorem rng_length (k : Nat) : (rng k).length = k := by simp [rng]
theorem rng_more (k : Nat) : rng (k + 1) = rng k ++ [(k : Int)] := by simp [rng, List.range_succ]
theorem rng_at {k j : Nat} (h : j < k) : (rng k)[j]? = some (j : Int) := by simp [rng, h]
theorem rng_four : rng 4 = [0, 1, 2, 3] := by decide
theorem rng_six (k : Nat) : rng (k + 6) = rng k ++ [(k : Int), ((k + 1 : Nat) : Int), ((k + 2 : Nat) : Int), ((k + 3 : Nat) : Int), ((k + 4 : Nat) : Int), ((k + 5 : Nat) : Int)] := by
  rw [rng_more, rng_more, rng_more, rng_more, rng_more, rng_more]; simp
/-- what was counted, so far -/
def cnt (n i : Nat) : List Int := (List.range n).map fun j => if j < i then 1 else 0
theorem cnt_length (n i : Nat) : (cnt n i).length = n := by simp [cnt]
theorem cnt_zero (n : Nat) : (madeCells #[Value.int .i64 0] n).toList = (cnt n 0).map (Value.int .i64) := by
  rw [toList_madeCells_one]
  apply List.ext_getElem
  · simp [cnt]
  · intro i h1 h2; simp [cnt]
theorem cnt_at {n i j : Nat} (h : j < n) : (cnt n i)[j]? = some (if j < i then 1 else 0) := by simp [cnt, h]
theorem cnt_set {n i : Nat} (h : i < n) : (cnt n i).set i 1 = cnt n (i + 1) := by
  apply List.ext_getElem?
  intro j
  by_cases hj : j < n
  · by_cases e : i = j
    · subst e
      rw [List.getElem?_set_self (by rw [cnt_length]; exact h), cnt_at hj, if_pos (by omega)]
    · rw [List.getElem?_set_ne e, cnt_at hj, cnt_at hj]
      by_cases hl : j < i
      · rw [if_pos hl, if_pos (by omega)]
      · rw [if_neg hl, if_neg (by omega)]
  · rw [List.getElem?_eq_none (by rw [List.length_set, cnt_length]; omega), List.getElem?_eq_none (by rw [cnt_length]; omega)]
/-- a row of its own, whole -/
theorem own_row {w : World} {B n g : Nat} {E : TypeId} {xs : List Value} (h : w.ownsRow B E 1 (.slice (some ⟨g, 0, none⟩) n n) n xs) : Row g E xs w ∧ B ≤ g := by
  rcases h.2 with ⟨hv, _⟩ | ⟨g', cap, cur, hv, hB, hg, hc, hm, hs, ht⟩
  · cases hv
  · simp only [Value.slice.injEq, Option.some.injEq, Addr.mk.injEq, and_true, true_and] at hv
    obtain ⟨rfl, rfl⟩ := hv
    refine ⟨?_, hB⟩
    rw [Nat.mul_one] at hs ht
    rw [List.take_of_length_le (by rw [Array.length_toList]; omega)] at ht
    unfold Row
    rw [hg, ← ht]
/-- all addresses, a row of its own -/
structure AO (W : World) (k : Nat) (v : Value) (w : World) : Prop where
  own : w.ownsRow W.heap.size 3 1 v k ((rng k).map (Value.int .i64))
  bel : Below W.heap.size W w
theorem AO.on {W w w' : World} {k : Nat} {v : Value} (h : AO W k v w) (hb : Below w.heap.size w w') : AO W k v w' := ⟨own_on1 h.own hb, h.bel.trans (hb.mono h.bel.size)⟩
theorem AO.at {W w : World} {k : Nat} {v : Value} {S : Prop} (w' : World) (h : AO W k v w) (hb : S ∧ Below w.heap.size w w') : AO W k v w' := h.on hb.2
theorem AO.push {W w w' : World} {k k' : Nat} {v v' : Value} {l : List Int} (h : AO W k v w) (hk : rng k' = rng k ++ l) (hn : k' = k + l.length) (ho : w'.ownsRow W.heap.size 3 1 v' (k + l.length) ((rng k).map (Value.int .i64) ++ l.map (Value.int .i64))) (hg : w.grownBy w' v.ownBlock) : AO W k' v' w' := by
  subst hn
  refine ⟨?_, h.bel.trans ((Tch.grown hg).below h.bel.size (fun j e => (h.own.lt j e).1))⟩
  rw [hk, List.map_append]
  exact ho
theorem ints_news (x : World) (l : List Int) (t : TypeId) : ∀ j u, (l.map (Value.int .i64))[j]? = some u → (x.alloc (.cells (l.map (Value.int .i64)).toArray t)).cell? ((⟨x.heap.size, 0, none⟩ : Addr).add j) = some u := by
  intro j u hu
  have e : ((⟨x.heap.size, 0, none⟩ : Addr).add j) = ⟨x.heap.size, j, none⟩ := by simp [Addr.add]; exact fun h => h.symm
  rw [e, World.cell?_alloc_new, List.getElem?_toArray]; exact hu
theorem ints_one (l : List Int) : ∀ u ∈ l.map (Value.int .i64), u.oneCell' = true := by
  intro u hu
  obtain ⟨y, _, rfl⟩ := List.mem_map.1 hu
  rfl
theorem infoInt6 : (Tryd.prog.info? 3).map (fun i => (i.zero, i.size, i.bytes)) = some (some (.int .i64 0), 1, 8) := by kernel_rfl

theorem law_once_wrong (c : Cfg) (hR : ¬ Right c) (w : World) (hE : EnvC w.heap.size w) : Calls Tryd.prog 6 #[cVal c] w (Ans (.bool true) w) := by
  have HE := Lib.hid hE
  clear hE
  have kc : ∀ w, Calls Tryd.prog 11 #[cVal c] w (Ans (.int .i64 0) w) := ccells_none c hR
  have kg : ∀ w, Calls Tryd.prog 9 #[cVal c] w (Ans (.bool false) w) := by
    intro w; have := cright_any c w; rw [rt_no hR] at this; exact this
  have kn (w' : World) (h : Below w.heap.size w w') : Calls Tryd.prog 25 #[cVal c, .int .i64 0] w' (Ans (.string ⟨#[]⟩) w') := by
    have h := cname_any c 0 w' (HE.out.on' h)
    rw [nmV_out (by rw [nmsC_none hR]; simp)] at h
    exact h.mono fun e w' h => tells_is h
  have ko : ∀ w, Calls Tryd.prog 13 #[cVal c, .int .i64 0] w (Ans (.int .i64 (-1)) w) := by
    intro w; have h := word_any c 0 w; rw [plV_no fun h => hR h.1] at h; exact h
  have kw (w' : World) (h : Below w.heap.size w w') := works_any w' (HE.out.on' h)
  obtain ⟨n, q, g, m, t, u⟩ := c
  have HS0 := Lib.hid (six_at n q g m t u 23 w)
  have H0 := HS0.out.1
  obtain ⟨c0, c1, c2, c3, c4, c5⟩ := H0
  show Calls _ _ #[.agg #[.int .i64 n, .int .i64 q, .int .i64 g, .int .i64 m, .int .i64 t, .int .i64 u]] _ _
  go_enter Tryd.func6, Tryd.ntmps6
  go_wp2_with fail
  refine (kc _).mono ?_
  rintro e w1 ⟨rfl, hb⟩
  have HS1 := Lib.hid (six_keep HS0.out hb)
  clear hb c0 c1 c2 c3 c4 c5 kc
  have H0 := HS1.out.1
  obtain ⟨c0, c1, c2, c3, c4, c5⟩ := H0
  go_wp2_with fail
  refine (kg _).mono ?_
  rintro e w2 ⟨rfl, hb⟩
  have HS2 := Lib.hid (six_keep HS1.out hb)
  clear hb c0 c1 c2 c3 c4 c5 kg
  have H0 := HS2.out.1
  obtain ⟨c0, c1, c2, c3, c4, c5⟩ := H0
  go_wp2_with fail
  refine (kn _ HS2.out.2).mono ?_
  rintro e w3 ⟨rfl, hb⟩
  have HS3 := Lib.hid (six_keep HS2.out hb)
  clear hb c0 c1 c2 c3 c4 c5 kn
  have H0 := HS3.out.1
  obtain ⟨c0, c1, c2, c3, c4, c5⟩ := H0
  go_wp2_with fail
  refine (ko _).mono ?_
  rintro e w4 ⟨rfl, hb⟩
  have HS4 := Lib.hid (six_keep HS3.out hb)
  clear hb c0 c1 c2 c3 c4 c5 ko
  have H0 := HS4.out.1
  obtain ⟨c0, c1, c2, c3, c4, c5⟩ := H0
  go_wp2_with fail
  refine (kw _ HS4.out.2).mono ?_
  rintro e w5 ⟨rfl, hb⟩
  have HS5 := Lib.hid (six_keep HS4.out hb)
  clear hb c0 c1 c2 c3 c4 c5 kw
  have H0 := HS5.out.1
  obtain ⟨c0, c1, c2, c3, c4, c5⟩ := H0
  go_wp2_with fail
  go_ret
  exact ⟨rfl, HS5.out.2⟩

theorem six2_keep {g : Nat} {a0 a1 a2 a3 a4 a5 : Value} {w u wr w1 : World} (h : ((wr.cell? ⟨g, 0, none⟩ = some a0 ∧ wr.cell? ⟨g, 1, none⟩ = some a1 ∧ wr.cell? ⟨g, 2, none⟩ = some a2 ∧ wr.cell? ⟨g, 3, none⟩ = some a3 ∧ wr.cell? ⟨g, 4, none⟩ = some a4 ∧ wr.cell? ⟨g, 5, none⟩ = some a5) ∧ Below u.heap.size u wr) ∧ Below w.heap.size w wr) (hb : Below wr.heap.size wr w1) : ((w1.cell? ⟨g, 0, none⟩ = some a0 ∧ w1.cell? ⟨g, 1, none⟩ = some a1 ∧ w1.cell? ⟨g, 2, none⟩ = some a2 ∧ w1.cell? ⟨g, 3, none⟩ = some a3 ∧ w1.cell? ⟨g, 4, none⟩ = some a4 ∧ w1.cell? ⟨g, 5, none⟩ = some a5) ∧ Below u.heap.size u w1) ∧ Below w.heap.size w w1 := ⟨six_keep h.1 hb, h.2.trans (hb.mono h.2.size)⟩
theorem six_gr {g : Nat} {a0 a1 a2 a3 a4 a5 : Value} {w wr w1 : World} {row : Option Nat} (h0 : w.cell? ⟨g, 0, none⟩ = some a0 ∧ w.cell? ⟨g, 1, none⟩ = some a1 ∧ w.cell? ⟨g, 2, none⟩ = some a2 ∧ w.cell? ⟨g, 3, none⟩ = some a3 ∧ w.cell? ⟨g, 4, none⟩ = some a4 ∧ w.cell? ⟨g, 5, none⟩ = some a5) (h : (wr.cell? ⟨g, 0, none⟩ = some a0 ∧ wr.cell? ⟨g, 1, none⟩ = some a1 ∧ wr.cell? ⟨g, 2, none⟩ = some a2 ∧ wr.cell? ⟨g, 3, none⟩ = some a3 ∧ wr.cell? ⟨g, 4, none⟩ = some a4 ∧ wr.cell? ⟨g, 5, none⟩ = some a5) ∧ Below w.heap.size w wr) (hg : wr.grownBy w1 row) (hr : ∀ k, row = some k → w.heap.size ≤ k) : (w1.cell? ⟨g, 0, none⟩ = some a0 ∧ w1.cell? ⟨g, 1, none⟩ = some a1 ∧ w1.cell? ⟨g, 2, none⟩ = some a2 ∧ w1.cell? ⟨g, 3, none⟩ = some a3 ∧ w1.cell? ⟨g, 4, none⟩ = some a4 ∧ w1.cell? ⟨g, 5, none⟩ = some a5) ∧ Below w.heap.size w w1 := by
  have hb := h.2.trans ((Tch.grown hg).below h.2.size hr)
  exact ⟨(six_keep (w := w) ⟨h0, .refl _ _⟩ hb).1, hb⟩

set_option maxRecDepth 10000 in
set_option maxHeartbeats 8000000 in
theorem law_once_right (N Q G M T S : Nat) (hN : N ≤ 8) (hQ : Q ≤ 64) (hR : Right ⟨N, Q, G, M, T, S⟩) (w : World) (hE : EnvC w.heap.size w) : Calls Tryd.prog 6 #[cVal ⟨N, Q, G, M, T, S⟩] w (Ans (.bool true) w) := by
  obtain ⟨i0, hi, hz0, hz1, hz2⟩ := info_parts infoInt6
  have HE := Lib.hid hE
  clear hE
  have hq2 : 2 ≤ Q := by have := hR.q; simp only at this; omega
  have hlen : (nmsC ⟨N, Q, G, M, T, S⟩).length = 4 + N * (6 + Q) := nmsC_len hR
  have hle := nmsC_le ⟨N, Q, G, M, T, S⟩
  have kg (w : World) : Calls Tryd.prog 9 #[cVal ⟨N, Q, G, M, T, S⟩] w (Ans (.bool true) w) := by
    have := cright_any ⟨N, Q, G, M, T, S⟩ w; rw [rt_yes hR] at this; exact this
  have kc := ccells_any ⟨N, Q, G, M, T, S⟩
  have ky (p k : Nat) (hp : p < N) : plV ⟨N, Q, G, M, T, S⟩ p k = ((4 + p * (6 + Q) + k : Nat) : Int) := by
    rw [plV_yes ⟨hR, by omega, by show (p : Int) < (N : Int); omega⟩]; push_cast; rfl
  have kz (p i : Nat) (hp : p < N) (hi : i < Q) : slV ⟨N, Q, G, M, T, S⟩ p i = ((4 + p * (6 + Q) + 6 + i : Nat) : Int) := by
    rw [slV_slot, if_pos ⟨hR, by omega, by show (p : Int) < (N : Int); omega⟩]
    have : ((i % Q : Nat) : Int) = (i : Int) % (Q : Int) := by push_cast; rfl
    show 4 + (p : Int) * (6 + (Q : Int)) + 6 + (i : Int) % (Q : Int) = _
    rw [← this, Nat.mod_eq_of_lt hi]; push_cast; rfl
  have KY := Lib.hid ky
  have KZ := Lib.hid kz
  have kn (i : Nat) (hi : i < (nmsC ⟨N, Q, G, M, T, S⟩).length) (w' : World) (h : Below w.heap.size w w') : Calls Tryd.prog 25 #[cVal ⟨N, Q, G, M, T, S⟩, .int .i64 i] w' (Tells (· = nameAt Q i) w') := by
    have h := cname_any ⟨N, Q, G, M, T, S⟩ i w' (HE.out.on' h)
    rw [nmV_in hR hi] at h; exact h
  have kf (i : Nat) (hi : i < (nmsC ⟨N, Q, G, M, T, S⟩).length) (w' : World) (h : Below w.heap.size w w') : Calls Tryd.prog 23 #[cVal ⟨N, Q, G, M, T, S⟩, .string ⟨(nameAt Q i).toArray⟩] w' (Ans (.tuple #[.int .i64 i, .int .i64 0]) w') := by
    have h := cfind_any ⟨N, Q, G, M, T, S⟩ (nameAt Q i) w' (HE.out.on' h)
    have e : fst1 (nmsC ⟨N, Q, G, M, T, S⟩) (nameAt Q i) = i := fst1_name hR (by rw [hlen] at hi; exact hi)
    rw [e, if_neg (by omega)] at h; exact h
  rw [hlen] at kc hle kn kf
  obtain ⟨L, hL⟩ : ∃ L, 4 + N * (6 + Q) = L := ⟨_, rfl⟩
  rw [hL] at kc hle kn kf
  have HL := Lib.hid hL
  have KN := Lib.hid kn
  have KF := Lib.hid kf
  have hL4 : 4 ≤ L := by omega
  clear hL hlen ky kz hR kn kf
  have kw (w' : World) (h : Below w.heap.size w w') := works_any w' (HE.out.on' h)
  have HS0 := Lib.hid (six_at N Q G M T S 23 w)
  have H0 := HS0.out.1
  obtain ⟨c0, c1, c2, c3, c4, c5⟩ := H0
  show Calls _ _ #[.agg #[.int .i64 N, .int .i64 Q, .int .i64 G, .int .i64 M, .int .i64 T, .int .i64 S]] _ _
  go_enter Tryd.func6, Tryd.ntmps6
  go_wp2_with fail
  refine (kc _).mono ?_
  rintro e w1 ⟨rfl, hb⟩
  have HS1 := Lib.hid (six_keep HS0.out hb)
  clear hb c0 c1 c2 c3 c4 c5 kc
  have H0 := HS1.out.1
  obtain ⟨c0, c1, c2, c3, c4, c5⟩ := H0
  go_wp2_with fail
  refine (kg _).mono ?_
  rintro e w2 ⟨rfl, hb⟩
  have HS2 := Lib.hid (six_keep HS1.out hb)
  clear hb c0 c1 c2 c3 c4 c5 kg HS0 HS1
  go_wp2_with (at_make; refine wpList_make_full _ rfl _ _ 33 rfl w2.heap.size 3 i0 (.int .i64 0) 1 Tryd.underlying33 hi hz0 hz1 _ _ _ _ L rfl rfl (by omega) (by omega) ?b2 ?b3 ?b4 ?_)
  case b2 => rw [hz2]; omega
  case b3 => unfold maxLen; omega
  case b4 => exact Nat.le_refl _
  intro w7 hown hgrow
  have hB7 := (Below.refl w2.heap.size w2).grown hgrow (Nat.le_refl _) (fun k hk => by cases hk)
  have HS7 := Lib.hid (six_keep HS2.out hB7)
  rw [cnt_zero] at hown
  have HRow := Lib.hid (own_row hown).1
  have hgC : w.heap.size < w2.heap.size := block_lt_of_cell HS2.out.1.1
  have hg4 := HRow.out.lt
  have HG : Hid (w.heap.size < w2.heap.size ∧ w2.heap.size < w7.heap.size) := ⟨hgC, hg4⟩
  clear hown hgrow hB7 hgC hg4 HS2
  generalize w2.heap.size = g4 at HRow HG ⊢
  go_wp2_with (at_builtin; refine wpList_append_lies _ rfl (.tmp 40) (.tmp 41) 33 (by rfl) w7.heap.size 3 i0 (.int .i64 0) 1 8 Tryd.underlying33 hi hz0 hz1 hz2 rfl (by decide) (.slice none 0 0) 0 [] (by kernel_rfl) (World.ownsRow_nil _ _ _ _) ⟨w7.heap.size, 0, none⟩ 4 4 [.int .i64 0, .int .i64 1, .int .i64 2, .int .i64 3] (by kernel_rfl) rfl (ints_news w7 [0, 1, 2, 3] _) (ints_one [0, 1, 2, 3]) (by decide) (by unfold maxLen; omega) (by omega) (by simp) (w7.heap.size + 1) (by simp) ?_; intro g5 cap5 w8 hown8 hgrow8 hat8 hlt8)
  have HA0 : AO w7 0 (.slice none 0 0) (w7.alloc (.cells #[.int .i64 0, .int .i64 1, .int .i64 2, .int .i64 3] 3)) := ⟨World.ownsRow_nil _ _ _ _, (Below.refl _ _).alloc (Nat.le_refl _) _⟩
  have HA := Lib.hid (HA0.push (l := [0, 1, 2, 3]) rng_four rfl hown8 hgrow8)
  clear HA0 hown8 hgrow8 hat8 hlt8
  go_wp2_with fail
  go_loopw [5, 6] (fun vo vp wr => ∃ p : Nat, p ≤ N ∧ vp = .int .i64 p ∧ Hid (AO w7 (4 + p * (6 + Q)) vo wr)) (fun _ vp _ => N - (intOf vp).toNat)
  case atStart => exact ⟨0, by omega, rfl, by rw [Nat.zero_mul, Nat.add_zero]; exact HA⟩
  case round =>
    obtain ⟨p, hp, rfl, HA⟩ := hrel
    obtain ⟨vo, rfl⟩ : ∃ v, v = u5 := ⟨_, rfl⟩
    have H0 := (six_keep HS7.out HA.out.bel).1
    obtain ⟨c0, c1, c2, c3, c4, c5⟩ := H0
    by_cases hpN : p < N
    · have hpNi : (p : Int) < N := by omega
      obtain ⟨K, hK⟩ : ∃ K, 4 + p * (6 + Q) = K := ⟨_, rfl⟩
      rw [hK] at HA
      have hKL : K + 6 + Q ≤ 564 := by
        have := Nat.mul_le_mul_right (6 + Q) hpN
        rw [Nat.succ_mul] at this
        have := HL.out
        omega
      have HK := Lib.hid hK
      obtain ⟨y0, hy0⟩ : ∃ y : Int, ((K + 0 : Nat) : Int) = y := ⟨_, rfl⟩
      have a0 (w : World) : Calls Tryd.prog 13 #[cVal ⟨N, Q, G, M, T, S⟩, .int .i64 p] w (Ans (.int .i64 y0) w) := by
        have h := word_any ⟨N, Q, G, M, T, S⟩ p w
        rw [KY.out p 0 hpN, hK, hy0] at h; exact h
      obtain ⟨y1, hy1⟩ : ∃ y : Int, ((K + 1 : Nat) : Int) = y := ⟨_, rfl⟩
      have a1 (w : World) : Calls Tryd.prog 14 #[cVal ⟨N, Q, G, M, T, S⟩, .int .i64 p] w (Ans (.int .i64 y1) w) := by
        have h := next_any ⟨N, Q, G, M, T, S⟩ p w
        rw [KY.out p 1 hpN, hK, hy1] at h; exact h
      obtain ⟨y2, hy2⟩ : ∃ y : Int, ((K + 2 : Nat) : Int) = y := ⟨_, rfl⟩
      have a2 (w : World) : Calls Tryd.prog 15 #[cVal ⟨N, Q, G, M, T, S⟩, .int .i64 p] w (Ans (.int .i64 y2) w) := by
        have h := stat_any ⟨N, Q, G, M, T, S⟩ p w
        rw [KY.out p 2 hpN, hK, hy2] at h; exact h
      obtain ⟨y3, hy3⟩ : ∃ y : Int, ((K + 3 : Nat) : Int) = y := ⟨_, rfl⟩
      have a3 (w : World) : Calls Tryd.prog 16 #[cVal ⟨N, Q, G, M, T, S⟩, .int .i64 p] w (Ans (.int .i64 y3) w) := by
        have h := tick_any ⟨N, Q, G, M, T, S⟩ p w
        rw [KY.out p 3 hpN, hK, hy3] at h; exact h
      obtain ⟨y4, hy4⟩ : ∃ y : Int, ((K + 4 : Nat) : Int) = y := ⟨_, rfl⟩
      have a4 (w : World) : Calls Tryd.prog 17 #[cVal ⟨N, Q, G, M, T, S⟩, .int .i64 p] w (Ans (.int .i64 y4) w) := by
        have h := sys_any ⟨N, Q, G, M, T, S⟩ p w
        rw [KY.out p 4 hpN, hK, hy4] at h; exact h
      obtain ⟨y5, hy5⟩ : ∃ y : Int, ((K + 5 : Nat) : Int) = y := ⟨_, rfl⟩
      have a5 (w : World) : Calls Tryd.prog 18 #[cVal ⟨N, Q, G, M, T, S⟩, .int .i64 p] w (Ans (.int .i64 y5) w) := by
        have h := flag_any ⟨N, Q, G, M, T, S⟩ p w
        rw [KY.out p 5 hpN, hK, hy5] at h; exact h
      have hk6 : rng (K + 6) = rng K ++ [y0, y1, y2, y3, y4, y5] := by rw [rng_six, ← hy0, ← hy1, ← hy2, ← hy3, ← hy4, ← hy5]; rfl
      have HK6 := Lib.hid hk6
      have HX := Lib.hid (And.intro (show K + 6 ≤ maxLen by unfold maxLen; omega) (show (K + 6) * 8 ≤ 140737488355328 by omega))
      have HV : Hid (∀ k, vo.ownBlock = some k → w7.heap.size ≤ k) := fun k hk => (HA.out.own.lt k hk).1
      have HC : Hid ((wr.cell? ⟨w.heap.size, 0, none⟩ = some (.int .i64 N) ∧ wr.cell? ⟨w.heap.size, 1, none⟩ = some (.int .i64 Q) ∧ wr.cell? ⟨w.heap.size, 2, none⟩ = some (.int .i64 G) ∧ wr.cell? ⟨w.heap.size, 3, none⟩ = some (.int .i64 M) ∧ wr.cell? ⟨w.heap.size, 4, none⟩ = some (.int .i64 T) ∧ wr.cell? ⟨w.heap.size, 5, none⟩ = some (.int .i64 S)) ∧ Below w7.heap.size w7 wr) := ⟨⟨c0, c1, c2, c3, c4, c5⟩, HA.out.bel⟩
      clear hk6 hy0 hy1 hy2 hy3 hy4 hy5 hK
      go_wp2_with fail
      clear c0 c1 c2 c3 c4 c5
      go_region_held3 (fun w' => (w'.cell? ⟨w.heap.size, 0, none⟩ = some (.int .i64 N) ∧ w'.cell? ⟨w.heap.size, 1, none⟩ = some (.int .i64 Q) ∧ w'.cell? ⟨w.heap.size, 2, none⟩ = some (.int .i64 G) ∧ w'.cell? ⟨w.heap.size, 3, none⟩ = some (.int .i64 M) ∧ w'.cell? ⟨w.heap.size, 4, none⟩ = some (.int .i64 T) ∧ w'.cell? ⟨w.heap.size, 5, none⟩ = some (.int .i64 S)) ∧ Below w7.heap.size w7 w') (first | with_reducible exact six_keep HC.out (Below.refl _ _).drew | with_reducible exact six_keep (by assumption) (by assumption) | with_reducible exact six_keep (by assumption) ((Below.refl _ _).alloc (Nat.le_refl _) _) | with_reducible exact six_gr HS7.out.1 (by assumption) (by assumption) HV.out)
        (first
          | (go_at_call 13; refine (a0 _).mono ?_; rintro e x0 ⟨rfl, hx0⟩; have HA0 := Lib.hid (HA.out.on (Below.trans (Below.refl _ _).drew hx0)))
          | (go_at_call 14; refine (a1 _).mono ?_; rintro e x1 ⟨rfl, hx1⟩; have HA1 := Lib.hid (HA0.out.on hx1))
          | (go_at_call 15; refine (a2 _).mono ?_; rintro e x2 ⟨rfl, hx2⟩; have HA2 := Lib.hid (HA1.out.on hx2))
          | (go_at_call 16; refine (a3 _).mono ?_; rintro e x3 ⟨rfl, hx3⟩; have HA3 := Lib.hid (HA2.out.on hx3))
          | (go_at_call 17; refine (a4 _).mono ?_; rintro e x4 ⟨rfl, hx4⟩; have HA4 := Lib.hid (HA3.out.on hx4))
          | (go_at_call 18; refine (a5 _).mono ?_; rintro e x5 ⟨rfl, hx5⟩; have HA5 := Lib.hid (HA4.out.on hx5))
          | (refine step_append_lies _ rfl (.tmp 49) (.tmp 68) 33 (by rfl) w7.heap.size 3 i0 (.int .i64 0) 1 8 Tryd.underlying33 hi hz0 hz1 hz2 rfl (by decide) vo K ((rng K).map (Value.int .i64)) (by kernel_rfl) (HA5.out.own.alloc _) ⟨x5.heap.size, 0, none⟩ 6 6 [.int .i64 y0, .int .i64 y1, .int .i64 y2, .int .i64 y3, .int .i64 y4, .int .i64 y5] (by kernel_rfl) rfl (ints_news x5 [y0, y1, y2, y3, y4, y5] _) (ints_one [y0, y1, y2, y3, y4, y5]) (by decide) HX.out.1 HX.out.2 (Nat.le_trans HA5.out.bel.size (by simp)) (x5.heap.size + 1) (by simp) ?_; intro g9 cap9 w9 hown9 hgrow9 hat9 hlt9))
      have HA9 := Lib.hid ((HA5.out.on ((Below.refl _ _).alloc (Nat.le_refl _) (.cells #[.int .i64 y0, .int .i64 y1, .int .i64 y2, .int .i64 y3, .int .i64 y4, .int .i64 y5] 3))).push (l := [y0, y1, y2, y3, y4, y5]) HK6.out rfl hown9 hgrow9)
      clear HA HA0 HA1 HA2 HA3 HA4 HA5 hown9 hgrow9 hat9 hlt9 HK6 HX HV HC a0 a1 a2 a3 a4 a5
      go_wp2_with fail
      go_loopw [5, 7] (fun vo vi wx => ∃ i : Nat, i ≤ Q ∧ vi = .int .i64 i ∧ Hid (AO w7 (K + 6 + i) vo wx)) (fun _ vi _ => Q - (intOf vi).toNat)
      case atStart => exact ⟨0, by omega, rfl, HA9⟩
      case round =>
        obtain ⟨i, hi6, rfl, HA⟩ := hrel
        clear HA9
        obtain ⟨vi5, rfl⟩ : ∃ v, v = u5 := ⟨_, rfl⟩
        have H0 := (six_keep HS7.out HA.out.bel).1
        obtain ⟨c0, c1, c2, c3, c4, c5⟩ := H0
        by_cases hiQ : i < Q
        · have hiQi : (i : Int) < Q := by omega
          have hiw : IntKind.u32.wrap (i : Int) = i := IntWalk.u32_in _ (by omega)
          obtain ⟨y, hy⟩ : ∃ y : Int, ((K + 6 + i : Nat) : Int) = y := ⟨_, rfl⟩
          have ks (w : World) : Calls Tryd.prog 20 #[cVal ⟨N, Q, G, M, T, S⟩, .int .i64 p, .int .u32 i] w (Ans (.int .i64 y) w) := by
            have h := cslot_any ⟨N, Q, G, M, T, S⟩ p i (by omega) w
            rw [KZ.out p i hpN hiQ, HK.out, hy] at h; exact h
          have HK1 : Hid (rng (K + 6 + (i + 1)) = rng (K + 6 + i) ++ [y]) := by
            show _ = _
            rw [← Nat.add_assoc, rng_more, hy]
          have HX := Lib.hid (And.intro (show K + 6 + i + 1 ≤ maxLen by unfold maxLen; omega) (show (K + 6 + i + 1) * 8 ≤ 140737488355328 by omega))
          clear hy
          go_wp2_with fail
          refine (ks _).mono ?_
          rintro e x1 ⟨rfl, hx1⟩
          have HA1 := Lib.hid (HA.out.on hx1)
          clear hx1 ks c0 c1 c2 c3 c4 c5
          go_wp2_with (at_builtin; refine wpList_append_lies _ rfl (.tmp 76) (.tmp 82) 33 (by rfl) w7.heap.size 3 i0 (.int .i64 0) 1 8 Tryd.underlying33 hi hz0 hz1 hz2 rfl (by decide) vi5 (K + 6 + i) ((rng (K + 6 + i)).map (Value.int .i64)) (by kernel_rfl) (HA1.out.own.alloc _) ⟨x1.heap.size, 0, none⟩ 1 1 [.int .i64 y] (by kernel_rfl) rfl (ints_news x1 [y] _) (ints_one [y]) (by decide) HX.out.1 HX.out.2 (Nat.le_trans HA1.out.bel.size (by simp)) (x1.heap.size + 1) (by simp) ?_; intro g9 cap9 w9 hown9 hgrow9 hat9 hlt9)
          have HA9 := Lib.hid ((HA1.out.on ((Below.refl _ _).alloc (Nat.le_refl _) (.cells #[.int .i64 y] 3))).push (l := [y]) HK1.out rfl hown9 hgrow9)
          clear HA HA1 hown9 hgrow9 hat9 hlt9 HK1 HX
          go_wp2_with fail
          go_roundw
          case rel => exact ⟨i + 1, hiQ, by go_num, HA9⟩
          case measure =>
            show _ < _
            simp only [intOf]; omega
        · obtain rfl : i = Q := by omega
          have HN : Hid (AO w7 (4 + (p + 1) * (6 + i)) vi5 wr) := by
            have e : 4 + (p + 1) * (6 + i) = K + 6 + i := by have := HK.out; rw [Nat.succ_mul]; omega
            show AO _ _ _ _
            rw [e]; exact HA.out
          have hp1 : p + 1 ≤ N := hpN
          go_wp2_with fail
          go_roundw
          case rel => exact ⟨p + 1, hp1, by go_num, HN⟩
          case measure =>
            show _ < _
            simp only [intOf]; omega
    · obtain rfl : N = p := by omega
      rw [HL.out] at HA
      obtain ⟨g5, cap, rfl, hgb, hgl⟩ := HA.out.own.form (by omega)
      have HAl : Hid (∀ j, j < L → wr.cell? ⟨g5, j, none⟩ = some (.int .i64 j)) := fun j hj => by
        rw [HA.out.own.cellAt j (by omega), List.getElem?_map, rng_at hj]; rfl
      have HRw := Lib.hid (HRow.out.on' HA.out.bel)
      have HS8 := Lib.hid (six_keep HS7.out HA.out.bel)
      have hg45 : g4 ≠ g5 := by have := HG.out.2; omega
      have HG5 : Hid (g4 ≠ g5 ∧ g4 ≠ w.heap.size ∧ w.heap.size ≤ g4) := ⟨hg45, by have := HG.out.1; omega, by have := HG.out.1; omega⟩
      clear HA hgb hgl hg45 HRow HS7 HG hi hz0 hz1 hz2
      go_wp2_with fail
      go_loopw [8] (fun vi wx => ∃ i : Nat, i ≤ L ∧ vi = .int .i64 i ∧ Hid (Row g4 3 ((cnt L i).map (Value.int .i64)) wx) ∧ Hid (∀ j, j < L → wx.cell? ⟨g5, j, none⟩ = some (.int .i64 j)) ∧ Hid ((wx.cell? ⟨w.heap.size, 0, none⟩ = some (.int .i64 N) ∧ wx.cell? ⟨w.heap.size, 1, none⟩ = some (.int .i64 Q) ∧ wx.cell? ⟨w.heap.size, 2, none⟩ = some (.int .i64 G) ∧ wx.cell? ⟨w.heap.size, 3, none⟩ = some (.int .i64 M) ∧ wx.cell? ⟨w.heap.size, 4, none⟩ = some (.int .i64 T) ∧ wx.cell? ⟨w.heap.size, 5, none⟩ = some (.int .i64 S)) ∧ Below w.heap.size w wx)) (fun vi _ => L - (intOf vi).toNat)
      case atStart => exact ⟨0, by omega, rfl, HRw, HAl, HS8⟩
      case round =>
        obtain ⟨i, hiL, rfl, HRr, HAr, HSr⟩ := hrel
        clear HRw HAl HS8
        by_cases hlt : i < L
        · have hlti : (i : Int) < L := by omega
          have i0' : (0 : Int) ≤ i := by omega
          have ca := HAr.out i hlt
          have cr := HRr.out.cell i
          rw [List.getElem?_map, cnt_at hlt, if_neg (by omega)] at cr
          change wr.cell? ⟨g4, i, none⟩ = some (.int .i64 0) at cr
          have fr := HRr.out.frozen i
          have HR2 : Hid (Row g4 3 ((cnt L (i + 1)).map (Value.int .i64)) (wr.setCell ⟨g4, i, none⟩ (.int .i64 1))) := by
            have h := HRr.out.set i (.int .i64 1)
            have e := List.map_set (f := Value.int .i64) (l := cnt L i) (i := i) (a := 1)
            rw [cnt_set hlt] at e
            rw [e]; exact h
          have HA2 : Hid (∀ j, j < L → (wr.setCell ⟨g4, i, none⟩ (.int .i64 1)).cell? ⟨g5, j, none⟩ = some (.int .i64 j)) := fun j hj => by
            rw [World.cell?_setCell_far _ _ _ _ (show (⟨g4, i, none⟩ : Addr).block ≠ g5 from HG5.out.1)]; exact HAr.out j hj
          have HS2 : Hid (((wr.setCell ⟨g4, i, none⟩ (.int .i64 1)).cell? ⟨w.heap.size, 0, none⟩ = some (.int .i64 N) ∧ (wr.setCell ⟨g4, i, none⟩ (.int .i64 1)).cell? ⟨w.heap.size, 1, none⟩ = some (.int .i64 Q) ∧ (wr.setCell ⟨g4, i, none⟩ (.int .i64 1)).cell? ⟨w.heap.size, 2, none⟩ = some (.int .i64 G) ∧ (wr.setCell ⟨g4, i, none⟩ (.int .i64 1)).cell? ⟨w.heap.size, 3, none⟩ = some (.int .i64 M) ∧ (wr.setCell ⟨g4, i, none⟩ (.int .i64 1)).cell? ⟨w.heap.size, 4, none⟩ = some (.int .i64 T) ∧ (wr.setCell ⟨g4, i, none⟩ (.int .i64 1)).cell? ⟨w.heap.size, 5, none⟩ = some (.int .i64 S)) ∧ Below w.heap.size w (wr.setCell ⟨g4, i, none⟩ (.int .i64 1))) := by
            have f (j : Nat) : (wr.setCell ⟨g4, i, none⟩ (.int .i64 1)).cell? ⟨w.heap.size, j, none⟩ = wr.cell? ⟨w.heap.size, j, none⟩ := World.cell?_setCell_far _ _ _ _ (show (⟨g4, i, none⟩ : Addr).block ≠ w.heap.size from HG5.out.2.1)
            exact ⟨by rw [f, f, f, f, f, f]; exact HSr.out.1, HSr.out.2.setCell (p := ⟨g4, i, none⟩) HG5.out.2.2 _⟩
          clear HRr HAr HSr
          go_wp2_with fail
          go_roundw
          case rel => exact ⟨i + 1, hlt, by go_num, HR2, HA2, HS2⟩
          case measure =>
            show _ < _
            simp only [intOf]; omega
        · obtain rfl : L = i := by omega
          clear HAr
          go_wp2_with fail
          go_loopw [9] (fun vi wx => ∃ i : Nat, i ≤ L ∧ vi = .int .i64 i ∧ Hid (Row g4 3 ((cnt L L).map (Value.int .i64)) wx) ∧ Hid ((wx.cell? ⟨w.heap.size, 0, none⟩ = some (.int .i64 N) ∧ wx.cell? ⟨w.heap.size, 1, none⟩ = some (.int .i64 Q) ∧ wx.cell? ⟨w.heap.size, 2, none⟩ = some (.int .i64 G) ∧ wx.cell? ⟨w.heap.size, 3, none⟩ = some (.int .i64 M) ∧ wx.cell? ⟨w.heap.size, 4, none⟩ = some (.int .i64 T) ∧ wx.cell? ⟨w.heap.size, 5, none⟩ = some (.int .i64 S)) ∧ Below w.heap.size w wx)) (fun vi _ => L - (intOf vi).toNat)
          case atStart => exact ⟨0, by omega, rfl, HRr, HSr⟩
          case round =>
            obtain ⟨i, hiL, rfl, HRi, HSi⟩ := hrel
            clear HRr HSr
            by_cases hlt : i < L
            · have hlti : (i : Int) < L := by omega
              have i0' : (0 : Int) ≤ i := by omega
              have kn := KN.out i hlt
              have kf := KF.out i hlt
              obtain ⟨nm, hnm⟩ : ∃ nm, nameAt Q i = nm := ⟨_, rfl⟩
              rw [hnm] at kn kf
              have kn2 {X : Prop} (w' : World) (h : X ∧ Below w.heap.size w w') : Calls Tryd.prog 25 #[cVal ⟨N, Q, G, M, T, S⟩, .int .i64 i] w' (Ans (.string ⟨nm.toArray⟩) w') := (kn w' h.2).mono fun e w' h => tells_is h
              have kf2 {X : Prop} (w' : World) (h : X ∧ Below w.heap.size w w') := kf w' h.2
              have HC : Hid (((wr.cell? ⟨w.heap.size, 0, none⟩ = some (.int .i64 N) ∧ wr.cell? ⟨w.heap.size, 1, none⟩ = some (.int .i64 Q) ∧ wr.cell? ⟨w.heap.size, 2, none⟩ = some (.int .i64 G) ∧ wr.cell? ⟨w.heap.size, 3, none⟩ = some (.int .i64 M) ∧ wr.cell? ⟨w.heap.size, 4, none⟩ = some (.int .i64 T) ∧ wr.cell? ⟨w.heap.size, 5, none⟩ = some (.int .i64 S)) ∧ Below wr.heap.size wr wr) ∧ Below w.heap.size w wr) := ⟨⟨HSi.out.1, .refl _ _⟩, HSi.out.2⟩
              clear kn kf hnm
              go_wp2_with fail
              go_region_held3 (fun w' => ((w'.cell? ⟨w.heap.size, 0, none⟩ = some (.int .i64 N) ∧ w'.cell? ⟨w.heap.size, 1, none⟩ = some (.int .i64 Q) ∧ w'.cell? ⟨w.heap.size, 2, none⟩ = some (.int .i64 G) ∧ w'.cell? ⟨w.heap.size, 3, none⟩ = some (.int .i64 M) ∧ w'.cell? ⟨w.heap.size, 4, none⟩ = some (.int .i64 T) ∧ w'.cell? ⟨w.heap.size, 5, none⟩ = some (.int .i64 S)) ∧ Below wr.heap.size wr w') ∧ Below w.heap.size w w') (first | with_reducible exact six2_keep HC.out (Below.refl _ _).drew | with_reducible exact six2_keep (by assumption) (by assumption))
                (first
                  | (go_at_call 25; refine (kn2 _ (by assumption)).mono ?_; rintro e x1 ⟨rfl, hx1⟩)
                  | (go_at_call 23; refine (kf2 _ (by assumption)).mono ?_; rintro e x2 ⟨rfl, hx2⟩))
              rename_i hh
              have HR2 := Lib.hid (HRi.out.on' hh.1.2)
              have HS2 : Hid ((x2.cell? ⟨w.heap.size, 0, none⟩ = some (.int .i64 N) ∧ x2.cell? ⟨w.heap.size, 1, none⟩ = some (.int .i64 Q) ∧ x2.cell? ⟨w.heap.size, 2, none⟩ = some (.int .i64 G) ∧ x2.cell? ⟨w.heap.size, 3, none⟩ = some (.int .i64 M) ∧ x2.cell? ⟨w.heap.size, 4, none⟩ = some (.int .i64 T) ∧ x2.cell? ⟨w.heap.size, 5, none⟩ = some (.int .i64 S)) ∧ Below w.heap.size w x2) := ⟨hh.1.1, hh.2⟩
              have cr := HR2.out.cell i
              rw [List.getElem?_map, cnt_at hlt, if_pos hlt] at cr
              change x2.cell? ⟨g4, i, none⟩ = some (.int .i64 1) at cr
              clear hh HC kn2 kf2 HRi HSi
              go_wp2_with fail
              go_roundw
              case rel => exact ⟨i + 1, hlt, by go_num, HR2, HS2⟩
              case measure =>
                show _ < _
                simp only [intOf]; omega
            · have hlti : ¬ ((i : Int) < L) := by omega
              go_wp2_with fail
              refine (kw _ HSi.out.2).mono ?_
              rintro e x1 ⟨rfl, hb⟩
              have HB := Lib.hid (HSi.out.2.trans (hb.mono HSi.out.2.size))
              clear hb
              go_wp2
              go_ret
              exact ⟨rfl, HB.out⟩

theorem law_once (c : Cfg) (w : World) (hE : EnvC w.heap.size w) : Calls Tryd.prog 6 #[cVal c] w (Ans (.bool true) w) := by
  by_cases hR : Right c
  · obtain ⟨N, Q, G, M, T, S, rfl, h1, h2, -⟩ := hR.small
    exact law_once_right N Q G M T S h1 h2 hR w hE
  · exact law_once_wrong c hR w hE
end Go.Proofs.YtkchbnojcfkkhaaDoor
