/- The law ClockOrders: what its first loop keeps, and one round of it. -/
import Derived.Test.YtfigkoknhiabnaaDoorKh
import Derived.Test.YtfigkoknhiabnaaDoorKg
import Derived.Test.YtfigkoknhiabnaaDoorCo
import Derived.Deep.DeepCutAuto
import Derived.Deep.Cut
namespace Go.Proofs.YtfigkoknhiabnaaDoor
open Go.RowKit Go.Fm Go.Sm Go.Tx

theorem own_tch {S : Nat → Prop} {w w' : World} {B n : Nat} {E : TypeId} {v : Value} {xs : List Value} (h : w.ownsRow B E 1 v n xs) (ht : Tch S w w') (hs : ∀ k, S k → k < B) : w'.ownsRow B E 1 v n xs := by
  refine ⟨h.1, ?_⟩
  rcases h.2 with h2 | ⟨g, cap, cur, hv, hB, hg, r⟩
  · exact .inl h2
  · exact .inr ⟨g, cap, cur, hv, hB, ht.obj hg (fun e => by have := hs g e; omega), r⟩
theorem Tch.grown {w w' : World} {row : Option Nat} (h : w.grownBy w' row) : Tch (fun k => row = some k) w w' := ⟨h.os, h.tape, h.output, h.size, fun k hk hn => h.block k hk (fun e => hn e.symm)⟩

/-- the law's own: where a round begins -/
structure OSt (w : World) (t d : Int) (zs : List Int) (k : Nat) (laps : List Int) (v : Value) (du fu : Bool) (w' : World) : Prop where
  a : Clk w.heap.size (tA zs k) laps w'
  rise : Rise laps (tA zs k)
  b : Clk (w.heap.size + 1) 0 [] w'
  good : w'.ownsRow (w.heap.size + 1 + 1) 2 1 v (goodU zs k).length ((goodU zs k).map (Value.int .i64))
  due : du = true → d ≤ since (tA zs k) t
  full : fu = true → tA zs k = 4611686018427387904
  bel : Below w.heap.size w w'
theorem OSt.on {w w1 w2 : World} {t d : Int} {zs : List Int} {k : Nat} {laps : List Int} {v : Value} {du fu : Bool} (h : OSt w t d zs k laps v du fu w1) (hb : Below w1.heap.size w1 w2) : OSt w t d zs k laps v du fu w2 :=
  ⟨h.a.on' hb, h.rise, h.b.on' hb, ownk_on h.good hb, h.due, h.full, h.bel.trans (hb.mono h.bel.size)⟩
/-- the first clock has gone on -/
theorem OSt.goes {w w1 w2 w3 : World} {t d : Int} {zs : List Int} {k : Nat} {laps : List Int} {v : Value} {du fu : Bool} (h : OSt w t d zs k laps v du fu w1) (hc : Clk w.heap.size (tA zs (k + 1)) (mark laps (tA zs (k + 1))) w3) (h1 : Tch (· = w.heap.size) w1 w2) (h2 : Tch (· = w.heap.size) w2 w3) (hle : tA zs k ≤ tA zs (k + 1)) :
    Clk w.heap.size (tA zs (k + 1)) (mark laps (tA zs (k + 1))) w3 ∧ Rise (mark laps (tA zs (k + 1))) (tA zs (k + 1)) ∧ Clk (w.heap.size + 1) 0 [] w3 ∧ w3.ownsRow (w.heap.size + 1 + 1) 2 1 v (goodU zs k).length ((goodU zs k).map (Value.int .i64)) ∧ Below w.heap.size w w3 := by
  have ht := h1.trans h2
  exact ⟨hc, (h.rise.later hle).mark, h.b.tch ht (by omega), own_tch h.good ht (fun k hk => by omega), h.bel.trans (ht.below h.bel.size (fun k hk => by omega))⟩
/-- no more came into the good ones -/
theorem OSt.no {w w3 : World} {t d : Int} {zs : List Int} {k : Nat} {laps : List Int} {v : Value} {du2 fu2 : Bool} (h : Clk w.heap.size (tA zs (k + 1)) (mark laps (tA zs (k + 1))) w3 ∧ Rise (mark laps (tA zs (k + 1))) (tA zs (k + 1)) ∧ Clk (w.heap.size + 1) 0 [] w3 ∧ w3.ownsRow (w.heap.size + 1 + 1) 2 1 v (goodU zs k).length ((goodU zs k).map (Value.int .i64)) ∧ Below w.heap.size w w3)
    (hk : k < zs.length) (hz : zs.getD k 0 < 0) (hd : decide (d ≤ since (tA zs (k + 1)) t) = du2) (hf : (tA zs (k + 1) == 4611686018427387904) = fu2) : OSt w t d zs (k + 1) (mark laps (tA zs (k + 1))) v du2 fu2 w3 :=
  ⟨h.1, h.2.1, h.2.2.1, by rw [goodU_no hk hz]; exact h.2.2.2.1, (fun e => by rw [e] at hd; simpa using hd), (fun e => by rw [e] at hf; simpa using hf), h.2.2.2.2⟩
/-- one more came -/
theorem OSt.yes {w w3 w4 : World} {t d z : Int} {zs : List Int} {k : Nat} {laps : List Int} {v v4 : Value} {du2 fu2 : Bool} {T : TypeId} (h : Clk w.heap.size (tA zs (k + 1)) (mark laps (tA zs (k + 1))) w3 ∧ Rise (mark laps (tA zs (k + 1))) (tA zs (k + 1)) ∧ Clk (w.heap.size + 1) 0 [] w3 ∧ w3.ownsRow (w.heap.size + 1 + 1) 2 1 v (goodU zs k).length ((goodU zs k).map (Value.int .i64)) ∧ Below w.heap.size w w3)
    (hk : k < zs.length) (hz : 0 ≤ zs.getD k 0) (hzz : zs.getD k 0 = z) (hd : decide (d ≤ since (tA zs (k + 1)) t) = du2) (hf : (tA zs (k + 1) == 4611686018427387904) = fu2)
    (ho : w4.ownsRow (w.heap.size + 1 + 1) 2 1 v4 ((goodU zs k).length + 1) ((goodU zs k).map (Value.int .i64) ++ [.int .i64 z])) (hg : (w3.alloc (.cells #[.int .i64 z] T)).grownBy w4 v.ownBlock) : OSt w t d zs (k + 1) (mark laps (tA zs (k + 1))) v4 du2 fu2 w4 := by
  have hlt := h.2.2.2.1.lt
  have ht : Tch (fun j => v.ownBlock = some j) w3 w4 := (Tch.trans (.of _ ((Below.refl _ _).alloc (Nat.le_refl _) _)) (Tch.grown hg))
  refine ⟨h.1.tch ht (fun e => by have := (hlt _ e).1; omega), h.2.1, h.2.2.1.tch ht (fun e => by have := (hlt _ e).1; omega), ?_, (fun e => by rw [e] at hd; simpa using hd), (fun e => by rw [e] at hf; simpa using hf), ?_⟩
  · rw [goodU_yes hk hz, List.length_append, List.map_append, hzz]; exact ho
  · exact h.2.2.2.2.trans (ht.below h.2.2.2.2.size (fun j e => by have := (hlt j e).1; omega))
theorem tA_le {zs : List Int} {k : Nat} (h : k < zs.length) : tA zs k ≤ tA zs (k + 1) := by
  rw [← tA_more h]; exact (plus_bd (tA_bd zs k).1 (tA_bd zs k).2).2.2
theorem tA_no {zs : List Int} {k : Nat} (h : k < zs.length) (hz : zs.getD k 0 < 0) : tA zs (k + 1) = tA zs k := by
  rw [← tA_more h, plus_neg hz]

theorem one_new (z : Int) (w : World) (t : TypeId) : ∀ j u, [Value.int .i64 z][j]? = some u → (w.alloc (.cells #[.int .i64 z] t)).cell? ((⟨w.heap.size, 0, none⟩ : Addr).add j) = some u := by
  intro j u hu
  rcases j with _ | j <;> simp at hu
  subst hu
  simp [World.cell?_alloc_new, Addr.add]
theorem one_one (z : Int) : ∀ u ∈ [Value.int .i64 z], u.oneCell' = true := by
  intro u hu; simp at hu; subst hu; rfl

/-- behind the first loop: what the others keep -/
structure O3 (w : World) (t0 : Int) (gs : List Int) (n gu : Nat) (laps : List Int) (v : Value) (us vs : List Bool) (w' : World) : Prop where
  a : Clk w.heap.size t0 laps w'
  b : Clk (w.heap.size + 1) (cap (uT gs vs)) [] w'
  good : w'.ownsRow (w.heap.size + 1 + 1) 2 1 v n (gs.map (Value.int .i64))
  used : w'.ownsRow (w.heap.size + 1 + 1) 4 1 (.slice (some ⟨gu, 0, none⟩) n n) n (us.map Value.bool)
  ne : v.ownBlock ≠ some gu
  lu : us.length = n
  lv : vs.length = n
  lg : gs.length = n
  bel : Below w.heap.size w w'
theorem O3.on {w w1 w2 : World} {t0 : Int} {gs laps : List Int} {n gu : Nat} {v : Value} {us vs : List Bool} (h : O3 w t0 gs n gu laps v us vs w1) (hb : Below w1.heap.size w1 w2) : O3 w t0 gs n gu laps v us vs w2 :=
  ⟨h.a.on' hb, h.b.on' hb, ownk_on h.good hb, ownk_on h.used hb, h.ne, h.lu, h.lv, h.lg, h.bel.trans (hb.mono h.bel.size)⟩
theorem O3.add {w w1 w2 : World} {t0 : Int} {gs laps : List Int} {n gu : Nat} {v : Value} {us vs ws : List Bool} (h : O3 w t0 gs n gu laps v us vs w1) (hc : Clk (w.heap.size + 1) (cap (uT gs ws)) [] w2) (ht : Tch (· = w.heap.size + 1) w1 w2) (hl : ws.length = n) : O3 w t0 gs n gu laps v us ws w2 :=
  ⟨h.a.tch ht (by omega), hc, own_tch h.good ht (fun k hk => by omega), own_tch h.used ht (fun k hk => by omega), h.ne, h.lu, hl, h.lg, h.bel.trans (ht.below h.bel.size (fun k hk => by omega))⟩
theorem O3.mark {w w1 : World} {t0 : Int} {gs laps : List Int} {n gu k : Nat} {v : Value} {us vs : List Bool} (h : O3 w t0 gs n gu laps v us vs w1) : O3 w t0 gs n gu laps v (us.set k true) vs (w1.setCell ⟨gu, k, none⟩ (.bool true)) := by
  obtain ⟨s1, s2⟩ := h.used.stored k (.bool true)
  have hg := (h.used.lt gu rfl).1
  have e : (us.map Value.bool).set k (.bool true) = (us.set k true).map Value.bool := by rw [List.map_set]
  rw [e] at s1
  refine ⟨h.a.far (by show _ ≠ gu; omega) _, h.b.far (by show _ ≠ gu; omega) _, h.good.kept s2 (.inr h.ne), s1, h.ne, by rw [List.length_set]; exact h.lu, h.lv, h.lg, h.bel.setCell (by show _ ≤ gu; omega) _⟩
theorem cap_set {gs : List Int} {us : List Bool} {k : Nat} {z : Int} (hk : k < gs.length) (hu : k < us.length) (h : us.getD k false = false) (hz : 0 ≤ z) (hzz : gs.getD k 0 = z) : plus (cap (uT gs us)) z = cap (uT gs (us.set k true)) := by
  rw [plus_cap (uT_nonneg _ _) hz, uT_set hk hu h, hzz]
theorem pick_ex (x : Int) (n : Nat) (hn : 0 < n) (h60 : n ≤ 60) : ∃ (r : Int) (k : Nat), x.tmod (n : Int) = r ∧ (r + (n : Int)) % (n : Int) = (k : Int) ∧ k < n ∧ 1 ≤ r + (n : Int) ∧ r < (n : Int) := by
  have h1 := Int.tmod_lt_of_pos x (show (0 : Int) < n by omega)
  have h2 : -(n : Int) < x.tmod n := by
    have := Int.lt_tmod_of_pos x (show (0 : Int) < n by omega)
    exact this
  have h3 := Int.emod_nonneg (x.tmod n + n) (show (n : Int) ≠ 0 by omega)
  have h4 := Int.emod_lt_of_pos (x.tmod n + n) (show (0 : Int) < n by omega)
  exact ⟨x.tmod n, ((x.tmod n + n) % n).toNat, rfl, by omega, by omega, by omega, h1⟩
theorem getD_mem {gs : List Int} {k : Nat} (h : k < gs.length) : gs.getD k 0 ∈ gs := by
  simp [List.getD, h]
theorem used_at {w w1 : World} {t0 : Int} {gs laps : List Int} {n gu k : Nat} {v : Value} {us vs : List Bool} (h : O3 w t0 gs n gu laps v us vs w1) (hk : k < n) : w1.cell? ⟨gu, k, none⟩ = some (.bool (us.getD k false)) := by
  have hl : k < us.length := by rw [h.lu]; exact hk
  rw [h.used.cellAt k (by omega), List.getElem?_map]
  simp [List.getD, hl]
theorem good_at {w w1 : World} {t0 : Int} {gs laps : List Int} {n gu k cap1 : Nat} {pv : Option Addr} {us vs : List Bool} (h : O3 w t0 gs n gu laps (.slice pv n cap1) us vs w1) (hk : k < n) : ∃ gg, pv = some ⟨gg, 0, none⟩ ∧ w1.cell? ⟨gg, k, none⟩ = some (.int .i64 (gs.getD k 0)) ∧ ¬ gg = gu ∧ ¬ gu = gg := by
  have hl : k < gs.length := by rw [h.lg]; exact hk
  rcases Joins.ownsRow_forms h.good with ⟨_, h0⟩ | ⟨gg, cg, e⟩
  · omega
  · cases e
    have hne : gg ≠ gu := fun e => h.ne (by rw [e]; rfl)
    refine ⟨gg, rfl, ?_, hne, fun e => hne e.symm⟩
    rw [h.good.cellAt k (by omega), List.getElem?_map]
    simp [List.getD, hl]
theorem infoBool : (Tryd.prog.info? 4).map (fun i => (i.zero, i.size, i.bytes)) = some (some (.bool false), 1, 1) := by kernel_rfl
end Go.Proofs.YtfigkoknhiabnaaDoor
