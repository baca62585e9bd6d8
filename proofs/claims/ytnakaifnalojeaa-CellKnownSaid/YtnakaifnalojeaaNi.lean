/- The documents' Access, SameCells, SameLog (layer 6), walked. -/
import Derived.Test.YtnakaifnalojeaaNh
import Derived.Test.YtnakaifnalojeaaNg
import Derived.Deep.RegionHeld3
import Derived.Lib.QuietBelow
namespace Go.Proofs.Ytnakaifnalojeaa
open Go.RowKit Go.Ce

theorem dacc_any (x : Acc) (w : World) : Calls Try.prog 17 #[accG x] w (Ans (accG x) w) := by
  obtain ⟨k, a, o, n⟩ := x
  show Calls _ _ #[.agg #[.int .i64 k, .int .i64 a, .int .u64 o, .int .u64 n]] _ (Ans (.agg #[.int .i64 k, .int .i64 a, .int .u64 o, .int .u64 n]) w)
  go_enter Try.func17, Try.ntmps17
  go_wp2
  exact bodyPost_ret (v := .agg #[.int .i64 k, .int .i64 a, .int .u64 o, .int .u64 n]) (by simp [results, Try.results17, go_sem, *]) rfl ⟨rfl, ((Below.refl _ _).alloc (Nat.le_refl _) _).alloc (by simp) _⟩

/-- numbers of one's own, the first k written over -/
def ovU (zs : List Int) (k : Nat) : List Int := (zs.take k).map (fun z => IntKind.u64.wrap (z + 77)) ++ zs.drop k
theorem ovU_zero (zs : List Int) : ovU zs 0 = zs := by simp [ovU]
theorem ovU_length (zs : List Int) (k : Nat) (h : k ≤ zs.length) : (ovU zs k).length = zs.length := by simp [ovU]; omega
theorem ovU_at (zs : List Int) (k : Nat) (h : k < zs.length) : (ovU zs k).getD k 0 = zs.getD k 0 := by
  unfold ovU
  have hl : ((zs.take k).map (fun z => IntKind.u64.wrap (z + 77))).length = k := by simp; omega
  rw [List.getD_eq_getElem?_getD, List.getElem?_append_right (by omega), hl, Nat.sub_self, List.getElem?_drop]
  simp [List.getD, h]
theorem ovU_step (zs : List Int) (k : Nat) (h : k < zs.length) : (ovU zs k).set k (IntKind.u64.wrap (zs.getD k 0 + 77)) = ovU zs (k + 1) := by
  unfold ovU
  have hl : ((zs.take k).map (fun z => IntKind.u64.wrap (z + 77))).length = k := by simp; omega
  rw [List.set_append_right _ _ (by omega), hl, Nat.sub_self, List.drop_eq_getElem_cons h, List.set_cons_zero, take_more zs k h, List.map_append, List.append_assoc]
  rfl
set_option maxRecDepth 20000 in
set_option maxHeartbeats 1000000 in
theorem samecells_any {g c1 c2 : Nat} {p : Option Addr} {zs : List Int} {rest : List Value} (w : World) (hg : Row g 34 (zs.map (Value.int .u64) ++ rest) w) (hl : LiesN (· = g) .u64 w p zs) (hn : zs.length ≤ 65536) :
    Calls Try.prog 40 #[.slice (some ⟨g, 0, none⟩) zs.length c1, .slice p zs.length c2] w (fun e w' => e = .returned (.bool true) ∧ Tch (· = g) w w') := by
  obtain ⟨n, hnn⟩ : ∃ n, zs.length = n := ⟨_, rfl⟩
  have HN := Lib.hid hnn
  have HM := Lib.hid hn
  have HG := Lib.hid hg
  have HL := Lib.hid hl
  have HG0 : Hid (Row g 34 ((ovU zs 0).map (Value.int .u64) ++ rest) w) := by show Row _ _ _ _; rw [ovU_zero]; exact hg
  rw [hnn]
  clear hnn hn hg hl
  go_enter Try.func40, Try.ntmps40
  go_wp2_with fail
  go_loopw [5] (fun vi wr => ∃ k : Nat, k ≤ n ∧ vi = .int .i64 k ∧ Hid (Row g 34 ((ovU zs k).map (Value.int .u64) ++ rest) wr) ∧ Hid (Tch (· = g) w wr)) (fun vi _ => n - (intOf vi).toNat)
  case atStart => exact ⟨0, by omega, rfl, HG0, Lib.hid (.refl _ _)⟩
  case round =>
    obtain ⟨k, hk, rfl, HA, HT⟩ := hrel
    by_cases hlt : k < n
    · have hkz : k < zs.length := by rw [HN.out]; exact hlt
      have i2 : (k : Int) < (n : Int) := by omega
      obtain ⟨b, o, rfl, hng, e2⟩ := (HL.out.tch HT.out).cells k hkz
      obtain ⟨z, hz⟩ : ∃ z, zs.getD k 0 = z := ⟨_, rfl⟩
      have hov := ovU_at zs k hkz
      have hlen := ovU_length zs k (by omega)
      have hkl : k < (ovU zs k).length := by omega
      have g0 : wr.cell? ⟨g, k, none⟩ = some (.int .u64 z) := by
        rw [HA.out.cell, List.getElem?_append_left (by rw [List.length_map]; exact hkl), List.getElem?_map, List.getElem?_eq_getElem hkl]
        have : (ovU zs k)[k] = z := by rw [← hz, ← hov]; simp [List.getD, hkl]
        rw [this]; rfl
      have f0 := HA.out.frozen k
      rw [hz] at e2
      have HK := Lib.hid hlt
      have hw : IntKind.i64.wrap ((k : Int) + 1) = (k : Int) + 1 := IntWalk.i64_in _ (by have := HM.out; have := HN.out; omega)
      obtain ⟨z7, hz7⟩ : ∃ y, IntKind.u64.wrap (z + 77) = y := ⟨_, rfl⟩
      have HA2 : Hid (∀ nq, Row g 34 ((ovU zs (k + 1)).map (Value.int .u64) ++ rest) ((wr.drewN nq).setCell ⟨g, k, none⟩ (.int .u64 z7))) := fun nq => by
        have h1 := (show Row g 34 ((ovU zs k).map (Value.int .u64) ++ rest) (wr.drewN nq) from HA.out).set k (.int .u64 z7)
        rw [map_set _ _ _ _ hkl, ← hz7, ← hz, ovU_step zs k hkz] at h1
        rw [← hz7, ← hz]
        exact h1
      have HT2 : Hid (∀ nq, Tch (· = g) w ((wr.drewN nq).setCell ⟨g, k, none⟩ (.int .u64 z7))) := fun nq =>
        (show Tch (· = g) w (wr.drewN nq) from ⟨HT.out.os, HT.out.tape, HT.out.output, HT.out.size, HT.out.block⟩).setCell (p := ⟨g, k, none⟩) (.inl rfl) (.int .u64 z7)
      clear hz hov hlen hkl hkz hlt hng
      go_wp2_with fail
      go_quiet (fail)
      go_wp2_with fail
      go_roundw
      case rel => exact ⟨k + 1, HK.out, by go_num, HA2.out nq, HT2.out nq⟩
      case measure =>
        show _ < _
        have := HK.out
        simp only [intOf]; omega
    · obtain rfl : k = n := by omega
      go_wp2
      go_ret
      exact ⟨rfl, HT.out⟩

/-- accesses of one's own, the first k written over -/
def ovA (xs : List Acc) (k : Nat) : List Acc := (xs.take k).map (fun x => { x with a := -77 }) ++ xs.drop k
theorem ovA_zero (xs : List Acc) : ovA xs 0 = xs := by simp [ovA]
theorem ovA_length (xs : List Acc) (k : Nat) (h : k ≤ xs.length) : (ovA xs k).length = xs.length := by simp [ovA]; omega
theorem ovA_at (xs : List Acc) (k : Nat) (h : k < xs.length) : (ovA xs k).getD k default = xs.getD k default := by
  unfold ovA
  have hl : ((xs.take k).map (fun x : Acc => { x with a := -77 })).length = k := by simp; omega
  rw [List.getD_eq_getElem?_getD, List.getElem?_append_right (by omega), hl, Nat.sub_self, List.getElem?_drop]
  simp [List.getD, h]
theorem ovA_step (xs : List Acc) (k : Nat) (h : k < xs.length) : (ovA xs k).set k { xs.getD k default with a := -77 } = ovA xs (k + 1) := by
  unfold ovA
  have hl : ((xs.take k).map (fun x : Acc => { x with a := -77 })).length = k := by simp; omega
  have ht : xs.take (k + 1) = xs.take k ++ [xs.getD k default] := by
    rw [List.take_succ_eq_append_getElem h]; simp [List.getD, h]
  rw [List.set_append_right _ _ (by omega), hl, Nat.sub_self, List.drop_eq_getElem_cons h, List.set_cons_zero, ht, List.map_append, List.append_assoc]
  rfl
theorem flat_set1 (L : List Acc) (q : Nat) (v : Int) (hq : q < L.length) : (L.flatMap accC).set (q * 4 + 1) (.int .i64 v) = (L.set q { L.getD q default with a := v }).flatMap accC := by
  induction L generalizing q with
  | nil => simp at hq
  | cons y r ih =>
    cases q with
    | zero => rfl
    | succ q =>
      have e := ih q (by simpa using hq)
      rw [List.set_cons_succ, List.flatMap_cons, List.flatMap_cons]
      have e1 : (q + 1) * 4 + 1 = q * 4 + 1 + 1 + 1 + 1 + 1 := by omega
      rw [e1]
      have e2 : (y :: r).getD (q + 1) default = r.getD q default := rfl
      rw [e2, ← e]
      rfl
set_option maxRecDepth 20000 in
set_option maxHeartbeats 1000000 in
theorem samelog_any {g c1 c2 : Nat} {p : Option Addr} {xs : List Acc} {rest : List Value} (w : World) (hg : Row g 38 (xs.flatMap accC ++ rest) w) (hl : LiesA w p xs) (hp : ∀ b o, p = some ⟨b, o, none⟩ → b ≠ g) (hn : xs.length ≤ 1000000) :
    Calls Try.prog 42 #[.slice (some ⟨g, 0, none⟩) xs.length c1, .slice p xs.length c2] w (fun e w' => e = .returned (.bool true) ∧ Tch (· = g) w w') := by
  obtain ⟨n, hnn⟩ : ∃ n, xs.length = n := ⟨_, rfl⟩
  have HN := Lib.hid hnn
  have HM := Lib.hid hn
  have HP := Lib.hid hp
  have HL := Lib.hid hl
  have HG0 : Hid (Row g 38 ((ovA xs 0).flatMap accC ++ rest) w) := by show Row _ _ _ _; rw [ovA_zero]; exact hg
  rw [hnn]
  clear hnn hn hg hl hp
  go_enter Try.func42, Try.ntmps42
  go_wp2_with fail
  go_loopw [5] (fun vi wr => ∃ k : Nat, k ≤ n ∧ vi = .int .i64 k ∧ Hid (Row g 38 ((ovA xs k).flatMap accC ++ rest) wr) ∧ Hid (Tch (· = g) w wr)) (fun vi _ => n - (intOf vi).toNat)
  case atStart => exact ⟨0, by omega, rfl, HG0, Lib.hid (.refl _ _)⟩
  case round =>
    obtain ⟨k, hk, rfl, HA, HT⟩ := hrel
    by_cases hlt : k < n
    · have hkz : k < xs.length := by rw [HN.out]; exact hlt
      have i2 : (k : Int) < (n : Int) := by omega
      obtain ⟨b, o, rfl, e0, e1, e2, e3⟩ := (HL.out.tch HT.out (fun b o e => HP.out b o e)).at hkz
      obtain ⟨x, hx⟩ : ∃ x, xs.getD k default = x := ⟨_, rfl⟩
      have hov := ovA_at xs k hkz
      have hlen := ovA_length xs k (by omega)
      have hkl : k < (ovA xs k).length := by omega
      have cellA : ∀ j, j < 4 → wr.cell? ⟨g, k * 4 + j, none⟩ = (accC x)[j]? := fun j hj => by
        rw [HA.out.cell, List.getElem?_append_left (by rw [accs_length]; omega), accs_at _ k j hkl hj, hov, hx]
      have g0 : wr.cell? ⟨g, k * 4, none⟩ = some (.int .i64 x.k) := cellA 0 (by decide)
      have g1 : wr.cell? ⟨g, k * 4 + 1, none⟩ = some (.int .i64 x.a) := cellA 1 (by decide)
      have g2 : wr.cell? ⟨g, k * 4 + 2, none⟩ = some (.int .u64 x.o) := cellA 2 (by decide)
      have g3 : wr.cell? ⟨g, k * 4 + 3, none⟩ = some (.int .u64 x.n) := cellA 3 (by decide)
      rw [hx] at e0 e1 e2 e3
      have HK := Lib.hid hlt
      have hw : IntKind.i64.wrap ((k : Int) + 1) = (k : Int) + 1 := IntWalk.i64_in _ (by have := HM.out; have := HN.out; omega)
      have HA2 : Hid (∀ W, Below wr.heap.size wr W → Row g 38 ((ovA xs (k + 1)).flatMap accC ++ rest) (W.setCell ⟨g, k * 4 + 1, none⟩ (.int .i64 (-77))) ∧ Tch (· = g) w (W.setCell ⟨g, k * 4 + 1, none⟩ (.int .i64 (-77))) ∧ W.cell? ⟨g, k * 4 + 1, none⟩ = some (.int .i64 x.a) ∧ W.frozen? ⟨g, k * 4 + 1, none⟩ = false) := fun W hb => by
        have h0 := HA.out.on' hb
        have h1 := h0.set (k * 4 + 1) (.int .i64 (-77))
        rw [List.set_append_left _ _ (by rw [accs_length]; omega), flat_set1 _ _ _ hkl, hov, ovA_step xs k hkz] at h1
        exact ⟨h1, (HT.out.then hb).setCell (p := ⟨g, k * 4 + 1, none⟩) (.inl rfl) _, by rw [hb.cell (block_lt_of_cell g1)]; exact g1, h0.frozen _⟩
      have cAcc : Hid (∀ d os, Calls Try.prog 17 #[.agg #[.int .i64 x.k, .int .i64 x.a, .int .u64 x.o, .int .u64 x.n]] (Sort.grow (redrawn wr d) os) fun e w' => e = .returned (.agg #[.int .i64 x.k, .int .i64 x.a, .int .u64 x.o, .int .u64 x.n]) ∧ ∃ p : Regrown, w' = Sort.grow (redrawn wr p.d) p.os) := fun d os => Calls.regrown_of (dacc_any x _)
      have x0 := cell_regrown g0
      have x1 := cell_regrown g1
      have x2 := cell_regrown g2
      have x3 := cell_regrown g3
      have y0 := cell_regrown e0
      have y1 := cell_regrown e1
      have y2 := cell_regrown e2
      have y3 := cell_regrown e3
      clear hx hov hlen hkl hkz hlt cellA g0 g1 g2 g3 e0 e1 e2 e3
      go_wp2_with fail
      refine wp_region_quiet_below (by kernel_rfl) (by kernel_rfl) ?_
      repeat (go_big_quiet_step (exact cAcc.out _ _))
      refine wpQuiet_nil ?_
      intro W3 hw'
      obtain ⟨⟨dq, osq⟩, hw2⟩ := hw'
      obtain ⟨q1, q2, q3, q4⟩ := HA2.out W3 (by rw [hw2]; exact below_regrown wr dq osq)
      have HQ1 := Lib.hid q1
      have HQ2 := Lib.hid q2
      clear hw2 q1 q2
      go_wp2_with fail
      go_roundw
      case rel => exact ⟨k + 1, HK.out, by go_num, HQ1, HQ2⟩
      case measure =>
        show _ < _
        have := HK.out
        simp only [intOf]; omega
    · obtain rfl : k = n := by omega
      go_wp2
      go_ret
      exact ⟨rfl, HT.out⟩
/-- none, and none -/
theorem samelog_nil (q p : Option Addr) (c1 c2 : Nat) (w : World) : Calls Try.prog 42 #[.slice q 0 c1, .slice p 0 c2] w (Ans (.bool true) w) := by
  go_enter Try.func42, Try.ntmps42
  go_wp2_with fail
  refine wp_loop_rounds 1 ?_
  rw [rounds_succ]
  go_wp2
  go_ret
  exact ⟨rfl, .refl _ _⟩
end Go.Proofs.Ytnakaifnalojeaa
