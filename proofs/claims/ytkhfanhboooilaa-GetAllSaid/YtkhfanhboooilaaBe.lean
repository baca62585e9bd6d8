/- Memories: New, All, Copy, and the reference's. -/
import Derived.Test.YtkhfanhboooilaaBd
import Derived.Laws.MakeOwn
import Derived.WalkSpells
import Derived.Deep.Cut
import Derived.BigRegion
import Derived.Laws.AppendOwnNone
import Derived.Deep.RegionHeld
import Derived.LoopTactic
import Derived.LoopN
import Derived.BigQuiet
import Derived.StillTailTactics
import Derived.Deep.RegionHeld3
import Derived.Lib.QuietBelow
set_option linter.unusedSimpArgs false
set_option linter.unusedVariables false
/- New, Clone, All, Copy of a memory (layer 6). -/
namespace Go.Proofs.Ytkhfanhboooilaa
open Go.RowKit Go.Ce

theorem infoU : (Try.prog.info? 29).map (fun i => (i.zero, i.size, i.bytes)) = some (some (.int .u64 0), 1, 8) := by kernel_rfl
theorem under_row : Try.prog.underlying 28 = some (.slice 29) := by kernel_rfl
/-- a memory's zero value -/
def memZ : List Value := .int .u64 0 :: .int .u64 0 :: .int .u64 0 :: .int .u64 0 :: .int .u64 0 :: .slice none 0 0 :: (List.replicate 256 (default : Acc)).flatMap accC
set_option maxRecDepth 100000 in
theorem info_mem : (Try.prog.info? 119).map (fun i => (i.zero, i.size)) = some (some (.agg memZ.toArray), 1030) := by kernel_rfl
theorem memZ_set (g n : Nat) : memZ.toArray.setIfInBounds 5 (.slice (some ⟨g, 0, none⟩) n n) = (memV cnt0 g n n (List.replicate 256 default)).toArray := by
  apply Array.ext'
  rw [Array.toList_setIfInBounds]
  rfl
theorem memZ_size : memZ.toArray.size = 1030 := by
  rw [List.size_toArray]
  show (List.flatMap accC _).length + 1 + 1 + 1 + 1 + 1 + 1 = 1030
  rw [accs_length, List.length_replicate]
theorem make_cells (n : Nat) : madeCells #[.int .u64 0] (n * 1) = ((List.replicate n (0 : Int)).map (Value.int .u64) ++ []).toArray := by
  simp only [madeCells, List.append_nil, List.map_replicate]
  apply Array.ext
  · simp
  · intro i h1 h2
    simp [Nat.mod_one]

theorem new_row {n : Nat} (g : Nat) (w : World) (hg : g = w.heap.size) (hn : n ≤ 65536) (arr : Array Value) (harr : (memV cnt0 g n n (List.replicate 256 default)).toArray = arr) (mk : Array Value) (hmk : ((List.replicate n (0 : Int)).map (Value.int .u64) ++ []).toArray = mk) :
    MemIs ((w.alloc (.cells mk 29)).alloc (.cells arr 119)) (w.heap.size + 1) g (PM.new n) := by
  subst hg harr hmk
  have hl : (PM.new n).cs.length = n := List.length_replicate ..
  refine ⟨⟨n, ?_, by rw [hl]; exact Nat.le_refl _, by unfold maxLen; omega⟩, ⟨[], ?_⟩, by omega, List.length_replicate .., Nat.zero_le _, by rw [hl]; exact hn⟩
  · rw [hl]; exact Row.new' _ _ _ _ (by simp)
  · exact (Row.new w _ _).on' ((Below.refl _ _).alloc (Nat.le_refl _) _)
/-- a new memory: made since -/
def NewPost (N : Nat) (w : World) (e : Ending) (w' : World) : Prop := ∃ b g, e = .returned (.pointer (some ⟨b, 0, none⟩)) ∧ MemIs w' b g (PM.new N) ∧ w.heap.size ≤ b ∧ w.heap.size ≤ g ∧ Below w.heap.size w w'
set_option maxRecDepth 100000 in
theorem new_any (n : Int) (N : Nat) (hN : nN n = N) (w : World) : Calls Try.prog 53 #[.int .i64 n] w (NewPost N w) := by
  have hb := nN_bd n
  rw [hN] at hb
  have hc : (n ≤ 0 ∧ (N : Int) = 0) ∨ (0 < n ∧ n ≤ 65536 ∧ (N : Int) = n) ∨ (65536 < n ∧ (N : Int) = 65536) := by unfold nN at hN; omega
  obtain ⟨i0, hi, hz0, hz1, hz2⟩ := info_parts infoU
  have hmake : ∀ (w : World), (Instr.makeSlice 28 (.int .i64 N) (.int .i64 N)).run Try.prog w = .ok (.slice (some ⟨w.heap.size, 0, none⟩) N N) (w.alloc (.cells ((List.replicate N (0 : Int)).map (Value.int .u64) ++ []).toArray 29)) := fun w => by
    have := run_make (P := Try.prog) w 28 29 i0 _ under_row hi hz0 .i64 .i64 N N (by omega) (Int.le_refl _) (by rw [hz2]; omega) (by omega)
    rw [hz1] at this
    rw [this]
    simp only [Int.toNat_natCast]
    rw [show (Value.int IntKind.u64 0).cells = #[.int .u64 0] from rfl, make_cells]
  have HF : ∀ mk arr, ((List.replicate N (0 : Int)).map (Value.int .u64) ++ []).toArray = mk → (memV cnt0 w.heap.size N N (List.replicate 256 default)).toArray = arr → Hid (NewPost N w (.returned (.pointer (some ⟨w.heap.size + 1, 0, none⟩))) ((w.alloc (.cells mk 29)).alloc (.cells arr 119))) := fun mk arr h1 h2 => ⟨_, _, rfl, new_row _ w rfl (by omega) _ h2 _ h1, by omega, Nat.le_refl _, ((Below.refl _ _).alloc (Nat.le_refl _) _).alloc (by simp) _⟩
  have hb0 := memZ_set w.heap.size N
  have hzv := (zero_of_info info_mem).1
  have hzs : ¬ (memZ.toArray.size < 6) := by rw [memZ_size]; decide
  have hm0 := hmake w
  obtain ⟨z, hz⟩ : ∃ z : Int, (N : Int) = z := ⟨_, rfl⟩
  rw [hz] at hm0 hc
  generalize hmk : ((List.replicate N (0 : Int)).map (Value.int .u64) ++ []).toArray = mk at hm0 HF
  generalize harr : (memV cnt0 w.heap.size N N (List.replicate 256 default)).toArray = arr at hb0 HF
  generalize memZ.toArray = Z at hb0 hzv hzs
  have HF' := HF _ _ rfl rfl
  clear HF hmake hmk harr hi hz0 hz1 hz2 hN hb hz
  rcases hc with ⟨h1, rfl⟩ | ⟨h1, h2, rfl⟩ | ⟨h1, rfl⟩
  · have q1 : ¬ (0 < n) := by omega
    go_enter Try.func53, Try.ntmps53
    go_wp2
    go_ret
    exact HF'.out
  · have q2 : ¬ (65536 < z) := by omega
    have q3 : ¬ (z ≤ 0) := by omega
    go_enter Try.func53, Try.ntmps53
    go_wp2
    go_ret
    exact HF'.out
  · have q1 : 0 < n := by omega
    have q2 : ¬ n < 65536 := by omega
    have q3 : ¬ n ≤ 0 := by omega
    have q4 : ¬ n ≤ 65536 := by omega
    go_enter Try.func53, Try.ntmps53
    go_wp2
    go_ret
    exact HF'.out

/-- numbers made since -/
def OwnNums (zs : List Int) (w : World) (e : Ending) (w' : World) : Prop := ∃ v, e = .returned v ∧ w'.ownsRow w.heap.size 29 1 v zs.length (zs.map (Value.int .u64)) ∧ (∃ g c, v = .slice (some ⟨g, 0, none⟩) zs.length c) ∧ Below w.heap.size w w'
theorem rest_range {g n : Nat} {zs : List Int} {rest : List Value} {w : World} (hg : Row g 29 (zs.map (Value.int .u64) ++ rest) w) : ∀ j u, (zs.map (Value.int .u64))[j]? = some u → w.cell? ((⟨g, 0, none⟩ : Addr).add j) = some u := by
  intro j u hu
  rw [Addr.add_mid, Nat.zero_add, hg.cell]
  have hj : j < (zs.map (Value.int .u64)).length := (List.getElem?_eq_some_iff.1 hu).1
  rw [List.getElem?_append_left hj]; exact hu
theorem ints_one (k : IntKind) (zs : List Int) : ∀ u ∈ zs.map (Value.int k), u.oneCell' = true := by
  intro u hu
  obtain ⟨y, _, rfl⟩ := List.mem_map.1 hu
  rfl
theorem own_empty (w : World) (e : TypeId) : (w.alloc (.cells #[] e)).ownsRow w.heap.size e 1 (.slice (some ⟨w.heap.size, 0, none⟩) 0 0) 0 [] := by
  refine ⟨rfl, .inr ⟨_, 0, #[], rfl, Nat.le_refl _, heap_alloc_new w _, Nat.le_refl _, Nat.zero_le _, rfl, rfl⟩⟩
theorem own_some {w : World} {B n : Nat} {E : TypeId} {v : Value} {xs : List Value} (h : w.ownsRow B E 1 v n xs) (hv : v ≠ .slice none 0 0) : ∃ g c, v = .slice (some ⟨g, 0, none⟩) n c := by
  rcases h.2 with ⟨h1, _⟩ | ⟨g, cap, cur, h1, _⟩
  · exact absurd h1 hv
  · exact ⟨g, cap, h1⟩
set_option maxRecDepth 20000 in
theorem clone_any {g c : Nat} {zs : List Int} {rest : List Value} (w : World) (hg : Row g 29 (zs.map (Value.int .u64) ++ rest) w) (hl : zs.length ≤ 65536) : Calls Try.prog 108 #[.slice (some ⟨g, 0, none⟩) zs.length c] w (OwnNums zs w) := by
  have HG := Lib.hid (hg.on' ((Below.refl _ _).alloc (Nat.le_refl _) (.cells #[] 29)))
  have HL := Lib.hid hl
  obtain ⟨i0, hi, hz0, hz1, hz2⟩ := info_parts infoU
  have hnl := fun w : World => Lib.run_eql_slice_nil w 28 29 (some ⟨g, 0, none⟩) zs.length c 0 0 under_row
  clear hg hl
  go_enter Try.func108, Try.ntmps108
  go_wp2_with (at_builtin; refine wpList_append_own _ rfl _ _ _ rfl w.heap.size 29 i0 _ 1 8 under_row hi hz0 hz1 hz2 rfl (by decide) _ 0 [] rfl (own_empty w 29) _ _ _ (zs.map (Value.int .u64)) rfl (by simp) (rest_range (n := 0) HG.out) (ints_one _ _) (by have := HL.out; unfold maxLen; omega) (by have := HL.out; omega) (by simp) ?_)
  intro v' w' ho hgr hnil2
  obtain ⟨g2, c2, rfl⟩ := own_some ho hnil2
  have HB : Hid (Below w.heap.size w w') := ((Below.refl _ _).alloc (Nat.le_refl _) _).grown hgr (by simp) (fun k hk => by cases hk; exact Nat.le_refl _)
  have HO := Lib.hid ho
  clear hnl hi hz0 hz1 hz2 hgr hnil2 ho
  go_wp2
  go_ret
  exact ⟨_, rfl, HO.out, ⟨g2, c2, rfl⟩, HB.out⟩
theorem clone_nil (w : World) : Calls Try.prog 108 #[.slice none 0 0] w (Ans (.slice none 0 0) w) := by
  have hnl := fun w : World => Lib.run_eql_slice_nil w 28 29 none 0 0 0 0 under_row
  go_enter Try.func108, Try.ntmps108
  go_wp2
  go_ret
  exact ⟨rfl, .refl _ _⟩
theorem all_any {b g : Nat} {m : PM} {w : World} (h : MemIs w b g m) : Calls Try.prog 72 #[.pointer (some ⟨b, 0, none⟩)] w (OwnNums m.cs w) := by
  obtain ⟨c, hc, hc2, hrow⟩ := row_any h
  obtain ⟨rest, hg⟩ := h.cel
  have HG := Lib.hid hg
  have HS := Lib.hid h.short
  clear h hg hc hc2
  go_enter Try.func72, Try.ntmps72
  go_wp2_with fail
  refine hrow.mono ?_
  rintro e w1 ⟨rfl, hb⟩
  have HB := Lib.hid hb
  clear hb hrow
  go_wp2_with fail
  refine (clone_any w1 (HG.out.on' HB.out) HS.out).mono ?_
  rintro e w2 ⟨v, rfl, ho, hv, hb2⟩
  have HB2 := Lib.hid (HB.out.trans (hb2.mono HB.out.size))
  have HO := Lib.hid (ownk_base ho HB.out.size)
  have HV := Lib.hid hv
  clear hb2 ho hv
  go_wp2
  go_ret
  exact ⟨_, rfl, HO.out, HV.out, HB2.out⟩
theorem all_nil (w : World) : Calls Try.prog 72 #[.pointer none] w (Ans (.slice none 0 0) w) := by
  go_enter Try.func72, Try.ntmps72
  go_wp2_with fail
  refine (row_nil w).mono ?_
  rintro e w1 ⟨rfl, hb⟩
  have HB := Lib.hid hb
  clear hb
  go_wp2_with fail
  refine (clone_nil w1).mono ?_
  rintro e w2 ⟨rfl, hb2⟩
  have HB2 := Lib.hid (HB.out.trans (hb2.mono HB.out.size))
  clear hb2
  go_wp2
  go_ret
  exact ⟨rfl, HB2.out⟩
theorem own_row {w : World} {B n g c : Nat} {E : TypeId} {xs : List Value} (h : w.ownsRow B E 1 (.slice (some ⟨g, 0, none⟩) n c) n xs) : ∃ rest, Row g E (xs ++ rest) w ∧ n ≤ c ∧ c ≤ maxLen ∧ B ≤ g := by
  rcases h.2 with ⟨hv, _⟩ | ⟨g', cap, cur, hv, hB, hg, hc, hc2, hsz, ht⟩
  · cases hv
  · cases hv
    refine ⟨cur.toList.drop n, ?_, hc, hc2, hB⟩
    unfold Row
    rw [hg, ← ht, Nat.mul_one, List.take_append_drop]
/-- a copy: made since -/
def CopyPost (m : PM) (w : World) (e : Ending) (w' : World) : Prop := ∃ b g, e = .returned (.pointer (some ⟨b, 0, none⟩)) ∧ MemIs w' b g m ∧ w.heap.size ≤ b ∧ w.heap.size ≤ g ∧ Below w.heap.size w w'
theorem memV_size (k : Cnt) (g n c : Nat) (L : List Acc) (h : L.length = 256) : (memV k g n c L).toArray.size = 1030 := by
  rw [List.size_toArray]
  show (List.flatMap accC _).length + 1 + 1 + 1 + 1 + 1 + 1 = 1030
  rw [accs_length, h]
theorem memV_one (k : Cnt) (g n c : Nat) (L : List Acc) : (memV k g n c L).toArray.all (·.oneCell') = true := by
  rw [List.all_toArray, List.all_eq_true]
  intro u hu
  unfold memV at hu
  simp only [List.mem_cons] at hu
  rcases hu with rfl | rfl | rfl | rfl | rfl | rfl | hu
  all_goals first | rfl | exact accs_one L u hu
end Go.Proofs.Ytkhfanhboooilaa

/- The reference's Do (layer 6), walked. -/
namespace Go.Proofs.Ytkhfanhboooilaa
open Go.RowKit Go.Ce

theorem own_size {w : World} {B C n s : Nat} {E : TypeId} {v : Value} {xs : List Value} (h : w.ownsRow B E s v n xs) (hb : B = C) : w.ownsRow C E s v n xs := by subst hb; exact h
theorem acc_new (x : Acc) (w : World) (t : TypeId) : ∀ j u, (accC x)[j]? = some u → (w.alloc (.cells #[.int .i64 x.k, .int .i64 x.a, .int .u64 x.o, .int .u64 x.n] t)).cell? ((⟨w.heap.size, 0, none⟩ : Addr).add j) = some u := by
  intro j u hu
  rw [Addr.add_mid, World.cell?_alloc_new, Nat.zero_add]
  rcases j with _ | _ | _ | _ | j
  · simpa [accC] using hu
  · simpa [accC] using hu
  · simpa [accC] using hu
  · simpa [accC] using hu
  · simp [accC] at hu
theorem acc_one (x : Acc) : ∀ u ∈ accC x, u.oneCell' = true := by
  intro u hu
  simp [accC] at hu
  rcases hu with rfl | rfl | rfl | rfl <;> rfl

theorem LiesA.set {w : World} {g o : Nat} {xs : List Acc} (h : LiesA w (some ⟨g, o, none⟩) xs) {q : Addr} (hq : q.block ≠ g) (v : Value) : LiesA (w.setCell q v) (some ⟨g, o, none⟩) xs :=
  ⟨fun i hi => by
    obtain ⟨b, o', hp, hc⟩ := h.cells i hi
    cases hp
    exact ⟨g, o, rfl, fun j hj => by rw [World.cell?_setCell_far _ _ _ _ hq]; exact hc j hj⟩⟩
theorem own_ne {w : World} {B n s : Nat} {E : TypeId} {v : Value} {xs : List Value} (h : w.ownsRow B E s v n xs) {k : Nat} (hk : k < B) : v.ownBlock ≠ some k := fun e => by
  have := (h.lt k e).1; omega

end Go.Proofs.Ytkhfanhboooilaa

/- Equal rows, Same, Log of a memory (layer 6). -/
namespace Go.Proofs.Ytkhfanhboooilaa
open Go.RowKit Go.Ce

theorem below_dN {B : Nat} {a w : World} (h : Below B a w) (n : Nat) : Below B a (w.drewN n) := h.trans ⟨rfl, rfl, rfl, Nat.le_refl _, fun _ _ => rfl⟩
theorem eq_prefix {xs ys : List Int} (hl : xs.length = ys.length) (h : ∀ j, j < xs.length → xs.getD j 0 = ys.getD j 0) : xs = ys := by
  apply List.ext_getElem hl
  intro i h1 h2
  have := h i h1
  simpa [List.getD, h1, h2] using this
theorem MemIs.lies {w : World} {b g : Nat} {m : PM} (h : MemIs w b g m) : Lies .u64 w (some ⟨g, 0, none⟩) m.cs := by
  obtain ⟨rest, hg⟩ := h.cel
  refine ⟨by have := h.short; omega, fun j hj => ⟨g, 0, rfl, ?_⟩⟩
  rw [Nat.zero_add, hg.cell, List.getElem?_append_left (by simpa using hj), List.getElem?_map]
  simp [List.getD, hj]
/-- a pointer to a memory, or none -/
def PtrIs (w : World) (p : Option Addr) (cs : List Int) : Prop := (p = none ∧ cs = []) ∨ ∃ b g m, p = some ⟨b, 0, none⟩ ∧ MemIs w b g m ∧ m.cs = cs
theorem PtrIs.some {w : World} {b g : Nat} {m : PM} (h : MemIs w b g m) : PtrIs w (some ⟨b, 0, none⟩) m.cs := .inr ⟨b, g, m, rfl, h, rfl⟩
theorem PtrIs.none (w : World) : PtrIs w none [] := .inl ⟨rfl, rfl⟩
theorem PtrIs.on {w w' : World} {p : Option Addr} {cs : List Int} (h : PtrIs w p cs) (hb : Below w.heap.size w w') : PtrIs w' p cs := by
  rcases h with h | ⟨b, g, m, h1, h2, h3⟩
  · exact .inl h
  · exact .inr ⟨b, g, m, h1, h2.on hb, h3⟩
theorem row_ptr {p : Option Addr} {cs : List Int} {w : World} (h : PtrIs w p cs) : Calls Try.prog 107 #[.pointer p] w (fun e w' => ∃ q c, e = .returned (.slice q cs.length c) ∧ Lies .u64 w' q cs ∧ Below w.heap.size w w') := by
  rcases h with ⟨rfl, rfl⟩ | ⟨b, g, m, rfl, h2, rfl⟩
  · exact (row_nil w).mono fun e w' ⟨he, hb⟩ => ⟨none, 0, he, ⟨by simp, fun j hj => by simp at hj⟩, hb⟩
  · obtain ⟨c, _, _, hrow⟩ := row_any h2
    exact hrow.mono fun e w' ⟨he, hb⟩ => ⟨_, c, he, (h2.on hb).lies, hb⟩
/-- the log -/
def logK (m : PM) (s k : Nat) : List Acc := (List.range k).map fun t => m.L.getD ((s + t) % 256) default
def logP (m : PM) : List Acc := logK m (m.k.ops - min m.k.ops 256) (min m.k.ops 256)
theorem logK_more (m : PM) (s k : Nat) : logK m s (k + 1) = logK m s k ++ [m.L.getD ((s + k) % 256) default] := by
  unfold logK; rw [List.range_succ, List.map_append]; rfl
theorem logK_length (m : PM) (s k : Nat) : (logK m s k).length = k := by unfold logK; simp
theorem infoCA : (Try.prog.info? 116).map (fun i => (i.zero, i.size, i.bytes)) = some (some (.agg #[.int .i64 0, .int .i64 0, .int .u64 0, .int .u64 0]), 4, 32) := by kernel_rfl
def OwnAccs (xs : List Acc) (w : World) (e : Ending) (w' : World) : Prop := ∃ v, e = .returned v ∧ w'.ownsRow w.heap.size 116 4 v xs.length (xs.flatMap accC) ∧ Below w.heap.size w w'
theorem own4_form {w : World} {B n : Nat} {E : TypeId} {v : Value} {xs : List Value} (h : w.ownsRow B E 4 v n xs) : ∃ p cap, v = .slice p n cap := by
  rcases h.2 with ⟨h1, h2⟩ | ⟨g, cap, cur, h1, _⟩
  · exact ⟨none, 0, by rw [h1, h2]⟩
  · exact ⟨_, cap, h1⟩
/-- beside all accesses: the last 256 -/
theorem logP_tied {m : PM} {N : Nat} {xs : List Acc} (h : Tied m N xs) : logP m = xs.drop (xs.length - 256) := by
  unfold logP
  rw [h.ops]
  apply List.ext_getElem?
  intro i
  by_cases hi : i < min xs.length 256
  · have h1 := h.log (xs.length - min xs.length 256 + i) (by omega) (by omega)
    have h2 : xs.length - 256 + i = xs.length - min xs.length 256 + i := by omega
    have h3 : xs.length - min xs.length 256 + i < xs.length := by omega
    unfold logK
    rw [List.getElem?_map, List.getElem?_range hi, List.getElem?_drop, h2, List.getElem?_eq_getElem h3]
    show some (m.L.getD ((xs.length - min xs.length 256 + i) % 256) default) = _
    rw [h1]
    simp [List.getD, h3]
  · rw [List.getElem?_eq_none (by rw [logK_length]; omega), List.getElem?_eq_none (by rw [List.length_drop]; omega)]
end Go.Proofs.Ytkhfanhboooilaa

/- The reference's All (layer 6), walked. -/
namespace Go.Proofs.Ytkhfanhboooilaa
open Go.RowKit Go.Ce

theorem row_own {w : World} {B n g : Nat} {E : TypeId} {xs : List Value} (h : Row g E xs w) (hn : xs.length = n) (hB : B ≤ g) (hm : n ≤ maxLen) : w.ownsRow B E 1 (.slice (some ⟨g, 0, none⟩) n n) n xs :=
  ⟨by rw [hn, Nat.mul_one], .inr ⟨g, n, xs.toArray, rfl, hB, h, Nat.le_refl _, hm, by rw [List.size_toArray, hn, Nat.mul_one], by rw [Nat.mul_one]; exact List.take_of_length_le (Nat.le_of_eq hn)⟩⟩
theorem allV_take (N : Nat) (xs : List Acc) (i : Nat) (hi : i < xs.length) : allV N (xs.take (i + 1)) = setV (allV N (xs.take i)) (xs.getD i default).a (xs.getD i default).n := by
  have h1 : xs.take (i + 1) = xs.take i ++ [xs.getD i default] := by
    rw [List.take_succ_eq_append_getElem hi]; simp [List.getD, hi]
  rw [h1, allV_more]
end Go.Proofs.Ytkhfanhboooilaa

/- could, again, Redo of a memory (layer 6). -/
namespace Go.Proofs.Ytkhfanhboooilaa
open Go.RowKit Go.Ce

/-- could an access be done again? -/
def Could (m : PM) (x : Acc) : Prop := 1 ≤ x.k ∧ x.k ≤ 4 ∧ m.Has x.a ∧ m.at x.a = x.o ∧ (x.k = 1 → x.n = x.o)
instance (m : PM) (x : Acc) : Decidable (Could m x) := by unfold Could; infer_instance
theorem could_stuck {m : PM} {N : Nat} {xs : List Acc} (h : Tied m N xs) (x : Acc) : Could m x ↔ ¬ Stuck N xs x := by
  unfold Could Stuck Bad
  rw [h.has]
  by_cases ha : 0 ≤ x.a ∧ x.a < N
  · rw [h.at ha]; omega
  · omega

end Go.Proofs.Ytkhfanhboooilaa

/- again, Redo of a memory (layer 6). -/
namespace Go.Proofs.Ytkhfanhboooilaa
open Go.RowKit Go.Ce

/-- what is done again -/
def againP (m : PM) (x : Acc) : PM := m.go x.k x.a x.o (tellV x)
/-- done again, up to the first one that could not be -/
def redoP (m : PM) : List Acc → PM × Nat
  | [] => (m, 0)
  | x :: l => if Could m x then ((redoP (againP m x) l).1, (redoP (againP m x) l).2 + 1) else (m, 0)
theorem redoP_tied {N : Nat} (l : List Acc) : ∀ {m : PM} {xs : List Acc}, Tied m N xs → Tied (redoP m l).1 N (redoV N xs l).1 ∧ (redoP m l).2 = (redoV N xs l).2 := by
  induction l with
  | nil => intro m xs h; exact ⟨h, rfl⟩
  | cons x l ih =>
    intro m xs h
    by_cases hs : Stuck N xs x
    · rw [redoV_stuck hs]
      unfold redoP
      rw [if_neg (fun hc => (could_stuck h x).1 hc hs)]
      exact ⟨h, rfl⟩
    · rw [redoV_go hs]
      unfold redoP
      rw [if_pos ((could_stuck h x).2 hs)]
      have := ih (h.go x.k x.a x.o (tellV x))
      exact ⟨this.1, by show _ + 1 = _ + 1; rw [show againP m x = m.go x.k x.a x.o (tellV x) from rfl, this.2]⟩
theorem redoP_go {m : PM} {x : Acc} (h : Could m x) (l : List Acc) : redoP m (x :: l) = ((redoP (againP m x) l).1, (redoP (againP m x) l).2 + 1) := by rw [redoP, if_pos h]
theorem redoP_no {m : PM} {x : Acc} (h : ¬ Could m x) (l : List Acc) : redoP m (x :: l) = (m, 0) := by rw [redoP, if_neg h]
/-- the rest of it -/
theorem redoP_end {m0 m : PM} {l : List Acc} {i : Nat} (hd : ∀ r, redoP m0 l = r → (redoP m (l.drop i)).1 = r.1 ∧ (redoP m (l.drop i)).2 + i = r.2) (hs : i < l.length → ¬ Could m (l.getD i default)) : redoP m0 l = (m, min i l.length) ∨ l.length < i := by
  have h := hd _ rfl
  generalize redoP m0 l = r at h
  obtain ⟨r1, r2⟩ := r
  by_cases hi : i < l.length
  · left
    rw [List.drop_eq_getElem_cons hi] at h
    have hs' := hs hi
    have hg : l.getD i default = l[i] := by simp [List.getD, hi]
    rw [hg] at hs'
    rw [redoP_no hs'] at h
    obtain ⟨h1, h2⟩ := h
    simp only at h1 h2
    subst h1 h2
    congr 1; omega
  · by_cases he : i = l.length
    · left
      subst he
      rw [List.drop_length] at h
      obtain ⟨h1, h2⟩ := h
      change m = r1 at h1
      change 0 + l.length = r2 at h2
      subst h1 h2
      congr 1; omega
    · right; omega
theorem redoP_step {m0 m : PM} {l : List Acc} {i : Nat} (hi : i < l.length) (hd : ∀ r, redoP m0 l = r → (redoP m (l.drop i)).1 = r.1 ∧ (redoP m (l.drop i)).2 + i = r.2) (hc : Could m (l.getD i default)) : ∀ r, redoP m0 l = r → (redoP (againP m (l.getD i default)) (l.drop (i + 1))).1 = r.1 ∧ (redoP (againP m (l.getD i default)) (l.drop (i + 1))).2 + (i + 1) = r.2 := by
  intro r hr
  have h := hd r hr
  have hg : l.getD i default = l[i] := by simp [List.getD, hi]
  rw [hg] at hc ⊢
  rw [List.drop_eq_getElem_cons hi] at h
  rw [redoP_go hc] at h
  refine ⟨h.1, ?_⟩
  rw [← h.2]
  show _ = _ + 1 + i
  omega
theorem again_len (m : PM) (x : Acc) : (againP m x).k.ops ≤ m.k.ops + 1 := (go_ops ..).1

/-- a row of accesses that came in -/
def RedoCPost (b g : Nat) (m : PM) (l : List Acc) (w : World) (e : Ending) (w' : World) : Prop := e = .returned (.int .i64 (redoP m l).2) ∧ MemIs w' b g (redoP m l).1 ∧ Tch (Own b g) w w'
theorem LiesA.tch {S : Nat → Prop} {w w' : World} {p : Option Addr} {xs : List Acc} (h : LiesA w p xs) (ht : Tch S w w') (hs : ∀ b o, p = some ⟨b, o, none⟩ → ¬ S b) : LiesA w' p xs :=
  ⟨fun i hi => by
    obtain ⟨b, o, hp, hc⟩ := h.cells i hi
    refine ⟨b, o, hp, fun j hj => ?_⟩
    have h1 := hc j hj
    have : ∃ v, (accC (xs.getD i default))[j]? = some v := ⟨_, List.getElem?_eq_getElem (by show j < 4; omega)⟩
    obtain ⟨v, hv⟩ := this
    rw [hv] at h1 ⊢
    exact ht.cell h1 (hs b o hp)⟩
end Go.Proofs.Ytkhfanhboooilaa

/- The documents' Access, SameCells, SameLog (layer 6), walked. -/
namespace Go.Proofs.Ytkhfanhboooilaa
open Go.RowKit Go.Ce

/-- numbers of one's own, the first k written over -/
def ovU (zs : List Int) (k : Nat) : List Int := (zs.take k).map (fun z => IntKind.u64.wrap (z + 77)) ++ zs.drop k
theorem ovU_zero (zs : List Int) : ovU zs 0 = zs := by simp [ovU]
theorem ovU_length (zs : List Int) (k : Nat) (h : k ≤ zs.length) : (ovU zs k).length = zs.length := by simp [ovU]; omega
theorem ovU_at (zs : List Int) (k : Nat) (h : k < zs.length) : (ovU zs k).getD k 0 = zs.getD k 0 := by
  unfold ovU
  have hl : ((zs.take k).map (fun z => IntKind.u64.wrap (z + 77))).length = k := by simp; omega
  rw [List.getD_eq_getElem?_getD, List.getElem?_append_right (by omega), hl, Nat.sub_self, List.getElem?_drop]
  simp [List.getD, h]
theorem ovU_step (zs : List Int) (k : Nat) (h : k < zs.length) : (ovU zs k).set k (IntKind.u64.wrap (zs.getD k 0 + 77)) = ovU zs (k + 1) := by
  unfold ovU
  have hl : ((zs.take k).map (fun z => IntKind.u64.wrap (z + 77))).length = k := by simp; omega
  rw [List.set_append_right _ _ (by omega), hl, Nat.sub_self, List.drop_eq_getElem_cons h, List.set_cons_zero, take_more zs k h, List.map_append, List.append_assoc]
  rfl
set_option maxRecDepth 20000 in
set_option maxHeartbeats 1000000 in
theorem samecells_any {g c1 c2 : Nat} {p : Option Addr} {zs : List Int} {rest : List Value} (w : World) (hg : Row g 29 (zs.map (Value.int .u64) ++ rest) w) (hl : LiesN (· = g) .u64 w p zs) (hn : zs.length ≤ 65536) :
    Calls Try.prog 71 #[.slice (some ⟨g, 0, none⟩) zs.length c1, .slice p zs.length c2] w (fun e w' => e = .returned (.bool true) ∧ Tch (· = g) w w') := by
  obtain ⟨n, hnn⟩ : ∃ n, zs.length = n := ⟨_, rfl⟩
  have HN := Lib.hid hnn
  have HM := Lib.hid hn
  have HG := Lib.hid hg
  have HL := Lib.hid hl
  have HG0 : Hid (Row g 29 ((ovU zs 0).map (Value.int .u64) ++ rest) w) := by show Row _ _ _ _; rw [ovU_zero]; exact hg
  rw [hnn]
  clear hnn hn hg hl
  go_enter Try.func71, Try.ntmps71
  go_wp2_with fail
  go_loopw [5] (fun vi wr => ∃ k : Nat, k ≤ n ∧ vi = .int .i64 k ∧ Hid (Row g 29 ((ovU zs k).map (Value.int .u64) ++ rest) wr) ∧ Hid (Tch (· = g) w wr)) (fun vi _ => n - (intOf vi).toNat)
  case atStart => exact ⟨0, by omega, rfl, HG0, Lib.hid (.refl _ _)⟩
  case round =>
    obtain ⟨k, hk, rfl, HA, HT⟩ := hrel
    by_cases hlt : k < n
    · have hkz : k < zs.length := by rw [HN.out]; exact hlt
      have i2 : (k : Int) < (n : Int) := by omega
      obtain ⟨b, o, rfl, hng, e2⟩ := (HL.out.tch HT.out).cells k hkz
      obtain ⟨z, hz⟩ : ∃ z, zs.getD k 0 = z := ⟨_, rfl⟩
      have hov := ovU_at zs k hkz
      have hlen := ovU_length zs k (by omega)
      have hkl : k < (ovU zs k).length := by omega
      have g0 : wr.cell? ⟨g, k, none⟩ = some (.int .u64 z) := by
        rw [HA.out.cell, List.getElem?_append_left (by rw [List.length_map]; exact hkl), List.getElem?_map, List.getElem?_eq_getElem hkl]
        have : (ovU zs k)[k] = z := by rw [← hz, ← hov]; simp [List.getD, hkl]
        rw [this]; rfl
      have f0 := HA.out.frozen k
      rw [hz] at e2
      have HK := Lib.hid hlt
      have hw : IntKind.i64.wrap ((k : Int) + 1) = (k : Int) + 1 := IntWalk.i64_in _ (by have := HM.out; have := HN.out; omega)
      obtain ⟨z7, hz7⟩ : ∃ y, IntKind.u64.wrap (z + 77) = y := ⟨_, rfl⟩
      have HA2 : Hid (∀ nq, Row g 29 ((ovU zs (k + 1)).map (Value.int .u64) ++ rest) ((wr.drewN nq).setCell ⟨g, k, none⟩ (.int .u64 z7))) := fun nq => by
        have h1 := (show Row g 29 ((ovU zs k).map (Value.int .u64) ++ rest) (wr.drewN nq) from HA.out).set k (.int .u64 z7)
        rw [map_set _ _ _ _ hkl, ← hz7, ← hz, ovU_step zs k hkz] at h1
        rw [← hz7, ← hz]
        exact h1
      have HT2 : Hid (∀ nq, Tch (· = g) w ((wr.drewN nq).setCell ⟨g, k, none⟩ (.int .u64 z7))) := fun nq =>
        (show Tch (· = g) w (wr.drewN nq) from ⟨HT.out.os, HT.out.tape, HT.out.output, HT.out.size, HT.out.block⟩).setCell (p := ⟨g, k, none⟩) (.inl rfl) (.int .u64 z7)
      clear hz hov hlen hkl hkz hlt hng
      go_wp2_with fail
      go_quiet (fail)
      go_wp2_with fail
      go_roundw
      case rel => exact ⟨k + 1, HK.out, by go_num, HA2.out nq, HT2.out nq⟩
      case measure =>
        show _ < _
        have := HK.out
        simp only [intOf]; omega
    · obtain rfl : k = n := by omega
      go_wp2
      go_ret
      exact ⟨rfl, HT.out⟩

/-- accesses of one's own, the first k written over -/
def ovA (xs : List Acc) (k : Nat) : List Acc := (xs.take k).map (fun x => { x with a := -77 }) ++ xs.drop k
theorem ovA_zero (xs : List Acc) : ovA xs 0 = xs := by simp [ovA]
theorem ovA_length (xs : List Acc) (k : Nat) (h : k ≤ xs.length) : (ovA xs k).length = xs.length := by simp [ovA]; omega
theorem ovA_at (xs : List Acc) (k : Nat) (h : k < xs.length) : (ovA xs k).getD k default = xs.getD k default := by
  unfold ovA
  have hl : ((xs.take k).map (fun x : Acc => { x with a := -77 })).length = k := by simp; omega
  rw [List.getD_eq_getElem?_getD, List.getElem?_append_right (by omega), hl, Nat.sub_self, List.getElem?_drop]
  simp [List.getD, h]
theorem ovA_step (xs : List Acc) (k : Nat) (h : k < xs.length) : (ovA xs k).set k { xs.getD k default with a := -77 } = ovA xs (k + 1) := by
  unfold ovA
  have hl : ((xs.take k).map (fun x : Acc => { x with a := -77 })).length = k := by simp; omega
  have ht : xs.take (k + 1) = xs.take k ++ [xs.getD k default] := by
    rw [List.take_succ_eq_append_getElem h]; simp [List.getD, h]
  rw [List.set_append_right _ _ (by omega), hl, Nat.sub_self, List.drop_eq_getElem_cons h, List.set_cons_zero, ht, List.map_append, List.append_assoc]
  rfl
theorem flat_set1 (L : List Acc) (q : Nat) (v : Int) (hq : q < L.length) : (L.flatMap accC).set (q * 4 + 1) (.int .i64 v) = (L.set q { L.getD q default with a := v }).flatMap accC := by
  induction L generalizing q with
  | nil => simp at hq
  | cons y r ih =>
    cases q with
    | zero => rfl
    | succ q =>
      have e := ih q (by simpa using hq)
      rw [List.set_cons_succ, List.flatMap_cons, List.flatMap_cons]
      have e1 : (q + 1) * 4 + 1 = q * 4 + 1 + 1 + 1 + 1 + 1 := by omega
      rw [e1]
      have e2 : (y :: r).getD (q + 1) default = r.getD q default := rfl
      rw [e2, ← e]
      rfl
end Go.Proofs.Ytkhfanhboooilaa

/- The documents' SameBook (layer 6), walked. -/
namespace Go.Proofs.Ytkhfanhboooilaa
open Go.RowKit Go.Ce

theorem b_cells {W w w' : World} {h : Nat} {x y : Value} {t : TypeId} (hr : Row h t [x, y] W) (hb : Below W.heap.size W w) : (w.cell? ⟨h, 0, none⟩ = some x ∧ w.cell? ⟨h, 1, none⟩ = some y) ∧ Below W.heap.size W w :=
  ⟨⟨(hr.on' hb).cell 0, (hr.on' hb).cell 1⟩, hb⟩
theorem b_trans {W w w' : World} {P : Prop} (h : P ∧ Below W.heap.size W w) (hb : Below w.heap.size w w') : Below W.heap.size W w' := h.2.trans (hb.mono h.2.size)
/-- SameCells of two rows of one's own: in whichever order they were made -/
theorem sc_any {W wa w : World} {P : Prop} {Ba : Nat} {v1 v2 : Value} {zs : List Int} (h1 : wa.ownsRow Ba 29 1 v1 zs.length (zs.map (Value.int .u64))) (f1 : ∃ g c, v1 = .slice (some ⟨g, 0, none⟩) zs.length c) (hb : Below wa.heap.size wa w)
    (h2 : w.ownsRow wa.heap.size 29 1 v2 zs.length (zs.map (Value.int .u64))) (f2 : ∃ g c, v2 = .slice (some ⟨g, 0, none⟩) zs.length c) (hn : zs.length ≤ 65536) (hs : P ∧ Below W.heap.size W w) (hB : W.heap.size ≤ Ba) :
    Calls Try.prog 71 #[v1, v2] w (fun e w' => e = .returned (.bool true) ∧ Below W.heap.size W w') ∧ Calls Try.prog 71 #[v2, v1] w (fun e w' => e = .returned (.bool true) ∧ Below W.heap.size W w') := by
  obtain ⟨g1, c1, rfl⟩ := f1
  obtain ⟨g2, c2, rfl⟩ := f2
  obtain ⟨r1, hr1, _, _, hB1⟩ := own_row h1
  obtain ⟨r2, hr2, _, _, hB2⟩ := own_row h2
  have hr1' := hr1.on' hb
  have hlt1 := hr1.lt
  have l1 : LiesN (· = g2) .u64 w (some ⟨g1, 0, none⟩) zs := ⟨by omega, fun j hj => ⟨g1, 0, rfl, by omega, by rw [Nat.zero_add, hr1'.cell, List.getElem?_append_left (by simpa using hj), List.getElem?_map]; simp [List.getD, hj]⟩⟩
  have l2 : LiesN (· = g1) .u64 w (some ⟨g2, 0, none⟩) zs := ⟨by omega, fun j hj => ⟨g2, 0, rfl, by omega, by rw [Nat.zero_add, hr2.cell, List.getElem?_append_left (by simpa using hj), List.getElem?_map]; simp [List.getD, hj]⟩⟩
  have hWw := hs.2.size
  have hwa : W.heap.size ≤ wa.heap.size ∨ True := .inr trivial
  refine ⟨(samecells_any w hr1' l2 hn).mono fun e w' ⟨he, ht⟩ => ⟨he, hs.2.trans (ht.below hWw (fun k hk => by omega))⟩, (samecells_any w hr2 l1 hn).mono fun e w' ⟨he, ht⟩ => ⟨he, hs.2.trans (ht.below hWw (fun k hk => by omega))⟩⟩
end Go.Proofs.Ytkhfanhboooilaa

/- The documents' SameBook (layer 6): a memory is that of all accesses. -/
namespace Go.Proofs.Ytkhfanhboooilaa
open Go.RowKit Go.Ce

theorem b_size {W w w' : World} {P : Prop} (h : P ∧ Below W.heap.size W w) (hb : Below w.heap.size w w') : W.heap.size ≤ w.heap.size := h.2.size
section
variable {W w : World} {b g : Nat} {m : PM} {N : Nat} {p : Option Addr} {l c : Nat} {xs : List Acc}
end
end Go.Proofs.Ytkhfanhboooilaa
