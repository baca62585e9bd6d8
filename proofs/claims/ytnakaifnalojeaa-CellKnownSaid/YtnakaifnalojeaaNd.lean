/- New, Clone, All, Copy of a memory (layer 6). -/
import Derived.Test.YtnakaifnalojeaaNc
import Derived.Laws.MakeOwn
import Derived.WalkSpells
import Derived.Deep.Cut
namespace Go.Proofs.Ytnakaifnalojeaa
open Go.RowKit Go.Ce

theorem infoU : (Try.prog.info? 34).map (fun i => (i.zero, i.size, i.bytes)) = some (some (.int .u64 0), 1, 8) := by kernel_rfl
theorem under_row : Try.prog.underlying 65 = some (.slice 34) := by kernel_rfl
/-- a memory's zero value -/
def memZ : List Value := .int .u64 0 :: .int .u64 0 :: .int .u64 0 :: .int .u64 0 :: .int .u64 0 :: .slice none 0 0 :: (List.replicate 256 (default : Acc)).flatMap accC
set_option maxRecDepth 100000 in
theorem info_mem : (Try.prog.info? 71).map (fun i => (i.zero, i.size)) = some (some (.agg memZ.toArray), 1030) := by kernel_rfl
theorem memZ_set (g n : Nat) : memZ.toArray.setIfInBounds 5 (.slice (some ⟨g, 0, none⟩) n n) = (memV cnt0 g n n (List.replicate 256 default)).toArray := by
  apply Array.ext'
  rw [Array.toList_setIfInBounds]
  rfl
theorem memZ_size : memZ.toArray.size = 1030 := by
  rw [List.size_toArray]
  show (List.flatMap accC _).length + 1 + 1 + 1 + 1 + 1 + 1 = 1030
  rw [accs_length, List.length_replicate]
theorem make_cells (n : Nat) : madeCells #[.int .u64 0] (n * 1) = ((List.replicate n (0 : Int)).map (Value.int .u64) ++ []).toArray := by
  simp only [madeCells, List.append_nil, List.map_replicate]
  apply Array.ext
  · simp
  · intro i h1 h2
    simp [Nat.mod_one]

theorem new_row {n : Nat} (g : Nat) (w : World) (hg : g = w.heap.size) (hn : n ≤ 65536) (arr : Array Value) (harr : (memV cnt0 g n n (List.replicate 256 default)).toArray = arr) (mk : Array Value) (hmk : ((List.replicate n (0 : Int)).map (Value.int .u64) ++ []).toArray = mk) :
    MemIs ((w.alloc (.cells mk 34)).alloc (.cells arr 71)) (w.heap.size + 1) g (PM.new n) := by
  subst hg harr hmk
  have hl : (PM.new n).cs.length = n := List.length_replicate ..
  refine ⟨⟨n, ?_, by rw [hl]; exact Nat.le_refl _, by unfold maxLen; omega⟩, ⟨[], ?_⟩, by omega, List.length_replicate .., Nat.zero_le _, by rw [hl]; exact hn⟩
  · rw [hl]; exact Row.new' _ _ _ _ (by simp)
  · exact (Row.new w _ _).on' ((Below.refl _ _).alloc (Nat.le_refl _) _)
/-- a new memory: made since -/
def NewPost (N : Nat) (w : World) (e : Ending) (w' : World) : Prop := ∃ b g, e = .returned (.pointer (some ⟨b, 0, none⟩)) ∧ MemIs w' b g (PM.new N) ∧ w.heap.size ≤ b ∧ w.heap.size ≤ g ∧ Below w.heap.size w w'
set_option maxRecDepth 100000 in
theorem new_any (n : Int) (N : Nat) (hN : nN n = N) (w : World) : Calls Try.prog 9 #[.int .i64 n] w (NewPost N w) := by
  have hb := nN_bd n
  rw [hN] at hb
  have hc : (n ≤ 0 ∧ (N : Int) = 0) ∨ (0 < n ∧ n ≤ 65536 ∧ (N : Int) = n) ∨ (65536 < n ∧ (N : Int) = 65536) := by unfold nN at hN; omega
  obtain ⟨i0, hi, hz0, hz1, hz2⟩ := info_parts infoU
  have hmake : ∀ (w : World), (Instr.makeSlice 65 (.int .i64 N) (.int .i64 N)).run Try.prog w = .ok (.slice (some ⟨w.heap.size, 0, none⟩) N N) (w.alloc (.cells ((List.replicate N (0 : Int)).map (Value.int .u64) ++ []).toArray 34)) := fun w => by
    have := run_make (P := Try.prog) w 65 34 i0 _ under_row hi hz0 .i64 .i64 N N (by omega) (Int.le_refl _) (by rw [hz2]; omega) (by omega)
    rw [hz1] at this
    rw [this]
    simp only [Int.toNat_natCast]
    rw [show (Value.int IntKind.u64 0).cells = #[.int .u64 0] from rfl, make_cells]
  have HF : ∀ mk arr, ((List.replicate N (0 : Int)).map (Value.int .u64) ++ []).toArray = mk → (memV cnt0 w.heap.size N N (List.replicate 256 default)).toArray = arr → Hid (NewPost N w (.returned (.pointer (some ⟨w.heap.size + 1, 0, none⟩))) ((w.alloc (.cells mk 34)).alloc (.cells arr 71))) := fun mk arr h1 h2 => ⟨_, _, rfl, new_row _ w rfl (by omega) _ h2 _ h1, by omega, Nat.le_refl _, ((Below.refl _ _).alloc (Nat.le_refl _) _).alloc (by simp) _⟩
  have hb0 := memZ_set w.heap.size N
  have hzv := (zero_of_info info_mem).1
  have hzs : ¬ (memZ.toArray.size < 6) := by rw [memZ_size]; decide
  have hm0 := hmake w
  obtain ⟨z, hz⟩ : ∃ z : Int, (N : Int) = z := ⟨_, rfl⟩
  rw [hz] at hm0 hc
  generalize hmk : ((List.replicate N (0 : Int)).map (Value.int .u64) ++ []).toArray = mk at hm0 HF
  generalize harr : (memV cnt0 w.heap.size N N (List.replicate 256 default)).toArray = arr at hb0 HF
  generalize memZ.toArray = Z at hb0 hzv hzs
  have HF' := HF _ _ rfl rfl
  clear HF hmake hmk harr hi hz0 hz1 hz2 hN hb hz
  rcases hc with ⟨h1, rfl⟩ | ⟨h1, h2, rfl⟩ | ⟨h1, rfl⟩
  · have q1 : ¬ (0 < n) := by omega
    go_enter Try.func9, Try.ntmps9
    go_wp2
    go_ret
    exact HF'.out
  · have q2 : ¬ (65536 < z) := by omega
    have q3 : ¬ (z ≤ 0) := by omega
    go_enter Try.func9, Try.ntmps9
    go_wp2
    go_ret
    exact HF'.out
  · have q1 : 0 < n := by omega
    have q2 : ¬ n < 65536 := by omega
    have q3 : ¬ n ≤ 0 := by omega
    have q4 : ¬ n ≤ 65536 := by omega
    go_enter Try.func9, Try.ntmps9
    go_wp2
    go_ret
    exact HF'.out

/-- numbers made since -/
def OwnNums (zs : List Int) (w : World) (e : Ending) (w' : World) : Prop := ∃ v, e = .returned v ∧ w'.ownsRow w.heap.size 34 1 v zs.length (zs.map (Value.int .u64)) ∧ (∃ g c, v = .slice (some ⟨g, 0, none⟩) zs.length c) ∧ Below w.heap.size w w'
theorem rest_range {g n : Nat} {zs : List Int} {rest : List Value} {w : World} (hg : Row g 34 (zs.map (Value.int .u64) ++ rest) w) : ∀ j u, (zs.map (Value.int .u64))[j]? = some u → w.cell? ((⟨g, 0, none⟩ : Addr).add j) = some u := by
  intro j u hu
  rw [Addr.add_mid, Nat.zero_add, hg.cell]
  have hj : j < (zs.map (Value.int .u64)).length := (List.getElem?_eq_some_iff.1 hu).1
  rw [List.getElem?_append_left hj]; exact hu
theorem ints_one (k : IntKind) (zs : List Int) : ∀ u ∈ zs.map (Value.int k), u.oneCell' = true := by
  intro u hu
  obtain ⟨y, _, rfl⟩ := List.mem_map.1 hu
  rfl
theorem own_empty (w : World) (e : TypeId) : (w.alloc (.cells #[] e)).ownsRow w.heap.size e 1 (.slice (some ⟨w.heap.size, 0, none⟩) 0 0) 0 [] := by
  refine ⟨rfl, .inr ⟨_, 0, #[], rfl, Nat.le_refl _, heap_alloc_new w _, Nat.le_refl _, Nat.zero_le _, rfl, rfl⟩⟩
theorem own_some {w : World} {B n : Nat} {E : TypeId} {v : Value} {xs : List Value} (h : w.ownsRow B E 1 v n xs) (hv : v ≠ .slice none 0 0) : ∃ g c, v = .slice (some ⟨g, 0, none⟩) n c := by
  rcases h.2 with ⟨h1, _⟩ | ⟨g, cap, cur, h1, _⟩
  · exact absurd h1 hv
  · exact ⟨g, cap, h1⟩
set_option maxRecDepth 20000 in
theorem clone_any {g c : Nat} {zs : List Int} {rest : List Value} (w : World) (hg : Row g 34 (zs.map (Value.int .u64) ++ rest) w) (hl : zs.length ≤ 65536) : Calls Try.prog 54 #[.slice (some ⟨g, 0, none⟩) zs.length c] w (OwnNums zs w) := by
  have HG := Lib.hid (hg.on' ((Below.refl _ _).alloc (Nat.le_refl _) (.cells #[] 34)))
  have HL := Lib.hid hl
  obtain ⟨i0, hi, hz0, hz1, hz2⟩ := info_parts infoU
  have hnl := fun w : World => Lib.run_eql_slice_nil w 65 34 (some ⟨g, 0, none⟩) zs.length c 0 0 under_row
  clear hg hl
  go_enter Try.func54, Try.ntmps54
  go_wp2_with (at_builtin; refine wpList_append_own _ rfl _ _ _ rfl w.heap.size 34 i0 _ 1 8 under_row hi hz0 hz1 hz2 rfl (by decide) _ 0 [] rfl (own_empty w 34) _ _ _ (zs.map (Value.int .u64)) rfl (by simp) (rest_range (n := 0) HG.out) (ints_one _ _) (by have := HL.out; unfold maxLen; omega) (by have := HL.out; omega) (by simp) ?_)
  intro v' w' ho hgr hnil2
  obtain ⟨g2, c2, rfl⟩ := own_some ho hnil2
  have HB : Hid (Below w.heap.size w w') := ((Below.refl _ _).alloc (Nat.le_refl _) _).grown hgr (by simp) (fun k hk => by cases hk; exact Nat.le_refl _)
  have HO := Lib.hid ho
  clear hnl hi hz0 hz1 hz2 hgr hnil2 ho
  go_wp2
  go_ret
  exact ⟨_, rfl, HO.out, ⟨g2, c2, rfl⟩, HB.out⟩
theorem clone_nil (w : World) : Calls Try.prog 54 #[.slice none 0 0] w (Ans (.slice none 0 0) w) := by
  have hnl := fun w : World => Lib.run_eql_slice_nil w 65 34 none 0 0 0 0 under_row
  go_enter Try.func54, Try.ntmps54
  go_wp2
  go_ret
  exact ⟨rfl, .refl _ _⟩
theorem all_any {b g : Nat} {m : PM} {w : World} (h : MemIs w b g m) : Calls Try.prog 30 #[.pointer (some ⟨b, 0, none⟩)] w (OwnNums m.cs w) := by
  obtain ⟨c, hc, hc2, hrow⟩ := row_any h
  obtain ⟨rest, hg⟩ := h.cel
  have HG := Lib.hid hg
  have HS := Lib.hid h.short
  clear h hg hc hc2
  go_enter Try.func30, Try.ntmps30
  go_wp2_with fail
  refine hrow.mono ?_
  rintro e w1 ⟨rfl, hb⟩
  have HB := Lib.hid hb
  clear hb hrow
  go_wp2_with fail
  refine (clone_any w1 (HG.out.on' HB.out) HS.out).mono ?_
  rintro e w2 ⟨v, rfl, ho, hv, hb2⟩
  have HB2 := Lib.hid (HB.out.trans (hb2.mono HB.out.size))
  have HO := Lib.hid (ownk_base ho HB.out.size)
  have HV := Lib.hid hv
  clear hb2 ho hv
  go_wp2
  go_ret
  exact ⟨_, rfl, HO.out, HV.out, HB2.out⟩
theorem all_nil (w : World) : Calls Try.prog 30 #[.pointer none] w (Ans (.slice none 0 0) w) := by
  go_enter Try.func30, Try.ntmps30
  go_wp2_with fail
  refine (row_nil w).mono ?_
  rintro e w1 ⟨rfl, hb⟩
  have HB := Lib.hid hb
  clear hb
  go_wp2_with fail
  refine (clone_nil w1).mono ?_
  rintro e w2 ⟨rfl, hb2⟩
  have HB2 := Lib.hid (HB.out.trans (hb2.mono HB.out.size))
  clear hb2
  go_wp2
  go_ret
  exact ⟨rfl, HB2.out⟩
theorem own_row {w : World} {B n g c : Nat} {E : TypeId} {xs : List Value} (h : w.ownsRow B E 1 (.slice (some ⟨g, 0, none⟩) n c) n xs) : ∃ rest, Row g E (xs ++ rest) w ∧ n ≤ c ∧ c ≤ maxLen ∧ B ≤ g := by
  rcases h.2 with ⟨hv, _⟩ | ⟨g', cap, cur, hv, hB, hg, hc, hc2, hsz, ht⟩
  · cases hv
  · cases hv
    refine ⟨cur.toList.drop n, ?_, hc, hc2, hB⟩
    unfold Row
    rw [hg, ← ht, Nat.mul_one, List.take_append_drop]
/-- a copy: made since -/
def CopyPost (m : PM) (w : World) (e : Ending) (w' : World) : Prop := ∃ b g, e = .returned (.pointer (some ⟨b, 0, none⟩)) ∧ MemIs w' b g m ∧ w.heap.size ≤ b ∧ w.heap.size ≤ g ∧ Below w.heap.size w w'
theorem copy_nil (w : World) : Calls Try.prog 12 #[.pointer none] w (Ans (.pointer none) w) := by
  go_enter Try.func12, Try.ntmps12
  go_wp2
  go_ret
  exact ⟨rfl, .refl _ _⟩
theorem memV_size (k : Cnt) (g n c : Nat) (L : List Acc) (h : L.length = 256) : (memV k g n c L).toArray.size = 1030 := by
  rw [List.size_toArray]
  show (List.flatMap accC _).length + 1 + 1 + 1 + 1 + 1 + 1 = 1030
  rw [accs_length, h]
theorem memV_one (k : Cnt) (g n c : Nat) (L : List Acc) : (memV k g n c L).toArray.all (·.oneCell') = true := by
  rw [List.all_toArray, List.all_eq_true]
  intro u hu
  unfold memV at hu
  simp only [List.mem_cons] at hu
  rcases hu with rfl | rfl | rfl | rfl | rfl | rfl | hu
  all_goals first | rfl | exact accs_one L u hu
set_option maxRecDepth 20000 in
theorem copy_any {b g : Nat} {m : PM} {w : World} (h : MemIs w b g m) : Calls Try.prog 12 #[.pointer (some ⟨b, 0, none⟩)] w (CopyPost m w) := by
  obtain ⟨c, hr, hc, hc2⟩ := h.blk
  obtain ⟨hzv, hi⟩ := zero_of_info info_mem
  have hCs := memV_size m.k g m.cs.length c m.L h.ll
  have hC1 := memV_one m.k g m.cs.length c m.L
  have hr' : w.heap[b]? = some (.cells (memV m.k g m.cs.length c m.L).toArray 71 (0, 0)) := hr
  obtain ⟨C, hC⟩ : ∃ C, (memV m.k g m.cs.length c m.L).toArray = C := ⟨_, rfl⟩
  rw [hC] at hr' hCs hC1
  have hZs := memZ_size
  generalize memZ.toArray = Z at hzv hZs
  have HI := Lib.hid (And.intro (show (Try.prog.info? 71).map (·.size) = some C.size by rw [hCs]; exact hi) (And.intro (show Z.size = C.size by rw [hCs, hZs]) hC1))
  have HR := Lib.hid hr'
  have HM := Lib.hid h
  have HC := Lib.hid hC
  have HCC := Lib.hid (And.intro hc hc2)
  clear hi hCs hC1 hr' hZs hr h hC hc hc2
  go_enter Try.func12, Try.ntmps12
  go_upto_region 3 with (fail)
  refine wp_region_lit ?_
  refine wpList_plain rfl (fun K hK => ?_)
  go_simp
  refine hK _ _ ?_
  clear hK K
  refine wpList_plain rfl (fun K hK => ?_)
  go_simp
  refine hK _ _ ?_
  clear hK K
  refine wpList_load_row rfl 71 (.tmp 7) rfl b rfl 71 C (0, 0) _ HR.out Try.underlying71 rfl HI.out.1 ?_
  go_simp
  refine wpList_plain rfl (fun K hK => ?_)
  go_simp
  refine hK _ _ ?_
  clear hK K
  refine wpList_store_row rfl 71 (.tmp 3) (.tmp 8) rfl w.heap.size C rfl rfl 71 Z (heap_alloc_last w _) HI.out.1 HI.out.2.1 HI.out.2.2 ?_
  rw [World.setRow_alloc_new]
  refine wpList_nil ?_
  go_simp
  go_wp2_with fail
  have hb0 := (Below.refl w.heap.size w).alloc (Nat.le_refl _) (.cells C 71)
  have hrow : Row w.heap.size 71 (memV m.k g m.cs.length c m.L) (w.alloc (.cells C 71)) := by rw [← HC.out]; exact Row.new w _ _
  refine (all_any (HM.out.on hb0)).mono ?_
  rintro e w2 ⟨v, rfl, ho, ⟨g2, c2, rfl⟩, hb2⟩
  obtain ⟨rest, hr2, hg2, hg3, hg4⟩ := own_row ho
  have hrow2 := hrow.on' hb2
  have c5 : w2.cell? ⟨w.heap.size, 5, none⟩ = some (.slice (some ⟨g, 0, none⟩) m.cs.length c) := hrow2.cell 5
  have f5 := hrow2.frozen 5
  have hne : w.heap.size ≠ g2 := by simp at hg4; omega
  have HF : Hid (CopyPost m w (.returned (.pointer (some ⟨w.heap.size, 0, none⟩))) (w2.setCell ⟨w.heap.size, 5, none⟩ (.slice (some ⟨g2, 0, none⟩) m.cs.length c2))) := by
    refine ⟨_, g2, rfl, ⟨⟨c2, hrow2.set 5 _, hg2, hg3⟩, ⟨rest, hr2.far (p := ⟨w.heap.size, 5, none⟩) hne.symm _⟩, hne, HM.out.ll, HM.out.few, HM.out.short⟩, Nat.le_refl _, by simp at hg4; omega, (hb0.trans (hb2.mono hb0.size)).setCell (p := ⟨w.heap.size, 5, none⟩) (Nat.le_refl _) _⟩
  clear hb0 hrow ho hb2 hr2 hrow2 hne hg2 hg3 hg4
  go_wp2
  go_ret
  exact HF.out
end Go.Proofs.Ytnakaifnalojeaa
