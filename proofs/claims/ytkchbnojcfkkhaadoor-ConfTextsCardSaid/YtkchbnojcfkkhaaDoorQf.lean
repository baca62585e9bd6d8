/- The code's Read (layer 5), walked. -/
import Derived.Test.YtkchbnojcfkkhaaDoorQe
import Derived.Test.YtkchbnojcfkkhaaDoorQr
import Derived.Test.YtkchbnojcfkkhaaDoorVf
namespace Go.Proofs.YtkchbnojcfkkhaaDoor
open Go.RowKit Go.Tx Go.Cg

/-- .. and the library's own variables that strings.SplitN and strconv.Atoi read -/
structure EnvR (B : Nat) (w : World) : Prop where
  base : EnvC B w
  gm : 4 < B
  gs : 2 < B
  gr : 3 < B
  mx : ∃ m, w.cell? ⟨4, 0, none⟩ = some (.int .i64 m)
  sx : ∃ ev, w.cell? ⟨2, 0, none⟩ = some ev ∧ (ev = .nilIface ∨ ∃ te pe, ev = .iface te pe)
  rg : ∃ ev, w.cell? ⟨3, 0, none⟩ = some ev ∧ (ev = .nilIface ∨ ∃ te pe, ev = .iface te pe)
theorem EnvR.on {B : Nat} {w w1 : World} (h : EnvR B w) (hb : Below B w w1) : EnvR B w1 := by
  obtain ⟨h0, h1, h2, h3, ⟨m, hm⟩, ⟨e, he, he2⟩, ⟨f, hf, hf2⟩⟩ := h
  exact ⟨h0.on hb, h1, h2, h3, ⟨m, (hb.cell (show (⟨4, 0, none⟩ : Addr).block < B from h1)).trans hm⟩, ⟨e, (hb.cell (show (⟨2, 0, none⟩ : Addr).block < B from h2)).trans he, he2⟩, ⟨f, (hb.cell (show (⟨3, 0, none⟩ : Addr).block < B from h3)).trans hf, hf2⟩⟩
theorem EnvR.on' {B : Nat} {w w1 : World} (h : EnvR B w) (hb : Below w.heap.size w w1) : EnvR B w1 := h.on (hb.mono h.base.base.size)
theorem EnvR.at {B : Nat} {w w1 : World} {S : Prop} (h : EnvR B w) (hb : S ∧ Below w.heap.size w w1) : EnvR B w1 := h.on' hb.2

/-- strconv.Atoi, as Read uses it: a number, the digits' own where they are digits; whatever error -/
theorem atoi_any (x : List UInt8) (hx : x.length ≤ 100000) {B : Nat} (w : World) (hE : EnvR B w) : Calls Tryd.prog 41 #[.string ⟨x.toArray⟩] w fun e w' => ∃ (v : Int) (er : Value), e = .returned (.tuple #[.int .i64 v, er]) ∧ (∀ n : Nat, n < 1000000 → x = dc n → v = n) ∧ Below w.heap.size w w' := by
  have hsz : (⟨x.toArray⟩ : ByteArray).size = x.length := by simp [ByteArray.size]
  have hdt : (⟨x.toArray⟩ : ByteArray).data.toList = x := by simp
  cases ha : Lib.atoiAll x
  · rename_i v
    refine (Tryd.strconv_Atoi_ok ⟨x.toArray⟩ (by omega) v (by rw [hdt]; exact ha) w).mono ?_
    rintro e w1 ⟨he, hw⟩
    refine ⟨v, .nilIface, he, ?_, ?_⟩
    · intro n hn e
      rw [e, atoi_dc n hn] at ha
      injection ha with ha
      exact ha.symm
    · rcases hw with rfl | ⟨t, rfl⟩
      · exact .refl _ _
      · exact Lib.bytesWorld_below _ _ _
  · obtain ⟨ev, h1, h2⟩ := hE.sx
    refine (Tryd.strconv_Atoi_syntax ⟨x.toArray⟩ (by omega) (by rw [hdt]; exact ha) ev w h1 h2).mono ?_
    rintro e w1 ⟨N, he, -, -, hb⟩
    exact ⟨_, _, he, fun n hn e => (by rw [e, atoi_dc n hn] at ha; cases ha), hb⟩
  · obtain ⟨ev, h1, h2⟩ := hE.rg
    refine (Tryd.strconv_Atoi_range ⟨x.toArray⟩ (by omega) (by rw [hdt]; exact ha) ev w h1 h2).mono ?_
    rintro e w1 ⟨N, he, -, -, hb⟩
    exact ⟨_, _, he, fun n hn e => (by rw [e, atoi_dc n hn] at ha; cases ha), hb⟩

/-- the words' cells -/
def WordsL (w : World) (g : Nat) (l : List (List UInt8)) : Prop := ∀ j, j < l.length → w.cell? ⟨g, j, none⟩ = some (.string ⟨(l.getD j []).toArray⟩)
theorem WordsL.on {w w' : World} {g : Nat} {l : List (List UInt8)} (h : WordsL w g l) (hb : Below w.heap.size w w') : WordsL w' g l := fun j hj => k_al (h j hj) hb
theorem WordsL.set {w : World} {g : Nat} {l : List (List UInt8)} (h : WordsL w g l) {q : Addr} (hq : q.block ≠ g) (x : Value) : WordsL (w.setCell q x) g l := fun j hj => by rw [World.cell?_setCell_far _ _ _ _ hq]; exact h j hj
theorem words_new (ps : List ByteArray) (N : Nat) (w : World) (t : TypeId) : WordsL (w.alloc (.cells (Lib.cellsOf ps N) t)) w.heap.size (ps.map (·.data.toList)) := by
  intro j hj
  rw [List.length_map] at hj
  rw [World.cell?_alloc_new]
  unfold Lib.cellsOf
  rw [List.getElem?_toArray, List.getElem?_append_left (by rw [List.length_map]; exact hj), List.getElem?_map, List.getD_eq_getElem?_getD, List.getElem?_map, List.getElem?_eq_getElem hj]
  rfl
/-- strings.SplitN, as Read uses it -/
theorem splitn_any (s : ByteArray) (hs : s.size ≤ 100000) {B : Nat} (w : World) (hE : EnvR B w) : Calls Tryd.prog 40 #[.string s, .string ⟨#[32]⟩, .int .i64 13] w fun e w' => ∃ cap, e = .returned (.slice (some ⟨w.heap.size, 0, none⟩) (wordsOf s.data.toList).length cap) ∧ WordsL w' w.heap.size (wordsOf s.data.toList) ∧ w.heap.size < w'.heap.size ∧ Below w.heap.size w w' := by
  obtain ⟨m, hm⟩ := hE.mx
  have hd := Lib.splitB_data ⟨#[32]⟩ 0 (min 13 (s.size + 1) - 1) s
  have e : Lib.splitK (⟨#[32]⟩ : ByteArray).data.toList 0 (min 13 (s.size + 1) - 1) s.data.toList = wordsOf s.data.toList := by unfold wordsOf; rw [← Lib.size_eq]
  rw [e] at hd
  refine (Tryd.strings_SplitN s ⟨#[32]⟩ 13 m w (by omega) hm (by decide) (by decide) (by decide)).mono ?_
  rintro e w1 ⟨rfl, rfl⟩
  refine ⟨min 13 (s.size + 1), ?_, ?_, by simp, (Below.refl _ _).alloc (Nat.le_refl _) _⟩
  · rw [← hd, List.length_map]
  · rw [← hd]; exact words_new _ _ w _
theorem words_le (s : List UInt8) (hs : s.length ≤ 1000) (j : Nat) : ((wordsOf s).getD j []).length ≤ 1000 := by
  have key : ∀ (k : Nat) (s : List UInt8), s.length ≤ 1000 → ∀ x ∈ Lib.splitK [32] 0 k s, x.length ≤ 1000 := by
    intro k
    induction k with
    | zero => intro s hs x hx; rw [Lib.splitK] at hx; obtain rfl : x = s := by simpa using hx
              exact hs
    | succ k ih =>
      intro s hs x hx
      rw [Lib.splitK] at hx
      split at hx
      · obtain rfl : x = s := by simpa using hx
        exact hs
      · rcases List.mem_cons.1 hx with rfl | hx
        · rw [List.length_take]; omega
        · exact ih _ (by rw [List.length_drop]; omega) x hx
  by_cases hj : j < (wordsOf s).length
  · rw [List.getD_eq_getElem?_getD, List.getElem?_eq_getElem hj]
    exact key _ s hs _ (List.getElem_mem hj)
  · rw [List.getD_eq_getElem?_getD, List.getElem?_eq_none (by omega)]
    exact Nat.zero_le _

set_option maxRecDepth 10000 in
set_option maxHeartbeats 4000000 in
theorem cread_any (s : ByteArray) (hs : s.size ≤ 1000) {B : Nat} (w : World) (hE : EnvR B w) : Calls Tryd.prog 27 #[.string s] w (RdPost s.data.toList w) := by
  have HE := Lib.hid hE
  clear hE
  have hsp (w : World) (hE : EnvR B w) := splitn_any s (by omega) w hE
  have hwl := words_le s.data.toList (by rw [← Lib.size_eq]; exact hs)
  obtain ⟨L, hL⟩ : ∃ L, wordsOf s.data.toList = L := ⟨_, rfl⟩
  have HL := Lib.hid hL
  simp only [hL] at hsp hwl
  have HWL := Lib.hid hwl
  clear hL hwl
  go_enter Tryd.func27, Tryd.ntmps27
  go_wp2_with fail
  have HB := Lib.hid ((Below.refl w.heap.size w).alloc (Nat.le_refl _) (.cells #[.int .i64 0, .int .i64 0, .int .i64 0, .int .i64 0, .int .i64 0, .int .i64 0] 23))
  have HR0 := Lib.hid (Row.new w 23 [.int .i64 0, .int .i64 0, .int .i64 0, .int .i64 0, .int .i64 0, .int .i64 0])
  change Hid (Row w.heap.size 23 [.int .i64 0, .int .i64 0, .int .i64 0, .int .i64 0, .int .i64 0, .int .i64 0] (w.alloc (.cells #[.int .i64 0, .int .i64 0, .int .i64 0, .int .i64 0, .int .i64 0, .int .i64 0] 23))) at HR0
  obtain ⟨W, hW⟩ : ∃ W, w.alloc (.cells #[.int .i64 0, .int .i64 0, .int .i64 0, .int .i64 0, .int .i64 0, .int .i64 0] 23) = W := ⟨_, rfl⟩
  rw [hW] at HB HR0 ⊢
  clear hW
  refine (hsp _ (HE.out.on' HB.out)).mono ?_
  rintro e W1 ⟨cap, rfl, hwords, hlt1, hb1⟩
  have HB1 := Lib.hid (HB.out.trans (hb1.mono HB.out.size))
  have HR1 := Lib.hid (HR0.out.on' hb1)
  have HG1 := Lib.hid (And.intro hlt1 HR0.out.lt)
  have HW1 := Lib.hid hwords
  clear hb1 hwords hlt1 hsp
  generalize W.heap.size = gs at HG1 HW1 ⊢
  by_cases h12 : L.length = 12
  · go_wp2_with fail
    have hnew := Row.new W1 62 [.int .i64 0, .int .i64 0, .int .i64 0, .int .i64 0, .int .i64 0, .int .i64 0]
    have hbn := (Below.refl W1.heap.size W1).alloc (Nat.le_refl _) (.cells #[.int .i64 0, .int .i64 0, .int .i64 0, .int .i64 0, .int .i64 0, .int .i64 0] 62)
    change Row W1.heap.size 62 [.int .i64 0, .int .i64 0, .int .i64 0, .int .i64 0, .int .i64 0, .int .i64 0] (W1.alloc (.cells #[.int .i64 0, .int .i64 0, .int .i64 0, .int .i64 0, .int .i64 0, .int .i64 0] 62)) at hnew
    obtain ⟨W2, hW2⟩ : ∃ W2, W1.alloc (.cells #[.int .i64 0, .int .i64 0, .int .i64 0, .int .i64 0, .int .i64 0, .int .i64 0] 62) = W2 := ⟨_, rfl⟩
    rw [hW2] at hnew hbn ⊢
    have HRn := Lib.hid hnew
    have HR2 := Lib.hid (HR1.out.on' hbn)
    have HW2 := Lib.hid (HW1.out.on hbn)
    have HB2 := Lib.hid (HB1.out.trans (hbn.mono HB1.out.size))
    have HG2 : Hid (gs ≠ W1.heap.size ∧ w.heap.size ≠ W1.heap.size ∧ w.heap.size ≤ W1.heap.size) := ⟨by have := HG1.out.1; omega, by have := HR1.out.lt; omega, HB1.out.size⟩
    clear hnew hbn hW2 HR1 HW1 HB1 HG1
    generalize W1.heap.size = g5 at HRn HG2 ⊢
    go_loopw [14] (fun vi wr => ∃ i : Nat, i ≤ 6 ∧ vi = .int .i64 i ∧ ∃ zs : List Int, Hid (zs.length = 6 ∧ Vals L zs i) ∧ Hid (Row g5 62 (zs.map (Value.int .i64)) wr) ∧ Hid (WordsL wr gs L) ∧ Hid (Row w.heap.size 23 [.int .i64 0, .int .i64 0, .int .i64 0, .int .i64 0, .int .i64 0, .int .i64 0] wr) ∧ Hid (Below w.heap.size w wr)) (fun vi _ => 6 - (intOf vi).toNat)
    case atStart => exact ⟨0, by omega, rfl, [0, 0, 0, 0, 0, 0], ⟨rfl, .zero _ _⟩, HRn, HW2, HR2, HB2⟩
    case round =>
      obtain ⟨i, hi, rfl, zs, HV, HRn, HWo, HRr, HBr⟩ := hrel
      by_cases h6 : i < 6
      · have i0 : (0 : Int) ≤ i := by omega
        have i6 : (i : Int) < 6 := by omega
        have hz : (zs.map (Value.int .i64))[i]? = some (.int .i64 (zs.getD i 0)) := by
          have := HV.out.1
          rw [List.getElem?_map, List.getD_eq_getElem?_getD, List.getElem?_eq_getElem (by omega)]; rfl
        have w1 := HWo.out (2 * i + 1) (by omega)
        have HLen := HWL.out (2 * i + 1)
        obtain ⟨x, hx⟩ : ∃ x, L.getD (2 * i + 1) [] = x := ⟨_, rfl⟩
        rw [hx] at w1 HLen
        have HX := Lib.hid hx
        clear hx
        have e1 : ((2 * i + 1 : Nat) : Int) = 2 * (i : Int) + 1 := by omega
        go_wp2_with fail
        refine (atoi_any x (by omega) _ (HE.out.on' HBr.out)).mono ?_
        rintro e w3 ⟨v, er, rfl, hv, hb3⟩
        have HV3 : Hid ((zs.set i v).length = 6 ∧ Vals L (zs.set i v) (i + 1)) :=
          ⟨by rw [List.length_set]; exact HV.out.1, HV.out.2.step (by have := HV.out.1; omega) (by rw [HX.out]; exact hv)⟩
        have HRn3 := Lib.hid (HRn.out.on' hb3)
        have HWo3 := Lib.hid (HWo.out.on hb3)
        have HRr3 := Lib.hid (HRr.out.on' hb3)
        have HBr3 := Lib.hid (HBr.out.trans (hb3.mono HBr.out.size))
        have n0 := HRn3.out.cell i
        rw [hz] at n0
        have z0 := HRn3.out.frozen i
        clear w1 hv hb3 HV HRn HWo HRr HBr HX HLen hz
        go_wp2_with fail
        go_roundw
        case rel =>
          refine ⟨i + 1, h6, by go_num, zs.set i v, HV3, ?_, HWo3.out.set (fun e => HG2.out.1 e.symm) _, HRr3.out.far (fun e => HG2.out.2.1 e) _, HBr3.out.setCell (p := ⟨g5, i, none⟩) HG2.out.2.2 _⟩
          show Row _ _ _ _
          rw [List.map_set]; exact HRn3.out.set i _
        case measure =>
          show _ < _
          simp only [intOf]; omega
      · obtain rfl : i = 6 := by omega
        obtain ⟨a, b, c, d, e, f, rfl⟩ := list_six HV.out.1
        have n0 := HRn.out.cell 0
        have n1 := HRn.out.cell 1
        have n2 := HRn.out.cell 2
        have n3 := HRn.out.cell 3
        have n4 := HRn.out.cell 4
        have n5 := HRn.out.cell 5
        simp only [List.map_cons, List.getElem?_cons_zero, List.getElem?_cons_succ] at n0 n1 n2 n3 n4 n5
        have HVV := Lib.hid HV.out.2
        clear HV HWo HRn
        go_wp2_with fail
        have hnew : Row wr.heap.size 23 [.int .i64 a, .int .i64 b, .int .i64 c, .int .i64 d, .int .i64 e, .int .i64 f] (wr.alloc (.cells #[.int .i64 a, .int .i64 b, .int .i64 c, .int .i64 d, .int .i64 e, .int .i64 f] 23)) := Row.new wr 23 [.int .i64 a, .int .i64 b, .int .i64 c, .int .i64 d, .int .i64 e, .int .i64 f]
        have hbn := (Below.refl wr.heap.size wr).alloc (Nat.le_refl _) (.cells #[.int .i64 a, .int .i64 b, .int .i64 c, .int .i64 d, .int .i64 e, .int .i64 f] 23)
        obtain ⟨W4, hW4⟩ : ∃ W4, wr.alloc (.cells #[.int .i64 a, .int .i64 b, .int .i64 c, .int .i64 d, .int .i64 e, .int .i64 f] 23) = W4 := ⟨_, rfl⟩
        rw [hW4] at hnew hbn ⊢
        have HN4 := Lib.hid hnew
        have HR4 := Lib.hid (HRr.out.on' hbn)
        have HB4 := Lib.hid (HBr.out.trans (hbn.mono HBr.out.size))
        clear hnew hbn hW4 n0 n1 n2 n3 n4 n5 HRr
        generalize wr.heap.size = g7 at HN4 ⊢
        have m0 := HN4.out.cell 0
        have m1 := HN4.out.cell 1
        have m2 := HN4.out.cell 2
        have m3 := HN4.out.cell 3
        have m4 := HN4.out.cell 4
        have m5 := HN4.out.cell 5
        simp only [List.getElem?_cons_zero, List.getElem?_cons_succ] at m0 m1 m2 m3 m4 m5
        go_wp2_with fail
        refine (ctext_any ⟨a, b, c, d, e, f⟩ _ (HE.out.on' HB4.out).base).mono ?_
        rintro e2 w5 ⟨l, hl, rfl, hb5⟩
        have HR5 := Lib.hid (HR4.out.on' hb5)
        have HB5 := Lib.hid (HB4.out.trans (hb5.mono HB4.out.size))
        have HN5 := Lib.hid (HN4.out.on' hb5)
        have HLT := Lib.hid hl
        clear hb5 hl HR4 HB4 HN4 m0 m1 m2 m3 m4 m5
        have c0 := HR5.out.cell 0
        have c1 := HR5.out.cell 1
        have c2 := HR5.out.cell 2
        have c3 := HR5.out.cell 3
        have c4 := HR5.out.cell 4
        have c5 := HR5.out.cell 5
        have z0 := HR5.out.frozen 0
        have z1 := HR5.out.frozen 1
        have z2 := HR5.out.frozen 2
        have z3 := HR5.out.frozen 3
        have z4 := HR5.out.frozen 4
        have z5 := HR5.out.frozen 5
        simp only [List.getElem?_cons_zero, List.getElem?_cons_succ] at c0 c1 c2 c3 c4 c5
        cases hcmp : (l == s.toList)
        · have HA : Hid (rdA s.data.toList = (⟨0, 0, 0, 0, 0, 0⟩, 2)) := rdA_none (rdC_vals (by rw [HL.out]; exact h12) (by rw [HL.out]; exact HVV.out) (by
            intro e
            rw [← HLT.out, ← ByteArray.toList_eq] at e
            rw [e] at hcmp
            simp at hcmp))
          go_wp2_with fail
          refine bodyPost_ret (v := .tuple #[.agg #[.int .i64 0, .int .i64 0, .int .i64 0, .int .i64 0, .int .i64 0, .int .i64 0], .int .i64 2]) (by simp [results, Tryd.results27, go_sem, *]) rfl ?_
          exact ⟨by rw [HA.out]; rfl, six_zero _ _ HB5.out _ _ _ _ _ _⟩
        · have HA : Hid (rdA s.data.toList = (⟨a, b, c, d, e, f⟩, 0)) := rdA_some (rdC_got (by rw [HL.out]; exact h12) (by
            rw [← HLT.out, ← ByteArray.toList_eq]
            exact eq_of_beq hcmp))
          have n0 := HN5.out.cell 0
          have n1 := HN5.out.cell 1
          have n2 := HN5.out.cell 2
          have n3 := HN5.out.cell 3
          have n4 := HN5.out.cell 4
          have n5 := HN5.out.cell 5
          simp only [List.getElem?_cons_zero, List.getElem?_cons_succ] at n0 n1 n2 n3 n4 n5
          go_wp2_with fail
          refine bodyPost_ret (v := .tuple #[.agg #[.int .i64 a, .int .i64 b, .int .i64 c, .int .i64 d, .int .i64 e, .int .i64 f], .int .i64 0]) (by simp [results, Tryd.results27, go_sem, *]) rfl ?_
          exact ⟨by rw [HA.out]; rfl, six_zero _ _ HB5.out _ _ _ _ _ _⟩
  · have h12i : ¬ ((L.length : Int) = 12) := by omega
    have HA := Lib.hid (rdA_none (wordsOf_none (s := s.data.toList) (by rw [HL.out]; exact h12)))
    have c0 := HR1.out.cell 0
    have c1 := HR1.out.cell 1
    have c2 := HR1.out.cell 2
    have c3 := HR1.out.cell 3
    have c4 := HR1.out.cell 4
    have c5 := HR1.out.cell 5
    have z0 := HR1.out.frozen 0
    have z1 := HR1.out.frozen 1
    have z2 := HR1.out.frozen 2
    have z3 := HR1.out.frozen 3
    have z4 := HR1.out.frozen 4
    have z5 := HR1.out.frozen 5
    simp only [List.getElem?_cons_zero, List.getElem?_cons_succ] at c0 c1 c2 c3 c4 c5
    go_wp2_with fail
    refine bodyPost_ret (v := .tuple #[.agg #[.int .i64 0, .int .i64 0, .int .i64 0, .int .i64 0, .int .i64 0, .int .i64 0], .int .i64 2]) (by simp [results, Tryd.results27, go_sem, *]) rfl ?_
    exact ⟨by rw [HA.out]; rfl, six_zero _ _ HB1.out _ _ _ _ _ _⟩
end Go.Proofs.YtkchbnojcfkkhaaDoor
