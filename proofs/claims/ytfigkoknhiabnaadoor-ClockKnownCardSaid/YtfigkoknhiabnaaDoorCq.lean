/- The walks of the reference's clock. -/
import Derived.Test.YtfigkoknhiabnaaDoorCp
import Derived.Test.YtfigkoknhiabnaaDoorCn
import Derived.Deep.RegionHeld3
import Derived.BigQuiet
import Derived.Deep.QuietTactic
import Derived.Deep.LoopGhost
import Derived.StillTailTactics
import Derived.Laws.AppendOwnNone
import Derived.Laws.Pointers
import Derived.WalkSpells
import Derived.WalkLawsBesides
namespace Go.Proofs.YtfigkoknhiabnaaDoor
open Go.RowKit Go.Fm Go.Sm

/-- an answer, in a world in which nothing that was has changed -/
def Ans (v : Value) (w : World) (e : Ending) (w' : World) : Prop := e = .returned v ∧ Below w.heap.size w w'
/-- the reference's clock, as a value -/
def ck (t : Int) (p : Option Addr) (l c : Nat) : Value := .agg #[.int .i64 t, .slice p l c]

set_option maxHeartbeats 400000 in
theorem rsince_any (t n : Int) (p : Option Addr) (l c : Nat) (h1 : 0 ≤ t) (h2 : t ≤ 4611686018427387904) (w : World) :
    Calls Tryd.prog 26 #[.agg #[.int .i64 t, .slice p l c], .int .i64 n] w (Ans (.int .i64 (since t n)) w) := by
  have hb : Below w.heap.size w (w.alloc (.cells #[.int .i64 t, .slice p l c] 32)) := (Below.refl _ _).alloc (Nat.le_refl _) _
  have HB := Lib.hid hb
  clear hb
  by_cases hn : n < 0
  · have e : since t n = t := by unfold since; simp only [hn, if_true]; split <;> omega
    rw [e]
    go_enter Tryd.func26, Tryd.ntmps26
    go_wp2
    go_ret
    exact ⟨rfl, HB.out⟩
  · by_cases hl : t < n
    · have e : since t n = 0 := by unfold since; simp only [hn, if_false, hl, if_true]
      rw [e]
      go_enter Tryd.func26, Tryd.ntmps26
      go_wp2
      go_ret
      exact ⟨rfl, HB.out⟩
    · have e : since t n = t - n := by unfold since; simp only [hn, if_false, hl]
      rw [e]
      go_enter Tryd.func26, Tryd.ntmps26
      go_wp2
      go_ret
      exact ⟨rfl, HB.out⟩

theorem rsum_two (a b s : Int) (g : Nat) (w : World) (t : TypeId) (hg : g = w.heap.size) (hs : S [a, b] = s) :
    Calls Tryd.prog 18 #[.slice (some ⟨g, 0, none⟩) 2 2] (w.alloc (.cells #[.int .i64 a, .int .i64 b] t)) fun e w' => e = .returned (.int .i64 s) ∧ w.alloc (.cells #[.int .i64 a, .int .i64 b] t) = w' := by
  subst hs; exact rsum_any (some ⟨g, 0, none⟩) 2 [a, b] _ (lies_new .i64 [a, b] w t g hg (by simp))
theorem grow2 {w w' : World} (a b : Obj) (h : Below ((w.alloc a).alloc b).heap.size ((w.alloc a).alloc b) w') : Below w.heap.size w w' :=
  (((Below.refl _ _).alloc (Nat.le_refl _) a).alloc (by simp) b).trans (h.mono (by simp; omega))

set_option maxHeartbeats 400000 in
theorem radd_any (t n : Int) (p : Option Addr) (l c : Nat) (h1 : 0 ≤ t) (h2 : t ≤ 4611686018427387904) (w : World) :
    Calls Tryd.prog 23 #[.agg #[.int .i64 t, .slice p l c], .int .i64 n] w (Ans (.tuple #[.agg #[.int .i64 (plus t n), .slice p l c], .int .i64 (if n < 0 then 2 else 0)]) w) := by
  by_cases hn : n < 0
  · rw [plus_neg hn, if_pos hn]
    go_enter Tryd.func23, Tryd.ntmps23
    go_wp2
    exact bodyPost_ret (v := .tuple #[.agg #[.int .i64 t, .slice p l c], .int .i64 2]) (by simp [results, Tryd.results23, go_sem]) rfl ⟨rfl, grow2 _ _ (Below.refl _ _)⟩
  · rw [if_neg hn, ← S_two h1 h2 (by omega)]
    obtain ⟨s, hs⟩ : ∃ s, S [t, n] = s := ⟨_, rfl⟩
    rw [hs]
    have HS := Lib.hid hs
    clear hs
    go_enter Tryd.func23, Tryd.ntmps23
    go_wp2_with fail
    refine (rsum_two t n s _ _ _ (by simp) HS.out).mono ?_
    rintro e w' ⟨rfl, rfl⟩
    go_wp2
    exact bodyPost_ret (v := .tuple #[.agg #[.int .i64 s, .slice p l c], .int .i64 0]) (by simp [results, Tryd.results23, go_sem]) rfl ⟨rfl, ((((Below.refl _ _).alloc (Nat.le_refl _) _).alloc (by simp) _).alloc (by simp; omega) _)⟩

theorem infoI64 : (Tryd.prog.info? 2).map (fun i => (i.zero, i.size, i.bytes)) = some (some (.int .i64 0), 1, 8) := by kernel_rfl
/-- the clock with one lap more -/
def MarkPost (t : Int) (laps : List Int) (w : World) (e : Ending) (w' : World) : Prop := ∃ p l c, e = .returned (.agg #[.int .i64 t, .slice p l c]) ∧ l = (mark laps t).length ∧ p ≠ none ∧ Lies .i64 w' p (mark laps t) ∧ (∀ b o, p = some ⟨b, o, none⟩ → w.heap.size ≤ b) ∧ Below w.heap.size w w'

set_option maxHeartbeats 1000000 in
theorem rmark_any (t : Int) (laps : List Int) (p : Option Addr) (l c : Nat) (hl : Hid (l = laps.length)) (h64 : l ≤ 64) (hn : p = none → c = 0) (w : World) (hL : Lies .i64 w p laps) :
    Calls Tryd.prog 25 #[.agg #[.int .i64 t, .slice p l c]] w (MarkPost t laps w) := by
  obtain ⟨i0, hi, hz0, hz1, hz2⟩ := info_parts infoI64
  have HL := Lib.hid hL.at
  have HN := Lib.hid hn
  clear hL hn
  go_enter Tryd.func25, Tryd.ntmps25
  go_wp2_with (at_builtin; refine append_row i0 8 Tryd.underlying30 hi hz0 hz1 hz2 (by decide) _ rfl (.tmp 4) (.tmp 6) rfl rfl laps p l c rfl hl.out (by omega) (HL.out.on ((Below.refl _ _).alloc (Nat.le_refl _) _ |>.alloc (by simp) _)).lies HN.out ?_)
  intro v1 w1 hO1 hb1
  obtain ⟨p1, cap1, rfl⟩ := ownk_form hO1
  have hs1 : w.heap.size + 1 + 1 ≤ w1.heap.size := by have := hb1.size; simpa using this
  have bx := ((Box2.new w.heap.size (.int .i64 t) (.slice p l c) w 32 rfl).alloc (.cells #[.int .i64 0, .slice none 0 0] 32)).on hb1 (by omega)
  have br := (Box2.new (w.heap.size + 1) (.int .i64 0) (.slice none 0 0) (w.alloc (.cells #[.int .i64 t, .slice p l c] 32)) 32 (by simp)).on hb1 (by omega)
  have BX := Lib.hid (And.intro bx br)
  have hbw : Below w.heap.size w w1 := grow2 _ _ (hb1.mono (by simp))
  have HB := Lib.hid hbw
  obtain ⟨c0, c1, -, -⟩ := bx
  clear br hb1 hbw
  go_wp2_with (at_builtin; refine wpList_append_own _ rfl (.tmp 8) (.tmp 11) 30 rfl (w.heap.size + 1 + 1) 2 i0 (.int .i64 0) 1 8 Tryd.underlying30 hi hz0 hz1 hz2 rfl (by decide) _ _ _ rfl (hO1.alloc _) ⟨w1.heap.size, 0, none⟩ 1 1 [.int .i64 t] rfl rfl ?c1 ?c2 ?c3 ?c4 ?c5 ?_)
  case c1 => intro j u hu; rcases j with _ | j <;> simp at hu; subst hu; simp [World.cell?_alloc_new, Addr.add]
  case c2 => intro u hu; simp at hu; subst hu; rfl
  case c3 => unfold maxLen; omega
  case c4 => omega
  case c5 => simp; omega
  intro v2 w2 hO2 hgrow _
  have hb2 : Below (w.heap.size + 1 + 1) w1 w2 := (((Below.refl _ _).alloc hs1 _).grown hgrow (by simp; omega) (fun j hj => (hO1.lt j hj).1))
  have hs2 := hb2.size
  have hO2' : w2.ownsRow (w.heap.size + 1 + 1) 2 1 v2 (l + 1) ((laps ++ [t]).map (Value.int .i64)) := by rw [List.map_append]; exact hO2
  have hlen : l + 1 = (laps ++ [t]).length := by rw [List.length_append, ← hl.out]; rfl
  obtain ⟨g, cap, rfl, hg, hcap, hcap2, hLies⟩ := ownk_cap hO2' (by omega) hlen (by omega)
  have HLies := Lib.hid hLies
  have HLen := Lib.hid hlen
  have bx := BX.out.1.on hb2 (by omega)
  have br := BX.out.2.on hb2 (by omega)
  have HB2 := Lib.hid (HB.out.trans (hb2.mono (by omega)))
  have HX := Lib.hid (And.intro bx br)
  obtain ⟨c0, c1', f0, f1⟩ := bx
  obtain ⟨e0, e1, k0, k1⟩ := br
  clear c1 BX HB hO2 hO2' hO1 hgrow hb2 hLies hlen
  have i1 : ¬ (w.heap.size = w.heap.size + 1) := by omega
  have i2 : ¬ (w.heap.size + 1 = w.heap.size) := by omega
  by_cases h65 : l = 64
  · subst h65
    have q1 : ¬ (cap = 1) := by omega
    have q2 : (65 : Int) ≤ (cap : Int) := by omega
    have q3 : 65 ≤ cap := by omega
    go_wp2_with fail
    refine bodyPost_ret (v := .agg #[.int .i64 t, .slice (some ⟨g, 1, none⟩) 64 (cap - 1)]) (by simp [results, Tryd.results25, go_sem, *]) rfl ?_
    have hm : mark laps t = (laps ++ [t]).drop 1 := by unfold mark; rw [if_pos (by have := hl.out; omega)]
    refine ⟨_, 64, cap - 1, rfl, ?_, by simp, ?_, (fun b o h => by cases h; omega), ((HB2.out.setCell (p := ⟨w.heap.size, 1, none⟩) (Nat.le_refl _) _).setCell (p := ⟨w.heap.size + 1, 0, none⟩) (by simp) _).setCell (p := ⟨w.heap.size + 1, 1, none⟩) (by simp) _⟩
    · rw [hm, List.length_drop, ← HLen.out]
    · rw [hm]
      exact (((HLies.out.drop 1).set (q := ⟨w.heap.size, 1, none⟩) (by simp; omega) _).set (q := ⟨w.heap.size + 1, 0, none⟩) (by simp; omega) _).set (q := ⟨w.heap.size + 1, 1, none⟩) (by simp; omega) _
  · have hm1 : ¬ ((64 : Int) < (l : Int) + 1) := by omega
    go_wp2_with fail
    refine bodyPost_ret (v := .agg #[.int .i64 t, .slice (some ⟨g, 0, none⟩) (l + 1) cap]) (by simp [results, Tryd.results25, go_sem, *]) rfl ?_
    have hm : mark laps t = laps ++ [t] := by unfold mark; rw [if_neg (by have := hl.out; omega)]
    refine ⟨_, l + 1, cap, rfl, ?_, by simp, ?_, (fun b o h => by cases h; omega), ((HB2.out.setCell (p := ⟨w.heap.size, 1, none⟩) (Nat.le_refl _) _).setCell (p := ⟨w.heap.size + 1, 0, none⟩) (by simp) _).setCell (p := ⟨w.heap.size + 1, 1, none⟩) (by simp) _⟩
    · rw [hm, ← HLen.out]
    · rw [hm]
      exact ((HLies.out.set (q := ⟨w.heap.size, 1, none⟩) (by simp; omega) _).set (q := ⟨w.heap.size + 1, 0, none⟩) (by simp; omega) _).set (q := ⟨w.heap.size + 1, 1, none⟩) (by simp; omega) _

theorem ret_i64 {a b : Int} (h : a = b) : Ending.returned (.int .i64 a) = Ending.returned (.int .i64 b) := by rw [h]
/-- floats, as they lie -/
structure LiesF (w : World) (p : Option Addr) (fs : List Nat) : Prop where
  len : fs.length ≤ 1000
  cells : ∀ j, j < fs.length → ∃ b o, p = some ⟨b, o, none⟩ ∧ w.cell? ⟨b, o + j, none⟩ = some (.float .f64 (fs.getD j 0))
theorem LiesF.on {w w' : World} {p : Option Addr} {fs : List Nat} (h : LiesF w p fs) (hb : Below w.heap.size w w') : LiesF w' p fs := by
  refine ⟨h.len, fun j hj => ?_⟩
  obtain ⟨b, o, hp, hc⟩ := h.cells j hj
  exact ⟨b, o, hp, by rw [hb.cell (block_lt_of_cell hc)]; exact hc⟩
theorem rnanos_at (b : Nat) (w : World) : Calls Tryd.prog 32 #[.float .f64 b] w fun e w' => e = .returned (.tuple #[.int .i64 (nv b), .int .i64 (ne b)]) ∧ w = w' := by
  obtain ⟨p, hp⟩ := prd_ex b
  rw [← (nv_eq hp).1, ← (nv_eq hp).2]; exact rnanos_any b p hp w

/-- the reference's answer to some milliseconds -/
def MilV (t : Int) (fs : List Nat) (p : Option Addr) (l c : Nat) : Value := .tuple #[.agg #[.int .i64 (mt t fs (mk fs)), .slice p l c], .int .i64 (mk fs : Nat), .int .i64 (me fs)]
set_option maxHeartbeats 1000000 in
theorem rmillis_any (t : Int) (fs : List Nat) (p q : Option Addr) (l c m cq : Nat) (h1 : 0 ≤ t) (h2 : t ≤ 4611686018427387904) (hm : Hid (m = fs.length)) (hm2 : m ≤ 1000) (w : World) (hL : LiesF w q fs) :
    Calls Tryd.prog 24 #[.agg #[.int .i64 t, .slice p l c], .slice q m cq] w (Ans (MilV t fs p l c) w) := by
  have HL := Lib.hid hL
  have hfl := hL.len
  clear hL
  go_enter Tryd.func24, Tryd.ntmps24
  go_wp2_with fail
  have bx := Lib.hid ((Box2.new w.heap.size (.int .i64 t) (.slice p l c) w 32 rfl).alloc (.cells #[.int .i64 0, .slice none 0 0] 32))
  have br := Lib.hid (Box2.new (w.heap.size + 1) (.int .i64 0) (.slice none 0 0) (w.alloc (.cells #[.int .i64 t, .slice p l c] 32)) 32 (by simp))
  have hbw := Lib.hid (grow2 (w := w) (.cells #[.int .i64 t, .slice p l c] 32) (.cells #[.int .i64 0, .slice none 0 0] 32) (Below.refl _ _))
  go_loopw [7] (fun vi wr => ∃ k : Nat, k ≤ m ∧ vi = .int .i64 k ∧ Hid (∀ j, j < k → ne (fs.getD j 0) = 0) ∧ Hid (Box2 w.heap.size (.int .i64 (mt t fs k)) (.slice p l c) wr) ∧ Hid (Box2 (w.heap.size + 1) (.int .i64 0) (.slice none 0 0) wr) ∧ Hid (Below w.heap.size w wr)) (fun vi _ => m - (intOf vi).toNat)
  case atStart => exact ⟨0, by omega, rfl, fun j hj => absurd hj (Nat.not_lt_zero _), bx, br, hbw⟩
  case round =>
    obtain ⟨k, hk, rfl, HG, HX, HR, HB⟩ := hrel
    clear bx br hbw
    obtain ⟨c0, c1, f0, f1⟩ := HX.out
    obtain ⟨e0, e1, k0, k1⟩ := HR.out
    have hlt0 := HX.out.lt
    have hlt1 := HR.out.lt
    have i1 : ¬ (w.heap.size = w.heap.size + 1) := by omega
    have i2 : ¬ (w.heap.size + 1 = w.heap.size) := by omega
    obtain ⟨T, hT⟩ : ∃ T, mt t fs k = T := ⟨_, rfl⟩
    rw [hT] at c0
    have hTb := mt_bd h1 h2 fs k
    rw [hT] at hTb
    have HT := Lib.hid hT
    clear hT
    by_cases hlt : k < m
    · obtain ⟨b, o, rfl, hc⟩ := (HL.out.on HB.out).cells k (by rw [← hm.out]; exact hlt)
      obtain ⟨x, hx⟩ : ∃ x, fs.getD k 0 = x := ⟨_, rfl⟩
      rw [hx] at hc
      have HXX := Lib.hid hx
      clear hx
      by_cases hbad : ne x = 0
      · go_wp2_with fail
        refine (rnanos_at x _).mono ?_
        rintro e w1 ⟨rfl, rfl⟩
        go_wp2_with fail
        refine (radd_any T (nv x) p l c hTb.1 hTb.2.1 _).mono ?_
        rintro e w2 ⟨rfl, hb2⟩
        have hs2 := hb2.size
        have HX2 := HX.out.on' hb2
        have HR2 := Lib.hid (HR.out.on' hb2)
        rw [HT.out] at HX2
        have HXP := Lib.hid (HX2.put (.int .i64 (plus T (nv x))) (.slice p l c))
        have HRP := Lib.hid ((HR2.out.set (q := ⟨w.heap.size, 0, none⟩) (by simp) (.int .i64 (plus T (nv x)))).set (q := ⟨w.heap.size, 1, none⟩) (by simp) (.slice p l c))
        have HBP := Lib.hid (((HB.out.trans (hb2.mono HB.out.size)).setCell (p := ⟨w.heap.size, 0, none⟩) (Nat.le_refl _) (.int .i64 (plus T (nv x)))).setCell (p := ⟨w.heap.size, 1, none⟩) (Nat.le_refl _) (.slice p l c))
        obtain ⟨d0, d1, g0, g1⟩ := HX2
        have hgood : Hid (∀ j, j < k + 1 → ne (fs.getD j 0) = 0) := fun j hj => by
          by_cases h : j = k
          · rw [h, HXX.out]; exact hbad
          · exact HG.out j (by omega)
        have hmore := mt_more (t := t) (fs := fs) (k := k) (by rw [← hm.out]; exact hlt)
        rw [HXX.out, HT.out] at hmore
        have HM := Lib.hid hmore
        clear c0 c1 f0 f1 e0 e1 k0 k1 hb2 hmore hc HG
        generalize plus T (nv x) = T2 at HXP HRP HBP HM
        generalize nv x = v
        have hif : ∃ z : Int, (if v < 0 then (2 : Int) else 0) = z := ⟨_, rfl⟩
        obtain ⟨z, hz⟩ := hif
        rw [hz]
        clear hz
        go_wp2_with fail
        go_roundw
        case rel => exact ⟨k + 1, by omega, by go_num, hgood, by rw [HM.out]; exact HXP.out, HRP, HBP⟩
        case measure =>
          show _ < _
          simp only [intOf]; omega
      · go_wp2_with fail
        refine (rnanos_at x _).mono ?_
        rintro e w1 ⟨rfl, rfl⟩
        go_wp2_with fail
        have hk1 := mk_at (fs := fs) (k := k) (by rw [← hm.out]; exact hlt) HG.out (by rw [HXX.out]; exact hbad)
        have hk2 := me_at (fs := fs) (k := k) (by rw [← hm.out]; exact hlt) HG.out (by rw [HXX.out]; exact hbad)
        rw [HXX.out] at hk2
        refine bodyPost_ret (v := .tuple #[.agg #[.int .i64 T, .slice p l c], .int .i64 k, .int .i64 (ne x)]) (by simp [results, Tryd.results24, go_sem, *]) rfl ?_
        exact ⟨by unfold MilV; rw [hk1, hk2, HT.out], (HB.out.setCell (p := ⟨w.heap.size + 1, 0, none⟩) (by simp) _).setCell (p := ⟨w.heap.size + 1, 1, none⟩) (by simp) _⟩
    · obtain rfl : k = m := by omega
      go_wp2_with fail
      have hk1 := mk_all (fs := fs) (fun j hj => HG.out j (by rw [hm.out]; exact hj))
      have hk2 := me_all (fs := fs) (fun j hj => HG.out j (by rw [hm.out]; exact hj))
      refine bodyPost_ret (v := .tuple #[.agg #[.int .i64 T, .slice p l c], .int .i64 k, .int .i64 0]) (by simp [results, Tryd.results24, go_sem, *]) rfl ?_
      exact ⟨by unfold MilV; rw [hk1, hk2, ← hm.out, HT.out], (HB.out.setCell (p := ⟨w.heap.size + 1, 0, none⟩) (by simp) _).setCell (p := ⟨w.heap.size + 1, 1, none⟩) (by simp) _⟩
end Go.Proofs.YtfigkoknhiabnaaDoor
