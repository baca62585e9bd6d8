/- The laws' does and is. -/
import Derived.Test.YtfigkoknhiabnaaDoorKc
import Derived.Test.YtfigkoknhiabnaaDoorCb
namespace Go.Proofs.YtfigkoknhiabnaaDoor
open Go.RowKit Go.Fm Go.Sm Go.Tx

theorem infoRef : (Tryd.prog.info? 32).map (·.size) = some 2 := by kernel_rfl
/-- a clock and the reference's, which have the same -/
structure Both (R : Nat → Prop) (g : Nat) (t : Int) (laps : List Int) (p : Option Addr) (l c : Nat) (w : World) : Prop where
  clk : Clk g t laps w
  len : l = laps.length
  nl : p = none → c = 0
  lies : LiesN R .i64 w p laps
  rg : R g
  rlt : ∀ k, R k → k < w.heap.size
theorem Both.on {R : Nat → Prop} {g : Nat} {t : Int} {laps : List Int} {p : Option Addr} {l c : Nat} {w w' : World} (h : Both R g t laps p l c w) (hb : Below w.heap.size w w') : Both R g t laps p l c w' := ⟨h.clk.on' hb, h.len, h.nl, h.lies.on hb, h.rg, fun k hk => Nat.lt_of_lt_of_le (h.rlt k hk) hb.size⟩
/-- what an act makes of the time and the laps -/
def dt (t : Int) (x : ActV) : Int := if x.d = 0 ∨ x.d = 1 then plus t x.n else if x.d = 2 then mt t x.fs (mk x.fs) else t
def dl (t : Int) (laps : List Int) (x : ActV) : List Int := if x.d = 3 then mark laps t else laps
def DoesPost (R : Nat → Prop) (g : Nat) (t : Int) (laps : List Int) (x : ActV) (w : World) (e : Ending) (w' : World) : Prop :=
  ∃ p l c, e = .returned (.tuple #[.agg #[.int .i64 (dt t x), .slice p l c], .bool true]) ∧ Both R g (dt t x) (dl t laps x) p l c w' ∧ Tch (· = g) w w'

set_option maxHeartbeats 1000000 in
theorem does_add {R : Nat → Prop} {g : Nat} {t n : Int} {laps : List Int} {p q : Option Addr} {l c m cq : Nat} (d : Int) (w : World) (h : Both R g t laps p l c w) (hd : d = 0 ∨ d = 1) :
    Calls Tryd.prog 10 #[.pointer (some ⟨g, 0, none⟩), .agg #[.int .i64 t, .slice p l c], .agg #[.int .i64 d, .int .i64 n, .slice q m cq]] w (fun e w' => e = .returned (.tuple #[.agg #[.int .i64 (plus t n), .slice p l c], .bool true]) ∧ Clk g (plus t n) laps w' ∧ Tch (· = g) w w') := by
  have h1 := h.clk.lo
  have h2 := h.clk.hi
  have hgl := h.clk.lt
  have HC := Lib.hid h.clk
  clear h
  obtain ⟨u, hu⟩ : ∃ u, plus t n = u := ⟨_, rfl⟩
  obtain ⟨z, hz⟩ : ∃ z, (if n < 0 then (2 : Int) else 0) = z := ⟨_, rfl⟩
  have c1 := fun w => radd_any t n p l c h1 h2 w
  have c2 := fun w (h : Clk g t laps w) => add_any n w h
  rw [hu]
  rw [hu, hz] at c1 c2
  clear hu hz h1 h2
  have R2 := Row.new' ((w.alloc (.cells #[.int .i64 t, .slice p l c] 32)).alloc (.cells #[.int .i64 d, .int .i64 n, .slice q m cq] 39)) 32 [.int .i64 0, .slice none 0 0] (w.heap.size + 1 + 1) (by simp)
  have R1 := (Row.new' (w.alloc (.cells #[.int .i64 t, .slice p l c] 32)) 39 [.int .i64 d, .int .i64 n, .slice q m cq] (w.heap.size + 1) (by simp)).on' ((Below.refl _ _).alloc (Nat.le_refl _) (.cells #[.int .i64 0, .slice none 0 0] 32))
  have T0 := ((Tch.refl (· = g) w).alloc (.cells #[.int .i64 t, .slice p l c] 32)).alloc (.cells #[.int .i64 d, .int .i64 n, .slice q m cq] 39) |>.alloc (.cells #[.int .i64 0, .slice none 0 0] 32)
  have HC3 := Lib.hid (((HC.out.on' ((Below.refl _ _).alloc (Nat.le_refl _) (.cells #[.int .i64 t, .slice p l c] 32))).on' ((Below.refl _ _).alloc (Nat.le_refl _) (.cells #[.int .i64 d, .int .i64 n, .slice q m cq] 39))).on' ((Below.refl _ _).alloc (Nat.le_refl _) (.cells #[.int .i64 0, .slice none 0 0] 32)))
  have HR := Lib.hid (And.intro R1 (And.intro R2 T0))
  clear R1 R2 T0 HC
  rcases hd with rfl | rfl
  all_goals
    go_enter Tryd.func10, Tryd.ntmps10
    go_wp2_with fail
    refine (c1 _).mono ?_
    rintro e w1 ⟨rfl, hb1⟩
    have HR1 := Lib.hid (And.intro (HR.out.1.on' hb1) (And.intro (HR.out.2.1.on' hb1) (HR.out.2.2.then hb1)))
    have HC1 := Lib.hid (HC3.out.on' hb1)
    have hs1 := HR1.out.2.1.lt
    clear hb1 HR HC3
    go_wp2_with fail
    have ba := (Below.refl w1.heap.size w1).alloc (Nat.le_refl _) (.cells #[.int .i64 u, .slice p l c] 32)
    have R8 := Row.new w1 32 [.int .i64 u, .slice p l c]
    have HR2 := Lib.hid (And.intro (HR1.out.1.on' ba) (And.intro (HR1.out.2.1.on' ba) (And.intro (HR1.out.2.2.then ba) R8)))
    have HC2 := Lib.hid (HC1.out.on' ba)
    obtain ⟨B, hB⟩ : ∃ B, w1.heap.size = B := ⟨_, rfl⟩
    obtain ⟨W, hW⟩ : ∃ W, w1.alloc (.cells #[.int .i64 u, .slice p l c] 32) = W := ⟨_, rfl⟩
    have e8 : ¬ B = g := by omega
    have e2 : ¬ w.heap.size + 1 + 1 = g := by omega
    have e1 : ¬ w.heap.size + 1 = g := by omega
    rw [hB] at HR2 hs1 ⊢
    rw [show w1.alloc (.cells [.int .i64 u, .slice p l c].toArray 32) = W from hW] at HR2
    rw [hW] at HC2 ⊢
    clear ba R8 HR1 HC1 hW hB
    have k1 := HR2.out.1.cell 1
    obtain ⟨k80, k81, -, -⟩ := HR2.out.2.2.2.two
    go_region_with (go_at_call 13; refine (c2 _ (HC2.out.drew)).mono ?_; rintro e w3 ⟨rfl, hC3, hT3⟩; obtain ⟨a80, a81, -, -⟩ := (HR2.out.2.2.2.drew.tch hT3 e8).two; obtain ⟨a20, a21, b20, b21⟩ := (HR2.out.2.1.drew.tch hT3 e2).two)
    all_goals
      go_wp2
      refine bodyPost_ret (v := .tuple #[.agg #[.int .i64 u, .slice p l c], .bool true]) (by simp [results, Tryd.results10, go_sem, *]) rfl ⟨rfl, (hC3.far (p := ⟨w.heap.size + 1 + 1, 0, none⟩) (fun h => e2 h.symm) _).far (p := ⟨w.heap.size + 1 + 1, 1, none⟩) (fun h => e2 h.symm) _, ?_⟩
      exact (((HR2.out.2.2.1.then (Below.refl _ _).drew).trans hT3).setCell (p := ⟨w.heap.size + 1 + 1, 0, none⟩) (.inr (by show _ ≤ _ + 1 + 1; omega)) _).setCell (p := ⟨w.heap.size + 1 + 1, 1, none⟩) (.inr (by show _ ≤ _ + 1 + 1; omega)) _
end Go.Proofs.YtfigkoknhiabnaaDoor
