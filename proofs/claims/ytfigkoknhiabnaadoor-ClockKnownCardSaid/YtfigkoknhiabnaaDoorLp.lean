/- The law ClockPlays. -/
import Derived.Test.YtfigkoknhiabnaaDoorKh
import Derived.Test.YtfigkoknhiabnaaDoorKg
import Derived.Test.YtfigkoknhiabnaaDoorKf
import Derived.Deep.DeepCutAuto
import Derived.Deep.Cut
import Derived.Deep.RegionWith
import Derived.Deep.RegionHeld3
namespace Go.Proofs.YtfigkoknhiabnaaDoor
open Go.RowKit Go.Fm Go.Sm Go.Tx

/-- the acts, in blocks below B -/
theorem IsAct.fn {w : World} {b o g : Nat} {x : ActV} (h : IsAct w b o x) (hl : x.l ≤ 20) (hg : w.heap.size ≤ g) {w' : World} (hb : Below w.heap.size w w') : LiesFN (· = g) w' x.p x.fs := by
  refine ⟨by rw [← h.fl]; omega, fun j hj => ?_⟩
  obtain ⟨b', o', hp, hc⟩ := h.fc j hj
  have hlt := block_lt_of_cell hc
  exact ⟨b', o', hp, fun e => by have : b' < w.heap.size := hlt; omega, by rw [hb.cell hlt]; exact hc⟩

/-- the law's own clocks: where a round begins -/
def PR (w : World) (b : Nat) : Prop := b = w.heap.size ∨ b = w.heap.size + 1
structure PSt (w : World) (T : Int) (LA : List Int) (p : Option Addr) (l c : Nat) (w' : World) : Prop where
  clk : Clk w.heap.size T LA w'
  ref : Row (w.heap.size + 1) 32 [.int .i64 T, .slice p l c] w'
  len : l = LA.length
  nl : p = none → c = 0
  lies : LiesN (PR w) .i64 w' p LA
  bel : Below w.heap.size w w'
theorem PSt.on {w w1 w2 : World} {T : Int} {LA : List Int} {p : Option Addr} {l c : Nat} (h : PSt w T LA p l c w1) (hb : Below w1.heap.size w1 w2) : PSt w T LA p l c w2 :=
  ⟨h.clk.on' hb, h.ref.on' hb, h.len, h.nl, h.lies.on hb, h.bel.trans (hb.mono h.bel.size)⟩
/-- behind the copies -/
structure PCp (w : World) (T : Int) (LA : List Int) (p : Option Addr) (l c g2 b2 : Nat) (wr w' : World) : Prop where
  st : PSt w T LA p l c w'
  clk : Clk g2 T LA w'
  ref : Row b2 32 [.int .i64 T, .slice p l c] w'
  g : w.heap.size + 1 < g2
  b : w.heap.size + 1 < b2
theorem p_start {w wr : World} {T : Int} {LA : List Int} {p : Option Addr} {l c : Nat} (h : PSt w T LA p l c wr) : (wr.drew.cell? ⟨w.heap.size + 1, 0, none⟩ = some (.int .i64 T) ∧ wr.drew.cell? ⟨w.heap.size + 1, 1, none⟩ = some (.slice p l c)) ∧ Below wr.heap.size wr wr.drew := ⟨⟨h.ref.two.1, h.ref.two.2.1⟩, (Below.refl _ _).drew⟩
theorem p_keep {w wr w1 w2 : World} {T : Int} {LA : List Int} {p : Option Addr} {l c : Nat} {a b : Value} (h : PSt w T LA p l c wr) (hs : (w1.cell? ⟨w.heap.size + 1, 0, none⟩ = some a ∧ w1.cell? ⟨w.heap.size + 1, 1, none⟩ = some b) ∧ Below wr.heap.size wr w1) (hb : Below w1.heap.size w1 w2) : (w2.cell? ⟨w.heap.size + 1, 0, none⟩ = some (.int .i64 T) ∧ w2.cell? ⟨w.heap.size + 1, 1, none⟩ = some (.slice p l c)) ∧ Below wr.heap.size wr w2 := by
  have h2 := hs.2.trans (hb.mono hs.2.size)
  have := h.on h2
  exact ⟨⟨this.ref.two.1, this.ref.two.2.1⟩, h2⟩
theorem p_far {w wr w3 : World} {T : Int} {LA : List Int} {p : Option Addr} {l c : Nat} (h : PSt w T LA p l c wr) (hb : Below wr.heap.size wr.drew w3) (o : Obj) : ((w3.alloc o).cell? ⟨w.heap.size + 1, 0, none⟩ = some (.int .i64 T) ∧ (w3.alloc o).cell? ⟨w.heap.size + 1, 1, none⟩ = some (.slice p l c)) ∧ Below wr.heap.size wr (w3.alloc o) := by
  have h2 : Below wr.heap.size wr (w3.alloc o) := ((Below.refl _ _).drew.trans hb).alloc hb.size o
  have := h.on h2
  exact ⟨⟨this.ref.two.1, this.ref.two.2.1⟩, h2⟩
theorem p_set {w wr w1 : World} {T : Int} {LA : List Int} {p : Option Addr} {l c : Nat} {a b : Value} (h : PSt w T LA p l c wr) (hs : (w1.cell? ⟨w.heap.size + 1, 0, none⟩ = some a ∧ w1.cell? ⟨w.heap.size + 1, 1, none⟩ = some b) ∧ Below wr.heap.size wr w1) (u v : Value) : (((w1.setCell ⟨wr.heap.size, 0, none⟩ u).setCell ⟨wr.heap.size, 1, none⟩ v).cell? ⟨w.heap.size + 1, 0, none⟩ = some (.int .i64 T) ∧ ((w1.setCell ⟨wr.heap.size, 0, none⟩ u).setCell ⟨wr.heap.size, 1, none⟩ v).cell? ⟨w.heap.size + 1, 1, none⟩ = some (.slice p l c)) ∧ Below wr.heap.size wr ((w1.setCell ⟨wr.heap.size, 0, none⟩ u).setCell ⟨wr.heap.size, 1, none⟩ v) := by
  have h2 := (hs.2.setCell (p := ⟨wr.heap.size, 0, none⟩) (Nat.le_refl _) u).setCell (p := ⟨wr.heap.size, 1, none⟩) (Nat.le_refl _) v
  have := h.on h2
  exact ⟨⟨this.ref.two.1, this.ref.two.2.1⟩, h2⟩
theorem p_clk {w wr w1 : World} {T : Int} {LA : List Int} {p : Option Addr} {l c : Nat} {a b : Value} (h : PSt w T LA p l c wr) (hs : (w1.cell? ⟨w.heap.size + 1, 0, none⟩ = some a ∧ w1.cell? ⟨w.heap.size + 1, 1, none⟩ = some b) ∧ Below wr.heap.size wr w1) : Clk w.heap.size T LA w1 := (h.on hs.2).clk
theorem PSt.both {w wr : World} {T : Int} {LA : List Int} {p : Option Addr} {l c : Nat} (h : PSt w T LA p l c wr) : Both (PR w) w.heap.size T LA p l c wr :=
  ⟨h.clk, h.len, h.nl, h.lies, .inl rfl, fun k hk => by have := h.ref.lt; rcases hk with hk | hk <;> omega⟩
/-- the act's cells, and the reference's -/
abbrev P9 (w wc : World) (T : Int) (p : Option Addr) (l c b o : Nat) (x : ActV) (w' : World) : Prop := (w'.cell? ⟨w.heap.size + 1, 0, none⟩ = some (.int .i64 T) ∧ w'.cell? ⟨w.heap.size + 1, 1, none⟩ = some (.slice p l c)) ∧ (w'.cell? ⟨b, o, none⟩ = some (.int .i64 x.d) ∧ w'.cell? ⟨b, o + 1, none⟩ = some (.int .i64 x.n) ∧ w'.cell? ⟨b, o + 2, none⟩ = some (.slice x.p x.l x.c)) ∧ Tch (· = w.heap.size) wc w'
/-- whatever the clock does -/
theorem p9 {w wc w' : World} {T : Int} {LA : List Int} {p : Option Addr} {l c b o : Nat} {x : ActV} (h : PSt w T LA p l c wc) (ha : IsAct w b o x) (ht : Tch (· = w.heap.size) wc w') : P9 w wc T p l c b o x w' := by
  have hr := h.ref.tch ht (by omega)
  have hb : b < w.heap.size := block_lt_of_cell ha.c0
  have k (q : Addr) (v : Value) (hq : w.cell? q = some v) (hqb : q.block = b) : w'.cell? q = some v := by
    refine ht.cell ?_ (by show ¬ q.block = w.heap.size; omega)
    rw [h.bel.cell (by omega)]; exact hq
  exact ⟨⟨hr.two.1, hr.two.2.1⟩, ⟨k _ _ ha.c0 rfl, k _ _ ha.c1 rfl, k _ _ ha.c2 rfl⟩, ht⟩
theorem p9_start {w wc : World} {T : Int} {LA : List Int} {p : Option Addr} {l c b o : Nat} {x : ActV} (h : PSt w T LA p l c wc) (ha : IsAct w b o x) : P9 w wc T p l c b o x wc.drew := p9 h ha (.of _ (Below.refl _ _).drew : Tch (· = w.heap.size) wc wc.drew)
theorem p9_alloc {w wc w1 : World} {T : Int} {LA : List Int} {p : Option Addr} {l c b o : Nat} {x : ActV} {A B : Prop} (h : PSt w T LA p l c wc) (ha : IsAct w b o x) (hs : A ∧ B ∧ Tch (· = w.heap.size) wc w1) (ob : Obj) : P9 w wc T p l c b o x (w1.alloc ob) := p9 h ha (hs.2.2.alloc ob)
theorem p9_keep {w wc w1 w2 : World} {T : Int} {LA : List Int} {p : Option Addr} {l c b o : Nat} {x : ActV} {A B : Prop} (h : PSt w T LA p l c wc) (ha : IsAct w b o x) (hs : A ∧ B ∧ Tch (· = w.heap.size) wc w1) (ht : Tch (· = w.heap.size) w1 w2) : P9 w wc T p l c b o x w2 := p9 h ha (hs.2.2.trans ht)
theorem p9_far {w wc w1 : World} {T : Int} {LA : List Int} {p : Option Addr} {l c b o : Nat} {x : ActV} (h : PSt w T LA p l c wc) (ha : IsAct w b o x) (ht : Tch (· = w.heap.size) wc.drew w1) (ob : Obj) : P9 w wc T p l c b o x (w1.alloc ob) := p9 h ha ((Tch.trans (.of _ (Below.refl _ _).drew : Tch (· = w.heap.size) wc wc.drew) ht).alloc ob)
theorem p9_set {w wc w1 : World} {T : Int} {LA : List Int} {p : Option Addr} {l c b o : Nat} {x : ActV} {A B : Prop} (h : PSt w T LA p l c wc) (ha : IsAct w b o x) (hs : A ∧ B ∧ Tch (· = w.heap.size) wc w1) (u v : Value) : P9 w wc T p l c b o x ((w1.setCell ⟨wc.heap.size, 0, none⟩ u).setCell ⟨wc.heap.size, 1, none⟩ v) := p9 h ha ((hs.2.2.setCell (p := ⟨wc.heap.size, 0, none⟩) (.inr (Nat.le_refl _)) u).setCell (p := ⟨wc.heap.size, 1, none⟩) (.inr (Nat.le_refl _)) v)
/-- behind the act -/
structure PAc (w : World) (T : Int) (LA : List Int) (p : Option Addr) (l c b3 : Nat) (wc w' : World) : Prop where
  both : Both (PR w) w.heap.size T LA p l c w'
  tch : Tch (· = w.heap.size) wc w'
  ref : Row b3 32 [.int .i64 T, .slice p l c] w'
  b : wc.heap.size ≤ b3
theorem LiesN.also {S : Nat → Prop} {k : IntKind} {w : World} {p : Option Addr} {zs : List Int} (h : LiesN S k w p zs) : LiesN (fun b => S b ∨ b = w.heap.size) k w p zs :=
  ⟨h.len, fun j hj => by
    obtain ⟨b, o, hp, hs, hc⟩ := h.cells j hj
    have : b < w.heap.size := block_lt_of_cell hc
    exact ⟨b, o, hp, fun e => by rcases e with e | e; exact hs e; omega, hc⟩⟩
theorem Both.also {R : Nat → Prop} {g : Nat} {t : Int} {laps : List Int} {p : Option Addr} {l c : Nat} {w w' : World} (h : Both R g t laps p l c w) (hb : Below w.heap.size w w') (hs : w.heap.size < w'.heap.size) : Both (fun b => R b ∨ b = w.heap.size) g t laps p l c w' :=
  ⟨h.clk.on' hb, h.len, h.nl, h.lies.also.on hb, .inl h.rg, fun k hk => by rcases hk with hk | hk; exact Nat.lt_of_lt_of_le (h.rlt k hk) hb.size; omega⟩
theorem Both.less {R R' : Nat → Prop} {g : Nat} {t : Int} {laps : List Int} {p : Option Addr} {l c : Nat} {w : World} (h : Both R g t laps p l c w) (hr : ∀ b, R' b → R b) (hg : R' g) : Both R' g t laps p l c w :=
  ⟨h.clk, h.len, h.nl, h.lies.less hr, hg, fun k hk => h.rlt k (hr k hk)⟩
theorem Both.set {R : Nat → Prop} {g : Nat} {t : Int} {laps : List Int} {p : Option Addr} {l c : Nat} {w : World} (h : Both R g t laps p l c w) {q : Addr} (hq : R q.block) (hg : g ≠ q.block) (v : Value) : Both R g t laps p l c (w.setCell q v) :=
  ⟨h.clk.far hg v, h.len, h.nl, h.lies.tch ((Tch.refl R w).setCell (.inl hq) v), h.rg, fun k hk => by simpa [World.setCell] using h.rlt k hk⟩
theorem PAc.far {w wc w3 : World} {T : Int} {LA : List Int} {p : Option Addr} {l c : Nat} (hbo : Both (PR w) w.heap.size T LA p l c w3) (ht3 : Tch (· = w.heap.size) wc.drew w3) : PAc w T LA p l c w3.heap.size wc (w3.alloc (.cells #[.int .i64 T, .slice p l c] 32)) :=
  ⟨hbo.on ((Below.refl _ _).alloc (Nat.le_refl _) _), (Tch.trans (.of _ (Below.refl _ _).drew : Tch (· = w.heap.size) wc wc.drew) ht3).alloc _, Row.new w3 _ _, ht3.size⟩
theorem PAc.near {w wc w3 : World} {T : Int} {LA : List Int} {p : Option Addr} {l c : Nat} (hbo : Both (fun b => PR w b ∨ b = wc.heap.size) w.heap.size T LA p l c w3) (ht3 : Tch (· = w.heap.size) (wc.alloc (.cells #[.int .i64 0, .slice none 0 0] 32)).drew w3)
    (hr : Row wc.heap.size 32 [.int .i64 0, .slice none 0 0] w3) (hw : w.heap.size + 1 < wc.heap.size) : PAc w T LA p l c wc.heap.size wc ((w3.setCell ⟨wc.heap.size, 0, none⟩ (.int .i64 T)).setCell ⟨wc.heap.size, 1, none⟩ (.slice p l c)) :=
  ⟨((hbo.set (q := ⟨wc.heap.size, 0, none⟩) (.inr rfl) (by show _ ≠ wc.heap.size; omega) _).set (q := ⟨wc.heap.size, 1, none⟩) (.inr rfl) (by show _ ≠ wc.heap.size; omega) _).less (fun _ h => .inl h) (.inl rfl),
    ((Tch.trans (.of _ ((Below.refl _ _).alloc (Nat.le_refl _) _).drew : Tch (· = w.heap.size) wc (wc.alloc (.cells #[.int .i64 0, .slice none 0 0] 32)).drew) ht3).setCell (p := ⟨wc.heap.size, 0, none⟩) (.inr (Nat.le_refl _)) _).setCell (p := ⟨wc.heap.size, 1, none⟩) (.inr (Nat.le_refl _)) _,
    hr.put2 _ _, Nat.le_refl _⟩
/-- the reference's clock is laid back -/
theorem PSt.back {w wc wx : World} {T T2 : Int} {LA LA2 : List Int} {p p2 : Option Addr} {l c l2 c2 b3 : Nat} (h : PSt w T LA p l c wc) (ha : PAc w T2 LA2 p2 l2 c2 b3 wc wx) : PSt w T2 LA2 p2 l2 c2 ((wx.setCell ⟨w.heap.size + 1, 0, none⟩ (.int .i64 T2)).setCell ⟨w.heap.size + 1, 1, none⟩ (.slice p2 l2 c2)) where
  clk := (ha.both.clk.far (p := ⟨w.heap.size + 1, 0, none⟩) (by show _ ≠ w.heap.size + 1; omega) _).far (p := ⟨w.heap.size + 1, 1, none⟩) (by show _ ≠ w.heap.size + 1; omega) _
  ref := (h.ref.tch ha.tch (by omega)).put2 _ _
  len := ha.both.len
  nl := ha.both.nl
  lies := ha.both.lies.tch (((Tch.refl (PR w) wx).setCell (p := ⟨w.heap.size + 1, 0, none⟩) (.inl (.inr rfl)) _).setCell (p := ⟨w.heap.size + 1, 1, none⟩) (.inl (.inr rfl)) _)
  bel := ((h.bel.trans (ha.tch.below h.bel.size (fun k hk => by omega))).setCell (p := ⟨w.heap.size + 1, 0, none⟩) (by show _ ≤ w.heap.size + 1; omega) _).setCell (p := ⟨w.heap.size + 1, 1, none⟩) (by show _ ≤ w.heap.size + 1; omega) _
/-- the copies stay -/
theorem PCp.back {w wr wc wx : World} {T T2 : Int} {LA LA2 : List Int} {p p2 : Option Addr} {l c l2 c2 b3 g2 b2 : Nat} (h : PCp w T LA p l c g2 b2 wr wc) (ha : PAc w T2 LA2 p2 l2 c2 b3 wc wx) (u v : Value) :
    Clk g2 T LA ((wx.setCell ⟨w.heap.size + 1, 0, none⟩ u).setCell ⟨w.heap.size + 1, 1, none⟩ v) ∧ Row b2 32 [.int .i64 T, .slice p l c] ((wx.setCell ⟨w.heap.size + 1, 0, none⟩ u).setCell ⟨w.heap.size + 1, 1, none⟩ v) ∧ Lies .i64 ((wx.setCell ⟨w.heap.size + 1, 0, none⟩ u).setCell ⟨w.heap.size + 1, 1, none⟩ v) p LA := by
  have hg := h.g
  have hb := h.b
  refine ⟨((h.clk.tch ha.tch (by omega)).far (p := ⟨w.heap.size + 1, 0, none⟩) (by show _ ≠ w.heap.size + 1; omega) _).far (p := ⟨w.heap.size + 1, 1, none⟩) (by show _ ≠ w.heap.size + 1; omega) _,
    ((h.ref.tch ha.tch (by omega)).far (p := ⟨w.heap.size + 1, 0, none⟩) (by show _ ≠ w.heap.size + 1; omega) _).far (p := ⟨w.heap.size + 1, 1, none⟩) (by show _ ≠ w.heap.size + 1; omega) _, ?_⟩
  exact ((h.st.lies.tch (ha.tch.wide fun _ e => .inl e)).tch (((Tch.refl (PR w) wx).setCell (p := ⟨w.heap.size + 1, 0, none⟩) (.inl (.inr rfl)) _).setCell (p := ⟨w.heap.size + 1, 1, none⟩) (.inl (.inr rfl)) _)).lies
set_option maxHeartbeats 4000000 in
theorem law_plays (xs : List ActV) (p : Option Addr) (l c : Nat) (t d : Int) (ht : t ≤ 9223372036854775807) (w : World) (hx : IsActs w p l c xs) (henv : Env w.heap.size w) :
    Calls Tryd.prog 3 #[.slice p l c, .int .i64 t, .int .i64 d] w (Ans (.bool true) w) := by
  have HE := Lib.hid henv
  have HX := Lib.hid hx
  have hlm := hx.lm
  unfold maxLen at hlm
  have HL := Lib.hid hx.len
  clear hx henv
  go_enter Tryd.func3, Tryd.ntmps3
  go_wp2_with fail
  refine (few_any xs 100 p l c _ HX.out (by decide)).mono ?_
  rintro e w' ⟨r, rfl, rfl, hr⟩
  have HR := Lib.hid hr
  clear hr
  cases r with
  | false =>
    go_wp2_with fail
    refine (works_any _ HE.out).mono ?_
    rintro e w2 ⟨rfl, hb2⟩
    go_wp2
    go_ret
    exact ⟨rfl, hb2⟩
  | true =>
    have HF := Lib.hid (HR.out rfl)
    have hl100 : l ≤ 100 := by rw [HL.out]; exact HF.out.1
    clear HR
    have hc0 := Clk.new' w w.heap.size rfl
    have ba := (Below.refl _ _).alloc (Nat.le_refl (w.alloc (.cells Tryd.zeroCells29 29)).heap.size) (.cells #[.int .i64 0, .slice none 0 0] 32)
    have HC0 := Lib.hid (hc0.on' ba)
    have HR0 := Lib.hid (Row.new' (w.alloc (.cells Tryd.zeroCells29 29)) 32 [.int .i64 0, .slice none 0 0] (w.heap.size + 1) (by simp))
    have HB0 := Lib.hid (grow2 (w := w) (.cells Tryd.zeroCells29 29) (.cells #[.int .i64 0, .slice none 0 0] 32) (.refl _ _))
    clear hc0 ba
    go_wp2_with fail
    obtain ⟨W, hW⟩ : ∃ W, (w.alloc (.cells Tryd.zeroCells29 29)).alloc (.cells #[.int .i64 0, .slice none 0 0] 32) = W := ⟨_, rfl⟩
    rw [show (w.alloc (.cells Tryd.zeroCells29 29)).alloc (.cells [.int .i64 0, .slice none 0 0].toArray 32) = W from hW] at HR0
    rw [hW] at HC0 HB0 ⊢
    clear hW
    go_loopw [9] (fun vi wr => ∃ k : Nat, k ≤ l ∧ vi = .int .i64 k ∧ ∃ T LA p1 l1 c1, Hid (PSt w T LA p1 l1 c1 wr)) (fun vi _ => l - (intOf vi).toNat)
    case atStart => exact ⟨0, by omega, rfl, 0, [], none, 0, 0, ⟨HC0.out, HR0.out, rfl, fun _ => rfl, .nil _ _ _ _, HB0.out⟩⟩
    case round =>
      obtain ⟨k, hk, rfl, T, LA, p1, l1, c1, HP⟩ := hrel
      clear HC0 HR0 HB0
      have hsz := HP.out.ref.lt
      by_cases hkl : k < l
      · obtain ⟨r0, r1, -, -⟩ := HP.out.ref.two
        go_wp2_with fail
        go_cut [10, 11] (fun v10 v11 wx => ∃ g2 b2, v10 = .pointer (some ⟨g2, 0, none⟩) ∧ v11 = .pointer (some ⟨b2, 0, none⟩) ∧ Hid (PCp w T LA p1 l1 c1 g2 b2 wr wx))
        case first =>
          have hP1 := HP.out.on (Below.refl _ _).drew
          have hA := (Below.refl wr.heap.size wr).alloc (Nat.le_refl _) (.cells #[.int .i64 0, .slice none 0 0] 32)
          have hP2 := HP.out.on hA.drew
          have hR2 := (Row.new wr 32 [.int .i64 0, .slice none 0 0]).drew
          have HQ := Lib.hid (And.intro hP1 (And.intro hP2 hR2))
          clear hP1 hP2 hR2 hA r0 r1
          go_region_held3 (fun w' => (w'.cell? ⟨w.heap.size + 1, 0, none⟩ = some (.int .i64 T) ∧ w'.cell? ⟨w.heap.size + 1, 1, none⟩ = some (.slice p1 l1 c1)) ∧ Below wr.heap.size wr w') (first | exact p_start HP.out | exact p_keep HP.out (by assumption) (by assumption) | exact p_keep HP.out (by assumption) (.alloc (.refl _ _) (Nat.le_refl _) _) | exact p_far HP.out (by assumption) _ | exact p_set HP.out (by assumption) _ _)
            (first | (go_at_call 9; first | ((with_reducible refine (copy_any _ HQ.out.1.clk).mono ?_); rintro e w3 ⟨g2, rfl, hC3, hg3, hb3⟩) | ((with_reducible refine (copy_any _ HQ.out.2.1.clk).mono ?_); rintro e w3 ⟨g2, rfl, hC3, hg3, hb3⟩; obtain ⟨d0, d1, e0, e1⟩ := (HQ.out.2.2.on' hb3).two)))
          · have q1 : wr.heap.size ≤ g2 := hg3
            have q2 : wr.heap.size ≤ w3.heap.size := hb3.size
            have bb := (Below.refl w3.heap.size w3).alloc (Nat.le_refl _) (.cells #[.int .i64 T, .slice p1 l1 c1] 32)
            have HM : Hid (PCp w T LA p1 l1 c1 g2 w3.heap.size wr _) := ⟨(HQ.out.1.on hb3).on bb, hC3.on' bb, Row.new w3 _ _, by omega, by omega⟩
            clear hC3 hg3 hb3 bb
            go_wp2_with fail
            go_meet
            exact ⟨g2, _, rfl, rfl, HM⟩
          · have q1 : wr.heap.size + 1 ≤ g2 := by have : (wr.alloc (.cells #[.int .i64 0, .slice none 0 0] 32)).heap.size ≤ g2 := hg3; simpa using this
            have bb : Below wr.heap.size wr ((w3.setCell ⟨wr.heap.size, 0, none⟩ (.int .i64 T)).setCell ⟨wr.heap.size, 1, none⟩ (.slice p1 l1 c1)) := (((((Below.refl _ _).alloc (Nat.le_refl _) _).drew.trans (hb3.mono (by show _ ≤ (wr.alloc _).heap.size; simp))).setCell (p := ⟨wr.heap.size, 0, none⟩) (Nat.le_refl _) _).setCell (p := ⟨wr.heap.size, 1, none⟩) (Nat.le_refl _) _)
            have HM : Hid (PCp w T LA p1 l1 c1 g2 wr.heap.size wr _) := ⟨HP.out.on bb, (hC3.far (p := ⟨wr.heap.size, 0, none⟩) (by show g2 ≠ wr.heap.size; omega) _).far (p := ⟨wr.heap.size, 1, none⟩) (by show g2 ≠ wr.heap.size; omega) _, (HQ.out.2.2.on' hb3).put2 _ _, by omega, by omega⟩
            clear hC3 hg3 hb3 bb d0 d1 e0 e1
            go_wp2_with fail
            go_meet
            exact ⟨g2, _, rfl, rfl, HM⟩
        case rest =>
          obtain ⟨g2, b2, rfl, rfl, HCp⟩ := hcut
          obtain ⟨b, o, rfl, hact⟩ := HX.out.act k (by rw [← HL.out]; exact hkl)
          obtain ⟨x, hx⟩ : ∃ x, xs.getD k default = x := ⟨_, rfl⟩
          have h20 : x.l ≤ 20 := by rw [← hx]; exact HF.out.2 k (by rw [← HL.out]; exact hkl)
          rw [hx] at hact
          have HAct := Lib.hid hact
          clear hact hx r0 r1
          have hB1 := HCp.out.st.on (Below.refl _ _).drew
          have hA := (Below.refl wc.heap.size wc).alloc (Nat.le_refl _) (.cells #[.int .i64 0, .slice none 0 0] 32)
          have hB2 := HCp.out.st.on hA.drew
          have hR2 := (Row.new wc 32 [.int .i64 0, .slice none 0 0]).drew
          have HQ := Lib.hid (And.intro (And.intro hB1.both (HAct.out.fn h20 (Nat.le_refl _) hB1.bel)) (And.intro (And.intro (HCp.out.st.both.also hA.drew (by show _ < (wc.alloc _).heap.size; simp)) (HAct.out.fn h20 (Nat.le_refl _) hB2.bel)) hR2))
          have hwc : w.heap.size + 1 < wc.heap.size := HCp.out.st.ref.lt
          clear hB1 hB2 hR2 hA
          obtain ⟨T2, hT2⟩ : ∃ T2, dt T x = T2 := ⟨_, rfl⟩
          obtain ⟨LA2, hLA2⟩ : ∃ LA2, dl T LA x = LA2 := ⟨_, rfl⟩
          have HT2 := Lib.hid hT2
          have HLA2 := Lib.hid hLA2
          clear hT2 hLA2
          go_wp2_with fail
          go_cut [12, 13] (fun v12 v13 wx => ∃ p2 l2 c2 b3, v12 = .pointer (some ⟨b3, 0, none⟩) ∧ v13 = .bool true ∧ Hid (PAc w T2 LA2 p2 l2 c2 b3 wc wx))
          case first =>
            have i1 : (0 : Int) ≤ (k : Int) := by omega
            have i2 : (k : Int) < (l : Int) := by omega
            go_region_held3 (fun w' => (w'.cell? ⟨w.heap.size + 1, 0, none⟩ = some (.int .i64 T) ∧ w'.cell? ⟨w.heap.size + 1, 1, none⟩ = some (.slice p1 l1 c1)) ∧ (w'.cell? ⟨b, o + k * 3, none⟩ = some (.int .i64 x.d) ∧ w'.cell? ⟨b, o + k * 3 + 1, none⟩ = some (.int .i64 x.n) ∧ w'.cell? ⟨b, o + k * 3 + 2, none⟩ = some (.slice x.p x.l x.c)) ∧ Tch (· = w.heap.size) wc w') (first | exact p9_start HCp.out.st HAct.out | exact p9_alloc HCp.out.st HAct.out (by assumption) _ | exact p9_keep HCp.out.st HAct.out (by assumption) (by assumption) | exact p9_far HCp.out.st HAct.out (by assumption) _ | exact p9_set HCp.out.st HAct.out (by assumption) _ _)
              (first | (go_at_call 10; first | ((with_reducible refine (does_any x _ HQ.out.1.1 h20 HAct.out.fl HQ.out.1.2).mono ?_); rintro e w3 ⟨p2, l2, c2, rfl, hbo, ht3⟩) | ((with_reducible refine (does_any x _ HQ.out.2.1.1 h20 HAct.out.fl HQ.out.2.1.2).mono ?_); rintro e w3 ⟨p2, l2, c2, rfl, hbo, ht3⟩; obtain ⟨d0, d1, e0, e1⟩ := (HQ.out.2.2.tch ht3 (by omega)).two)))
            · have HM := Lib.hid (PAc.far hbo ht3)
              rw [HT2.out, HLA2.out] at HM
              clear hbo ht3
              rw [HT2.out]
              go_wp2_with fail
              go_meet
              exact ⟨p2, l2, c2, _, rfl, rfl, HM⟩
            · have HM := Lib.hid (PAc.near hbo ht3 (HQ.out.2.2.tch ht3 (by omega)) hwc)
              rw [HT2.out, HLA2.out] at HM
              clear hbo ht3 d0 d1 e0 e1
              rw [HT2.out]
              go_wp2_with fail
              go_meet
              exact ⟨p2, l2, c2, _, rfl, rfl, HM⟩
          case rest =>
            clear HQ
            obtain ⟨p2, l2, c2, b3, rfl, rfl, HAc⟩ := hcut
            obtain ⟨a0, a1, -, -⟩ := HAc.out.ref.two
            obtain ⟨r0, r1, f0, f1⟩ := (HCp.out.st.ref.tch HAc.out.tch (by omega)).two
            have HSt := Lib.hid (HCp.out.st.back HAc.out)
            have HBk := Lib.hid (HCp.out.back HAc.out (.int .i64 T2) (.slice p2 l2 c2))
            go_wp2_with fail
            obtain ⟨wz, hz⟩ : ∃ wz, (wc.setCell ⟨w.heap.size + 1, 0, none⟩ (.int .i64 T2)).setCell ⟨w.heap.size + 1, 1, none⟩ (.slice p2 l2 c2) = wz := ⟨_, rfl⟩
            rw [hz] at HSt HBk ⊢
            clear hz HAc a0 a1 r0 r1 f0 f1 HT2 HLA2
            refine (is_any _ (HE.out.on' HSt.out.bel) HSt.out.clk HSt.out.len HSt.out.lies.lies ht).mono ?_
            rintro e w4 ⟨rfl, hb4⟩
            have HSt4 := Lib.hid (HSt.out.on hb4)
            have HBk4 := Lib.hid (And.intro (HBk.out.1.on' hb4) (And.intro (HBk.out.2.1.on' hb4) (HBk.out.2.2.on hb4)))
            clear hb4 HSt HBk
            obtain ⟨b0, b1, -, -⟩ := HBk4.out.2.1.two
            go_wp2_with fail
            refine (is_any _ (HE.out.on' HSt4.out.bel) HBk4.out.1 HCp.out.st.len HBk4.out.2.2 ht).mono ?_
            rintro e w5 ⟨rfl, hb5⟩
            have HSt5 := Lib.hid (HSt4.out.on hb5)
            clear hb5 HSt4 HBk4 b0 b1
            go_wp2_with fail
            go_roundw
            case rel => exact ⟨k + 1, by omega, by go_num, T2, LA2, p2, l2, c2, HSt5⟩
            case measure =>
              show _ < _
              simp only [intOf]; omega
      · obtain ⟨r0, r1, -, -⟩ := HP.out.ref.two
        go_wp2_with fail
        refine (is_any _ (HE.out.on' HP.out.bel) HP.out.clk HP.out.len HP.out.lies.lies ht).mono ?_
        rintro e w4 ⟨rfl, hb4⟩
        have HP4 := Lib.hid (HP.out.on hb4)
        clear hb4 HP r0 r1
        go_wp2_with fail
        refine (works_any _ (HE.out.on' HP4.out.bel)).mono ?_
        rintro e w5 ⟨rfl, hb5⟩
        go_wp2
        go_ret
        exact ⟨rfl, HP4.out.bel.trans (hb5.mono HP4.out.bel.size)⟩
end Go.Proofs.YtfigkoknhiabnaaDoor
