/- The law ConfTexts (layer 5), walked. -/
import Derived.Test.YtkchbnojcfkkhaaDoorLa
import Derived.Test.YtkchbnojcfkkhaaDoorQf
import Derived.Lib.QuietBelow
import Derived.BigQuiet
namespace Go.Proofs.YtkchbnojcfkkhaaDoor
open Go.RowKit Go.Tx Go.Cg

theorem t18_keep {g h i : Nat} {a0 a1 a2 a3 a4 a5 b0 b1 b2 b3 b4 b5 c0 c1 c2 c3 c4 c5 : Value} {w wr w1 : World} (hS : ((wr.cell? ⟨g, 0, none⟩ = some a0 ∧ wr.cell? ⟨g, 1, none⟩ = some a1 ∧ wr.cell? ⟨g, 2, none⟩ = some a2 ∧ wr.cell? ⟨g, 3, none⟩ = some a3 ∧ wr.cell? ⟨g, 4, none⟩ = some a4 ∧ wr.cell? ⟨g, 5, none⟩ = some a5) ∧ (wr.cell? ⟨h, 0, none⟩ = some b0 ∧ wr.cell? ⟨h, 1, none⟩ = some b1 ∧ wr.cell? ⟨h, 2, none⟩ = some b2 ∧ wr.cell? ⟨h, 3, none⟩ = some b3 ∧ wr.cell? ⟨h, 4, none⟩ = some b4 ∧ wr.cell? ⟨h, 5, none⟩ = some b5) ∧ wr.cell? ⟨i, 0, none⟩ = some c0 ∧ wr.cell? ⟨i, 1, none⟩ = some c1 ∧ wr.cell? ⟨i, 2, none⟩ = some c2 ∧ wr.cell? ⟨i, 3, none⟩ = some c3 ∧ wr.cell? ⟨i, 4, none⟩ = some c4 ∧ wr.cell? ⟨i, 5, none⟩ = some c5) ∧ Below w.heap.size w wr) (hb : Below wr.heap.size wr w1) : ((w1.cell? ⟨g, 0, none⟩ = some a0 ∧ w1.cell? ⟨g, 1, none⟩ = some a1 ∧ w1.cell? ⟨g, 2, none⟩ = some a2 ∧ w1.cell? ⟨g, 3, none⟩ = some a3 ∧ w1.cell? ⟨g, 4, none⟩ = some a4 ∧ w1.cell? ⟨g, 5, none⟩ = some a5) ∧ (w1.cell? ⟨h, 0, none⟩ = some b0 ∧ w1.cell? ⟨h, 1, none⟩ = some b1 ∧ w1.cell? ⟨h, 2, none⟩ = some b2 ∧ w1.cell? ⟨h, 3, none⟩ = some b3 ∧ w1.cell? ⟨h, 4, none⟩ = some b4 ∧ w1.cell? ⟨h, 5, none⟩ = some b5) ∧ w1.cell? ⟨i, 0, none⟩ = some c0 ∧ w1.cell? ⟨i, 1, none⟩ = some c1 ∧ w1.cell? ⟨i, 2, none⟩ = some c2 ∧ w1.cell? ⟨i, 3, none⟩ = some c3 ∧ w1.cell? ⟨i, 4, none⟩ = some c4 ∧ w1.cell? ⟨i, 5, none⟩ = some c5) ∧ Below w.heap.size w w1 :=
  ⟨⟨(six_keep ⟨hS.1.1, hS.2⟩ hb).1, (six_keep ⟨hS.1.2.1, hS.2⟩ hb).1, (six_keep ⟨hS.1.2.2, hS.2⟩ hb).1⟩, hS.2.trans (hb.mono hS.2.size)⟩
theorem rd_cases (s : List UInt8) : (∃ x, rdC s = some x ∧ rdA s = (x, 0)) ∨ (rdC s = none ∧ rdA s = (⟨0, 0, 0, 0, 0, 0⟩, 2)) := by
  cases h : rdC s with
  | none => exact .inr ⟨rfl, rdA_none h⟩
  | some x => exact .inl ⟨x, rfl, rdA_some h⟩
theorem rdC_nil : rdC [] = none := wordsOf_none (by decide)

set_option maxRecDepth 10000 in
set_option maxHeartbeats 8000000 in
theorem law_texts_short (c : Cfg) (s : ByteArray) (hs : s.size ≤ 90) (w : World) (hE : EnvR w.heap.size w) : Calls Tryd.prog 5 #[cVal c, .string s] w (Ans (.bool true) w) := by
  have HE := Lib.hid hE
  clear hE
  have hsi : ¬ (90 < (s.size : Int)) := by omega
  have hsn : ¬ (90 < s.size) := by omega
  have kt0 (w' : World) (h : Below w.heap.size w w') := ctext_any c w' (HE.out.on' h).base
  have kt1 := rtextc_any c
  have kr (w' : World) (h : Below w.heap.size w w') := cread_any s (by omega) w' (HE.out.on' h)
  have kq := rcread_any s (by omega)
  have hTl := txtC_len c
  have kz (w' : World) (h : Below w.heap.size w w') := cread_any ⟨(txtC c).toArray⟩ (by simp [ByteArray.size]; omega) w' (HE.out.on' h)
  have hz : (Right c ∧ rdA (txtC c) = (c, 0)) ∨ (¬ Right c ∧ rdA (txtC c) = (⟨0, 0, 0, 0, 0, 0⟩, 2)) := by
    by_cases hR : Right c
    · exact .inl ⟨hR, rdA_some (rdC_some hR)⟩
    · exact .inr ⟨hR, by rw [txtC_none hR]; exact rdA_none rdC_nil⟩
  have HZ := Lib.hid hz
  clear hz hTl
  obtain ⟨T, hT⟩ : ∃ T, txtC c = T := ⟨_, rfl⟩
  simp only [hT] at kt0 kt1 kz HZ
  have HT := Lib.hid hT
  clear hT
  have kt2 (w' : World) (h : Below w.heap.size w w') : Calls Tryd.prog 26 #[cVal c] w' (Ans (.string ⟨T.toArray⟩) w') := (kt0 w' h).mono fun e w' h => tells_is h
  have kt (w' : World) : Calls Tryd.prog 29 #[cVal c] w' (Ans (.string ⟨T.toArray⟩) w') := (kt1 w').mono fun e w' h => tells_is h
  clear kt0 kt1
  have kz (w' : World) (h : Below w.heap.size w w') : Calls Tryd.prog 27 #[.string ⟨T.toArray⟩] w' (RdPost T w') := kz w' h
  have kg := cright_any c
  have kw (w' : World) (h : Below w.heap.size w w') := works_any w' (HE.out.on' h).base
  have ha := rd_cases s.data.toList
  obtain ⟨⟨X, ev⟩, hX⟩ : ∃ X, rdA s.data.toList = X := ⟨_, rfl⟩
  rw [hX] at ha
  unfold RdPost at kr kq
  simp only [hX] at kr kq
  have kx0 (w' : World) (h : Below w.heap.size w w') := ctext_any X w' (HE.out.on' h).base
  have HA : Hid ((txtC X = s.data.toList ∧ ev = 0) ∨ ev = 2) := by
    rcases ha with ⟨x, h1, h2⟩ | ⟨h1, h2⟩
    · obtain ⟨rfl, rfl⟩ := Prod.mk.inj h2
      exact .inl ⟨(rdC_is h1).2, rfl⟩
    · exact .inr (Prod.mk.inj h2).2
  clear ha hX
  obtain ⟨⟨z, e2⟩, hZ⟩ : ∃ Z, rdA T = Z := ⟨_, rfl⟩
  unfold RdPost at kz
  simp only [hZ] at kz HZ
  clear hZ
  have HZ : Hid ((rt c = true ∧ z = c ∧ e2 = 0) ∨ (rt c = false ∧ e2 = 2)) := by
    rcases HZ.out with ⟨hR, h⟩ | ⟨hR, h⟩
    · obtain ⟨rfl, rfl⟩ := Prod.mk.inj h
      exact .inl ⟨rt_yes hR, rfl, rfl⟩
    · exact .inr ⟨rt_no hR, (Prod.mk.inj h).2⟩
  obtain ⟨r, hr⟩ : ∃ r, rt c = r := ⟨_, rfl⟩
  simp only [hr] at kg HZ
  clear hr HT
  obtain ⟨n, q, g, m, t, u⟩ := c
  obtain ⟨a0, a1, a2, a3, a4, a5⟩ := X
  obtain ⟨b0, b1, b2, b3, b4, b5⟩ := z
  have kd (w : World) : Calls Tryd.prog 8 #[.agg #[.int .i64 n, .int .i64 q, .int .i64 g, .int .i64 m, .int .i64 t, .int .i64 u]] w (Ans (.agg #[.int .i64 n, .int .i64 q, .int .i64 g, .int .i64 m, .int .i64 t, .int .i64 u]) w) := docs_any ⟨n, q, g, m, t, u⟩ w
  have kd2 (w : World) : Calls Tryd.prog 8 #[.agg #[.int .i64 a0, .int .i64 a1, .int .i64 a2, .int .i64 a3, .int .i64 a4, .int .i64 a5]] w (Ans (.agg #[.int .i64 a0, .int .i64 a1, .int .i64 a2, .int .i64 a3, .int .i64 a4, .int .i64 a5]) w) := docs_any ⟨a0, a1, a2, a3, a4, a5⟩ w
  have kr (w' : World) (h : Below w.heap.size w w') : Calls Tryd.prog 27 #[.string s] w' (Ans (.tuple #[.agg #[.int .i64 a0, .int .i64 a1, .int .i64 a2, .int .i64 a3, .int .i64 a4, .int .i64 a5], .int .i64 ev]) w') := kr w' h
  have kq (w' : World) : Calls Tryd.prog 28 #[.string s] w' (Ans (.tuple #[.agg #[.int .i64 a0, .int .i64 a1, .int .i64 a2, .int .i64 a3, .int .i64 a4, .int .i64 a5], .int .i64 ev]) w') := kq w'
  have kz (w' : World) (h : Below w.heap.size w w') : Calls Tryd.prog 27 #[.string ⟨T.toArray⟩] w' (Ans (.tuple #[.agg #[.int .i64 b0, .int .i64 b1, .int .i64 b2, .int .i64 b3, .int .i64 b4, .int .i64 b5], .int .i64 e2]) w') := kz w' h
  show Calls _ _ #[.agg #[.int .i64 n, .int .i64 q, .int .i64 g, .int .i64 m, .int .i64 t, .int .i64 u], _] _ _
  have HS0 := Lib.hid (six_at n q g m t u 23 w)
  have H0 := HS0.out.1
  obtain ⟨c0, c1, c2, c3, c4, c5⟩ := H0
  go_enter Tryd.func5, Tryd.ntmps5
  go_wp2_with fail
  refine (kt2 _ HS0.out.2).mono ?_
  rintro e w1 ⟨rfl, hb1⟩
  have HS1 := Lib.hid (six_keep HS0.out hb1)
  clear c0 c1 c2 c3 c4 c5 hb1 HS0 kt2
  go_wp2_with fail
  refine (kr _ HS1.out.2).mono ?_
  rintro e w2 ⟨rfl, hb2⟩
  have HS2 := Lib.hid (six_keep HS1.out hb2)
  clear hb2 HS1 kr
  go_wp2_with fail
  have hX6 := six_at a0 a1 a2 a3 a4 a5 23 w2
  have HS2 := Lib.hid (And.intro (And.intro (six_keep HS2.out hX6.2).1 hX6.1) (six_keep HS2.out hX6.2).2)
  clear hX6
  generalize w2.alloc (.cells #[.int .i64 a0, .int .i64 a1, .int .i64 a2, .int .i64 a3, .int .i64 a4, .int .i64 a5] 23) = W2 at HS2 ⊢
  generalize w2.heap.size = g6 at HS2 ⊢
  refine (kq _).mono ?_
  rintro e w3 ⟨rfl, hb3⟩
  have HS3 := Lib.hid (t12_keep HS2.out hb3)
  clear hb3 HS2 kq
  go_wp2_with fail
  have hX8 := six_at a0 a1 a2 a3 a4 a5 25 w3
  have HS3 : Hid ((((w3.alloc (.cells #[.int .i64 a0, .int .i64 a1, .int .i64 a2, .int .i64 a3, .int .i64 a4, .int .i64 a5] 25)).cell? ⟨w.heap.size, 0, none⟩ = some (.int .i64 n) ∧ (w3.alloc (.cells #[.int .i64 a0, .int .i64 a1, .int .i64 a2, .int .i64 a3, .int .i64 a4, .int .i64 a5] 25)).cell? ⟨w.heap.size, 1, none⟩ = some (.int .i64 q) ∧ (w3.alloc (.cells #[.int .i64 a0, .int .i64 a1, .int .i64 a2, .int .i64 a3, .int .i64 a4, .int .i64 a5] 25)).cell? ⟨w.heap.size, 2, none⟩ = some (.int .i64 g) ∧ (w3.alloc (.cells #[.int .i64 a0, .int .i64 a1, .int .i64 a2, .int .i64 a3, .int .i64 a4, .int .i64 a5] 25)).cell? ⟨w.heap.size, 3, none⟩ = some (.int .i64 m) ∧ (w3.alloc (.cells #[.int .i64 a0, .int .i64 a1, .int .i64 a2, .int .i64 a3, .int .i64 a4, .int .i64 a5] 25)).cell? ⟨w.heap.size, 4, none⟩ = some (.int .i64 t) ∧ (w3.alloc (.cells #[.int .i64 a0, .int .i64 a1, .int .i64 a2, .int .i64 a3, .int .i64 a4, .int .i64 a5] 25)).cell? ⟨w.heap.size, 5, none⟩ = some (.int .i64 u)) ∧ ((w3.alloc (.cells #[.int .i64 a0, .int .i64 a1, .int .i64 a2, .int .i64 a3, .int .i64 a4, .int .i64 a5] 25)).cell? ⟨g6, 0, none⟩ = some (.int .i64 a0) ∧ (w3.alloc (.cells #[.int .i64 a0, .int .i64 a1, .int .i64 a2, .int .i64 a3, .int .i64 a4, .int .i64 a5] 25)).cell? ⟨g6, 1, none⟩ = some (.int .i64 a1) ∧ (w3.alloc (.cells #[.int .i64 a0, .int .i64 a1, .int .i64 a2, .int .i64 a3, .int .i64 a4, .int .i64 a5] 25)).cell? ⟨g6, 2, none⟩ = some (.int .i64 a2) ∧ (w3.alloc (.cells #[.int .i64 a0, .int .i64 a1, .int .i64 a2, .int .i64 a3, .int .i64 a4, .int .i64 a5] 25)).cell? ⟨g6, 3, none⟩ = some (.int .i64 a3) ∧ (w3.alloc (.cells #[.int .i64 a0, .int .i64 a1, .int .i64 a2, .int .i64 a3, .int .i64 a4, .int .i64 a5] 25)).cell? ⟨g6, 4, none⟩ = some (.int .i64 a4) ∧ (w3.alloc (.cells #[.int .i64 a0, .int .i64 a1, .int .i64 a2, .int .i64 a3, .int .i64 a4, .int .i64 a5] 25)).cell? ⟨g6, 5, none⟩ = some (.int .i64 a5)) ∧ (w3.alloc (.cells #[.int .i64 a0, .int .i64 a1, .int .i64 a2, .int .i64 a3, .int .i64 a4, .int .i64 a5] 25)).cell? ⟨w3.heap.size, 0, none⟩ = some (.int .i64 a0) ∧ (w3.alloc (.cells #[.int .i64 a0, .int .i64 a1, .int .i64 a2, .int .i64 a3, .int .i64 a4, .int .i64 a5] 25)).cell? ⟨w3.heap.size, 1, none⟩ = some (.int .i64 a1) ∧ (w3.alloc (.cells #[.int .i64 a0, .int .i64 a1, .int .i64 a2, .int .i64 a3, .int .i64 a4, .int .i64 a5] 25)).cell? ⟨w3.heap.size, 2, none⟩ = some (.int .i64 a2) ∧ (w3.alloc (.cells #[.int .i64 a0, .int .i64 a1, .int .i64 a2, .int .i64 a3, .int .i64 a4, .int .i64 a5] 25)).cell? ⟨w3.heap.size, 3, none⟩ = some (.int .i64 a3) ∧ (w3.alloc (.cells #[.int .i64 a0, .int .i64 a1, .int .i64 a2, .int .i64 a3, .int .i64 a4, .int .i64 a5] 25)).cell? ⟨w3.heap.size, 4, none⟩ = some (.int .i64 a4) ∧ (w3.alloc (.cells #[.int .i64 a0, .int .i64 a1, .int .i64 a2, .int .i64 a3, .int .i64 a4, .int .i64 a5] 25)).cell? ⟨w3.heap.size, 5, none⟩ = some (.int .i64 a5)) ∧ Below w.heap.size w (w3.alloc (.cells #[.int .i64 a0, .int .i64 a1, .int .i64 a2, .int .i64 a3, .int .i64 a4, .int .i64 a5] 25))) := ⟨⟨(t12_keep HS3.out hX8.2).1.1, (t12_keep HS3.out hX8.2).1.2, hX8.1⟩, (t12_keep HS3.out hX8.2).2⟩
  clear hX8
  generalize w3.alloc (.cells #[.int .i64 a0, .int .i64 a1, .int .i64 a2, .int .i64 a3, .int .i64 a4, .int .i64 a5] 25) = W3 at HS3 ⊢
  generalize w3.heap.size = g8 at HS3 ⊢
  rcases HA.out with ⟨hx, rfl⟩ | rfl
  · have kx {S : Prop} (w' : World) (h : S ∧ Below w.heap.size w w') : Calls Tryd.prog 26 #[cVal ⟨a0, a1, a2, a3, a4, a5⟩] w' (Ans (.string s) w') := by
      refine (kx0 w' h.2).mono fun e w' h => ?_
      have := tells_is h
      rw [hx] at this
      exact this
    clear hx kx0
    go_region_held3 (fun w' => ((w'.cell? ⟨w.heap.size, 0, none⟩ = some (.int .i64 n) ∧ w'.cell? ⟨w.heap.size, 1, none⟩ = some (.int .i64 q) ∧ w'.cell? ⟨w.heap.size, 2, none⟩ = some (.int .i64 g) ∧ w'.cell? ⟨w.heap.size, 3, none⟩ = some (.int .i64 m) ∧ w'.cell? ⟨w.heap.size, 4, none⟩ = some (.int .i64 t) ∧ w'.cell? ⟨w.heap.size, 5, none⟩ = some (.int .i64 u)) ∧ (w'.cell? ⟨g6, 0, none⟩ = some (.int .i64 a0) ∧ w'.cell? ⟨g6, 1, none⟩ = some (.int .i64 a1) ∧ w'.cell? ⟨g6, 2, none⟩ = some (.int .i64 a2) ∧ w'.cell? ⟨g6, 3, none⟩ = some (.int .i64 a3) ∧ w'.cell? ⟨g6, 4, none⟩ = some (.int .i64 a4) ∧ w'.cell? ⟨g6, 5, none⟩ = some (.int .i64 a5)) ∧ w'.cell? ⟨g8, 0, none⟩ = some (.int .i64 a0) ∧ w'.cell? ⟨g8, 1, none⟩ = some (.int .i64 a1) ∧ w'.cell? ⟨g8, 2, none⟩ = some (.int .i64 a2) ∧ w'.cell? ⟨g8, 3, none⟩ = some (.int .i64 a3) ∧ w'.cell? ⟨g8, 4, none⟩ = some (.int .i64 a4) ∧ w'.cell? ⟨g8, 5, none⟩ = some (.int .i64 a5)) ∧ Below w.heap.size w w') (first | with_reducible exact t18_keep HS3.out (Below.refl _ _).drew | with_reducible exact t18_keep (by assumption) (by assumption))
      (first
        | (go_at_call 8; first | ((with_reducible refine (kd _).mono ?_); rintro e x1 ⟨rfl, hx1⟩) | ((with_reducible refine (kd2 _).mono ?_); rintro e x2 ⟨rfl, hx2⟩))
        | (go_at_call 29; refine (kt _).mono ?_; rintro e x3 ⟨rfl, hx3⟩)
        | (go_at_call 26; refine (kx _ (by assumption)).mono ?_; rintro e x4 ⟨rfl, hx4⟩))
    rename_i hh
    have HS6 := Lib.hid hh
    clear hh
    go_wp2_with fail
    refine (kz _ HS6.out.2).mono ?_
    rintro e w7 ⟨rfl, hb7⟩
    have HS7 : Hid ((w7.cell? ⟨w.heap.size, 0, none⟩ = some (.int .i64 n) ∧ w7.cell? ⟨w.heap.size, 1, none⟩ = some (.int .i64 q) ∧ w7.cell? ⟨w.heap.size, 2, none⟩ = some (.int .i64 g) ∧ w7.cell? ⟨w.heap.size, 3, none⟩ = some (.int .i64 m) ∧ w7.cell? ⟨w.heap.size, 4, none⟩ = some (.int .i64 t) ∧ w7.cell? ⟨w.heap.size, 5, none⟩ = some (.int .i64 u)) ∧ Below w.heap.size w w7) := six_keep ⟨HS6.out.1.1, HS6.out.2⟩ hb7
    clear hb7 HS6 HS3 kz
    have hX9 := six_at b0 b1 b2 b3 b4 b5 23 w7
    have HS9 : Hid ((((w7.alloc (.cells #[.int .i64 b0, .int .i64 b1, .int .i64 b2, .int .i64 b3, .int .i64 b4, .int .i64 b5] 23)).cell? ⟨w.heap.size, 0, none⟩ = some (.int .i64 n) ∧ (w7.alloc (.cells #[.int .i64 b0, .int .i64 b1, .int .i64 b2, .int .i64 b3, .int .i64 b4, .int .i64 b5] 23)).cell? ⟨w.heap.size, 1, none⟩ = some (.int .i64 q) ∧ (w7.alloc (.cells #[.int .i64 b0, .int .i64 b1, .int .i64 b2, .int .i64 b3, .int .i64 b4, .int .i64 b5] 23)).cell? ⟨w.heap.size, 2, none⟩ = some (.int .i64 g) ∧ (w7.alloc (.cells #[.int .i64 b0, .int .i64 b1, .int .i64 b2, .int .i64 b3, .int .i64 b4, .int .i64 b5] 23)).cell? ⟨w.heap.size, 3, none⟩ = some (.int .i64 m) ∧ (w7.alloc (.cells #[.int .i64 b0, .int .i64 b1, .int .i64 b2, .int .i64 b3, .int .i64 b4, .int .i64 b5] 23)).cell? ⟨w.heap.size, 4, none⟩ = some (.int .i64 t) ∧ (w7.alloc (.cells #[.int .i64 b0, .int .i64 b1, .int .i64 b2, .int .i64 b3, .int .i64 b4, .int .i64 b5] 23)).cell? ⟨w.heap.size, 5, none⟩ = some (.int .i64 u)) ∧ (w7.alloc (.cells #[.int .i64 b0, .int .i64 b1, .int .i64 b2, .int .i64 b3, .int .i64 b4, .int .i64 b5] 23)).cell? ⟨w7.heap.size, 0, none⟩ = some (.int .i64 b0) ∧ (w7.alloc (.cells #[.int .i64 b0, .int .i64 b1, .int .i64 b2, .int .i64 b3, .int .i64 b4, .int .i64 b5] 23)).cell? ⟨w7.heap.size, 1, none⟩ = some (.int .i64 b1) ∧ (w7.alloc (.cells #[.int .i64 b0, .int .i64 b1, .int .i64 b2, .int .i64 b3, .int .i64 b4, .int .i64 b5] 23)).cell? ⟨w7.heap.size, 2, none⟩ = some (.int .i64 b2) ∧ (w7.alloc (.cells #[.int .i64 b0, .int .i64 b1, .int .i64 b2, .int .i64 b3, .int .i64 b4, .int .i64 b5] 23)).cell? ⟨w7.heap.size, 3, none⟩ = some (.int .i64 b3) ∧ (w7.alloc (.cells #[.int .i64 b0, .int .i64 b1, .int .i64 b2, .int .i64 b3, .int .i64 b4, .int .i64 b5] 23)).cell? ⟨w7.heap.size, 4, none⟩ = some (.int .i64 b4) ∧ (w7.alloc (.cells #[.int .i64 b0, .int .i64 b1, .int .i64 b2, .int .i64 b3, .int .i64 b4, .int .i64 b5] 23)).cell? ⟨w7.heap.size, 5, none⟩ = some (.int .i64 b5)) ∧ Below w.heap.size w (w7.alloc (.cells #[.int .i64 b0, .int .i64 b1, .int .i64 b2, .int .i64 b3, .int .i64 b4, .int .i64 b5] 23))) := ⟨⟨(six_keep HS7.out hX9.2).1, hX9.1⟩, (six_keep HS7.out hX9.2).2⟩
    clear hX9 HS7
    have H0 := HS9.out.1
    obtain ⟨⟨c0, c1, c2, c3, c4, c5⟩, d0, d1, d2, d3, d4, d5⟩ := H0
    go_wp2_with fail
    clear c0 c1 c2 c3 c4 c5 d0 d1 d2 d3 d4 d5
    generalize w7.alloc (.cells #[.int .i64 b0, .int .i64 b1, .int .i64 b2, .int .i64 b3, .int .i64 b4, .int .i64 b5] 23) = W9 at HS9 ⊢
    generalize w7.heap.size = g10 at HS9 ⊢
    rcases HZ.out with ⟨rfl, hz, rfl⟩ | ⟨rfl, rfl⟩
    · obtain ⟨rfl, rfl, rfl, rfl, rfl, rfl⟩ : b0 = n ∧ b1 = q ∧ b2 = g ∧ b3 = m ∧ b4 = t ∧ b5 = u := by
        injection hz with e0 e1 e2 e3 e4 e5
        exact ⟨e0, e1, e2, e3, e4, e5⟩
      refine (kg _).mono ?_
      rintro e v1 ⟨rfl, hb⟩
      have HV1 := Lib.hid (t12_keep HS9.out hb)
      clear hb
      have H0 := HV1.out.1
      obtain ⟨⟨c0, c1, c2, c3, c4, c5⟩, d0, d1, d2, d3, d4, d5⟩ := H0
      go_wp2_with fail
      refine (kw _ HV1.out.2).mono ?_
      rintro e v2 ⟨rfl, hb⟩
      have HB := Lib.hid (HV1.out.2.trans (hb.mono HV1.out.2.size))
      clear hb c0 c1 c2 c3 c4 c5 d0 d1 d2 d3 d4 d5
      go_wp2_with fail
      go_ret
      exact ⟨rfl, HB.out⟩
    · refine (kg _).mono ?_
      rintro e v1 ⟨rfl, hb⟩
      have HV1 := Lib.hid (t12_keep HS9.out hb)
      clear hb
      have H0 := HV1.out.1
      obtain ⟨⟨c0, c1, c2, c3, c4, c5⟩, d0, d1, d2, d3, d4, d5⟩ := H0
      go_wp2_with fail
      refine (kw _ HV1.out.2).mono ?_
      rintro e v2 ⟨rfl, hb⟩
      have HB := Lib.hid (HV1.out.2.trans (hb.mono HV1.out.2.size))
      clear hb c0 c1 c2 c3 c4 c5 d0 d1 d2 d3 d4 d5
      go_wp2_with fail
      go_ret
      exact ⟨rfl, HB.out⟩
  · clear kx0
    have c0 := cell_regrown HS3.out.1.1.1
    have c1 := cell_regrown HS3.out.1.1.2.1
    have c2 := cell_regrown HS3.out.1.1.2.2.1
    have c3 := cell_regrown HS3.out.1.1.2.2.2.1
    have c4 := cell_regrown HS3.out.1.1.2.2.2.2.1
    have c5 := cell_regrown HS3.out.1.1.2.2.2.2.2
    have d0 := cell_regrown HS3.out.1.2.1.1
    have d1 := cell_regrown HS3.out.1.2.1.2.1
    have d2 := cell_regrown HS3.out.1.2.1.2.2.1
    have d3 := cell_regrown HS3.out.1.2.1.2.2.2.1
    have d4 := cell_regrown HS3.out.1.2.1.2.2.2.2.1
    have d5 := cell_regrown HS3.out.1.2.1.2.2.2.2.2
    have f0 := cell_regrown HS3.out.1.2.2.1
    have f1 := cell_regrown HS3.out.1.2.2.2.1
    have f2 := cell_regrown HS3.out.1.2.2.2.2.1
    have f3 := cell_regrown HS3.out.1.2.2.2.2.2.1
    have f4 := cell_regrown HS3.out.1.2.2.2.2.2.2.1
    have f5 := cell_regrown HS3.out.1.2.2.2.2.2.2.2
    have cA : ∀ d os, Calls Tryd.prog 8 #[.agg #[.int .i64 n, .int .i64 q, .int .i64 g, .int .i64 m, .int .i64 t, .int .i64 u]] (Sort.grow (redrawn W3 d) os) fun e w'' => e = .returned (.agg #[.int .i64 n, .int .i64 q, .int .i64 g, .int .i64 m, .int .i64 t, .int .i64 u]) ∧ ∃ p : Regrown, w'' = Sort.grow (redrawn W3 p.d) p.os := fun d os => Calls.regrown_of (kd _)
    have cB : ∀ d os, Calls Tryd.prog 8 #[.agg #[.int .i64 a0, .int .i64 a1, .int .i64 a2, .int .i64 a3, .int .i64 a4, .int .i64 a5]] (Sort.grow (redrawn W3 d) os) fun e w'' => e = .returned (.agg #[.int .i64 a0, .int .i64 a1, .int .i64 a2, .int .i64 a3, .int .i64 a4, .int .i64 a5]) ∧ ∃ p : Regrown, w'' = Sort.grow (redrawn W3 p.d) p.os := fun d os => Calls.regrown_of (kd2 _)
    have cC : ∀ d os, Calls Tryd.prog 29 #[.agg #[.int .i64 n, .int .i64 q, .int .i64 g, .int .i64 m, .int .i64 t, .int .i64 u]] (Sort.grow (redrawn W3 d) os) fun e w'' => e = .returned (.string ⟨T.toArray⟩) ∧ ∃ p : Regrown, w'' = Sort.grow (redrawn W3 p.d) p.os := fun d os => Calls.regrown_of (kt _)
    have HcA := Lib.hid cA
    have HcB := Lib.hid cB
    have HcC := Lib.hid cC
    clear cA cB cC
    refine wp_region_quiet_below (by kernel_rfl) (by kernel_rfl) ?_
    repeat (go_big_quiet_step (first | (with_reducible exact HcA.out _ _) | (with_reducible exact HcB.out _ _) | (with_reducible exact HcC.out _ _)))
    refine wpQuiet_nil ?_
    intro W6 hw'
    obtain ⟨⟨dq, osq⟩, hw2⟩ := hw'
    have HS6 : Hid (((W6.cell? ⟨w.heap.size, 0, none⟩ = some (.int .i64 n) ∧ W6.cell? ⟨w.heap.size, 1, none⟩ = some (.int .i64 q) ∧ W6.cell? ⟨w.heap.size, 2, none⟩ = some (.int .i64 g) ∧ W6.cell? ⟨w.heap.size, 3, none⟩ = some (.int .i64 m) ∧ W6.cell? ⟨w.heap.size, 4, none⟩ = some (.int .i64 t) ∧ W6.cell? ⟨w.heap.size, 5, none⟩ = some (.int .i64 u)) ∧ (W6.cell? ⟨g6, 0, none⟩ = some (.int .i64 a0) ∧ W6.cell? ⟨g6, 1, none⟩ = some (.int .i64 a1) ∧ W6.cell? ⟨g6, 2, none⟩ = some (.int .i64 a2) ∧ W6.cell? ⟨g6, 3, none⟩ = some (.int .i64 a3) ∧ W6.cell? ⟨g6, 4, none⟩ = some (.int .i64 a4) ∧ W6.cell? ⟨g6, 5, none⟩ = some (.int .i64 a5)) ∧ W6.cell? ⟨g8, 0, none⟩ = some (.int .i64 a0) ∧ W6.cell? ⟨g8, 1, none⟩ = some (.int .i64 a1) ∧ W6.cell? ⟨g8, 2, none⟩ = some (.int .i64 a2) ∧ W6.cell? ⟨g8, 3, none⟩ = some (.int .i64 a3) ∧ W6.cell? ⟨g8, 4, none⟩ = some (.int .i64 a4) ∧ W6.cell? ⟨g8, 5, none⟩ = some (.int .i64 a5)) ∧ Below w.heap.size w W6) := by
      show ((W6.cell? ⟨w.heap.size, 0, none⟩ = some (.int .i64 n) ∧ W6.cell? ⟨w.heap.size, 1, none⟩ = some (.int .i64 q) ∧ W6.cell? ⟨w.heap.size, 2, none⟩ = some (.int .i64 g) ∧ W6.cell? ⟨w.heap.size, 3, none⟩ = some (.int .i64 m) ∧ W6.cell? ⟨w.heap.size, 4, none⟩ = some (.int .i64 t) ∧ W6.cell? ⟨w.heap.size, 5, none⟩ = some (.int .i64 u)) ∧ (W6.cell? ⟨g6, 0, none⟩ = some (.int .i64 a0) ∧ W6.cell? ⟨g6, 1, none⟩ = some (.int .i64 a1) ∧ W6.cell? ⟨g6, 2, none⟩ = some (.int .i64 a2) ∧ W6.cell? ⟨g6, 3, none⟩ = some (.int .i64 a3) ∧ W6.cell? ⟨g6, 4, none⟩ = some (.int .i64 a4) ∧ W6.cell? ⟨g6, 5, none⟩ = some (.int .i64 a5)) ∧ W6.cell? ⟨g8, 0, none⟩ = some (.int .i64 a0) ∧ W6.cell? ⟨g8, 1, none⟩ = some (.int .i64 a1) ∧ W6.cell? ⟨g8, 2, none⟩ = some (.int .i64 a2) ∧ W6.cell? ⟨g8, 3, none⟩ = some (.int .i64 a3) ∧ W6.cell? ⟨g8, 4, none⟩ = some (.int .i64 a4) ∧ W6.cell? ⟨g8, 5, none⟩ = some (.int .i64 a5)) ∧ Below w.heap.size w W6
      rw [hw2]; exact t18_keep HS3.out (below_regrown W3 dq osq)
    clear hw2 c0 c1 c2 c3 c4 c5 d0 d1 d2 d3 d4 d5 f0 f1 f2 f3 f4 f5
    go_wp2_with fail
    refine (kz _ HS6.out.2).mono ?_
    rintro e w7 ⟨rfl, hb7⟩
    have HS7 : Hid ((w7.cell? ⟨w.heap.size, 0, none⟩ = some (.int .i64 n) ∧ w7.cell? ⟨w.heap.size, 1, none⟩ = some (.int .i64 q) ∧ w7.cell? ⟨w.heap.size, 2, none⟩ = some (.int .i64 g) ∧ w7.cell? ⟨w.heap.size, 3, none⟩ = some (.int .i64 m) ∧ w7.cell? ⟨w.heap.size, 4, none⟩ = some (.int .i64 t) ∧ w7.cell? ⟨w.heap.size, 5, none⟩ = some (.int .i64 u)) ∧ Below w.heap.size w w7) := six_keep ⟨HS6.out.1.1, HS6.out.2⟩ hb7
    clear hb7 HS6 HS3 kz
    have hX9 := six_at b0 b1 b2 b3 b4 b5 23 w7
    have HS9 : Hid ((((w7.alloc (.cells #[.int .i64 b0, .int .i64 b1, .int .i64 b2, .int .i64 b3, .int .i64 b4, .int .i64 b5] 23)).cell? ⟨w.heap.size, 0, none⟩ = some (.int .i64 n) ∧ (w7.alloc (.cells #[.int .i64 b0, .int .i64 b1, .int .i64 b2, .int .i64 b3, .int .i64 b4, .int .i64 b5] 23)).cell? ⟨w.heap.size, 1, none⟩ = some (.int .i64 q) ∧ (w7.alloc (.cells #[.int .i64 b0, .int .i64 b1, .int .i64 b2, .int .i64 b3, .int .i64 b4, .int .i64 b5] 23)).cell? ⟨w.heap.size, 2, none⟩ = some (.int .i64 g) ∧ (w7.alloc (.cells #[.int .i64 b0, .int .i64 b1, .int .i64 b2, .int .i64 b3, .int .i64 b4, .int .i64 b5] 23)).cell? ⟨w.heap.size, 3, none⟩ = some (.int .i64 m) ∧ (w7.alloc (.cells #[.int .i64 b0, .int .i64 b1, .int .i64 b2, .int .i64 b3, .int .i64 b4, .int .i64 b5] 23)).cell? ⟨w.heap.size, 4, none⟩ = some (.int .i64 t) ∧ (w7.alloc (.cells #[.int .i64 b0, .int .i64 b1, .int .i64 b2, .int .i64 b3, .int .i64 b4, .int .i64 b5] 23)).cell? ⟨w.heap.size, 5, none⟩ = some (.int .i64 u)) ∧ (w7.alloc (.cells #[.int .i64 b0, .int .i64 b1, .int .i64 b2, .int .i64 b3, .int .i64 b4, .int .i64 b5] 23)).cell? ⟨w7.heap.size, 0, none⟩ = some (.int .i64 b0) ∧ (w7.alloc (.cells #[.int .i64 b0, .int .i64 b1, .int .i64 b2, .int .i64 b3, .int .i64 b4, .int .i64 b5] 23)).cell? ⟨w7.heap.size, 1, none⟩ = some (.int .i64 b1) ∧ (w7.alloc (.cells #[.int .i64 b0, .int .i64 b1, .int .i64 b2, .int .i64 b3, .int .i64 b4, .int .i64 b5] 23)).cell? ⟨w7.heap.size, 2, none⟩ = some (.int .i64 b2) ∧ (w7.alloc (.cells #[.int .i64 b0, .int .i64 b1, .int .i64 b2, .int .i64 b3, .int .i64 b4, .int .i64 b5] 23)).cell? ⟨w7.heap.size, 3, none⟩ = some (.int .i64 b3) ∧ (w7.alloc (.cells #[.int .i64 b0, .int .i64 b1, .int .i64 b2, .int .i64 b3, .int .i64 b4, .int .i64 b5] 23)).cell? ⟨w7.heap.size, 4, none⟩ = some (.int .i64 b4) ∧ (w7.alloc (.cells #[.int .i64 b0, .int .i64 b1, .int .i64 b2, .int .i64 b3, .int .i64 b4, .int .i64 b5] 23)).cell? ⟨w7.heap.size, 5, none⟩ = some (.int .i64 b5)) ∧ Below w.heap.size w (w7.alloc (.cells #[.int .i64 b0, .int .i64 b1, .int .i64 b2, .int .i64 b3, .int .i64 b4, .int .i64 b5] 23))) := ⟨⟨(six_keep HS7.out hX9.2).1, hX9.1⟩, (six_keep HS7.out hX9.2).2⟩
    clear hX9 HS7
    have H0 := HS9.out.1
    obtain ⟨⟨c0, c1, c2, c3, c4, c5⟩, d0, d1, d2, d3, d4, d5⟩ := H0
    go_wp2_with fail
    clear c0 c1 c2 c3 c4 c5 d0 d1 d2 d3 d4 d5
    generalize w7.alloc (.cells #[.int .i64 b0, .int .i64 b1, .int .i64 b2, .int .i64 b3, .int .i64 b4, .int .i64 b5] 23) = W9 at HS9 ⊢
    generalize w7.heap.size = g10 at HS9 ⊢
    rcases HZ.out with ⟨rfl, hz, rfl⟩ | ⟨rfl, rfl⟩
    · obtain ⟨rfl, rfl, rfl, rfl, rfl, rfl⟩ : b0 = n ∧ b1 = q ∧ b2 = g ∧ b3 = m ∧ b4 = t ∧ b5 = u := by
        injection hz with e0 e1 e2 e3 e4 e5
        exact ⟨e0, e1, e2, e3, e4, e5⟩
      refine (kg _).mono ?_
      rintro e v1 ⟨rfl, hb⟩
      have HV1 := Lib.hid (t12_keep HS9.out hb)
      clear hb
      have H0 := HV1.out.1
      obtain ⟨⟨c0, c1, c2, c3, c4, c5⟩, d0, d1, d2, d3, d4, d5⟩ := H0
      go_wp2_with fail
      refine (kw _ HV1.out.2).mono ?_
      rintro e v2 ⟨rfl, hb⟩
      have HB := Lib.hid (HV1.out.2.trans (hb.mono HV1.out.2.size))
      clear hb c0 c1 c2 c3 c4 c5 d0 d1 d2 d3 d4 d5
      go_wp2_with fail
      go_ret
      exact ⟨rfl, HB.out⟩
    · refine (kg _).mono ?_
      rintro e v1 ⟨rfl, hb⟩
      have HV1 := Lib.hid (t12_keep HS9.out hb)
      clear hb
      have H0 := HV1.out.1
      obtain ⟨⟨c0, c1, c2, c3, c4, c5⟩, d0, d1, d2, d3, d4, d5⟩ := H0
      go_wp2_with fail
      refine (kw _ HV1.out.2).mono ?_
      rintro e v2 ⟨rfl, hb⟩
      have HB := Lib.hid (HV1.out.2.trans (hb.mono HV1.out.2.size))
      clear hb c0 c1 c2 c3 c4 c5 d0 d1 d2 d3 d4 d5
      go_wp2_with fail
      go_ret
      exact ⟨rfl, HB.out⟩

theorem law_texts (c : Cfg) (s : ByteArray) (hs : s.size ≤ 9223372036854775807) (w : World) (hE : EnvR w.heap.size w) : Calls Tryd.prog 5 #[cVal c, .string s] w (Ans (.bool true) w) := by
  by_cases h : s.size ≤ 90
  · exact law_texts_short c s h w hE
  · have hi : 90 < (s.size : Int) := by omega
    have HE := Lib.hid hE
    clear hE
    have kw (w' : World) (h : Below w.heap.size w w') := works_any w' (HE.out.on' h).base
    obtain ⟨n, q, g, m, t, s'⟩ := c
    have HS := Lib.hid (six_at n q g m t s' 23 w)
    show Calls _ _ #[.agg #[.int .i64 n, .int .i64 q, .int .i64 g, .int .i64 m, .int .i64 t, .int .i64 s'], _] _ _
    go_enter Tryd.func5, Tryd.ntmps5
    go_wp2_with fail
    refine (kw _ HS.out.2).mono ?_
    rintro e w1 ⟨rfl, hb⟩
    have HB := Lib.hid (HS.out.2.trans (hb.mono HS.out.2.size))
    clear hb
    go_wp2
    go_ret
    exact ⟨rfl, HB.out⟩
end Go.Proofs.YtkchbnojcfkkhaaDoor
