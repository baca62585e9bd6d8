/- The code's Find and Text (layer 5), walked. -/
import Derived.Test.YtkchbnojcfkkhaaDoorQd
namespace Go.Proofs.YtkchbnojcfkkhaaDoor
open Go.RowKit Go.Tx Go.Cg

set_option maxRecDepth 10000 in
set_option maxHeartbeats 2000000 in
/-- Find: the first of the names that is told; -1 and ErrArg, if none is -/
theorem cfind_any (c : Cfg) (x : List UInt8) {B : Nat} (w : World) (hE : EnvC B w) : Calls Tryd.prog 23 #[cVal c, .string ⟨x.toArray⟩] w (Ans (.tuple #[.int .i64 (fst1 (nmsC c) x), .int .i64 (if fst1 (nmsC c) x < 0 then 2 else 0)]) w) := by
  have HE := Lib.hid hE
  clear hE
  have hcel := ccells_any c
  have hle := nmsC_le c
  have hnc (i : Nat) (hi : i < (nmsC c).length) (w : World) (hE : EnvC B w) : Calls Tryd.prog 25 #[cVal c, .int .i64 i] w (Tells (fun l => (nmsC c)[i]? = some l) w) := by
    have h := cname_any c i w hE
    refine h.mono ?_
    rintro e w1 ⟨l, hl, he, hb⟩
    refine ⟨l, ?_, he, hb⟩
    rw [hl]
    unfold nmV
    rw [if_pos (by omega), Int.toNat_natCast, List.getD_eq_getElem?_getD, List.getElem?_eq_getElem hi]; rfl
  obtain ⟨xs, hxs⟩ : ∃ xs, nmsC c = xs := ⟨_, rfl⟩
  rw [hxs] at hcel hle hnc ⊢
  clear hxs
  obtain ⟨fz, hfz⟩ : ∃ z, fst1 xs x = z := ⟨_, rfl⟩
  obtain ⟨ez, hez⟩ : ∃ z : Int, (if fst1 xs x < 0 then 2 else 0) = z := ⟨_, rfl⟩
  rw [hez, hfz]
  have HFZ := Lib.hid hfz
  have HEZ := Lib.hid hez
  clear hfz hez
  obtain ⟨n, q, g, m, t, s⟩ := c
  have HS := Lib.hid (six_at n q g m t s 23 w)
  have H0 := HS.out.1
  obtain ⟨c0, c1, c2, c3, c4, c5⟩ := H0
  show Calls _ _ #[.agg #[.int .i64 n, .int .i64 q, .int .i64 g, .int .i64 m, .int .i64 t, .int .i64 s], _] _ _
  go_enter Tryd.func23, Tryd.ntmps23
  go_wp2_with fail
  refine (hcel _).mono ?_
  rintro e w1 ⟨rfl, hb1⟩
  have HS3 := Lib.hid (six_keep HS.out hb1)
  clear hb1 c0 c1 c2 c3 c4 c5 HS
  go_wp2_with fail
  go_loopw [9] (fun vi wr => ∃ i : Nat, i ≤ xs.length ∧ vi = .int .i64 i ∧ Hid ((wr.cell? ⟨w.heap.size, 0, none⟩ = some (.int .i64 n) ∧ wr.cell? ⟨w.heap.size, 1, none⟩ = some (.int .i64 q) ∧ wr.cell? ⟨w.heap.size, 2, none⟩ = some (.int .i64 g) ∧ wr.cell? ⟨w.heap.size, 3, none⟩ = some (.int .i64 m) ∧ wr.cell? ⟨w.heap.size, 4, none⟩ = some (.int .i64 t) ∧ wr.cell? ⟨w.heap.size, 5, none⟩ = some (.int .i64 s)) ∧ Below w.heap.size w wr) ∧ Hid (∀ j, j < i → xs[j]? ≠ some x)) (fun vi _ => xs.length - (intOf vi).toNat)
  case atStart => exact ⟨0, by omega, rfl, HS3, fun j hj => by omega⟩
  case round =>
    obtain ⟨i, hi, rfl, HW, HI⟩ := hrel
    by_cases hlt : i < xs.length
    · have hlti : (i : Int) < (xs.length : Int) := by omega
      have H0 := HW.out.1
      obtain ⟨c0, c1, c2, c3, c4, c5⟩ := H0
      go_wp2_with fail
      refine (hnc i hlt _ (HE.out.at HW.out)).mono ?_
      rintro e w2 ⟨l, hl, rfl, hb2⟩
      have HW2 := Lib.hid (six_keep HW.out hb2)
      clear hb2 c0 c1 c2 c3 c4 c5
      have HL := Lib.hid hl
      clear hl
      cases hyx : (l == x)
      · have HN : Hid (∀ j, j < i + 1 → xs[j]? ≠ some x) := fun j hj => by
          by_cases e : j = i
          · subst e
            rw [HL.out]
            intro e2
            rw [Option.some.inj e2] at hyx
            simp at hyx
          · exact HI.out j (by omega)
        clear HI
        go_wp2_with fail
        go_roundw
        case rel => exact ⟨i + 1, hlt, by go_num, HW2, HN⟩
        case measure =>
          show _ < _
          simp only [intOf]; omega
      · have hf : fst1 xs x = i := by
          refine fst1_hit ?_ HI.out
          rw [HL.out, eq_of_beq hyx]
        have HF := Lib.hid hf
        have HF2 : Hid (¬ (fst1 xs x < 0)) := by show ¬ _; omega
        clear hf
        go_wp2
        go_ret2
        exact ⟨by rw [← HEZ.out, ← HFZ.out, if_neg (by have := HF.out; omega), HF.out]; rfl, HW2.out.2⟩
    · obtain rfl : i = xs.length := by omega
      have HF := Lib.hid (fst1_miss HI.out)
      go_wp2_with fail
      go_ret2
      exact ⟨by rw [← HEZ.out, ← HFZ.out, HF.out]; rfl, HW.out.2⟩

theorem txt6_len (a b c d e f : Nat) (ha : a ≤ 8) (hb : b ≤ 64) (hc : c ≤ 256) (hd : d ≤ 16) (he : e ≤ 200) (hf : f ≤ 1000) : (txt6 a b c d e f).length ≤ 10000 := by
  have l (n : Nat) (h : n ≤ 1000) : (dc n).length ≤ 4 := dc_len (by omega)
  have h1 := l a (by omega)
  have h2 := l b (by omega)
  have h3 := l c (by omega)
  have h4 := l d (by omega)
  have h5 := l e (by omega)
  have h6 := l f (by omega)
  unfold txt6
  simp only [List.length_append, List.length_cons]
  omega
theorem words_twelve (a b c d e f : Nat) (ha : a ≤ 8) (hb : b ≤ 64) (hc : c ≤ 256) (hd : d ≤ 16) (he : e ≤ 200) (hf : f ≤ 1000) (la lb lc ld le lf : List UInt8) (ea : la = dc a) (eb : lb = dc b) (ec : lc = dc c) (ed : ld = dc d) (ee : le = dc e) (ef : lf = dc f) (t : TypeId) (w : World) :
    Calls Tryd.prog 38 #[.slice (some ⟨w.heap.size, 0, none⟩) 12 12] (w.alloc (.cells #[.string ⟨#[110]⟩, .string ⟨la.toArray⟩, .string ⟨#[113]⟩, .string ⟨lb.toArray⟩, .string ⟨#[103]⟩, .string ⟨lc.toArray⟩, .string ⟨#[109]⟩, .string ⟨ld.toArray⟩, .string ⟨#[116]⟩, .string ⟨le.toArray⟩, .string ⟨#[115]⟩, .string ⟨lf.toArray⟩] t)) (Tells (· = txt6 a b c d e f) (w.alloc (.cells #[.string ⟨#[110]⟩, .string ⟨la.toArray⟩, .string ⟨#[113]⟩, .string ⟨lb.toArray⟩, .string ⟨#[103]⟩, .string ⟨lc.toArray⟩, .string ⟨#[109]⟩, .string ⟨ld.toArray⟩, .string ⟨#[116]⟩, .string ⟨le.toArray⟩, .string ⟨#[115]⟩, .string ⟨lf.toArray⟩] t))) := by
  have hj := join_twelve a b c d e f
  rw [← ea, ← eb, ← ec, ← ed, ← ee, ← ef] at hj
  have hl := txt6_len a b c d e f ha hb hc hd he hf
  obtain ⟨r, hr⟩ : ∃ r, txt6 a b c d e f = r := ⟨_, rfl⟩
  rw [hr] at hj hl ⊢
  clear ea eb ec ed ee ef hr
  have h := words_any [[110], la, [113], lb, [103], lc, [109], ld, [116], le, [115], lf] w.heap.size 12 (w.alloc (.cells #[.string ⟨#[110]⟩, .string ⟨la.toArray⟩, .string ⟨#[113]⟩, .string ⟨lb.toArray⟩, .string ⟨#[103]⟩, .string ⟨lc.toArray⟩, .string ⟨#[109]⟩, .string ⟨ld.toArray⟩, .string ⟨#[116]⟩, .string ⟨le.toArray⟩, .string ⟨#[115]⟩, .string ⟨lf.toArray⟩] t)) (by simp) (by simp) (by simp) (by
    intro j x hx
    rw [World.cell?_alloc_new]
    rcases j with _ | _ | _ | _ | _ | _ | _ | _ | _ | _ | _ | _ | j <;> simp at hx
    all_goals (subst hx; rfl)) (by rw [hj]; exact hl)
  rw [hj] at h
  exact h

set_option maxRecDepth 10000 in
set_option maxHeartbeats 4000000 in
theorem ctext_some (N Q G M T S : Nat) (h1 : N ≤ 8) (h2 : Q ≤ 64) (h3 : G ≤ 256) (h4 : M ≤ 16) (h5 : T ≤ 200) (h6 : S ≤ 1000) (hR : Right ⟨N, Q, G, M, T, S⟩) {B : Nat} (w : World) (hE : EnvC B w) : Calls Tryd.prog 26 #[cVal ⟨N, Q, G, M, T, S⟩] w (Tells (· = txt6 N Q G M T S) w) := by
  have HE := Lib.hid hE
  have HRt := Lib.hid (rt_yes hR)
  clear hR hE
  have HS := Lib.hid (six_at N Q G M T S 23 w)
  have H0 := HS.out.1
  obtain ⟨c0, c1, c2, c3, c4, c5⟩ := H0
  show Calls _ _ #[.agg #[.int .i64 N, .int .i64 Q, .int .i64 G, .int .i64 M, .int .i64 T, .int .i64 S]] _ _
  go_enter Tryd.func26, Tryd.ntmps26
  go_wp2_with (go_at_call 9; refine (cright_any ⟨N, Q, G, M, T, S⟩ _).mono ?_; rintro e w3 ⟨rfl, hb3⟩; rw [HRt.out])
  have HS3 := Lib.hid (six_keep HS.out hb3)
  clear hb3 HS c0 c1 c2 c3 c4 c5
  go_region_held3 (fun w' => (w'.cell? ⟨w.heap.size, 0, none⟩ = some (.int .i64 N) ∧ w'.cell? ⟨w.heap.size, 1, none⟩ = some (.int .i64 Q) ∧ w'.cell? ⟨w.heap.size, 2, none⟩ = some (.int .i64 G) ∧ w'.cell? ⟨w.heap.size, 3, none⟩ = some (.int .i64 M) ∧ w'.cell? ⟨w.heap.size, 4, none⟩ = some (.int .i64 T) ∧ w'.cell? ⟨w.heap.size, 5, none⟩ = some (.int .i64 S)) ∧ Below w.heap.size w w') (first | with_reducible exact six_keep HS3.out (Below.refl _ _).drew | with_reducible exact six_keep (by assumption) (by assumption) | with_reducible exact six_keep (by assumption) ((Below.refl _ _).alloc (Nat.le_refl _) _))
    (first
      | (go_at_call 39; first | ((with_reducible refine (cdig_any _ N rfl (by omega) _ (HE.out.at (by assumption))).mono ?_); rintro e y1 ⟨l1, hl1, rfl, hb1⟩; have HD1 := Lib.hid hl1; clear hl1) | ((with_reducible refine (cdig_any _ Q rfl (by omega) _ (HE.out.at (by assumption))).mono ?_); rintro e y2 ⟨l2, hl2, rfl, hb2⟩; have HD2 := Lib.hid hl2; clear hl2) | ((with_reducible refine (cdig_any _ G rfl (by omega) _ (HE.out.at (by assumption))).mono ?_); rintro e y3 ⟨l3, hl3, rfl, hb3⟩; have HD3 := Lib.hid hl3; clear hl3) | ((with_reducible refine (cdig_any _ M rfl (by omega) _ (HE.out.at (by assumption))).mono ?_); rintro e y4 ⟨l4, hl4, rfl, hb4⟩; have HD4 := Lib.hid hl4; clear hl4) | ((with_reducible refine (cdig_any _ T rfl (by omega) _ (HE.out.at (by assumption))).mono ?_); rintro e y5 ⟨l5, hl5, rfl, hb5⟩; have HD5 := Lib.hid hl5; clear hl5) | ((with_reducible refine (cdig_any _ S rfl (by omega) _ (HE.out.at (by assumption))).mono ?_); rintro e y6 ⟨l6, hl6, rfl, hb6⟩; have HD6 := Lib.hid hl6; clear hl6))
      | (go_at_call 38; refine (words_twelve N Q G M T S h1 h2 h3 h4 h5 h6 l1 l2 l3 l4 l5 l6 HD1.out HD2.out HD3.out HD4.out HD5.out HD6.out _ _).mono ?_; rintro e w7 ⟨l7, hl7, rfl, hb7⟩; have HD7 := Lib.hid hl7; clear hl7))
  rename_i hh
  have HB := Lib.hid hh.2
  clear hh
  go_wp2
  go_ret
  exact ⟨l7, HD7.out, rfl, HB.out⟩
theorem ctext_none (c : Cfg) (hR : ¬ Right c) (w : World) : Calls Tryd.prog 26 #[cVal c] w (Tells (· = []) w) := by
  have HRt := Lib.hid (rt_no hR)
  clear hR
  obtain ⟨n, q, g, m, t, s⟩ := c
  have HS := Lib.hid (six_at n q g m t s 23 w)
  have H0 := HS.out.1
  obtain ⟨c0, c1, c2, c3, c4, c5⟩ := H0
  show Calls _ _ #[.agg #[.int .i64 n, .int .i64 q, .int .i64 g, .int .i64 m, .int .i64 t, .int .i64 s]] _ _
  go_enter Tryd.func26, Tryd.ntmps26
  go_wp2_with (go_at_call 9; refine (cright_any ⟨n, q, g, m, t, s⟩ _).mono ?_; rintro e w3 ⟨rfl, hb3⟩; rw [HRt.out])
  have HB := Lib.hid (HS.out.2.trans (hb3.mono HS.out.2.size))
  clear hb3
  go_ret
  exact ⟨_, rfl, rfl, HB.out⟩
theorem ctext_any (c : Cfg) {B : Nat} (w : World) (hE : EnvC B w) : Calls Tryd.prog 26 #[cVal c] w (Tells (· = txtC c) w) := by
  by_cases hR : Right c
  · rw [txtC_some hR]
    obtain ⟨a, b, g, m, t, s, rfl, h1, h2, h3, h4, h5, h6⟩ := hR.small
    exact ctext_some a b g m t s h1 h2 h3 h4 h5 h6 hR w hE
  · rw [txtC_none hR]; exact ctext_none c hR w
end Go.Proofs.YtkchbnojcfkkhaaDoor
