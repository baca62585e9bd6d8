/- The walk of the reference's Places. -/
import Derived.Test.YtpeikhoepbkggaaDoorWp
import Derived.Test.YtpeikhoepbkggaaDoorWrb
namespace Go.Proofs.YtpeikhoepbkggaaDoor
open Go.RowKit Go.Wd

theorem Two.below {b C : Nat} {u v : Value} {w w' : World} (h : Two b u v w) (hb : Below C w w') (hc : b < C) : Two b u v w' :=
  ⟨by rw [hb.cell (p := ⟨b, 0, none⟩) hc]; exact h.fst, by rw [hb.cell (p := ⟨b, 1, none⟩) hc]; exact h.snd, by rw [hb.frozen (p := ⟨b, 0, none⟩) hc]; exact h.free0, by rw [hb.frozen (p := ⟨b, 1, none⟩) hc]; exact h.free1, Nat.lt_of_lt_of_le h.lt hb.size⟩

theorem own_on {w w' : World} {B n : Nat} {E : TypeId} {v : Value} {xs : List Value} (h : w.ownsRow B E 1 v n xs) (hb : Below w.heap.size w w') : w'.ownsRow B E 1 v n xs := by
  refine ⟨h.1, ?_⟩
  rcases h.2 with h2 | ⟨g, cap, cur, hv, hB, hg, r⟩
  · exact .inl h2
  · refine .inr ⟨g, cap, cur, hv, hB, ?_, r⟩
    rw [hb.block g (Array.getElem?_eq_some_iff.1 hg).1]; exact hg

theorem own_base {w : World} {B C n : Nat} {E : TypeId} {v : Value} {xs : List Value} (h : w.ownsRow B E 1 v n xs) (hb : C ≤ B) : w.ownsRow C E 1 v n xs := by
  refine ⟨h.1, ?_⟩
  rcases h.2 with h2 | ⟨g, cap, cur, hv, hB, r⟩
  · exact .inl h2
  · exact .inr ⟨g, cap, cur, hv, Nat.le_trans hb hB, r⟩

/-- so many have been taken behind k rounds -/
def cnt (fr n k : Nat) : Nat := min n (k - fr)
def upto (x fr n k : Nat) : List Value := (List.range (cnt fr n k)).map fun j => Value.int .u32 ((pat x fr j : Nat) : Int)
theorem upto_length (x fr n k : Nat) : (upto x fr n k).length = cnt fr n k := by unfold upto; simp
theorem cnt_yes {fr n k : Nat} (h1 : fr ≤ k) (h2 : cnt fr n k < n) : cnt fr n (k + 1) = cnt fr n k + 1 ∧ cnt fr n k = k - fr := by unfold cnt at *; omega
theorem cnt_no {fr n k : Nat} (h : k < fr ∨ ¬ cnt fr n k < n) : cnt fr n (k + 1) = cnt fr n k := by unfold cnt at *; omega
theorem upto_yes {x fr n k : Nat} (h1 : fr ≤ k) (h2 : cnt fr n k < n) : upto x fr n k ++ [Value.int .u32 ((pat x fr (k - fr) : Nat) : Int)] = upto x fr n (k + 1) := by
  obtain ⟨a, b⟩ := cnt_yes h1 h2
  unfold upto; rw [a, List.range_succ, List.map_append, ← b]; rfl
theorem upto_no {x fr n k : Nat} (h : k < fr ∨ ¬ cnt fr n k < n) : upto x fr n (k + 1) = upto x fr n k := by unfold upto; rw [cnt_no h]
theorem upto_start {x fr n B : Nat} {w : World} : w.ownsRow B 22 1 (.slice none 0 0) (cnt fr n 0) (upto x fr n 0) := by
  have e : cnt fr n 0 = 0 := by unfold cnt; omega
  have e2 : upto x fr n 0 = [] := by unfold upto; rw [e, List.range_zero, List.map_nil]
  rw [e, e2]; exact World.ownsRow_nil _ _ _ _
theorem slice_form {w : World} {B n : Nat} {E : TypeId} {v : Value} {xs : List Value} (h : w.ownsRow B E 1 v n xs) : ∃ p cap, v = .slice p n cap := by
  rcases Joins.ownsRow_forms h with ⟨hv, hz⟩ | ⟨g, cap, hv⟩
  · exact ⟨none, 0, by rw [hv, hz]⟩
  · exact ⟨_, _, hv⟩
theorem upto_done {x fr n m : Nat} (h : ¬ 65536 < m) (hm : ln x = m) : (upto x fr n m) = (pls x fr n).map (Value.int .u32) ∧ cnt fr n m = (pls x fr n).length := by
  have hm' : ¬ 65536 < ln x := by omega
  rw [pls_some hm']
  unfold upto cnt; rw [hm]
  constructor
  · rw [List.map_map]; rfl
  · simp
theorem pat_at {x fr k h : Nat} (hh : hd x = h) (h1 : fr ≤ k) : ((h : Int) + (k : Int)) % 4294967296 = ((pat x fr (k - fr) : Nat) : Int) := by unfold pat; rw [hh]; omega

set_option maxHeartbeats 400000 in
theorem rplaces_long (h t m fr n : Nat) (hm : ∀ w, Calls Tryd.prog 7 #[.agg #[.int .u32 h, .int .u32 t]] w (Ans (.int .u32 m) w)) (h1 : 65536 < m) (w : World) :
    Calls Tryd.prog 29 #[.agg #[.int .u32 h, .int .u32 t], .int .u32 fr, .int .u32 n] w (RowPost [] w) := by
  have HM := Lib.hid hm
  clear hm
  go_enter Tryd.func29, Tryd.ntmps29
  go_wp2_with fail
  refine (HM.out _).mono ?_
  rintro e w1 ⟨rfl, hb1⟩
  have HB := Lib.hid (((Below.refl _ _).alloc (Nat.le_refl _) _).trans (hb1.mono (by simp)))
  clear hb1
  go_wp2
  go_ret
  exact ⟨_, rfl, World.ownsRow_nil _ _ _ _, HB.out⟩

set_option maxRecDepth 100000 in
set_option maxHeartbeats 1000000 in
theorem rplaces_some (x h t m fr n : Nat) (hm : ∀ w, Calls Tryd.prog 7 #[.agg #[.int .u32 h, .int .u32 t]] w (Ans (.int .u32 m) w)) (hh : hd x = h) (hlt : h < 4294967296) (hn : n < 4294967296) (hx : ln x = m) (h1 : m ≤ 65536) (w : World) :
    Calls Tryd.prog 29 #[.agg #[.int .u32 h, .int .u32 t], .int .u32 fr, .int .u32 n] w (RowPost (pls x fr n) w) := by
  obtain ⟨i0, hi, hz0, hz1, hz2⟩ := info_parts infoU32
  have HM := Lib.hid hm
  have HH := Lib.hid hh
  have HX := Lib.hid hx
  clear hm hh hx
  go_enter Tryd.func29, Tryd.ntmps29
  go_wp2_with fail
  refine (HM.out _).mono ?_
  rintro e w1 ⟨rfl, hb1⟩
  have hT := (Two.new (.int .u32 h) (.int .u32 t) w 24).on hb1
  have HB := Lib.hid (((Below.refl _ _).alloc (Nat.le_refl _) _).trans (hb1.mono (by simp)))
  have HT := Lib.hid hT
  clear hb1 hT
  go_wp2_with fail
  go_loopw [7, 8] (fun v i wr => ∃ k : Nat, k ≤ m ∧ i = .int .u32 k ∧ Hid (wr.ownsRow (w.heap.size + 1) 22 1 v (cnt fr n k) (upto x fr n k)) ∧ Hid (Two w.heap.size (.int .u32 h) (.int .u32 t) wr) ∧ Hid (Below w.heap.size w wr)) (fun _ i _ => m - (intOf i).toNat)
  case atStart => exact ⟨0, by omega, rfl, upto_start, HT, HB⟩
  case round =>
    obtain ⟨k, hk, rfl, hO, hT, hB⟩ := hrel
    clear HT HB
    obtain ⟨p, cap, rfl⟩ := slice_form hO.out
    obtain ⟨c, hc⟩ : ∃ c, cnt fr n k = c := ⟨_, rfl⟩
    have hcm : c ≤ 65536 := by rw [← hc]; unfold cnt; omega
    rw [hc] at hO
    have HC := Lib.hid hc
    rw [hc]
    clear hc
    obtain ⟨c0, c1, f0, f1, hlt1⟩ := hT.out
    by_cases hk2 : k < m
    · go_wp2_with fail
      refine (HM.out _).mono ?_
      rintro e w2 ⟨rfl, hb2⟩
      have hT2 := hT.out.on hb2
      have HO2 := Lib.hid (own_on hO.out hb2)
      have HB2 := Lib.hid (hB.out.trans (hb2.mono (by omega)))
      have HT2 := Lib.hid hT2
      clear hb2 c0 c1 f0 f1 hlt1 hO hT hB
      obtain ⟨c0, c1, f0, f1, hlt1⟩ := hT2
      by_cases hyes : fr ≤ k ∧ c < n
      · obtain ⟨y1, y2⟩ := hyes
        go_wp2_with (at_builtin; refine wpList_append_own _ rfl (.tmp 28) (.tmp 33) 42 rfl (w.heap.size + 1) 22 i0 (.int .u32 0) 1 4 Tryd.underlying42 hi hz0 hz1 hz2 rfl (by decide) _ _ _ rfl (HO2.out.alloc _) ⟨w2.heap.size, 0, none⟩ 1 1 [.int .u32 (((h : Int) + (k : Int)) % 4294967296)] rfl rfl ?c1 ?c2 ?c3 ?c4 ?c5 ?_)
        case c1 => intro j u hu; rcases j with _ | j <;> simp at hu; subst hu; simp [World.cell?_alloc_new, Addr.add]
        case c2 => intro u hu; simp at hu; subst hu; rfl
        case c3 => unfold maxLen; omega
        case c4 => omega
        case c5 => simp; omega
        intro v' w3 hown' hgrow _
        have hb3 : Below (w.heap.size + 1) w2 w3 := ((Below.refl _ _).alloc (by omega) _).grown hgrow (by simp; omega) (fun j hj => (HO2.out.lt j hj).1)
        rw [pat_at HH.out y1, ← HC.out, upto_yes y1 (by rw [HC.out]; exact y2), ← (cnt_yes y1 (by rw [HC.out]; exact y2)).1] at hown'
        have HO3 := Lib.hid hown'
        have HT3 := Lib.hid (HT2.out.below hb3 (by omega))
        have HB3 := Lib.hid (HB2.out.trans (hb3.mono (by omega)))
        clear hown' hgrow hb3 c0 c1 f0 f1 hlt1
        go_wp2
        go_roundw
        case rel => exact ⟨k + 1, by omega, by go_num, HO3, HT3, HB3⟩
        case measure =>
          show _ < _
          simp only [intOf]; omega
      · have hno : k < fr ∨ ¬ c < n := by omega
        have hno2 : k < fr ∨ ¬ cnt fr n k < n := by rw [HC.out]; exact hno
        have HN := Lib.hid (And.intro (cnt_no hno2) (upto_no (x := x) hno2))
        clear hno2 hyes
        rcases hno with hno | hno
        · go_wp2
          go_roundw
          case rel => exact ⟨k + 1, by omega, by go_num, by rw [HN.out.1, HN.out.2, HC.out]; exact HO2, HT2, HB2⟩
          case measure =>
            show _ < _
            simp only [intOf]; omega
        · by_cases hf : k < fr
          · go_wp2
            go_roundw
            case rel => exact ⟨k + 1, by omega, by go_num, by rw [HN.out.1, HN.out.2, HC.out]; exact HO2, HT2, HB2⟩
            case measure =>
              show _ < _
              simp only [intOf]; omega
          · go_wp2
            go_roundw
            case rel => exact ⟨k + 1, by omega, by go_num, by rw [HN.out.1, HN.out.2, HC.out]; exact HO2, HT2, HB2⟩
            case measure =>
              show _ < _
              simp only [intOf]; omega
    · obtain rfl : k = m := by omega
      have hd := upto_done (fr := fr) (n := n) (show ¬ 65536 < k by omega) HX.out
      have hO2 := hO.out
      rw [hd.1, ← HC.out, hd.2] at hO2
      have HD := Lib.hid hd.2
      have HO2 := Lib.hid hO2
      clear hd hO2 hO
      go_wp2_with fail
      refine (HM.out _).mono ?_
      rintro e w2 ⟨rfl, hb2⟩
      have HR := Lib.hid (own_on HO2.out hb2)
      have HB2 := Lib.hid (hB.out.trans (hb2.mono (by omega)))
      clear hb2 c0 c1 f0 f1 hlt1 hT hB HO2
      go_wp2
      go_ret
      refine ⟨_, rfl, ?_, HB2.out⟩
      have := HR.out
      rw [← HD.out, HC.out] at this ⊢
      exact own_base this (by omega)

theorem rplaces_any (x fr n : Nat) (hx : x < 18446744073709551616) (hn : n < 4294967296) (w : World) :
    Calls Tryd.prog 29 #[.agg #[.int .u32 (hd x : Nat), .int .u32 (tl x : Nat)], .int .u32 fr, .int .u32 n] w (RowPost (pls x fr n) w) := by
  by_cases h : 65536 < ln x
  · rw [pls_none (.inl h)]; exact rplaces_long _ _ (ln x) fr n (rlen_any x hx) h w
  · exact rplaces_some x (hd x) (tl x) (ln x) fr n (rlen_any x hx) rfl (hd_lt hx) hn rfl (by omega) w
end Go.Proofs.YtpeikhoepbkggaaDoor
