/- The code's words, digits and names (layer 5), walked. -/
import Derived.Test.YtkchbnojcfkkhaaDoorQb
import Derived.Test.YtkchbnojcfkkhaaDoorQp
import Derived.Test.YtkchbnojcfkkhaaDoorEn
import Derived.Test.YtkchbnojcfkkhaaDoorShelf
namespace Go.Proofs.YtkchbnojcfkkhaaDoor
open Go.RowKit Go.Tx Go.Cg

/-- the words of a P's cells, and of its slots -/
def W7 : List (List UInt8) := W6 ++ [WS]
/-- what the package's variables read as, whatever is done from block B on -/
structure EnvC (B : Nat) (w : World) : Prop where
  base : Env B w
  gs : 0 < B
  gn : 1 < B
  sh : ∀ i, i < 4 → w.cell? ⟨0, i, none⟩ = some (strV (W4.getD i []))
  nm : ∀ i, i < 7 → w.cell? ⟨1, i, none⟩ = some (strV (W7.getD i []))
theorem EnvC.on {B : Nat} {w w1 : World} (h : EnvC B w) (hb : Below B w w1) : EnvC B w1 :=
  ⟨h.base.on hb, h.gs, h.gn, fun i hi => (hb.cell (show (⟨0, i, none⟩ : Addr).block < B from h.gs)).trans (h.sh i hi), fun i hi => (hb.cell (show (⟨1, i, none⟩ : Addr).block < B from h.gn)).trans (h.nm i hi)⟩
theorem EnvC.on' {B : Nat} {w w1 : World} (h : EnvC B w) (hb : Below w.heap.size w w1) : EnvC B w1 := h.on (hb.mono h.base.size)
theorem EnvC.at {B : Nat} {w w1 : World} {S : Prop} (h : EnvC B w) (hb : S ∧ Below w.heap.size w w1) : EnvC B w1 := h.on' hb.2

theorem cdig_any (x : Int) (n : Nat) (hx : x = n) (hn : n ≤ 9223372036854775807) {B : Nat} (w : World) (hE : EnvC B w) : Calls Tryd.prog 39 #[.int .i64 x] w (Tells (· = dc n) w) := by
  subst hx
  have e : Lib.itoa (n : Int) = dc n := by unfold Lib.itoa; rw [if_neg (by omega)]; rfl
  go_enter Tryd.func39, Tryd.ntmps39
  go_wp2_with fail
  refine (Tryd.strconv_Itoa n (by omega) (by omega) _ hE.base.tab.here).mono ?_
  rintro e1 w1 ⟨rfl, k, os, hw⟩
  have hb : Below w.heap.size w w1 := by rw [hw]; exact below_grown w k os
  rw [e]
  clear hw
  have HB := Lib.hid hb
  clear hb
  generalize dc n = l at *
  go_wp2
  go_ret
  exact ⟨l, e.symm, rfl, HB.out⟩
theorem map_strB (l : List (List UInt8)) : (l.map fun x => (⟨x.toArray⟩ : ByteArray)).map (·.data.toList) = l := by
  rw [List.map_map]; exact (List.map_congr_left fun x _ => by simp).trans (List.map_id l)
theorem words_any (l : List (List UInt8)) (g c : Nat) (w : World) (hl : l.length ≤ 100) (hc : l.length ≤ c) (hg : g < w.heap.size) (hcell : ∀ j x, l[j]? = some x → w.cell? ⟨g, j, none⟩ = some (.string ⟨x.toArray⟩)) (hlen : (Lib.join l [32]).length ≤ 10000) : Calls Tryd.prog 38 #[.slice (some ⟨g, 0, none⟩) l.length c] w (Tells (· = Lib.join l [32]) w) := by
  have hj := Tryd.strings_Join g 0 c (l.map fun x => (⟨x.toArray⟩ : ByteArray)) ⟨#[32]⟩ w (by
    intro j x hx
    rw [List.getElem?_map] at hx
    obtain ⟨y, hy, rfl⟩ := Option.map_eq_some_iff.1 hx
    rw [Nat.zero_add]; exact hcell j y hy) hg (by rw [List.length_map]; omega) (by rw [List.length_map]; exact hc) (by
    rw [map_strB]; show (Lib.join l [32]).length ≤ _; omega)
  rw [map_strB, List.length_map] at hj
  change Calls _ _ _ _ (fun e w' => e = .returned (.string ⟨(Lib.join l [32]).toArray⟩) ∧ Below w.heap.size w w') at hj
  obtain ⟨r, hr⟩ : ∃ r, Lib.join l [32] = r := ⟨_, rfl⟩
  rw [hr] at hj ⊢
  clear hr hlen hcell
  obtain ⟨k, hk⟩ : ∃ k, l.length = k := ⟨_, rfl⟩
  rw [hk] at hj hc hl ⊢
  go_enter Tryd.func38, Tryd.ntmps38
  go_wp2_with fail
  refine hj.mono ?_
  rintro e w1 ⟨rfl, hb⟩
  have HB := Lib.hid hb
  clear hb hj
  go_wp2
  go_ret
  exact ⟨r, rfl, rfl, HB.out⟩
/-- words that were just put together -/
theorem words_two (a b : List UInt8) (t : TypeId) (w : World) (ha : a.length ≤ 100) (hb : b.length ≤ 100) : Calls Tryd.prog 38 #[.slice (some ⟨w.heap.size, 0, none⟩) 2 2] (w.alloc (.cells #[.string ⟨a.toArray⟩, .string ⟨b.toArray⟩] t)) (Tells (· = a ++ 32 :: b) (w.alloc (.cells #[.string ⟨a.toArray⟩, .string ⟨b.toArray⟩] t))) := by
  have h := words_any [a, b] w.heap.size 2 (w.alloc (.cells #[.string ⟨a.toArray⟩, .string ⟨b.toArray⟩] t)) (by simp) (by simp) (by simp) (by
    intro j x hx
    rcases j with _ | _ | j <;> simp at hx
    · subst hx; simp [World.cell?_alloc_new]
    · subst hx; simp [World.cell?_alloc_new]) (by rw [join_two]; simp; omega)
  rw [join_two] at h
  exact h
theorem words_three (a b c : List UInt8) (t : TypeId) (w : World) (ha : a.length ≤ 100) (hb : b.length ≤ 100) (hc : c.length ≤ 100) : Calls Tryd.prog 38 #[.slice (some ⟨w.heap.size, 0, none⟩) 3 3] (w.alloc (.cells #[.string ⟨a.toArray⟩, .string ⟨b.toArray⟩, .string ⟨c.toArray⟩] t)) (Tells (· = a ++ 32 :: (b ++ 32 :: c)) (w.alloc (.cells #[.string ⟨a.toArray⟩, .string ⟨b.toArray⟩, .string ⟨c.toArray⟩] t))) := by
  have h := words_any [a, b, c] w.heap.size 3 (w.alloc (.cells #[.string ⟨a.toArray⟩, .string ⟨b.toArray⟩, .string ⟨c.toArray⟩] t)) (by simp) (by simp) (by simp) (by
    intro j x hx
    rcases j with _ | _ | _ | j <;> simp at hx
    · subst hx; simp [World.cell?_alloc_new]
    · subst hx; simp [World.cell?_alloc_new]
    · subst hx; simp [World.cell?_alloc_new]) (by rw [join_three]; simp; omega)
  rw [join_three] at h
  exact h
theorem k2_keep {g1 o1 g2 o2 : Nat} {a b : Value} {w wr w1 : World} (h : (wr.cell? ⟨g1, o1, none⟩ = some a ∧ wr.cell? ⟨g2, o2, none⟩ = some b) ∧ Below w.heap.size w wr) (hb : Below wr.heap.size wr w1) : (w1.cell? ⟨g1, o1, none⟩ = some a ∧ w1.cell? ⟨g2, o2, none⟩ = some b) ∧ Below w.heap.size w w1 :=
  ⟨⟨k_al h.1.1 hb, k_al h.1.2 hb⟩, h.2.trans (hb.mono h.2.size)⟩

set_option maxRecDepth 10000 in
set_option maxHeartbeats 1000000 in
theorem pname_cell (c : Cfg) (p k : Nat) (hp : p ≤ 1000) (hk : k < 6) {B : Nat} (w : World) (hE : EnvC B w) : Calls Tryd.prog 37 #[pVal c p, .int .i64 k] w (Tells (· = cellN k p) w) := by
  have HE := Lib.hid hE
  have hnm := hE.nm k (by omega)
  have hwk : W7.getD k [] = W6.getD k [] := by
    have : ∀ k < 6, W7.getD k [] = W6.getD k [] := by decide
    exact this k hk
  have hlen := w6_len k
  rw [hwk] at hnm
  obtain ⟨x, hx⟩ : ∃ x, W6.getD k [] = x := ⟨_, rfl⟩
  rw [hx] at hnm hlen
  have HX := Lib.hid hx
  clear hwk hx hE
  obtain ⟨n, q, g, m, t, s⟩ := c
  have HV := Lib.hid (sev_at n q g m t s p 57 w)
  have HS : Hid (((w.alloc (.cells #[.int .i64 n, .int .i64 q, .int .i64 g, .int .i64 m, .int .i64 t, .int .i64 s, .int .i64 p] 57)).cell? ⟨w.heap.size, 6, none⟩ = some (.int .i64 p) ∧ (w.alloc (.cells #[.int .i64 n, .int .i64 q, .int .i64 g, .int .i64 m, .int .i64 t, .int .i64 s, .int .i64 p] 57)).cell? ⟨1, k, none⟩ = some (.string ⟨x.toArray⟩)) ∧ Below w.heap.size w (w.alloc (.cells #[.int .i64 n, .int .i64 q, .int .i64 g, .int .i64 m, .int .i64 t, .int .i64 s, .int .i64 p] 57))) :=
    ⟨⟨HV.out.1.2.2.2.2.2.2, k_al hnm HV.out.2⟩, HV.out.2⟩
  clear hnm HV
  have k0 : (0 : Int) ≤ k := by omega
  have k6 : (k : Int) < 6 := by omega
  have k7 : (k : Int) < 7 := by omega
  show Calls _ _ #[.agg #[.int .i64 n, .int .i64 q, .int .i64 g, .int .i64 m, .int .i64 t, .int .i64 s, .int .i64 p], _] _ _
  go_enter Tryd.func37, Tryd.ntmps37
  go_wp2_with fail
  go_region_held3 (fun w' => (w'.cell? ⟨w.heap.size, 6, none⟩ = some (.int .i64 p) ∧ w'.cell? ⟨1, k, none⟩ = some (.string ⟨x.toArray⟩)) ∧ Below w.heap.size w w') (first | with_reducible exact k2_keep HS.out (Below.refl _ _).drew | with_reducible exact k2_keep (by assumption) (by assumption) | with_reducible exact k2_keep (by assumption) ((Below.refl _ _).alloc (Nat.le_refl _) _))
    (first
      | (go_at_call 39; refine (cdig_any _ p rfl (by omega) _ (HE.out.at (by assumption))).mono ?_; rintro e w3 ⟨l3, hl3, rfl, hb3⟩; have hll3 : l3.length ≤ 4 := (by rw [hl3]; exact dc_len (by omega)); have HD3 := Lib.hid hl3; clear hl3)
      | (go_at_call 38; refine (words_two x l3 _ _ (by omega) (by omega)).mono ?_; rintro e w4 ⟨l4, hl4, rfl, hb4⟩; have HD4 := Lib.hid hl4; clear hl4))
  rename_i hh
  have HB := Lib.hid hh.2
  clear hh
  go_wp2
  go_ret
  exact ⟨l4, by rw [HD4.out, HD3.out, ← HX.out]; rfl, rfl, HB.out⟩
end Go.Proofs.YtkchbnojcfkkhaaDoor
