/- Store, CAS, Add of a memory (layer 6). -/
import Derived.Test.YtnakaifnalojeaaNb
namespace Go.Proofs.Ytnakaifnalojeaa
open Go.RowKit Go.Ce

theorem two_new {w : World} (x y : Value) (s t : TypeId) : Row w.heap.size s [x] ((w.alloc (.cells #[x] s)).alloc (.cells #[y] t)) ∧ Row (w.heap.size + 1) t [y] ((w.alloc (.cells #[x] s)).alloc (.cells #[y] t)) ∧ Below w.heap.size w ((w.alloc (.cells #[x] s)).alloc (.cells #[y] t)) :=
  ⟨(Row.new w s [x]).on' ((Below.refl _ _).alloc (Nat.le_refl _) _), Row.new' _ t [y] _ (by simp), ((Below.refl _ _).alloc (Nat.le_refl _) _).alloc (by simp) _⟩

theorem store_any {b g : Nat} {m : PM} (a v : Int) (w : World) (h : MemIs w b g m) (hk : m.k.ops + 1 ≤ 1000000000000) :
    Calls Try.prog 26 #[.pointer (some ⟨b, 0, none⟩), .int .i64 a, .int .u64 v] w (MemPost b g (m.store a v) (.tuple #[]) w) := by
  obtain ⟨hr0, hr1, hb⟩ := two_new (w := w) (.pointer (some ⟨b, 0, none⟩)) (.int .u64 v) 24 34
  have hm := h.on hb
  have hlt := h.lt
  by_cases ha : m.Has a
  · have hacc := access_yes (F := 50) (caps := #[.pointer (some ⟨w.heap.size, 0, none⟩), .pointer (some ⟨w.heap.size + 1, 0, none⟩)]) (S := Own b g) (R := fun _ => True) 2 a v { m.k with s := m.k.s + 1 } _ hm ha ⟨.inl rfl, .inr rfl⟩ (by simp only [Cnt.ops] at hk ⊢; omega) (fun _ _ _ _ => trivial) (fun _ _ => by go_simp) (fun c w1 hb1 hr => by
      have hp : w1.cell? ⟨w.heap.size, 0, none⟩ = some (.pointer (some ⟨b, 0, none⟩)) := (hr0.on' hb1).cell 0
      have hq : w1.cell? ⟨w.heap.size + 1, 0, none⟩ = some (.int .u64 v) := (hr1.on' hb1).cell 0
      refine (cstore_any (m.at a) v w1 hp hq (hr.cell 1) (hr.frozen 1) (by omega) (by simp only [Cnt.ops] at hk; omega)).mono ?_
      rintro e w2 ⟨rfl, rfl⟩
      exact ⟨rfl, hr.set 1 _, (Tch.refl _ _).setCell (.inl ⟨.inl rfl, h.ne⟩) _, trivial⟩)
    rw [store_yes ha]
    have HB := Lib.hid hb
    clear hb hm hr0 hr1 ha h hk
    go_enter Try.func26, Try.ntmps26
    go_wp2_with fail
    refine hacc.mono ?_
    rintro e w1 ⟨rfl, hm1, ht1, -⟩
    have HM1 := Lib.hid hm1
    have HT1 := Lib.hid (Tch.trim HB.out ht1 (fun _ _ h => h))
    clear hm1 ht1
    go_wp2
    go_end0
    exact ⟨rfl, HM1.out, HT1.out⟩
  · have hacc := access_no (F := 50) (caps := #[.pointer (some ⟨w.heap.size, 0, none⟩), .pointer (some ⟨w.heap.size + 1, 0, none⟩)]) 2 a _ hm ha
    rw [store_no ha]
    have HB := Lib.hid hb
    have HM := Lib.hid h
    clear hb hm hr0 hr1 ha h hk
    go_enter Try.func26, Try.ntmps26
    go_wp2_with fail
    refine hacc.mono ?_
    rintro e w1 ⟨rfl, hb1⟩
    have HB1 := Lib.hid (HB.out.trans (hb1.mono HB.out.size))
    clear hb1
    go_wp2
    go_end0
    exact ⟨rfl, HM.out.on HB1.out, .of _ HB1.out⟩
theorem store_nil (a v : Int) (w : World) : Calls Try.prog 26 #[.pointer none, .int .i64 a, .int .u64 v] w (Ans (.tuple #[]) w) := by
  obtain ⟨hr0, hr1, hb⟩ := two_new (w := w) (.pointer none) (.int .u64 v) 24 34
  have HB := Lib.hid hb
  clear hb hr0 hr1
  go_enter Try.func26, Try.ntmps26
  go_wp2_with fail
  refine (access_nil 2 a _).mono ?_
  rintro e w1 ⟨rfl, hb1⟩
  have HB1 := Lib.hid (HB.out.trans (hb1.mono HB.out.size))
  clear hb1
  go_wp2
  go_end0
  exact ⟨rfl, HB1.out⟩
theorem add_any {b g : Nat} {m : PM} (a v : Int) (w : World) (h : MemIs w b g m) (hk : m.k.ops + 1 ≤ 1000000000000) :
    Calls Try.prog 25 #[.pointer (some ⟨b, 0, none⟩), .int .i64 a, .int .u64 v] w (MemPost b g (m.add a v) (.int .u64 (m.ans a)) w) := by
  obtain ⟨hr0, hr1, hb⟩ := two_new (w := w) (.pointer (some ⟨b, 0, none⟩)) (.int .u64 v) 24 34
  have hm := h.on hb
  have hlt := h.lt
  by_cases ha : m.Has a
  · have hacc := access_yes (F := 49) (caps := #[.pointer (some ⟨w.heap.size, 0, none⟩), .pointer (some ⟨w.heap.size + 1, 0, none⟩)]) (S := Own b g) (R := fun _ => True) 4 a (IntKind.u64.wrap (m.at a + v)) { m.k with a := m.k.a + 1 } _ hm ha ⟨.inl rfl, .inr rfl⟩ (by simp only [Cnt.ops] at hk ⊢; omega) (fun _ _ _ _ => trivial) (fun _ _ => by go_simp) (fun c w1 hb1 hr => by
      have hp : w1.cell? ⟨w.heap.size, 0, none⟩ = some (.pointer (some ⟨b, 0, none⟩)) := (hr0.on' hb1).cell 0
      have hq : w1.cell? ⟨w.heap.size + 1, 0, none⟩ = some (.int .u64 v) := (hr1.on' hb1).cell 0
      refine (cadd_any (m.at a) v w1 hp hq (hr.cell 4) (hr.frozen 4) (by omega) (by simp only [Cnt.ops] at hk; omega)).mono ?_
      rintro e w2 ⟨rfl, rfl⟩
      exact ⟨rfl, hr.set 4 _, (Tch.refl _ _).setCell (.inl ⟨.inl rfl, h.ne⟩) _, trivial⟩)
    have hv : m.ans a = m.at a := by unfold PM.ans; rw [if_pos ha]
    rw [hv, add_yes ha]
    have HB := Lib.hid hb
    clear hb hm hr0 hr1 hv ha h hk
    go_enter Try.func25, Try.ntmps25
    go_wp2_with fail
    refine hacc.mono ?_
    rintro e w1 ⟨rfl, hm1, ht1, -⟩
    have HM1 := Lib.hid hm1
    have HT1 := Lib.hid (Tch.trim HB.out ht1 (fun _ _ h => h))
    clear hm1 ht1
    go_wp2
    go_ret
    exact ⟨rfl, HM1.out, HT1.out⟩
  · have hacc := access_no (F := 49) (caps := #[.pointer (some ⟨w.heap.size, 0, none⟩), .pointer (some ⟨w.heap.size + 1, 0, none⟩)]) 4 a _ hm ha
    have hv : m.ans a = 0 := by unfold PM.ans; rw [if_neg ha]
    rw [hv, add_no ha]
    have HB := Lib.hid hb
    have HM := Lib.hid h
    clear hb hm hr0 hr1 hv ha h hk
    go_enter Try.func25, Try.ntmps25
    go_wp2_with fail
    refine hacc.mono ?_
    rintro e w1 ⟨rfl, hb1⟩
    have HB1 := Lib.hid (HB.out.trans (hb1.mono HB.out.size))
    clear hb1
    go_wp2
    go_ret
    exact ⟨rfl, HM.out.on HB1.out, .of _ HB1.out⟩
theorem add_nil (a v : Int) (w : World) : Calls Try.prog 25 #[.pointer none, .int .i64 a, .int .u64 v] w (Ans (.int .u64 0) w) := by
  obtain ⟨hr0, hr1, hb⟩ := two_new (w := w) (.pointer none) (.int .u64 v) 24 34
  have HB := Lib.hid hb
  clear hb hr0 hr1
  go_enter Try.func25, Try.ntmps25
  go_wp2_with fail
  refine (access_nil 4 a _).mono ?_
  rintro e w1 ⟨rfl, hb1⟩
  have HB1 := Lib.hid (HB.out.trans (hb1.mono HB.out.size))
  clear hb1
  go_wp2
  go_ret
  exact ⟨rfl, HB1.out⟩

theorem four_new {w : World} (x y z u : Value) (s t r q : TypeId) (W : World) (hW : (((w.alloc (.cells #[x] s)).alloc (.cells #[y] t)).alloc (.cells #[z] r)).alloc (.cells #[u] q) = W) : Row w.heap.size s [x] W ∧ Row (w.heap.size + 1) t [y] W ∧ Row (w.heap.size + 1 + 1) r [z] W ∧ Row (w.heap.size + 1 + 1 + 1) q [u] W ∧ Below w.heap.size w W := by
  subst hW
  obtain ⟨h0, h1, h2⟩ := two_new (w := w) x y s t
  obtain ⟨h3, h4, h5⟩ := two_new (w := ((w.alloc (.cells #[x] s)).alloc (.cells #[y] t))) z u r q
  refine ⟨h0.on' h5, h1.on' h5, ?_, ?_, h2.trans (h5.mono h2.size)⟩
  · simpa using h3
  · simpa using h4
/-- behind a CAS: what stands in the variable that tells -/
def CasPost (b g : Nat) (m : PM) (ok : Bool) (w : World) (e : Ending) (w' : World) : Prop := e = .returned (.bool ok) ∧ MemIs w' b g m ∧ Tch (Own b g) w w'
set_option maxHeartbeats 1000000 in
theorem cas_any {b g : Nat} {m : PM} (a old v : Int) (w : World) (h : MemIs w b g m) (hk : m.k.ops + 1 ≤ 1000000000000) :
    Calls Try.prog 27 #[.pointer (some ⟨b, 0, none⟩), .int .i64 a, .int .u64 old, .int .u64 v] w (CasPost b g (m.cas a old v) (decide (m.hit a old)) w) := by
  obtain ⟨hr0, hr1, hr2, hr3, hb⟩ := four_new (w := w) (.pointer (some ⟨b, 0, none⟩)) (.int .u64 old) (.int .u64 v) (.bool false) 24 34 34 4 _ rfl
  have hm := h.on hb
  have hlt := h.lt
  have hbs : b ≠ w.heap.size + 1 + 1 + 1 := by omega
  have hgs : g ≠ w.heap.size + 1 + 1 + 1 := by omega
  let S : Nat → Prop := fun j => Own b g j ∨ j = w.heap.size + 1 + 1 + 1
  have HTr : ∀ j, j < w.heap.size → S j → Own b g j := fun j hj hs => by
    rcases hs with hs | hs
    · exact hs
    · omega
  have hst : ∀ y W W', Row (w.heap.size + 1 + 1 + 1) 4 [y] W → Tch (Own b g) W W' → Row (w.heap.size + 1 + 1 + 1) 4 [y] W' := fun y W W' hr ht => hr.tch ht (fun hs => by rcases hs with hs | hs <;> omega)
  by_cases ha : m.Has a
  · by_cases he : m.at a = old
    · have hacc := access_yes (F := 51) (caps := #[.pointer (some ⟨w.heap.size + 1, 0, none⟩), .pointer (some ⟨w.heap.size, 0, none⟩), .pointer (some ⟨w.heap.size + 1 + 1 + 1, 0, none⟩), .pointer (some ⟨w.heap.size + 1 + 1, 0, none⟩)]) (S := S) (R := Row (w.heap.size + 1 + 1 + 1) 4 [.bool true]) 3 a v { m.k with w := m.k.w + 1 } _ hm ha ⟨.inl (.inl rfl), .inl (.inr rfl)⟩ (by simp only [Cnt.ops] at hk ⊢; omega) (hst _) (fun _ _ => by go_simp) (fun c w1 hb1 hr => by
        have hp : w1.cell? ⟨w.heap.size, 0, none⟩ = some (.pointer (some ⟨b, 0, none⟩)) := (hr0.on' hb1).cell 0
        have ho : w1.cell? ⟨w.heap.size + 1, 0, none⟩ = some (.int .u64 old) := (hr1.on' hb1).cell 0
        have hv : w1.cell? ⟨w.heap.size + 1 + 1, 0, none⟩ = some (.int .u64 v) := (hr2.on' hb1).cell 0
        have hs : w1.cell? ⟨w.heap.size + 1 + 1 + 1, 0, none⟩ = some (.bool false) := (hr3.on' hb1).cell 0
        rw [he]
        refine (ccas_hit old v _ w1 hp ho hs ((hr3.on' hb1).frozen 0) hv (hr.cell 2) (hr.frozen 2) (by omega) (by omega) (by omega) (by simp only [Cnt.ops] at hk; omega)).mono ?_
        rintro e w2 ⟨rfl, rfl⟩
        exact ⟨rfl, (hr.set 2 _).far hbs _, (((Tch.refl _ _).setCell (.inl ⟨.inl (.inl rfl), h.ne⟩) _).setCell (.inl ⟨.inr rfl, hgs.symm⟩) _), ((hr3.on' hb1).far (p := ⟨b, 2, none⟩) hbs.symm _).set 0 _⟩)
      rw [decide_eq_true (show m.hit a old from ⟨ha, he⟩), cas_hit ha he]
      have HB := Lib.hid hb
      have HTR := Lib.hid HTr
      clear hb hm hr0 hr1 hr2 hr3 ha he h hk hst HTr hbs hgs
      clear_value S
      go_enter Try.func27, Try.ntmps27
      go_wp2_with fail
      refine hacc.mono ?_
      rintro e w1 ⟨rfl, hm1, ht1, hr1⟩
      have c1 := hr1.cell 0
      simp only [List.getElem?_cons_zero] at c1
      have HM1 := Lib.hid hm1
      have HT1 := Lib.hid (Tch.trim HB.out ht1 HTR.out)
      clear hm1 ht1 hr1 hacc
      go_wp2
      go_ret
      exact ⟨rfl, HM1.out, HT1.out⟩
    · have hacc := access_yes (F := 51) (caps := #[.pointer (some ⟨w.heap.size + 1, 0, none⟩), .pointer (some ⟨w.heap.size, 0, none⟩), .pointer (some ⟨w.heap.size + 1 + 1 + 1, 0, none⟩), .pointer (some ⟨w.heap.size + 1 + 1, 0, none⟩)]) (S := S) (R := Row (w.heap.size + 1 + 1 + 1) 4 [.bool false]) 3 a (m.at a) { m.k with f := m.k.f + 1 } _ hm ha ⟨.inl (.inl rfl), .inl (.inr rfl)⟩ (by simp only [Cnt.ops] at hk ⊢; omega) (hst _) (fun _ _ => by go_simp) (fun c w1 hb1 hr => by
        have hp : w1.cell? ⟨w.heap.size, 0, none⟩ = some (.pointer (some ⟨b, 0, none⟩)) := (hr0.on' hb1).cell 0
        have ho : w1.cell? ⟨w.heap.size + 1, 0, none⟩ = some (.int .u64 old) := (hr1.on' hb1).cell 0
        refine (ccas_miss (m.at a) old w1 hp ho (hr.cell 3) (hr.frozen 3) (by simp only [Cnt.ops] at hk; omega) he).mono ?_
        rintro e w2 ⟨rfl, rfl⟩
        exact ⟨rfl, hr.set 3 _, (Tch.refl _ _).setCell (.inl ⟨.inl (.inl rfl), h.ne⟩) _, (hr3.on' hb1).far (p := ⟨b, 3, none⟩) hbs.symm _⟩)
      rw [decide_eq_false (show ¬ m.hit a old from fun hh => he hh.2), cas_miss ha he]
      have HB := Lib.hid hb
      have HTR := Lib.hid HTr
      clear hb hm hr0 hr1 hr2 hr3 ha he h hk hst HTr hbs hgs
      clear_value S
      go_enter Try.func27, Try.ntmps27
      go_wp2_with fail
      refine hacc.mono ?_
      rintro e w1 ⟨rfl, hm1, ht1, hr1⟩
      have c1 := hr1.cell 0
      simp only [List.getElem?_cons_zero] at c1
      have HM1 := Lib.hid hm1
      have HT1 := Lib.hid (Tch.trim HB.out ht1 HTR.out)
      clear hm1 ht1 hr1 hacc
      go_wp2
      go_ret
      exact ⟨rfl, HM1.out, HT1.out⟩
  · have hacc := access_no (F := 51) (caps := #[.pointer (some ⟨w.heap.size + 1, 0, none⟩), .pointer (some ⟨w.heap.size, 0, none⟩), .pointer (some ⟨w.heap.size + 1 + 1 + 1, 0, none⟩), .pointer (some ⟨w.heap.size + 1 + 1, 0, none⟩)]) 3 a _ hm ha
    rw [decide_eq_false (show ¬ m.hit a old from fun hh => ha hh.1), cas_no ha]
    have HB := Lib.hid hb
    have HM := Lib.hid h
    have HR3 := Lib.hid hr3
    clear hb hm hr0 hr1 hr2 hr3 ha h hk hst HTr hbs hgs
    clear_value S
    clear S
    go_enter Try.func27, Try.ntmps27
    go_wp2_with fail
    refine hacc.mono ?_
    rintro e w1 ⟨rfl, hb1⟩
    have c1 := (HR3.out.on' hb1).cell 0
    simp only [List.getElem?_cons_zero] at c1
    have HB1 := Lib.hid (HB.out.trans (hb1.mono HB.out.size))
    clear hb1 hacc
    go_wp2
    go_ret
    exact ⟨rfl, HM.out.on HB1.out, .of _ HB1.out⟩
theorem cas_nil (a old v : Int) (w : World) : Calls Try.prog 27 #[.pointer none, .int .i64 a, .int .u64 old, .int .u64 v] w (Ans (.bool false) w) := by
  obtain ⟨hr0, hr1, hr2, hr3, hb⟩ := four_new (w := w) (.pointer none) (.int .u64 old) (.int .u64 v) (.bool false) 24 34 34 4 _ rfl
  have HB := Lib.hid hb
  have HR3 := Lib.hid hr3
  clear hb hr0 hr1 hr2 hr3
  go_enter Try.func27, Try.ntmps27
  go_wp2_with fail
  refine (access_nil 3 a _).mono ?_
  rintro e w1 ⟨rfl, hb1⟩
  have c1 := (HR3.out.on' hb1).cell 0
  simp only [List.getElem?_cons_zero] at c1
  have HB1 := Lib.hid (HB.out.trans (hb1.mono HB.out.size))
  clear hb1
  go_wp2
  go_ret
  exact ⟨rfl, HB1.out⟩
end Go.Proofs.Ytnakaifnalojeaa
