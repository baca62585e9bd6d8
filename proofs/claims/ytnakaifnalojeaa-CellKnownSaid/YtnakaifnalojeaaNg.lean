/- again, Redo of a memory (layer 6). -/
import Derived.Test.YtnakaifnalojeaaNf
namespace Go.Proofs.Ytnakaifnalojeaa
open Go.RowKit Go.Ce

/-- what is done again -/
def againP (m : PM) (x : Acc) : PM := m.go x.k x.a x.o (tellV x)
set_option maxHeartbeats 1000000 in
theorem again_any {b g : Nat} {m : PM} (k a o n : Int) (w : World) (h : MemIs w b g m) (hf : m.k.ops + 1 ≤ 1000000000000) (hk : 1 ≤ k ∧ k ≤ 4) : Calls Try.prog 47 #[.pointer (some ⟨b, 0, none⟩), .agg #[.int .i64 k, .int .i64 a, .int .u64 o, .int .u64 n]] w (MemPost b g (againP m ⟨k, a, o, n⟩) (.tuple #[]) w) := by
  have hlt := h.lt
  have HBe := Lib.hid ((Below.refl w.heap.size w).alloc (Nat.le_refl _) (.cells #[.int .i64 k, .int .i64 a, .int .u64 o, .int .u64 n] 38))
  have hm := h.on HBe.out
  have HTr : Hid (∀ w', Tch (Own b g) (w.alloc (.cells #[.int .i64 k, .int .i64 a, .int .u64 o, .int .u64 n] 38)) w' → Tch (Own b g) w w') := fun w' ht => Tch.trim HBe.out ht (fun _ _ h => h)
  have hc : k = 1 ∨ k = 2 ∨ k = 3 ∨ k = 4 := by omega
  clear h hk
  rcases hc with rfl | rfl | rfl | rfl
  · have HE : Hid (againP m ⟨1, a, o, n⟩ = m.load a) := by show _ = _; unfold againP PM.go; rw [if_pos rfl]
    have hcall := load_any a _ hm hf
    clear hm hf
    go_enter Try.func47, Try.ntmps47
    go_wp2_with fail
    refine hcall.mono ?_
    rintro e w1 ⟨rfl, hm1, ht1⟩
    have HM1 := Lib.hid hm1
    have HT1 := Lib.hid (HTr.out _ ht1)
    clear hm1 ht1 hcall
    go_wp2
    go_end0
    exact ⟨rfl, by rw [HE.out]; exact HM1.out, HT1.out⟩
  · have HE : Hid (againP m ⟨2, a, o, n⟩ = m.store a n) := by show _ = _; unfold againP PM.go; rw [if_neg (by simp), if_pos rfl]; rfl
    have hcall := store_any a n _ hm hf
    clear hm hf
    go_enter Try.func47, Try.ntmps47
    go_wp2_with fail
    refine hcall.mono ?_
    rintro e w1 ⟨rfl, hm1, ht1⟩
    have HM1 := Lib.hid hm1
    have HT1 := Lib.hid (HTr.out _ ht1)
    clear hm1 ht1 hcall
    go_wp2
    go_end0
    exact ⟨rfl, by rw [HE.out]; exact HM1.out, HT1.out⟩
  · have HE : Hid (againP m ⟨3, a, o, n⟩ = m.cas a o n) := by show _ = _; unfold againP PM.go; rw [if_neg (by simp), if_neg (by simp), if_pos rfl]; rfl
    have hcall := cas_any a o n _ hm hf
    clear hm hf
    go_enter Try.func47, Try.ntmps47
    go_wp2_with fail
    refine hcall.mono ?_
    rintro e w1 ⟨rfl, hm1, ht1⟩
    have HM1 := Lib.hid hm1
    have HT1 := Lib.hid (HTr.out _ ht1)
    clear hm1 ht1 hcall
    go_wp2
    go_end0
    exact ⟨rfl, by rw [HE.out]; exact HM1.out, HT1.out⟩
  · obtain ⟨d, hd⟩ : ∃ d, IntKind.u64.wrap (n - o) = d := ⟨_, rfl⟩
    have HE : Hid (againP m ⟨4, a, o, n⟩ = m.add a d) := by show _ = _; unfold againP PM.go tellV; rw [if_neg (by simp), if_neg (by simp), if_neg (by simp), if_pos rfl, if_pos rfl, hd]
    have hcall := add_any a d _ hm hf
    clear hm hf
    go_enter Try.func47, Try.ntmps47
    go_wp2_with fail
    refine hcall.mono ?_
    rintro e w1 ⟨rfl, hm1, ht1⟩
    have HM1 := Lib.hid hm1
    have HT1 := Lib.hid (HTr.out _ ht1)
    clear hm1 ht1 hcall
    go_wp2
    go_end0
    exact ⟨rfl, by rw [HE.out]; exact HM1.out, HT1.out⟩

/-- done again, up to the first one that could not be -/
def redoP (m : PM) : List Acc → PM × Nat
  | [] => (m, 0)
  | x :: l => if Could m x then ((redoP (againP m x) l).1, (redoP (againP m x) l).2 + 1) else (m, 0)
theorem redoP_tied {N : Nat} (l : List Acc) : ∀ {m : PM} {xs : List Acc}, Tied m N xs → Tied (redoP m l).1 N (redoV N xs l).1 ∧ (redoP m l).2 = (redoV N xs l).2 := by
  induction l with
  | nil => intro m xs h; exact ⟨h, rfl⟩
  | cons x l ih =>
    intro m xs h
    by_cases hs : Stuck N xs x
    · rw [redoV_stuck hs]
      unfold redoP
      rw [if_neg (fun hc => (could_stuck h x).1 hc hs)]
      exact ⟨h, rfl⟩
    · rw [redoV_go hs]
      unfold redoP
      rw [if_pos ((could_stuck h x).2 hs)]
      have := ih (h.go x.k x.a x.o (tellV x))
      exact ⟨this.1, by show _ + 1 = _ + 1; rw [show againP m x = m.go x.k x.a x.o (tellV x) from rfl, this.2]⟩
theorem redoP_go {m : PM} {x : Acc} (h : Could m x) (l : List Acc) : redoP m (x :: l) = ((redoP (againP m x) l).1, (redoP (againP m x) l).2 + 1) := by rw [redoP, if_pos h]
theorem redoP_no {m : PM} {x : Acc} (h : ¬ Could m x) (l : List Acc) : redoP m (x :: l) = (m, 0) := by rw [redoP, if_neg h]
/-- the rest of it -/
theorem redoP_end {m0 m : PM} {l : List Acc} {i : Nat} (hd : ∀ r, redoP m0 l = r → (redoP m (l.drop i)).1 = r.1 ∧ (redoP m (l.drop i)).2 + i = r.2) (hs : i < l.length → ¬ Could m (l.getD i default)) : redoP m0 l = (m, min i l.length) ∨ l.length < i := by
  have h := hd _ rfl
  generalize redoP m0 l = r at h
  obtain ⟨r1, r2⟩ := r
  by_cases hi : i < l.length
  · left
    rw [List.drop_eq_getElem_cons hi] at h
    have hs' := hs hi
    have hg : l.getD i default = l[i] := by simp [List.getD, hi]
    rw [hg] at hs'
    rw [redoP_no hs'] at h
    obtain ⟨h1, h2⟩ := h
    simp only at h1 h2
    subst h1 h2
    congr 1; omega
  · by_cases he : i = l.length
    · left
      subst he
      rw [List.drop_length] at h
      obtain ⟨h1, h2⟩ := h
      change m = r1 at h1
      change 0 + l.length = r2 at h2
      subst h1 h2
      congr 1; omega
    · right; omega
theorem redoP_step {m0 m : PM} {l : List Acc} {i : Nat} (hi : i < l.length) (hd : ∀ r, redoP m0 l = r → (redoP m (l.drop i)).1 = r.1 ∧ (redoP m (l.drop i)).2 + i = r.2) (hc : Could m (l.getD i default)) : ∀ r, redoP m0 l = r → (redoP (againP m (l.getD i default)) (l.drop (i + 1))).1 = r.1 ∧ (redoP (againP m (l.getD i default)) (l.drop (i + 1))).2 + (i + 1) = r.2 := by
  intro r hr
  have h := hd r hr
  have hg : l.getD i default = l[i] := by simp [List.getD, hi]
  rw [hg] at hc ⊢
  rw [List.drop_eq_getElem_cons hi] at h
  rw [redoP_go hc] at h
  refine ⟨h.1, ?_⟩
  rw [← h.2]
  show _ = _ + 1 + i
  omega
theorem again_len (m : PM) (x : Acc) : (againP m x).k.ops ≤ m.k.ops + 1 := (go_ops ..).1

/-- a row of accesses that came in -/
def RedoCPost (b g : Nat) (m : PM) (l : List Acc) (w : World) (e : Ending) (w' : World) : Prop := e = .returned (.int .i64 (redoP m l).2) ∧ MemIs w' b g (redoP m l).1 ∧ Tch (Own b g) w w'
theorem LiesA.tch {S : Nat → Prop} {w w' : World} {p : Option Addr} {xs : List Acc} (h : LiesA w p xs) (ht : Tch S w w') (hs : ∀ b o, p = some ⟨b, o, none⟩ → ¬ S b) : LiesA w' p xs :=
  ⟨fun i hi => by
    obtain ⟨b, o, hp, hc⟩ := h.cells i hi
    refine ⟨b, o, hp, fun j hj => ?_⟩
    have h1 := hc j hj
    have : ∃ v, (accC (xs.getD i default))[j]? = some v := ⟨_, List.getElem?_eq_getElem (by show j < 4; omega)⟩
    obtain ⟨v, hv⟩ := this
    rw [hv] at h1 ⊢
    exact ht.cell h1 (hs b o hp)⟩
set_option maxHeartbeats 1000000 in
theorem redo_code {b g : Nat} {m : PM} (p : Option Addr) (c : Nat) (l : List Acc) (w : World) (h : MemIs w b g m) (hl : LiesA w p l) (hlen : l.length ≤ 1000000) (hf : m.k.ops + l.length ≤ 1000000000000) (hp : 0 < l.length → ∀ x o, p = some ⟨x, o, none⟩ → ¬ Own b g x) :
    Calls Try.prog 23 #[.pointer (some ⟨b, 0, none⟩), .slice p l.length c] w (RedoCPost b g m l w) := by
  have HM := Lib.hid h
  have HL := Lib.hid hl
  have HP := Lib.hid hp
  have HF := Lib.hid hf
  obtain ⟨n, hn⟩ : ∃ n, l.length = n := ⟨_, rfl⟩
  have HN := Lib.hid hn
  rw [hn] at hlen ⊢
  clear h hl hp hf hn
  go_enter Try.func23, Try.ntmps23
  go_wp2_with fail
  go_loopw [9] (fun vi wr => ∃ i : Nat, i ≤ n ∧ vi = .int .i64 i ∧ ∃ mi, Hid (MemIs wr b g mi) ∧ Hid (Tch (Own b g) w wr) ∧ Hid (∀ r, redoP m l = r → (redoP mi (l.drop i)).1 = r.1 ∧ (redoP mi (l.drop i)).2 + i = r.2) ∧ Hid (mi.k.ops ≤ m.k.ops + i)) (fun vi _ => n - (intOf vi).toNat)
  case atStart => exact ⟨0, by omega, rfl, m, HM, Lib.hid (.refl _ _), (fun r hr => by rw [List.drop_zero, ← hr]; exact ⟨rfl, rfl⟩), Nat.le_refl _⟩
  case round =>
    obtain ⟨i, hi, rfl, mi, HMi, HT, HR, HO⟩ := hrel
    by_cases hlt : i < n
    · obtain ⟨x, hx⟩ : ∃ x, l.getD i default = x := ⟨_, rfl⟩
      obtain ⟨gb, go, rfl, e0, e1, e2, e3⟩ := (HL.out.tch HT.out (fun b' o e => HP.out (by have := HN.out; omega) b' o e)).at (i := i) (by rw [HN.out]; exact hlt)
      rw [hx] at e0 e1 e2 e3
      have HX := Lib.hid hx
      have i1 : (i : Int) < (n : Int) := by omega
      obtain ⟨xk, xa, xo, xn⟩ := x
      have HBe := Lib.hid ((Below.refl wr.heap.size wr).alloc (Nat.le_refl _) (.cells #[.int .i64 xk, .int .i64 xa, .int .u64 xo, .int .u64 xn] 38))
      have HRe := Lib.hid (Row.new wr 38 [.int .i64 xk, .int .i64 xa, .int .u64 xo, .int .u64 xn])
      have hcould := could_any xk xa xo xn _ (HMi.out.on HBe.out)
      have HK := Lib.hid hlt
      clear hx hlt
      by_cases hc : Could mi ⟨xk, xa, xo, xn⟩
      · rw [decide_eq_true hc] at hcould
        have HC := Lib.hid hc
        clear hc
        go_wp2_with fail
        refine hcould.mono ?_
        rintro e w1 ⟨rfl, hb1⟩
        have hr1 := HRe.out.on' hb1
        have d0 := hr1.cell 0
        have d1 := hr1.cell 1
        have d2 := hr1.cell 2
        have d3 := hr1.cell 3
        simp only [List.getElem?_cons_zero, List.getElem?_cons_succ] at d0 d1 d2 d3
        have HB1 := Lib.hid (HBe.out.trans (hb1.mono HBe.out.size))
        clear hb1 hr1 hcould e0 e1 e2 e3
        go_wp2_with fail
        refine (again_any xk xa xo xn w1 (HMi.out.on HB1.out) (by have := HO.out; have := HF.out; have := HK.out; have := HN.out; omega) ⟨HC.out.1, HC.out.2.1⟩).mono ?_
        rintro e w2 ⟨rfl, hm2, ht2⟩
        have HM2 := Lib.hid hm2
        have HT2 := Lib.hid (HT.out.trans (Tch.trim HB1.out ht2 (fun _ _ h => h)))
        have HR2 : Hid (∀ r, redoP m l = r → (redoP (againP mi ⟨xk, xa, xo, xn⟩) (l.drop (i + 1))).1 = r.1 ∧ (redoP (againP mi ⟨xk, xa, xo, xn⟩) (l.drop (i + 1))).2 + (i + 1) = r.2) := by
          have := redoP_step (by rw [HN.out]; exact HK.out) HR.out (by rw [HX.out]; exact HC.out)
          rw [HX.out] at this; exact this
        have HO2 : Hid ((againP mi ⟨xk, xa, xo, xn⟩).k.ops ≤ m.k.ops + (i + 1)) := by
          have := again_len mi ⟨xk, xa, xo, xn⟩
          have := HO.out
          show _ ≤ _
          omega
        clear hm2 ht2
        go_wp2_with fail
        go_roundw
        case rel => exact ⟨i + 1, HK.out, by go_num, _, HM2, HT2, HR2, HO2⟩
        case measure =>
          show _ < _
          have := HK.out
          simp only [intOf]; omega
      · rw [decide_eq_false hc] at hcould
        have HD : Hid (redoP m l = (mi, i)) := by
          show _ = _
          have := (redoP_end HR.out (fun _ => by rw [HX.out]; exact hc)).resolve_right (by have := HN.out; have := HK.out; omega)
          rw [this]; congr 1; have := HN.out; have := HK.out; omega
        clear hc
        go_wp2_with fail
        refine hcould.mono ?_
        rintro e w1 ⟨rfl, hb1⟩
        have HB1 := Lib.hid (HBe.out.trans (hb1.mono HBe.out.size))
        clear hb1 hcould e0 e1 e2 e3
        go_wp2
        go_ret
        exact ⟨by rw [HD.out]; rfl, by rw [HD.out]; exact HMi.out.on HB1.out, HT.out.then HB1.out⟩
    · have HD : Hid (redoP m l = (mi, n)) := by
        show _ = _
        have := (redoP_end HR.out (fun h => absurd h (by have := HN.out; omega))).resolve_right (by have := HN.out; omega)
        rw [this]; congr 1; have := HN.out; omega
      obtain rfl : i = n := by omega
      go_wp2
      go_ret
      exact ⟨by rw [HD.out]; rfl, by rw [HD.out]; exact HMi.out, HT.out⟩
end Go.Proofs.Ytnakaifnalojeaa
