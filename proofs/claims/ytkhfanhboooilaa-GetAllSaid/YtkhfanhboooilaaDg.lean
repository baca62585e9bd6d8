/- The documents' Ring and Thief (from layer 9 on), walked. -/
import Derived.Test.YtkhfanhboooilaaBc
import Derived.Test.YtkhfanhboooilaaBf
import Derived.Test.YtkhfanhboooilaaDm
set_option linter.unusedSimpArgs false
set_option linter.unusedVariables false
namespace Go.Proofs.Ytkhfanhboooilaa
open Go.RowKit Go.Cg Go.Pu Go.Wd Go.Ce

theorem rng_take {c : Cfg} {p : Int} {m : PM} (hs : ln (wdN c p m) ≤ c.q.toNat) {i : Nat} (hi : i < ln (wdN c p m)) : (rng c p m).take (i + 1) = (rng c p m).take i ++ [cellF c p m ((hd (wdN c p m) + i) % 4294967296)] := by
  rw [List.take_add_one, rng_of hs, rngW_at _ _ hi]
  rfl
/-- the config in its box, the memory's cells in a row -/
structure RGI (w0 W : World) (c : Cfg) (b ag n ac : Nat) (cs : List Int) : Prop where
  box : Row b 23 (cCells c) W
  row : W.ownsRow w0.heap.size 29 1 (.slice (some ⟨ag, 0, none⟩) n ac) n (cs.map (Value.int .u64))
  bel : Below w0.heap.size w0 W
  hb : w0.heap.size ≤ b
theorem RGI.on {w0 W W' : World} {c : Cfg} {b ag n ac : Nat} {cs : List Int} (h : RGI w0 W c b ag n ac cs) (hb : Below W.heap.size W W') : RGI w0 W' c b ag n ac cs := ⟨h.box.on' hb, ownk_on h.row hb, h.bel.trans (hb.mono h.bel.size), h.hb⟩
/-- a row of ints grows: all this stays -/
theorem RGI.grown {w0 W W' : World} {c : Cfg} {b ag n ac B : Nat} {cs xs : List Int} {v : Value} (h : RGI w0 W c b ag n ac cs) (hn : NewRow B W v xs) (hB : w0.heap.size ≤ B) (hg : W.grownBy W' v.ownBlock) : RGI w0 W' c b ag n ac cs := by
  have hne : ∀ (k : Nat) (cs' : Array Value) (t : TypeId) (m : Nat × Nat), t ≠ 3 → W.heap[k]? = some (.cells cs' t m) → some k ≠ v.ownBlock := by
    intro k cs' t m ht hk e
    rcases hn.2 with ⟨hv, _⟩ | ⟨g', cap, cur, hv, _, hg', _⟩
    · rw [hv] at e; simp [Value.ownBlock] at e
    · rw [hv] at e
      have e2 : k = g' := by simpa [Value.ownBlock] using e
      subst e2
      rw [hk] at hg'
      cases hg'
      exact ht rfl
  refine ⟨?_, h.row.kept hg ?_, h.bel.grown hg (h.bel.size) (fun k e => Nat.le_trans hB (hn.lt k e).1), h.hb⟩
  · have hbx : W.heap[b]? = some (.cells (cCells c).toArray 23 (0, 0)) := h.box
    have := hg.block b h.box.lt (hne b _ _ _ (by decide) hbx)
    exact this.trans hbx
  · rcases h.row.2 with ⟨hv, _⟩ | ⟨g', cap, cur, hv, _, hg', _⟩
    · cases hv
    · cases hv
      exact .inr (fun e => hne ag _ _ _ (by decide) hg' e)
theorem RGI.at {w0 W : World} {c : Cfg} {b ag n ac : Nat} {m : PM} (h : RGI w0 W c b ag n ac m.cs) {j : Nat} (hj : j < n) : W.cell? ⟨ag, j, none⟩ = some (.int .u64 (m.at (j : Int))) := by
  have hl : m.cs.length = n := by have := h.row.1; simpa using this
  rw [h.row.cellAt j (by omega), List.getElem?_map, List.getElem?_eq_getElem (by omega), at_nat]
  simp [List.getD, hl, hj]
theorem RGI.six {w0 W : World} {n q g m t s : Int} {b ag k ac : Nat} {cs : List Int} (h : RGI w0 W ⟨n, q, g, m, t, s⟩ b ag k ac cs) : W.cell? ⟨b, 0, none⟩ = some (.int .i64 n) ∧ W.cell? ⟨b, 1, none⟩ = some (.int .i64 q) ∧ W.cell? ⟨b, 2, none⟩ = some (.int .i64 g) ∧ W.cell? ⟨b, 3, none⟩ = some (.int .i64 m) ∧ W.cell? ⟨b, 4, none⟩ = some (.int .i64 t) ∧ W.cell? ⟨b, 5, none⟩ = some (.int .i64 s) :=
  ⟨h.box.cell 0, h.box.cell 1, h.box.cell 2, h.box.cell 3, h.box.cell 4, h.box.cell 5⟩
set_option maxRecDepth 100000 in
set_option maxHeartbeats 4000000 in
theorem ring_any {w : World} {b g : Nat} {m : PM} (N Q G M T S : Nat) (p : Nat) (hk : Mk ⟨N, Q, G, M, T, S⟩ p m) (h : MemIs w b g m) :
    Calls Try.prog 46 #[cVal ⟨N, Q, G, M, T, S⟩, .pointer (some ⟨b, 0, none⟩), .int .i64 p] w (RowPost8 (rng ⟨N, Q, G, M, T, S⟩ p m) w) := by
  obtain ⟨c, hc⟩ : ∃ c : Cfg, c = ⟨N, Q, G, M, T, S⟩ := ⟨_, rfl⟩
  obtain ⟨A, hA⟩ : ∃ A, 4 + p * (6 + Q) = A := ⟨_, rfl⟩
  have hAi : (4 : Int) + (p : Int) * (6 + (Q : Int)) = (A : Int) := by rw [← hA]; push_cast; rfl
  have hth := hk.th
  have hw0 := wd_at hk
  have hwlt := wd_lt hk
  obtain ⟨x, hx⟩ : ∃ x, wdN ⟨N, Q, G, M, T, S⟩ p m = x := ⟨_, rfl⟩
  have hlen := hk.len
  obtain ⟨CN, hCN⟩ : ∃ x, ccN ⟨N, Q, G, M, T, S⟩ = x := ⟨_, rfl⟩
  have hlt0 := aS_lt hth 0
  have hQ : 2 ≤ Q ∧ Q ≤ 64 := by have := hth.1.q; simp only at this; omega
  have hAC : A < CN := by
    have h1 := hlt0.2.2.2
    unfold aW at h1
    rw [hCN] at h1
    simp only at h1
    rw [hAi] at h1
    omega
  have HWd : Hid (∀ W, Calls Try.prog 33 #[.agg #[.int .i64 N, .int .i64 Q, .int .i64 G, .int .i64 M, .int .i64 T, .int .i64 S], .int .i64 p] W (Ans (.int .i64 A) W)) := fun W => by
    have := word_any ⟨N, Q, G, M, T, S⟩ p W
    rw [plV_yes hth] at this
    simp only at this
    rw [hAi, show ((A : Int) + ((0 : Nat) : Int)) = (A : Int) by simp] at this
    exact this
  have HCl : Hid (∀ W, Calls Try.prog 57 #[.agg #[.int .i64 N, .int .i64 Q, .int .i64 G, .int .i64 M, .int .i64 T, .int .i64 S]] W (Ans (.int .i64 CN) W)) := fun W => by
    have := ccells_any ⟨N, Q, G, M, T, S⟩ W
    rw [hCN] at this
    exact this
  have HSl : Hid (∀ (P : Nat) (W : World), P < 4294967296 → Calls Try.prog 60 #[.agg #[.int .i64 N, .int .i64 Q, .int .i64 G, .int .i64 M, .int .i64 T, .int .i64 S], .int .i64 p, .int .u32 P] W (Ans (.int .i64 ((A + 6 + P % Q : Nat) : Int)) W)) := fun P W hP => by
    have := cslot_any ⟨N, Q, G, M, T, S⟩ p P hP W
    rw [slP_yes hth] at this
    simp only at this
    rw [hAi, show ((A : Int) + 6 + (P : Int) % (Q : Int)) = ((A + 6 + P % Q : Nat) : Int) by push_cast; rfl] at this
    exact this
  have hcell (P : Nat) : m.at (((A + 6 + P % Q : Nat) : Int)) = m.at (aS ⟨N, Q, G, M, T, S⟩ p P) := by
    unfold aS
    simp only
    rw [hAi]
    congr 1
  have hslt (P : Nat) : A + 6 + P % Q < CN := by
    have h1 := (aS_lt hth P).2.2.1
    unfold aS at h1
    rw [hCN] at h1
    simp only at h1
    rw [hAi] at h1
    have e : (P : Int) % (Q : Int) = ((P % Q : Nat) : Int) := rfl
    rw [e] at h1
    omega
  have HAx : Hid (m.at (A : Int) = (x : Int)) := by
    have h1 := hw0
    unfold aW at h1
    simp only at h1
    rw [hAi, hx] at h1
    exact h1
  have HAll := Lib.hid (all_any h)
  have HK := Lib.hid hk
  have HX := Lib.hid (And.intro hx hwlt)
  have HCell := Lib.hid hcell
  have HSlt := Lib.hid hslt
  have hl2 : m.cs.length = CN := by rw [hlen, hCN]
  have HL := Lib.hid hl2
  have HBx := Lib.hid (Row.new w 23 (cCells ⟨N, Q, G, M, T, S⟩))
  have HB0 : Hid (Below w.heap.size w (w.alloc (.cells #[.int .i64 N, .int .i64 Q, .int .i64 G, .int .i64 M, .int .i64 T, .int .i64 S] 23))) := (Below.refl _ _).alloc (Nat.le_refl _) _
  have HAl2 : Hid (Calls Try.prog 72 #[.pointer (some ⟨b, 0, none⟩)] (w.alloc (.cells #[.int .i64 N, .int .i64 Q, .int .i64 G, .int .i64 M, .int .i64 T, .int .i64 S] 23)) (fun e w1 => ∃ ag ac, e = .returned (.slice (some ⟨ag, 0, none⟩) CN ac) ∧ Hid (w1.ownsRow w.heap.size 29 1 (.slice (some ⟨ag, 0, none⟩) CN ac) CN (m.cs.map (Value.int .u64))) ∧ Hid (Below (w.alloc (.cells #[.int .i64 N, .int .i64 Q, .int .i64 G, .int .i64 M, .int .i64 T, .int .i64 S] 23)).heap.size (w.alloc (.cells #[.int .i64 N, .int .i64 Q, .int .i64 G, .int .i64 M, .int .i64 T, .int .i64 S] 23)) w1))) := by
    refine (all_any (h.on HB0.out)).mono ?_
    rintro e w1 ⟨v, rfl, hO, ⟨ag, ac, rfl⟩, hb⟩
    rw [hl2] at hO
    exact ⟨ag, ac, by rw [hl2], ownk_base hO HB0.out.size, hb⟩
  have haci : (A : Int) < (CN : Int) := by omega
  have hacn : ¬ ((CN : Int) ≤ (A : Int)) := by omega
  have hA0 : ¬ ((A : Int) < 0) := by omega
  have hcc : ¬ ((CN : Int) < (CN : Int)) := by omega
  clear hk h hth hw0 hwlt hx hlen hCN hlt0 hA hAi hcell hslt hl2 HAll
  show Calls _ _ #[.agg #[.int .i64 N, .int .i64 Q, .int .i64 G, .int .i64 M, .int .i64 T, .int .i64 S], _, _] _ _
  go_enter Try.func46, Try.ntmps46
  go_upto_region 3 with (go_at_call 72; refine HAl2.out.mono ?_; rintro e w1 ⟨ag, ac, rfl, HLi, hb⟩; have HB1 := Lib.hid (HB0.out.trans (hb.out.mono HB0.out.size)); have HBx1 := Lib.hid (HBx.out.on' hb.out); clear hb)
  have HG : Hid (RGI w w1 ⟨N, Q, G, M, T, S⟩ w.heap.size ag CN ac m.cs) := ⟨HBx1.out, HLi.out, HB1.out, Nat.le_refl _⟩
  obtain ⟨bb, hbb⟩ : ∃ z, w.heap.size = z := ⟨_, rfl⟩
  rw [hbb] at HG
  rw [hbb]
  clear HBx HB0 HAl2 HLi HB1 HBx1 hbb
  obtain ⟨c0, c1, c2, c3, c4, c5⟩ := HG.out.six
  go_upto_region 6 with (first
    | (go_at_call 57; (with_reducible refine (HCl.out _).mono ?_); rintro e wq ⟨rfl, hbq⟩; have HG := Lib.hid (HG.out.on hbq); clear hbq; obtain ⟨c0, c1, c2, c3, c4, c5⟩ := HG.out.six)
    | (go_at_call 33; (with_reducible refine (HWd.out _).mono ?_); rintro e wq ⟨rfl, hbq⟩; have HG := Lib.hid (HG.out.on hbq); clear hbq; obtain ⟨c0, c1, c2, c3, c4, c5⟩ := HG.out.six; have hcA := HG.out.at (j := A) hAC; rw [HAx.out] at hcA))
  obtain ⟨H, hH, hH2⟩ : ∃ H, hd x = H ∧ H = x / 4294967296 := ⟨_, rfl, rfl⟩
  obtain ⟨t, ht, ht2⟩ : ∃ t, tl x = t ∧ t = x % 4294967296 := ⟨_, rfl, rfl⟩
  have hx64 := HX.out.2
  rw [HX.out.1] at hx64
  have hH32 : H < 4294967296 := by omega
  have ht32 : t < 4294967296 := by omega
  obtain ⟨L, hL, hL2⟩ : ∃ L, ln x = L ∧ L = (t + 4294967296 - H) % 4294967296 := ⟨_, rfl, by unfold ln; rw [ht, hH]⟩
  go_cut [10, 11] (fun v10 v11 wc => v10 = .int .u32 H ∧ v11 = .int .u32 t ∧ wc = wq)
  case first =>
    go_wp2_with fail
    go_meet
    exact ⟨congrArg _ (by omega), congrArg _ (by omega), rfl⟩
  case rest =>
    obtain ⟨rfl, rfl, hwc⟩ := hcut
    obtain rfl : wq = wc := hwc.symm
    have hwl : IntKind.u32.wrap ((t : Int) - (H : Int)) = (L : Int) := by rw [w32y]; omega
    have hwl2 : ((t : Int) - (H : Int)) % 4294967296 = (L : Int) := by omega
    have hwq : IntKind.u32.wrap (Q : Int) = (Q : Int) := by rw [w32y]; omega
    have HHd := Lib.hid (And.intro hH (And.intro ht (And.intro hL hH32)))
    have HQ := Lib.hid hQ
    clear hH hH2 ht ht2 hL2 hL hx64 ht32 hAC haci hacn hA0 hcc hcA hQ
    by_cases hsz : L ≤ Q
    · have HR : Hid (ln (wdN ⟨N, Q, G, M, T, S⟩ p m) ≤ (⟨N, Q, G, M, T, S⟩ : Cfg).q.toNat ∧ ln (wdN ⟨N, Q, G, M, T, S⟩ p m) = L ∧ hd (wdN ⟨N, Q, G, M, T, S⟩ p m) = H) := by
        show _ ∧ _ ∧ _
        rw [HX.out.1, HHd.out.2.2.1, HHd.out.1]
        exact ⟨by show L ≤ ((Q : Nat) : Int).toNat; rw [Int.toNat_natCast]; exact hsz, rfl, rfl⟩
      have hszi : (L : Int) ≤ (Q : Int) := by omega
      have HL64 : Hid (L ≤ 64) := by have := HQ.out; show L ≤ 64; omega
      clear hsz
      go_wp2_with fail
      go_loopw [12, 7] (fun v12 v7 wr => ∃ i q k2 c2, i ≤ L ∧ v12 = .int .u32 ((i : Nat) : Int) ∧ v7 = .slice q k2 c2 ∧ Hid (NewRow w.heap.size wr (.slice q k2 c2) ((rng ⟨N, Q, G, M, T, S⟩ p m).take i)) ∧ Hid (RGI w wr ⟨N, Q, G, M, T, S⟩ bb ag CN ac m.cs)) (fun v12 _ _ => L - (intOf v12).toNat)
      case atStart => exact ⟨0, none, 0, 0, Nat.zero_le _, rfl, rfl, by rw [List.take_zero]; exact NewRow.nil _ _, HG⟩
      case round =>
        clear HG c0 c1 c2 c3 c4 c5
        obtain ⟨i, q, k2, cc, hi, rfl, rfl, HN, HG⟩ := hrel
        obtain ⟨c0, c1, c2, c3, c4, c5⟩ := HG.out.six
        by_cases hlt : i < L
        · have hlti : (i : Int) < (L : Int) := by omega
          have hi1 : IntKind.u32.wrap ((i : Int) + 1) = (i : Int) + 1 := by rw [w32y]; have := HL64.out; omega
          obtain ⟨P, hP1, hP2, hP3, hP4⟩ : ∃ P : Nat, IntKind.u32.wrap ((H : Int) + (i : Int)) = P ∧ ((H : Int) + (i : Int)) % 4294967296 = P ∧ P < 4294967296 ∧ (H + i) % 4294967296 = P := ⟨(H + i) % 4294967296, by rw [w32y]; omega, by omega, by omega, rfl⟩
          obtain ⟨a, ha⟩ : ∃ a, A + 6 + P % Q = a := ⟨_, rfl⟩
          have hac : a < CN := by rw [← ha]; exact HSlt.out P
          have haci : (a : Int) < (CN : Int) := by omega
          have hacn : ¬ ((CN : Int) ≤ (a : Int)) := by omega
          have ha0 : ¬ ((a : Int) < 0) := by omega
          have hS1 := HSl.out P
          rw [ha] at hS1
          have HS1 : Hid (∀ W, Calls Try.prog 60 #[.agg #[.int .i64 N, .int .i64 Q, .int .i64 G, .int .i64 M, .int .i64 T, .int .i64 S], .int .i64 p, .int .u32 P] W (Ans (.int .i64 a) W)) := fun W => hS1 W hP3
          obtain ⟨y, hy⟩ : ∃ y, m.at (a : Int) = y := ⟨_, rfl⟩
          obtain ⟨z, hz⟩ : ∃ z, IntKind.i64.wrap y = z := ⟨_, rfl⟩
          have HZ : Hid ((rng ⟨N, Q, G, M, T, S⟩ p m).take (i + 1) = (rng ⟨N, Q, G, M, T, S⟩ p m).take i ++ [z]) := by
            show _ = _
            rw [rng_take HR.out.1 (by rw [HR.out.2.1]; exact hlt), HR.out.2.2, hP4]
            congr 2
            unfold cellF
            rw [← HCell.out P, ha, hy, hz]
          have HY := Lib.hid hy
          have HI := Lib.hid hlt
          have HTk : Hid (((rng ⟨N, Q, G, M, T, S⟩ p m).take i).length ≤ 64) := by show _ ≤ 64; rw [List.length_take]; have := HL64.out; omega
          clear hS1 ha hP3 hP4 hy hlt
          go_wp2_with (first
            | (go_at_call 60; (with_reducible refine (HS1.out _).mono ?_); rintro e wp ⟨rfl, hbp⟩; have HN2 := Lib.hid (HN.out.on hbp); have HG2 := Lib.hid (HG.out.on hbp); have hca := HG2.out.at (j := a) hac; rw [HY.out] at hca; clear hbp)
            | (at_builtin; refine append_new (B := w.heap.size) _ rfl (.tmp 76) (.tmp 82) (by rfl) (.slice (some ⟨wp.heap.size, 0, none⟩) 1 1) (.slice q k2 cc) ((rng ⟨N, Q, G, M, T, S⟩ p m).take i) [z] (by kernel_rfl) (HN2.out.on ((Below.refl _ _).alloc (Nat.le_refl _) _)) (by kernel_rfl) (sl_one (S := fun _ => False) z _ _ _ rfl id) (by have := HTk.out; simp only [List.length_singleton]; omega) (by have := HG2.out.bel.size; simp only [World.size_alloc]; omega) ?_; intro v5 w5 hn5 hg5; have HG5 := Lib.hid ((HG2.out.on ((Below.refl _ _).alloc (Nat.le_refl _) _)).grown (HN2.out.on ((Below.refl _ _).alloc (Nat.le_refl _) _)) (Nat.le_refl _) hg5); obtain ⟨q5, n5, c5', rfl, hn55⟩ := hn5.form; have HN5 := Lib.hid hn5; clear hn5 hg5 hn55))
          refine ⟨⟨i + 1, q5, n5, c5', HI.out, by push_cast; rfl, rfl, ?_, HG5⟩, ?_⟩
          · have := HN5.out
            rw [← HZ.out] at this
            exact this
          · have := HI.out
            simp only [intOf]; omega
        · have hlti : ¬ ((i : Int) < (L : Int)) := by omega
          obtain rfl : i = L := by omega
          have HE : Hid ((rng ⟨N, Q, G, M, T, S⟩ p m).take i = rng ⟨N, Q, G, M, T, S⟩ p m) := List.take_of_length_le (by rw [rng_length HR.out.1, HR.out.2.1]; exact Nat.le_refl _)
          have HN2 := HN.out
          rw [HE.out] at HN2
          have HN3 := Lib.hid HN2
          clear HN2
          go_wp2_with fail
          go_ret
          exact HN3.out.post HG.out.bel
    · have hszi : ¬ ((L : Int) ≤ (Q : Int)) := by omega
      have hrg : rng ⟨N, Q, G, M, T, S⟩ p m = [] := by
        unfold rng
        rw [HX.out.1, HHd.out.2.2.1, if_neg (show ¬ L ≤ ((Q : Nat) : Int).toNat by rw [Int.toNat_natCast]; exact hsz)]
      have HRG := Lib.hid hrg
      clear hrg hsz
      go_wp2_with fail
      go_loopw [12, 7] (fun v12 v7 wr => v12 = .int .u32 0 ∧ v7 = .slice none 0 0 ∧ Hid (RGI w wr ⟨N, Q, G, M, T, S⟩ bb ag CN ac m.cs)) (fun _ _ _ => 0)
      case atStart => exact ⟨rfl, rfl, HG⟩
      case round =>
        clear HG c0 c1 c2 c3 c4 c5
        obtain ⟨rfl, rfl, HG⟩ := hrel
        obtain ⟨c0, c1, c2, c3, c4, c5⟩ := HG.out.six
        have hL0 : (0 : Int) < (L : Int) := by have := HQ.out; omega
        go_wp2_with fail
        go_ret
        show RowPost8 (rng _ _ _) w _ _
        rw [HRG.out]
        exact (NewRow.nil w.heap.size _).post HG.out.bel
end Go.Proofs.Ytkhfanhboooilaa
