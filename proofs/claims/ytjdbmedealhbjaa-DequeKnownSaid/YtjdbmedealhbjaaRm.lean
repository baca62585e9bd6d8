/- Move of rings (layer 8). -/
import Derived.Test.YtjdbmedealhbjaaRt
set_option linter.unusedSimpArgs false
set_option linter.unusedVariables false
namespace Go.Proofs.Ytjdbmedealhbjaa
open Go.RowKit Go.Wd Go.Dk

theorem move_none (w : World) : Calls Try.prog 23 #[.pointer none, .pointer none] w (Ans (.tuple #[.int .i64 0, .bool false]) w) := by
  go_enter Try.func23, Try.ntmps23
  go_wp2_with fail
  go_ret2
  exact ⟨rfl, Below.refl _ _⟩
theorem move_full {w : World} {a b p gb xb : Nat} {ys : List Int} (s : RingAt w b gb xb p ys) (hy : 0 < ys.length) (u : Value) : Calls Try.prog 23 #[u, dptr b] w (Ans (.tuple #[.int .i64 0, .bool false]) w) := by
  have HL := Lib.hid (len_ring s)
  obtain ⟨n, hn⟩ : ∃ n, ys.length = n := ⟨_, rfl⟩
  rw [hn] at HL hy
  have hyi : (0 : Int) < (n : Int) := by omega
  clear s hn
  go_enter Try.func23, Try.ntmps23
  go_wp2_with (go_at_call 26; refine HL.out.mono ?_; rintro e w' ⟨rfl, rfl⟩)
  go_ret2
  exact ⟨rfl, Below.refl _ _⟩
theorem move_empty {w : World} {a b p q ga xa gb xb : Nat} (r : RingAt w a ga xa q []) (s : RingAt w b gb xb p []) : Calls Try.prog 23 #[dptr a, dptr b] w (Ans (.tuple #[.int .i64 0, .bool false]) w) := by
  have HA := Lib.hid (len_ring r)
  have HB := Lib.hid (len_ring s)
  clear r s
  go_enter Try.func23, Try.ntmps23
  go_wp2_with (first
    | (go_at_call 26; (with_reducible refine HB.out.mono ?_); rintro e w' ⟨rfl, rfl⟩)
    | (go_at_call 26; (with_reducible refine HA.out.mono ?_); rintro e w' ⟨rfl, rfl⟩))
  go_ret2
  exact ⟨rfl, Below.refl _ _⟩
theorem move_self_ring {w : World} {a q ga xa : Nat} {xs : List Int} (r : RingAt w a ga xa q xs) : Calls Try.prog 23 #[dptr a, dptr a] w (Ans (.tuple #[.int .i64 0, .bool false]) w) := by
  rcases Nat.eq_zero_or_pos xs.length with h | h
  · obtain rfl := List.eq_nil_of_length_eq_zero h
    exact move_empty r r
  · exact move_full (a := a) r h _
/-- a new row without its first -/
theorem row_tail {B : Nat} {S : Nat → Prop} {w : World} {g n c : Nat} {xs : List Int} (h : NewRow B w (.slice (some ⟨g, 0, none⟩) n c) xs) (hl : xs.length ≤ 65536) (hs : ¬ S g) :
    (c = 1 → SlIs S w (.slice (some ⟨g, 0, none⟩) (n - 1) 0) xs.tail) ∧ (¬ c = 1 → SlIs S w (.slice (some ⟨g, 1, none⟩) (n - 1) (c - 1)) xs.tail) := by
  rcases h.2 with ⟨hv, _⟩ | ⟨g', cap, cur, hv, hB, hg, hc, hc2, r⟩
  · cases hv
  · obtain ⟨p2, c2, e, hL⟩ := ownk_lies h rfl (by omega)
    cases e
    cases hv
    have ht : xs.length - 1 = xs.tail.length := by simp
    refine ⟨fun e => ?_, fun e => ?_⟩
    · have h0 : xs.tail = [] := List.eq_nil_of_length_eq_zero (by rw [← ht]; omega)
      rw [ht, h0]
      exact ⟨_, 0, rfl, Nat.le_refl _, Nat.zero_le _, fun e => rfl, .nil ..⟩
    · rw [ht]
      refine ⟨_, _, rfl, by rw [← ht]; omega, by omega, fun e => (by cases e), LiesN.made ?_ (fun b o e => by cases e; exact hs)⟩
      have := hL.drop 1
      rw [Nat.zero_add] at this
      rw [← List.drop_one]
      exact this
theorem row_first {B : Nat} {w : World} {p : Option Addr} {n c : Nat} {xs : List Int} (h : NewRow B w (.slice p n c) xs) (hp : 0 < xs.length) : ∃ g, p = some ⟨g, 0, none⟩ ∧ B ≤ g ∧ n = xs.length ∧ w.cell? ⟨g, 0, none⟩ = some (.int .i64 (xs.headD 0)) := by
  rcases h.2 with ⟨hv, h0⟩ | ⟨g', cap, cur, hv, hB, hg, r⟩
  · omega
  · cases hv
    refine ⟨g', rfl, hB, rfl, ?_⟩
    rw [h.cellAt 0 (by omega)]
    cases xs with
    | nil => simp at hp
    | cons y ys => rfl
set_option maxRecDepth 20000 in
set_option maxHeartbeats 1000000 in
theorem move_some {w : World} {a b p q ga xa gb xb : Nat} {xs : List Int} (r : RingAt w a ga xa q xs) (s : RingAt w b gb xb p []) (hx : xs ≠ []) (hd : ∀ k, ringS a ga k → ¬ ringS b gb k) :
    Calls Try.prog 23 #[dptr a, dptr b] w (MovePost DqIs (ringS a ga) (ringS b gb) a q (stL xs) b p (layL p [] (stO xs).tail) (.tuple #[.int .i64 (xs.headD 0), .bool true]) w) := by
  obtain ⟨hv, hhv⟩ : ∃ hv, xs.headD 0 = hv := ⟨_, rfl⟩
  rw [hhv]
  have hhv2 : (stO xs).headD 0 = hv := by
    rw [← hhv]
    have := stN_pos hx
    unfold stO
    cases xs with
    | nil => exact absurd rfl hx
    | cons y ys =>
      obtain ⟨m, hm⟩ : ∃ m, stN (y :: ys) = m + 1 := ⟨stN (y :: ys) - 1, by omega⟩
      rw [hm]; rfl
  have HHv := Lib.hid hhv2
  clear hhv hhv2
  have HA := Lib.hid (len_ring r)
  have HB := Lib.hid (len_ring s)
  have HSt := Lib.hid (steal_ring r)
  have HR := Lib.hid r
  have HS := Lib.hid s
  have hpos := List.length_pos_iff.2 hx
  have HX : Hid (0 < xs.length ∧ xs.length ≤ 65536) := ⟨hpos, r.nmax⟩
  have hl0 : ¬ ((xs.length : Int) = 0) := by omega
  obtain ⟨n, hn⟩ : ∃ n, xs.length = n := ⟨_, rfl⟩
  rw [hn] at HA hl0
  have hni : (0 : Int) < (n : Int) := by omega
  have HD := Lib.hid hd
  clear r s hx hpos hn hd
  go_enter Try.func23, Try.ntmps23
  go_wp2_with (first
    | (go_at_call 26; (with_reducible refine HB.out.mono ?_); rintro e w' ⟨rfl, rfl⟩)
    | (go_at_call 26; (with_reducible refine HA.out.mono ?_); rintro e w' ⟨rfl, rfl⟩)
    | (go_at_call 21; (with_reducible refine HSt.out.mono ?_); rintro e w2 ⟨sp, sn, sc, S', rfl, hk, hI, hO, hap, hS', hT⟩; have HI := Lib.hid hI; have HO := Lib.hid hO; have HT2 := Lib.hid hT; have HS' := Lib.hid hS'; have HAp := Lib.hid hap; obtain ⟨sg, rfl, hsg, hsn, hsc⟩ := row_first hO (by rw [stO_len]; exact stN_pos (fun e => by have := HX.out.1; rw [e] at this; simp at this)); have hsn1 : 1 ≤ sn := (by rw [hsn, stO_len]; exact stN_pos (fun e => by have := HX.out.1; rw [e] at this; simp at this)); rw [HHv.out] at hsc; have HSg := Lib.hid (And.intro hsg hsc); clear hI hO hap hT hS' hk hsg hsc hsn))
  all_goals
    have hns : ¬ ringS b gb sg := by
      have h1 := HS.out.lt
      have h2 := HSg.out.1
      rintro (h | h) <;> omega
    have HNs := Lib.hid hns
    have hs2 : RingAt w2 b gb xb p [] := HS.out.tch HT2.out (fun k hk e => HD.out k e hk)
    have HL : Hid (∀ v, SlIs (ringS b gb) w2 v (stO xs).tail → Calls Try.prog 19 #[dptr b, v] w2 (fun e w' => ∃ n : Nat, e = .returned (.int .i64 n) ∧ Hid (∃ x', RingAt w' b gb x' p (layL p [] (stO xs).tail)) ∧ Hid (Tch (ringS b gb) w2 w') ∧ w'.cell? ⟨sg, 0, none⟩ = some (.int .i64 hv))) := fun v hv => by
      refine (lay_ring hs2 v _ hv (by have := HX.out; rw [List.length_tail, stO_len]; unfold stN; omega)).mono ?_
      rintro e w' ⟨rfl, h1, h2⟩
      exact ⟨_, rfl, h1, h2, h2.out.cell HSg.out.2 hns⟩
    have hlen : (stO xs).length ≤ 65536 := by have := HX.out; rw [stO_len]; unfold stN; omega
    first
      | with_reducible refine (HL.out _ ((row_tail HO.out hlen hns).1 (by assumption))).mono ?_
      | with_reducible refine (HL.out _ ((row_tail HO.out hlen hns).2 (by assumption))).mono ?_
    rintro e w3 ⟨n3, rfl, hR3, hT3, hc3⟩
    clear HL hs2 hns hlen
    go_wp2_with fail
    go_ret2
    obtain ⟨x3, h3⟩ := hR3.out
    have hdis : ∀ k, S' k → ¬ ringS b gb k := fun k hk hb => by
      rcases HS'.out k hk with h | h
      · exact HD.out k h hb
      · have := HS.out.lt
        rcases hb with hb | hb <;> omega
    obtain ⟨g', x', rfl, r'⟩ := HI.out
    exact ⟨_, _, rfl, ⟨g', x', rfl, r'.tch hT3.out hdis⟩, ⟨gb, x3, rfl, h3⟩, hdis, HS'.out, fun k h => .inl h, (HT2.out.wide (fun k h => .inl h)).trans (hT3.out.wide (fun k h => .inr h))⟩
end Go.Proofs.Ytjdbmedealhbjaa
