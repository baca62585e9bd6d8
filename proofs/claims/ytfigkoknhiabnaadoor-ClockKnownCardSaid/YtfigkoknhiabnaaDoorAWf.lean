/- The walks of span's and the reference's texts. -/
import Derived.Test.YtfigkoknhiabnaaDoorRows
import Derived.Test.YtfigkoknhiabnaaDoorATx
import Derived.Test.YtfigkoknhiabnaaDoorShelf
import Derived.Test.YtfigkoknhiabnaaDoorEn
import Derived.WalkKit
import Derived.WalkSpells
import Derived.WalkLawsBesides
import Derived.Lib.Hide
import Derived.Lib.AppendIntMem
namespace Go.Proofs.YtfigkoknhiabnaaDoor
open Go.RowKit Go.Tx

theorem itoa_nat (n : Nat) : Lib.itoa (n : Int) = Lib.decDigits n := Lib.itoa_nonneg n

theorem format_nat {B : Nat} (x : Int) (n : Nat) (w : World) (hx : x = n) (h1 : n ≤ 9223372036854775807) (h : Env B w) : Calls Tryd.prog 38 #[.int .i64 x, .int .i64 10] w (Tells (· = Lib.decDigits n) w) := by
  subst hx
  exact (Tryd.strconv_FormatInt_10 n (by omega) (by omega) w h.tab.here).mono fun e w' ⟨he, k, os, hw⟩ => ⟨_, rfl, by rw [he, itoa_nat], by rw [hw]; exact below_grown w k os⟩

theorem repeat_one (c : Nat) : Lib.repeatL (⟨#[48]⟩ : ByteArray).data.toList c = List.replicate c 48 := by
  induction c with
  | zero => rfl
  | succ c ih => rw [Lib.repeatL, ih, List.replicate_succ]; rfl
theorem bapp (a b : List UInt8) : (⟨a.toArray⟩ : ByteArray) ++ ⟨b.toArray⟩ = ⟨(a ++ b).toArray⟩ := by
  apply ByteArray.ext
  simp
theorem rep_any (x : Int) (c : Nat) (w : World) (hx : x = c) (hc : c ≤ 6) : Calls Tryd.prog 39 #[.string ⟨#[48]⟩, .int .i64 x] w (Tells (· = List.replicate c 48) w) := by
  subst hx
  have h1 : (⟨#[48]⟩ : ByteArray).size = 1 := rfl
  refine (Tryd.strings_Repeat ⟨#[48]⟩ c w (by omega) (by rw [h1]; omega)).mono fun e w' ⟨he, hw⟩ => ⟨_, ?_, he, hw⟩
  exact repeat_one c

set_option maxHeartbeats 400000 in
theorem text_none (n : Int) (w : World) (h : n < 0 ∨ 4611686018427387904 < n) :
    Calls Tryd.prog 31 #[.int .i64 n] w fun e w' => e = .returned (.string ⟨#[]⟩) ∧ w = w' := by
  rcases h with h | h
  · go_enter Tryd.func31, Tryd.ntmps31
    go_wp2
    go_ret
    exact ⟨rfl, rfl⟩
  · have h' : 0 ≤ n := by omega
    go_enter Tryd.func31, Tryd.ntmps31
    go_wp2
    go_ret
    exact ⟨rfl, rfl⟩

set_option maxHeartbeats 400000 in
theorem nearest_id (n : Int) (w : World) (h0 : 0 ≤ n) (h1 : n ≤ 4611686018427387904) :
    Calls Tryd.prog 37 #[.int .i64 n] w fun e w' => e = .returned (.int .i64 n) ∧ w = w' := by
  go_enter Tryd.func37, Tryd.ntmps37
  go_wp2
  go_ret
  exact ⟨rfl, rfl⟩

def TextPost (n : Int) (w : World) (e : Ending) (w' : World) : Prop := e = .returned (.string ⟨(tx n).toArray⟩) ∧ Below w.heap.size w w'

theorem bsize (l : List UInt8) : (⟨l.toArray⟩ : ByteArray).size = l.length := by simp [ByteArray.size]


theorem text_join (a b c : List UInt8) : Ending.returned (.string ((⟨a.toArray⟩ : ByteArray) ++ ⟨#[46]⟩ ++ ⟨b.toArray⟩ ++ ⟨c.toArray⟩)) = Ending.returned (.string ⟨(a ++ [46] ++ b ++ c).toArray⟩) := by
  rw [show (⟨#[46]⟩ : ByteArray) = ⟨[46].toArray⟩ from rfl, bapp, bapp, bapp]

set_option maxHeartbeats 400000 in
theorem text_some {B : Nat} (m : Nat) (hm : m ≤ 4611686018427387904) (w : World) (h : Env B w) :
    Calls Tryd.prog 31 #[.int .i64 m] w (Tells (· = txt m) w) := by
  go_enter Tryd.func31, Tryd.ntmps31
  go_wp2_with (go_at_call 37; refine (nearest_id _ _ (by omega) (by omega)).mono ?_; rintro e w' ⟨rfl, rfl⟩)
  refine (format_nat (B := B) _ (m % 1000000) _ (by omega) (by omega) h).mono ?_
  rintro e w1 ⟨l1, hl1, rfl, hb1⟩
  have h1 := h.on' hb1
  have hlen := dec_len6 m
  rw [← hl1] at hlen
  have H1 := Lib.hid hl1
  clear hl1
  go_wp2_with fail
  refine (format_nat (B := B) _ (m / 1000000) _ (by omega) (by omega) h1).mono ?_
  rintro e w2 ⟨l2, hl2, rfl, hb2⟩
  have h2 := h1.on' hb2
  have hlen2 := txt_length m hm
  rw [← hl2] at hlen2
  replace hlen2 : l2.length ≤ 13 := by omega
  have H2 := Lib.hid hl2
  clear hl2
  go_wp2_with fail
  refine (rep_any _ (6 - l1.length) _ (by omega) (by omega)).mono ?_
  rintro e w3 ⟨l3, hl3, rfl, hb3⟩
  have hlen3 := congrArg List.length hl3
  rw [List.length_replicate] at hlen3
  replace hlen3 : l3.length ≤ 6 := by omega
  have H3 := Lib.hid hl3
  clear hl3
  go_wp2
  go_ret
  refine ⟨_, ?_, text_join l2 l3 l1, (hb1.trans (hb2.mono hb1.size)).trans (hb3.mono (Nat.le_trans hb1.size hb2.size))⟩
  have e1 := H1.out
  have e2 := H2.out
  have e3 := H3.out
  rw [e3, e2, e1]; exact text_parts m

theorem text_any {B : Nat} (n : Int) (w : World) (h : Env B w) : Calls Tryd.prog 31 #[.int .i64 n] w (Tells (· = tx n) w) := by
  by_cases hn : 0 ≤ n ∧ n ≤ 4611686018427387904
  · obtain ⟨m, rfl⟩ : ∃ m : Nat, n = m := ⟨n.toNat, by omega⟩
    have hm : m ≤ 4611686018427387904 := by omega
    rw [tx_nat hm]
    exact text_some m hm w h
  · refine (text_none n w (by omega)).mono fun e w' ⟨he, hw⟩ => ⟨[], ?_, he, by rw [hw]; exact Below.refl _ _⟩
    unfold tx; rw [if_neg hn]

def strLen : Value → Nat
  | .string b => b.size
  | _ => 0
theorem strLen_mk (l : List UInt8) : strLen (.string ⟨l.toArray⟩) = l.length := bsize l
theorem digit_piece (i : Nat) (h : i < 10) : (⟨#[48, 49, 50, 51, 52, 53, 54, 55, 56, 57]⟩ : ByteArray).extract i (i + 1) = ⟨[UInt8.ofNat (48 + i)].toArray⟩ := by
  have h' : i = 0 ∨ i = 1 ∨ i = 2 ∨ i = 3 ∨ i = 4 ∨ i = 5 ∨ i = 6 ∨ i = 7 ∨ i = 8 ∨ i = 9 := by omega
  rcases h' with rfl | rfl | rfl | rfl | rfl | rfl | rfl | rfl | rfl | rfl <;> rfl
theorem digit_join (q : Nat) (l : List UInt8) : Value.string ((⟨#[48, 49, 50, 51, 52, 53, 54, 55, 56, 57]⟩ : ByteArray).extract (q % 10) (q % 10 + 1) ++ ⟨l.toArray⟩) = Value.string ⟨(dgt q :: l).toArray⟩ := by
  rw [digit_piece _ (Nat.mod_lt _ (by decide)), bapp]; rfl
/-- the reference's digits, so far -/
structure Sofar (n least q k : Nat) (l : List UInt8) : Prop where
  q : q = n / 10 ^ k
  l : l = low n k
  min : ∀ j, j < k → j < least ∨ n / 10 ^ j ≠ 0
theorem Sofar.start (n least : Nat) : Sofar n least n 0 [] := ⟨by simp, rfl, by omega⟩
theorem Sofar.step {n least q k : Nat} {l : List UInt8} (h : Sofar n least q k l) (hgo : 0 < q ∨ k < least) : Sofar n least (q / 10) (k + 1) (dgt q :: l) := by
  refine ⟨?_, ?_, ?_⟩
  · rw [h.q, Nat.div_div_eq_div_mul, Nat.pow_succ]
  · rw [low_cons, ← h.q, ← h.l]
  · intro j hj
    by_cases hjk : j < k
    · exact h.min j hjk
    · have : j = k := by omega
      subst this
      rcases hgo with hg | hg
      · right; rw [← h.q]; omega
      · exact .inl hg
theorem Sofar.bound {n least q k : Nat} {l : List UInt8} (h : Sofar n least q k l) (hn : n < 18446744073709551616) (hl : least ≤ 6) : q < 18446744073709551616 ∧ k ≤ 20 := by
  refine ⟨by rw [h.q]; exact Nat.lt_of_le_of_lt (Nat.div_le_self _ _) hn, ?_⟩
  by_cases hk : k ≤ 20
  · exact hk
  · rcases h.min 20 (by omega) with h1 | h1
    · omega
    · exact absurd (Nat.div_eq_of_lt (by have : (10 ^ 20 : Nat) = 100000000000000000000 := by decide
                                         omega)) h1
theorem Sofar.done {n least q k : Nat} {l : List UInt8} (h : Sofar n least q k l) (hq : q = 0) (hk : least ≤ k) : ∃ k, K n least k ∧ l = low n k := by
  have h0 := h.q
  have h1 := h.min
  exact ⟨k, ⟨hk, by rw [← h0, hq], h1⟩, h.l⟩

set_option maxHeartbeats 400000 in
theorem digits_any (n least : Nat) (hn : n < 18446744073709551616) (hl : least ≤ 6) (w : World) :
    Calls Tryd.prog 33 #[.int .u64 n, .int .i64 least] w (Tells (fun l => ∃ k, K n least k ∧ l = low n k) w) := by
  go_enter Tryd.func33, Tryd.ntmps33
  go_wp2
  go_loop [0, 5] (fun v s => ∃ (q : Nat) (l : List UInt8), v = .int .u64 q ∧ s = .string ⟨l.toArray⟩ ∧ Sofar n least q l.length l) (fun v s => (intOf v).toNat + (26 - strLen s))
  case atStart => exact ⟨n, [], rfl, rfl, Sofar.start n least⟩
  case round =>
    obtain ⟨q, l, rfl, rfl, hso⟩ := hrel
    have hb := hso.bound hn hl
    have HS := Lib.hid hso
    clear hso
    by_cases hgo : 0 < q
    · go_wp2
      have hs := Lib.hid (HS.out.step (.inl hgo))
      refine ⟨⟨q / 10, dgt q :: l, by go_num, digit_join q l, by simpa using hs.out⟩, ?_⟩
      simp only [intOf, digit_join, strLen_mk, List.length_cons]; omega
    · obtain rfl : q = 0 := by omega
      by_cases hle : l.length < least
      · go_wp2
        have hs := Lib.hid (HS.out.step (.inr hle))
        refine ⟨⟨0, dgt 0 :: l, rfl, digit_join 0 l, by simpa using hs.out⟩, ?_⟩
        have e := congrArg strLen (digit_join 0 l)
        rw [strLen_mk] at e
        have e' : strLen (Value.string ((⟨#[48, 49, 50, 51, 52, 53, 54, 55, 56, 57]⟩ : ByteArray).extract 0 1 ++ ⟨l.toArray⟩)) = (dgt 0 :: l).length := e
        simp only [intOf, e', strLen_mk, List.length_cons]; omega
      · go_wp2
        go_ret
        exact ⟨l, HS.out.done rfl (by omega), rfl, Below.refl _ _⟩

theorem one_more (l : List UInt8) : (⟨l.toArray⟩ : ByteArray) ++ ⟨#[46]⟩ = ⟨(l ++ [46]).toArray⟩ := bapp l [46]

theorem K_le {n least k : Nat} (h : K n least k) (hn : n < 18446744073709551616) (hl : least ≤ 6) : k ≤ 20 := by
  by_cases hk : k ≤ 20
  · exact hk
  · rcases h.2.2 20 (by omega) with h1 | h1
    · omega
    · exact absurd (Nat.div_eq_of_lt (by have : (10 ^ 20 : Nat) = 100000000000000000000 := by decide
                                         omega)) h1
theorem K_len {n least : Nat} {l : List UInt8} (h : ∃ k, K n least k ∧ l = low n k) (hn : n < 18446744073709551616) (hl : least ≤ 6) : l.length ≤ 20 := by
  obtain ⟨k, hk, rfl⟩ := h
  rw [low_length]; exact K_le hk hn hl

set_option maxHeartbeats 400000 in
theorem rtext_none (n : Int) (w : World) (h : n < 0 ∨ 4611686018427387904 < n) :
    Calls Tryd.prog 27 #[.int .i64 n] w fun e w' => e = .returned (.string ⟨#[]⟩) ∧ w = w' := by
  rcases h with h | h
  · go_enter Tryd.func27, Tryd.ntmps27
    go_wp2
    go_ret
    exact ⟨rfl, rfl⟩
  · have h' : 0 ≤ n := by omega
    go_enter Tryd.func27, Tryd.ntmps27
    go_wp2
    go_ret
    exact ⟨rfl, rfl⟩

theorem digits_at (x y : Int) (n least : Nat) (hx : x = n) (hy : y = least) (hn : n < 18446744073709551616) (hl : least ≤ 6) (w : World) :
    Calls Tryd.prog 33 #[.int .u64 x, .int .i64 y] w (Tells (fun l => ∃ k, K n least k ∧ l = low n k) w) := by
  subst hx; subst hy; exact digits_any n least hn hl w

theorem rtext_join (a c : List UInt8) : Ending.returned (.string ((⟨a.toArray⟩ : ByteArray) ++ ⟨#[46]⟩ ++ ⟨c.toArray⟩)) = Ending.returned (.string ⟨(a ++ 46 :: c).toArray⟩) := by
  rw [show (⟨#[46]⟩ : ByteArray) = ⟨[46].toArray⟩ from rfl, bapp, bapp]; simp
set_option maxHeartbeats 400000 in
theorem rtext_some (m : Nat) (hm : m ≤ 4611686018427387904) (w : World) :
    Calls Tryd.prog 27 #[.int .i64 m] w (Tells (· = txt m) w) := by
  go_enter Tryd.func27, Tryd.ntmps27
  go_wp2_with fail
  refine (digits_at _ _ (m / 1000000) 1 (by omega) (by omega) (by omega) (by omega) _).mono ?_
  rintro e w1 ⟨l1, hl1, rfl, hb1⟩
  have hlen1 := K_len hl1 (by omega) (by omega)
  have H1 := Lib.hid hl1
  clear hl1
  go_wp2_with fail
  refine (digits_at _ _ (m % 1000000) 6 (by omega) (by omega) (by omega) (by omega) _).mono ?_
  rintro e w2 ⟨l2, hl2, rfl, hb2⟩
  have hlen2 := K_len hl2 (by omega) (by omega)
  have H2 := Lib.hid hl2
  clear hl2
  go_wp2
  go_ret
  refine ⟨_, ?_, rtext_join l1 l2, hb1.trans (hb2.mono hb1.size)⟩
  obtain ⟨k1, hk1, e1⟩ := H1.out
  obtain ⟨k2, hk2, e2⟩ := H2.out
  obtain rfl := digits_six (Nat.mod_lt _ (by decide)) hk2
  rw [e1, e2, digits_one hk1]; rfl

theorem rtext_any (n : Int) (w : World) : Calls Tryd.prog 27 #[.int .i64 n] w (Tells (· = tx n) w) := by
  by_cases hn : 0 ≤ n ∧ n ≤ 4611686018427387904
  · obtain ⟨m, rfl⟩ : ∃ m : Nat, n = m := ⟨n.toNat, by omega⟩
    have hm : m ≤ 4611686018427387904 := by omega
    rw [tx_nat hm]
    exact rtext_some m hm w
  · refine (rtext_none n w (by omega)).mono fun e w' ⟨he, hw⟩ => ⟨[], ?_, he, by rw [hw]; exact Below.refl _ _⟩
    unfold tx; rw [if_neg hn]
end Go.Proofs.YtfigkoknhiabnaaDoor
