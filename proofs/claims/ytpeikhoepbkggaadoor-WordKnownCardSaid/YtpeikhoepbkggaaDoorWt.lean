/- The walks of word's and the reference's texts. -/
import Derived.Test.YtpeikhoepbkggaaDoorWra
import Derived.Test.YtpeikhoepbkggaaDoorTx
import Derived.Test.YtpeikhoepbkggaaDoorShelf
import Derived.Lib.AppendIntMem
import Derived.Lib.ItoaMem
namespace Go.Proofs.YtpeikhoepbkggaaDoor
open Go.RowKit Go.Wd Go.Tx Go.Sort

/-- what the package's variables read as, whatever is done from block B on -/
structure Env (B : Nat) (w : World) : Prop where
  size : B ≤ w.heap.size
  tab : Lib.TabBelow Tryd.prog B w "internal/strconv.uint64pow10" .u64 Lib.pow10Tab
theorem Env.on {B : Nat} {w w1 : World} (h : Env B w) (hb : Below B w w1) : Env B w1 := ⟨Nat.le_trans h.size hb.size, h.tab.on hb⟩
theorem Env.on' {B : Nat} {w w1 : World} (h : Env B w) (hb : Below w.heap.size w w1) : Env B w1 := h.on (hb.mono h.size)

theorem below_grown (w : World) (k : Nat) (os : Array Obj) : Below w.heap.size w (Sort.grow (w.drewN k) os) := Lib.below_grow _ _ (Nat.le_refl _) _ _

/-- it returned the text l -/
def Tells (P : List UInt8 → Prop) (w : World) (e : Ending) (w' : World) : Prop := ∃ l, P l ∧ e = .returned (.string ⟨l.toArray⟩) ∧ Below w.heap.size w w'

set_option maxRecDepth 100000 in
set_option maxHeartbeats 6400000 in
theorem ifmt_small (u : Nat) (hu : u < 100) (w : World) : Calls Tryd.prog 40 #[.int .u64 u, .int .i64 10] w (Tells (· = Lib.decDigits u) w) := by
  go_enter Tryd.func40, Tryd.ntmps40
  go_wp2_with (go_at_call 41; refine (Tryd.internal_strconv_small u hu _).mono ?_; rintro e w' ⟨rfl, rfl⟩)
  go_ret
  exact ⟨_, rfl, rfl, Below.refl _ _⟩

set_option maxRecDepth 100000 in
set_option maxHeartbeats 6400000 in
theorem ifmt_big (u : Nat) (hu : 100 ≤ u) (hu64 : u < 18446744073709551616) (w : World) (htab : Lib.TabIs Tryd.prog w "internal/strconv.uint64pow10" .u64 Lib.pow10Tab) :
    Calls Tryd.prog 40 #[.int .u64 u, .int .i64 10] w (Tells (· = Lib.decDigits u) w) := by
  have hu1 : 1 ≤ u := by omega
  have hnd20 : Lib.nDigits u ≤ 20 := by have := Lib.numDigits_eq u hu1 hu64; split at this <;> omega
  have hal : Tryd.prog.arrayLen 57 = 24 := by kernel_rfl
  have hsl : ∀ W, (Instr.sliceAt 57 (.pointer (some ⟨w.heap.size, 0, none⟩)) none (some (.int .i64 (Lib.nDigits u : Int))) none).run Tryd.prog W = .ok (.slice (some ⟨w.heap.size, 0, none⟩) (Lib.nDigits u) 24) W := fun W => by
    rw [run_sliceAt_array_h W 57 ⟨w.heap.size, 0, none⟩ (by kernel_rfl) .i64 (Lib.nDigits u : Int) (by omega) (by rw [hal]; omega), hal]
    go_simp
  have hH0 := Lib.holds_zero0 w 57 (Lib.nDigits u) (by omega)
  have hfmt := Tryd.internal_strconv_formatBase10 w.heap.size 0 24 u (Array.replicate (Lib.nDigits u) 0) (w.alloc (.cells Lib.zeros24 57)) hH0 (by rw [Array.size_replicate]; exact Lib.lt_pow_nDigits u) hu64 (by rw [Array.size_replicate]; omega)
  rw [Array.size_replicate] at hfmt
  have HH0 := Lib.hid hH0
  have iu : (100 : Int) ≤ (u : Int) := by omega
  clear hH0 hal
  go_enter Tryd.func40, Tryd.ntmps40
  go_wp2_with (first
    | (go_at_call 42; refine (Tryd.internal_strconv_numDigits u hu1 hu64 _ (Lib.tabIs_alloc htab _)).mono ?_; rintro e w' ⟨rfl, rfl⟩))
  go_at_call 43
  refine hfmt.mono ?_
  rintro e w' ⟨rfl, k, v', dk, rfl, hF⟩
  have hcv : (convert 60 9 (.slice (some ⟨w.heap.size, 0, none⟩) (Lib.nDigits u) 24)).run Tryd.prog ((putRow (fun (b : UInt8) => Value.int .u8 (b.toNat : Int)) (w.alloc (.cells Lib.zeros24 57)) w.heap.size 0 dk).drewN k) = .ok (.string ⟨(Lib.decDigits u).toArray⟩) ((putRow (fun (b : UInt8) => Value.int .u8 (b.toNat : Int)) (w.alloc (.cells Lib.zeros24 57)) w.heap.size 0 dk).drewN k) := by
    have h := run_convert_bytes_back (P := Tryd.prog) ((putRow (fun (b : UInt8) => Value.int .u8 (b.toNat : Int)) (w.alloc (.cells Lib.zeros24 57)) w.heap.size 0 dk).drewN k) 60 9 5 ⟨w.heap.size, 0, none⟩ 24 (Lib.decDigits u) Tryd.underlying60 Tryd.underlying5 Tryd.underlying9 (fun j hj => by
      rw [Lib.row_is_numeral hF j hj, Lib.add_plain, World.cell?_drewN]
      exact cell?_putRow (fun (b : UInt8) => Value.int .u8 (b.toNat : Int)) _ w.heap.size 0 _ dk HH0.out (by rw [hF.size, Array.size_replicate]) j (by rw [hF.size]; rw [Lib.decDigits_length] at hj; exact hj))
    rw [Lib.decDigits_length] at h
    exact h
  go_wp2
  go_ret
  obtain ⟨os, eo⟩ := Lib.fin_at w (.cells Lib.zeros24 57) dk k 0
  exact ⟨_, rfl, rfl, by rw [eo]; exact below_grown w k os⟩

theorem ifmt_any {B : Nat} (u : Nat) (hu64 : u < 18446744073709551616) (w : World) (h : Env B w) :
    Calls Tryd.prog 40 #[.int .u64 u, .int .i64 10] w (Tells (· = Lib.decDigits u) w) := by
  by_cases hu : u < 100
  · exact ifmt_small u hu w
  · exact ifmt_big u (by omega) hu64 w h.tab.here
theorem bapp (a b : List UInt8) : (⟨a.toArray⟩ : ByteArray) ++ ⟨b.toArray⟩ = ⟨(a ++ b).toArray⟩ := by
  apply ByteArray.ext
  simp
theorem bsize (l : List UInt8) : (⟨l.toArray⟩ : ByteArray).size = l.length := by simp [ByteArray.size]
/-- likewise, and the world is as it was -/
def Says (P : List UInt8 → Prop) (w : World) (e : Ending) (w' : World) : Prop := ∃ l, P l ∧ e = .returned (.string ⟨l.toArray⟩) ∧ w = w'

def strLen : Value → Nat
  | .string b => b.size
  | _ => 0
theorem strLen_mk (l : List UInt8) : strLen (.string ⟨l.toArray⟩) = l.length := bsize l
theorem digit_piece (i : Nat) (h : i < 10) : (⟨#[48, 49, 50, 51, 52, 53, 54, 55, 56, 57]⟩ : ByteArray).extract i (i + 1) = ⟨[UInt8.ofNat (48 + i)].toArray⟩ := by
  have h' : i = 0 ∨ i = 1 ∨ i = 2 ∨ i = 3 ∨ i = 4 ∨ i = 5 ∨ i = 6 ∨ i = 7 ∨ i = 8 ∨ i = 9 := by omega
  rcases h' with rfl | rfl | rfl | rfl | rfl | rfl | rfl | rfl | rfl | rfl <;> rfl
theorem digit_join (q : Nat) (l : List UInt8) : Value.string ((⟨#[48, 49, 50, 51, 52, 53, 54, 55, 56, 57]⟩ : ByteArray).extract (q % 10) (q % 10 + 1) ++ ⟨l.toArray⟩) = Value.string ⟨(dgt q :: l).toArray⟩ := by
  rw [digit_piece _ (Nat.mod_lt _ (by decide)), bapp]; rfl
/-- the reference's digits, so far -/
structure Sofar (n least q k : Nat) (l : List UInt8) : Prop where
  q : q = n / 10 ^ k
  l : l = low n k
  min : ∀ j, j < k → j < least ∨ n / 10 ^ j ≠ 0
theorem Sofar.start (n least : Nat) : Sofar n least n 0 [] := ⟨by simp, rfl, by omega⟩
theorem Sofar.step {n least q k : Nat} {l : List UInt8} (h : Sofar n least q k l) (hgo : 0 < q ∨ k < least) : Sofar n least (q / 10) (k + 1) (dgt q :: l) := by
  refine ⟨?_, ?_, ?_⟩
  · rw [h.q, Nat.div_div_eq_div_mul, Nat.pow_succ]
  · rw [low_cons, ← h.q, ← h.l]
  · intro j hj
    by_cases hjk : j < k
    · exact h.min j hjk
    · have : j = k := by omega
      subst this
      rcases hgo with hg | hg
      · right; rw [← h.q]; omega
      · exact .inl hg
theorem Sofar.bound {n least q k : Nat} {l : List UInt8} (h : Sofar n least q k l) (hn : n < 18446744073709551616) (hl : least ≤ 6) : q < 18446744073709551616 ∧ k ≤ 20 := by
  refine ⟨by rw [h.q]; exact Nat.lt_of_le_of_lt (Nat.div_le_self _ _) hn, ?_⟩
  by_cases hk : k ≤ 20
  · exact hk
  · rcases h.min 20 (by omega) with h1 | h1
    · omega
    · exact absurd (Nat.div_eq_of_lt (by have : (10 ^ 20 : Nat) = 100000000000000000000 := by decide
                                         omega)) h1
theorem Sofar.done {n least q k : Nat} {l : List UInt8} (h : Sofar n least q k l) (hq : q = 0) (hk : least ≤ k) : ∃ k, K n least k ∧ l = low n k := by
  have h0 := h.q
  have h1 := h.min
  exact ⟨k, ⟨hk, by rw [← h0, hq], h1⟩, h.l⟩

set_option maxHeartbeats 400000 in
theorem digits_any (n least : Nat) (hn : n < 18446744073709551616) (hl : least ≤ 6) (w : World) :
    Calls Tryd.prog 33 #[.int .u64 n, .int .i64 least] w (Says (fun l => ∃ k, K n least k ∧ l = low n k) w) := by
  go_enter Tryd.func33, Tryd.ntmps33
  go_wp2
  go_loop [0, 5] (fun v s => ∃ (q : Nat) (l : List UInt8), v = .int .u64 q ∧ s = .string ⟨l.toArray⟩ ∧ Sofar n least q l.length l) (fun v s => (intOf v).toNat + (26 - strLen s))
  case atStart => exact ⟨n, [], rfl, rfl, Sofar.start n least⟩
  case round =>
    obtain ⟨q, l, rfl, rfl, hso⟩ := hrel
    have hb := hso.bound hn hl
    have HS := Lib.hid hso
    clear hso
    by_cases hgo : 0 < q
    · go_wp2
      have hs := Lib.hid (HS.out.step (.inl hgo))
      refine ⟨⟨q / 10, dgt q :: l, by go_num, digit_join q l, by simpa using hs.out⟩, ?_⟩
      simp only [intOf, digit_join, strLen_mk, List.length_cons]; omega
    · obtain rfl : q = 0 := by omega
      by_cases hle : l.length < least
      · go_wp2
        have hs := Lib.hid (HS.out.step (.inr hle))
        refine ⟨⟨0, dgt 0 :: l, rfl, digit_join 0 l, by simpa using hs.out⟩, ?_⟩
        have e := congrArg strLen (digit_join 0 l)
        rw [strLen_mk] at e
        have e' : strLen (Value.string ((⟨#[48, 49, 50, 51, 52, 53, 54, 55, 56, 57]⟩ : ByteArray).extract 0 1 ++ ⟨l.toArray⟩)) = (dgt 0 :: l).length := e
        simp only [intOf, e', strLen_mk, List.length_cons]; omega
      · go_wp2
        go_ret
        exact ⟨l, HS.out.done rfl (by omega), rfl, rfl⟩


theorem rdigits_one (n : Nat) (hn : n < 18446744073709551616) (w : World) :
    Calls Tryd.prog 33 #[.int .u64 n, .int .i64 1] w fun e w' => e = .returned (.string ⟨(Lib.decDigits n).toArray⟩) ∧ w = w' :=
  (digits_any n 1 hn (by decide) w).mono fun e w' ⟨l, ⟨k, hk, hl⟩, he, hw⟩ => ⟨by rw [he, hl, digits_one hk], hw⟩

theorem fmt_any {B : Nat} (u : Nat) (hu64 : u < 18446744073709551616) (w : World) (h : Env B w) :
    Calls Tryd.prog 39 #[.int .u64 u, .int .i64 10] w (Tells (· = Lib.decDigits u) w) := by
  go_enter Tryd.func39, Tryd.ntmps39
  go_wp2_with fail
  refine (ifmt_any (B := B) u hu64 _ h).mono ?_
  rintro e w1 ⟨l, hl, rfl, hb⟩
  have HL := Lib.hid hl
  clear hl
  go_wp2
  go_ret
  exact ⟨l, HL.out, rfl, hb⟩
theorem wdigits_any {B : Nat} (u : Nat) (hu : u < 4294967296) (w : World) (h : Env B w) :
    Calls Tryd.prog 32 #[.int .u32 u] w (Tells (· = Lib.decDigits u) w) := by
  go_enter Tryd.func32, Tryd.ntmps32
  go_wp2_with fail
  refine (fmt_any (B := B) u (by omega) _ h).mono ?_
  rintro e w1 ⟨l, hl, rfl, hb⟩
  have HL := Lib.hid hl
  clear hl
  go_wp2
  go_ret
  exact ⟨l, HL.out, rfl, hb⟩

/-- a word's text -/
def wtx (x : Nat) : List UInt8 := Lib.decDigits (hd x) ++ [46, 46] ++ Lib.decDigits (tl x)
theorem dec_len32 {u : Nat} (hu : u < 4294967296) : (Lib.decDigits u).length ≤ 20 := by
  rw [Lib.decDigits_length]
  by_cases h : 1 ≤ u
  · have := Lib.numDigits_eq u h (by omega)
    split at this <;> omega
  · rw [show u = 0 by omega]; decide +kernel
theorem wtx_join (a b : List UInt8) : Ending.returned (.string ((⟨a.toArray⟩ : ByteArray) ++ ⟨#[46, 46]⟩ ++ ⟨b.toArray⟩)) = Ending.returned (.string ⟨(a ++ [46, 46] ++ b).toArray⟩) := by
  rw [show (⟨#[46, 46]⟩ : ByteArray) = ⟨[46, 46].toArray⟩ from rfl, bapp, bapp]

set_option maxHeartbeats 400000 in
theorem text_any {B : Nat} (x : Nat) (hx : x < 18446744073709551616) (w : World) (h : Env B w) :
    Calls Tryd.prog 14 #[.int .u64 x] w (Tells (· = wtx x) w) := by
  have h1 := hd_lt hx
  have h2 := tl_lt x
  go_enter Tryd.func14, Tryd.ntmps14
  go_wp2_with (first
    | (go_at_call 11; refine (head_any _ hx _).mono ?_; rintro e w' ⟨rfl, rfl⟩))
  refine (wdigits_any (B := B) _ h1 _ h).mono ?_
  rintro e w1 ⟨l, hl, rfl, hb1⟩
  have hw1 := h.on' hb1
  have hn := dec_len32 h1
  rw [← hl] at hn
  have HL := Lib.hid hl
  clear hl
  go_wp2_with (first
    | (go_at_call 12; refine (tail_any _ hx _).mono ?_; rintro e w' ⟨rfl, rfl⟩))
  refine (wdigits_any (B := B) _ h2 _ hw1).mono ?_
  rintro e w2 ⟨l2, hl2, rfl, hb2⟩
  have hn2 := dec_len32 h2
  rw [← hl2] at hn2
  have HL2 := Lib.hid hl2
  clear hl2
  go_wp2
  go_ret
  refine ⟨_, ?_, wtx_join l l2, hb1.trans (hb2.mono hb1.size)⟩
  have e1 := HL.out
  have e2 := HL2.out
  rw [e1, e2]; rfl

set_option maxHeartbeats 1000000 in
theorem rtext_any (x : Nat) (hx : x < 18446744073709551616) (w : World) :
    Calls Tryd.prog 15 #[.agg #[.int .u32 (hd x : Nat), .int .u32 (tl x : Nat)]] w (Tells (· = wtx x) w) := by
  have h1 := hd_lt hx
  have h2 := tl_lt x
  have n1 := dec_len32 h1
  have n2 := dec_len32 h2
  go_enter Tryd.func15, Tryd.ntmps15
  go_wp2
  have cv1 : IntKind.u64.wrap ((hd x : Nat) : Int) = ((hd x : Nat) : Int) := by rw [IntKind.wrap_u64]; omega
  have cv2 : IntKind.u64.wrap ((tl x : Nat) : Int) = ((tl x : Nat) : Int) := by rw [IntKind.wrap_u64]; omega
  have s1 : ¬ 9223372036854775807 < (Lib.decDigits (hd x)).length + 2 := by omega
  have s2 : ¬ 9223372036854775807 < (Lib.decDigits (hd x)).length + 2 + (Lib.decDigits (tl x)).length := by omega
  go_region_held3 (fun w' => (w'.cell? ⟨w.heap.size, 0, none⟩ = some (.int .u32 (hd x : Nat)) ∧ w'.cell? ⟨w.heap.size, 1, none⟩ = some (.int .u32 (tl x : Nat))) ∧ w.heap.size < w'.heap.size ∧ Below w.heap.size w w') (first | assumption | exact box_drew (box_new x w _) (Nat.le_refl _) | exact box_keep (by assumption) (Nat.le_refl _) (by assumption))
    (first | (go_at_call 33; refine (rdigits_one _ (by omega) _).mono ?_; rintro e w1 ⟨rfl, rfl⟩))
  rename_i hh
  have hb := hh.2.2
  clear hh
  go_wp2
  go_ret
  exact ⟨_, rfl, wtx_join _ _, hb⟩
end Go.Proofs.YtpeikhoepbkggaaDoor
