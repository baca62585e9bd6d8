/- The walks of Places, of both, and of same. -/
import Derived.Test.YtjdbmedealhbjaaWpa
import Derived.Test.YtjdbmedealhbjaaCm
import Derived.Test.YtjdbmedealhbjaaCn
import Derived.Test.YtjdbmedealhbjaaAn
import Derived.OwnWalk
import Derived.Lib.SmallJoins
namespace Go.Proofs.Ytjdbmedealhbjaa
open Go.RowKit Go.Wd

theorem infoU32 : (Try.prog.info? 71).map (fun i => (i.zero, i.size, i.bytes)) = some (some (.int .u32 0), 1, 4) := by kernel_rfl

/-- it returned a row of its own, of these numbers -/
def RowPost (zs : List Int) (w : World) (e : Ending) (w' : World) : Prop := ∃ v, e = .returned v ∧ w'.ownsRow w.heap.size 71 1 v zs.length (zs.map (Value.int .u32)) ∧ Below w.heap.size w w'

set_option maxHeartbeats 400000 in
theorem places_none (x fr n m : Nat) (hm : ∀ w, Calls Try.prog 49 #[.int .u64 x] w fun e w' => e = .returned (.int .u32 (m : Nat)) ∧ w = w') (h : 65536 < m ∨ m ≤ fr) (w : World) :
    Calls Try.prog 55 #[.int .u64 x, .int .u32 fr, .int .u32 n] w (RowPost [] w) := by
  have HM := Lib.hid hm
  clear hm
  by_cases h2 : 65536 < m
  · go_enter Try.func55, Try.ntmps55
    go_wp2_with (first | (go_at_call 49; refine (HM.out _).mono ?_; rintro e w' ⟨rfl, rfl⟩))
    go_ret
    exact ⟨_, rfl, World.ownsRow_nil _ _ _ _, Below.refl _ _⟩
  · have h3 : m ≤ fr := by omega
    go_enter Try.func55, Try.ntmps55
    go_wp2_with (first | (go_at_call 49; refine (HM.out _).mono ?_; rintro e w' ⟨rfl, rfl⟩))
    go_ret
    exact ⟨_, rfl, World.ownsRow_nil _ _ _ _, Below.refl _ _⟩

/-- the first k cells are done -/
def part (x fr N k : Nat) : List Value := (List.range N).map fun j => if j < k then Value.int .u32 ((pat x fr j : Nat) : Int) else .int .u32 0
theorem part_length (x fr N k : Nat) : (part x fr N k).length = N := by unfold part; simp
theorem part_zero (x fr N : Nat) : (madeCells #[Value.int .u32 0] N).toList = part x fr N 0 := by
  rw [toList_madeCells_one]
  apply List.ext_getElem
  · simp [part]
  · intro i h1 h2; simp [part]
theorem part_step (x fr N k : Nat) (h : k < N) : (part x fr N k).set k (.int .u32 ((pat x fr k : Nat) : Int)) = part x fr N (k + 1) := by
  apply List.ext_getElem
  · simp [part]
  · intro i h1 h2
    simp only [part, List.getElem_set, List.getElem_map, List.getElem_range]
    by_cases e : k = i
    · subst e; simp
    · rw [if_neg e]
      by_cases c : i < k
      · rw [if_pos c, if_pos (by omega)]
      · rw [if_neg c, if_neg (by omega)]
theorem part_done (x fr N : Nat) : part x fr N N = ((List.range N).map fun j => ((pat x fr j : Nat) : Int)).map (Value.int .u32) := by
  apply List.ext_getElem
  · simp [part]
  · intro i h1 h2
    simp only [part, List.length_map, List.length_range] at h1
    simp [part, h1]

theorem row_done {x fr N B : Nat} {w : World} {v : Value} (h : w.ownsRow B 71 1 v N (part x fr N N)) : w.ownsRow B 71 1 v ((List.range N).map fun j => ((pat x fr j : Nat) : Int)).length (((List.range N).map fun j => ((pat x fr j : Nat) : Int)).map (Value.int .u32)) := by
  rw [part_done] at h
  rw [List.length_map, List.length_range]; exact h
theorem pat_num (x fr j h : Nat) (hh : hd x = h) : ((h : Int) + fr + (j : Int)) % 4294967296 = ((pat x fr j : Nat) : Int) := by unfold pat; rw [hh]; omega

set_option maxHeartbeats 1000000 in
theorem places_some (x fr n m h N : Nat) (hm : ∀ w, Calls Try.prog 49 #[.int .u64 x] w fun e w' => e = .returned (.int .u32 (m : Nat)) ∧ w = w')
    (hh : ∀ w, Calls Try.prog 45 #[.int .u64 x] w fun e w' => e = .returned (.int .u32 (h : Nat)) ∧ w = w') (hx : hd x = h) (hlt : h < 4294967296) (hN : N = min n (m - fr)) (h1 : m ≤ 65536) (h2 : fr < m) (w : World) :
    Calls Try.prog 55 #[.int .u64 x, .int .u32 fr, .int .u32 n] w (RowPost ((List.range N).map fun j => ((pat x fr j : Nat) : Int)) w) := by
  obtain ⟨i0, hi, hz0, hz1, hz2⟩ := info_parts infoU32
  have hN1 : N ≤ 65536 := by omega
  have hc : (n ≤ m - fr ∧ N = n) ∨ (m - fr < n ∧ N ≤ m - fr ∧ m - fr ≤ N) := by omega
  have HM := Lib.hid hm
  have HH := Lib.hid hh
  have HX := Lib.hid hx
  clear hN hm hh hx
  rcases hc with ⟨c, rfl⟩ | ⟨c, hle, hge⟩
  · go_enter Try.func55, Try.ntmps55
    go_wp2_with (first | (go_at_call 49; refine (HM.out _).mono ?_; rintro e w' ⟨rfl, rfl⟩) | (at_make; refine wpList_make_full _ rfl _ _ 86 rfl w.heap.size 71 i0 (.int .u32 0) 1 Try.underlying86 hi hz0 hz1 _ _ _ _ N rfl rfl (by omega) (by omega) ?b2 ?b3 ?b4 ?_))
    case b2 => rw [hz2]; omega
    case b3 => unfold maxLen; omega
    case b4 => exact Nat.le_refl _
    intro w1 hown hgrow
    have HB := Lib.hid ((Below.refl w.heap.size w).grown hgrow (Nat.le_refl _) (fun k hk => by cases hk))
    rw [part_zero x fr N] at hown
    have HO := Lib.hid hown
    clear hown hgrow hi hz0 hz1 hz2
    go_wp2_with fail
    go_loopw [27] (fun i wr => ∃ k : Nat, k ≤ N ∧ i = .int .i64 k ∧ Hid (wr.ownsRow w.heap.size 71 1 (.slice (some ⟨w.heap.size, 0, none⟩) N N) N (part x fr N k)) ∧ Hid (Below w.heap.size w wr)) (fun i _ => N - (intOf i).toNat)
    case atStart => exact ⟨0, by omega, rfl, HO, HB⟩
    case round =>
      obtain ⟨k, hk, rfl, hO, hB⟩ := hrel
      clear HO HB
      by_cases hlt2 : k < N
      · have hcell : wr.cell? ⟨w.heap.size, k, none⟩ = some ((part x fr N k).getD k undef) := by
          rw [hO.out.cellAt k (by omega)]
          have : k < (part x fr N k).length := by rw [part_length]; exact hlt2
          simp [List.getD, this]
        have hfr := hO.out.frozenAt k
        obtain ⟨st1, st2⟩ := hO.out.stored k (.int .u32 ((pat x fr k : Nat) : Int))
        rw [part_step x fr N k hlt2] at st1
        have ST1 := Lib.hid st1
        have ST2 := Lib.hid (hB.out.setCell (p := ⟨w.heap.size, k, none⟩) (Nat.le_refl _) (.int .u32 ((pat x fr k : Nat) : Int)))
        clear st1 st2
        go_wp2_with (first | (go_at_call 45; refine (HH.out _).mono ?_; rintro e w' ⟨rfl, rfl⟩))
        go_roundw
        case rel =>
          rw [pat_num x fr k h HX.out]
          exact ⟨k + 1, by omega, by go_num, ST1, ST2⟩
        case measure => 
          show _ < _
          simp only [intOf]; omega
      · obtain rfl : k = N := by omega
        have HR := Lib.hid (row_done hO.out)
        clear hO
        go_wp2
        go_ret
        exact ⟨_, rfl, HR.out, hB.out⟩
  · go_enter Try.func55, Try.ntmps55
    go_wp2_with (first | (go_at_call 49; refine (HM.out _).mono ?_; rintro e w' ⟨rfl, rfl⟩) | (at_make; refine wpList_make_full _ rfl _ _ 86 rfl w.heap.size 71 i0 (.int .u32 0) 1 Try.underlying86 hi hz0 hz1 _ _ _ _ N rfl rfl (by omega) (by omega) ?d2 ?d3 ?d4 ?_))
    case d2 => rw [hz2]; omega
    case d3 => unfold maxLen; omega
    case d4 => exact Nat.le_refl _
    intro w1 hown hgrow
    have HB := Lib.hid ((Below.refl w.heap.size w).grown hgrow (Nat.le_refl _) (fun k hk => by cases hk))
    rw [part_zero x fr N] at hown
    have HO := Lib.hid hown
    clear hown hgrow hi hz0 hz1 hz2
    go_wp2_with fail
    go_loopw [27] (fun i wr => ∃ k : Nat, k ≤ N ∧ i = .int .i64 k ∧ Hid (wr.ownsRow w.heap.size 71 1 (.slice (some ⟨w.heap.size, 0, none⟩) N N) N (part x fr N k)) ∧ Hid (Below w.heap.size w wr)) (fun i _ => N - (intOf i).toNat)
    case atStart => exact ⟨0, by omega, rfl, HO, HB⟩
    case round =>
      obtain ⟨k, hk, rfl, hO, hB⟩ := hrel
      clear HO HB
      by_cases hlt2 : k < N
      · have hcell : wr.cell? ⟨w.heap.size, k, none⟩ = some ((part x fr N k).getD k undef) := by
          rw [hO.out.cellAt k (by omega)]
          have : k < (part x fr N k).length := by rw [part_length]; exact hlt2
          simp [List.getD, this]
        have hfr := hO.out.frozenAt k
        obtain ⟨st1, st2⟩ := hO.out.stored k (.int .u32 ((pat x fr k : Nat) : Int))
        rw [part_step x fr N k hlt2] at st1
        have ST1 := Lib.hid st1
        have ST2 := Lib.hid (hB.out.setCell (p := ⟨w.heap.size, k, none⟩) (Nat.le_refl _) (.int .u32 ((pat x fr k : Nat) : Int)))
        clear st1 st2
        go_wp2_with (first | (go_at_call 45; refine (HH.out _).mono ?_; rintro e w' ⟨rfl, rfl⟩))
        go_roundw
        case rel =>
          rw [pat_num x fr k h HX.out]
          exact ⟨k + 1, by omega, by go_num, ST1, ST2⟩
        case measure => 
          show _ < _
          simp only [intOf]; omega
      · obtain rfl : k = N := by omega
        have HR := Lib.hid (row_done hO.out)
        clear hO
        go_wp2
        go_ret
        exact ⟨_, rfl, HR.out, hB.out⟩

theorem places_any (x fr n : Nat) (hx : x < 18446744073709551616) (w : World) :
    Calls Try.prog 55 #[.int .u64 x, .int .u32 fr, .int .u32 n] w (RowPost (pls x fr n) w) := by
  by_cases h : 65536 < ln x ∨ ln x ≤ fr
  · rw [pls_none h]; exact places_none x fr n (ln x) (len_any x hx) h w
  · rw [pls_some (by omega)]
    exact places_some x fr n (ln x) (hd x) _ (len_any x hx) (head_any x hx) rfl (hd_lt hx) rfl (by omega) (by omega) w
end Go.Proofs.Ytjdbmedealhbjaa
