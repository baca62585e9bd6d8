/-
  What the rows' listed variables give the walks of stage 1 (span): the table of powers of ten, and that the two errors of strconv hold an interface value; and a world for the witness.
-/
import Derived.Test.YteofkhpofligaaaDoorCards
import Derived.Test.YteofkhpofligaaaDoorTie
import Derived.Test.YteofkhpofligaaaDoorLaw2
import Derived.Test.YteofkhpofligaaaDoorLaw4
import Derived.ProofKit
import Derived.OpenShut
import Derived.Deep.DeepHandedRow
import Derived.Lib.LaidTab
import Derived.Stop.LaidErr
namespace Go.Proofs.YteofkhpofligaaaDoor
open Go.ChangeShapes Go.WideShapes Go.ChangeAt Go.RowKit

theorem laidOut : laidOutB Tryd.prog = true := by kernel_rfl
theorem own : ownKnob Tryd.prog.godebug = none := by kernel_rfl
theorem gP10 : Tryd.prog.globalNamed "internal/strconv.uint64pow10" = some 1 := by kernel_rfl
theorem gSyn : Tryd.prog.globalNamed "strconv.ErrSyntax" = some 2 := by kernel_rfl
theorem gRng : Tryd.prog.globalNamed "strconv.ErrRange" = some 3 := by kernel_rfl
theorem gP10T : (Tryd.prog.globals[1]?).map (·.type) = some 95 := by kernel_rfl
theorem gSynT : (Tryd.prog.globals[2]?).map (·.type) = some 53 := by kernel_rfl
theorem gRngT : (Tryd.prog.globals[3]?).map (·.type) = some 53 := by kernel_rfl
theorem cellsP10 : Tryd.prog.cellsOf 95 = 20 := by kernel_rfl
theorem cellsU64 : Tryd.prog.cellsOf 32 = 1 := by kernel_rfl
theorem cellsES : Tryd.prog.cellsOf 111 = 1 := by kernel_rfl
theorem cellsStr : Tryd.prog.cellsOf 9 = 1 := by kernel_rfl
theorem star : "*" ++ "errors.errorString" = "*errors.errorString" := by decide
theorem rowES (u : TypeId) (h : Tryd.prog.typeName? 3 u = some "*errors.errorString") : u = 109 :=
  typeName_ptr_named (nm := "errors.errorString") (by rw [star]; kernel_rfl) (by kernel_rfl) (by decide) u (by rw [star]; exact h)

/-- the rows' list, one for all -/
def laid5 : List (String × DataW Unit) := [("math/bits.deBruijn32tab", Rows.laid_math_bits_deBruijn32tab), ("math/bits.deBruijn64tab", Rows.laid_math_bits_deBruijn64tab), ("internal/strconv.uint64pow10", Rows.laid_internal_strconv_uint64pow10), ("strconv.ErrRange", Rows.laid_strconv_ErrRange), ("strconv.ErrSyntax", Rows.laid_strconv_ErrSyntax)]

theorem var_lt {P : Program} {W : World} {n : String} {g : Nat} {cs : Array Value} (hg : P.globalNamed n = some g) (h : W.var? P n = some cs) : g < W.heap.size := by
  unfold World.var? at h
  simp only [hg, Option.bind_some] at h
  rcases Nat.lt_or_ge g W.heap.size with h' | h'
  · exact h'
  · simp [Array.getElem?_eq_none h'] at h

theorem env_of {W : World} (h : laidMet Tryd.prog laid5 W) : Env W.heap.size W := by
  have h3 := h.tail.tail
  have htab : Lib.TabIs Tryd.prog W "internal/strconv.uint64pow10" .u64 Lib.pow10Tab :=
    Lib.tabIs_of_head (zs := Lib.pow10Tab) gP10 gP10T Tryd.underlying95 Tryd.underlying32 cellsU64 cellsP10 h3
  have h4 := h3.tail
  obtain ⟨a0, s0, hv0, -, -, -⟩ := laid_sentinel h4 gRng gRngT Tryd.underlying53 rowES Tryd.underlying109 Tryd.underlying111 rfl rfl Tryd.underlying9 cellsES cellsStr
  obtain ⟨a1, s1, hv1, -, -, -⟩ := laid_sentinel h4.tail gSyn gSynT Tryd.underlying53 rowES Tryd.underlying109 Tryd.underlying111 rfl rfl Tryd.underlying9 cellsES cellsStr
  exact {
    size := Nat.le_refl _
    tab := Lib.tabBelow_of_tabIs htab
    syn := fun w' hb => ⟨_, _, var?_below hb gSyn (var_lt gSyn hv1) hv1⟩
    rng := fun w' hb => ⟨_, _, var?_below hb gRng (var_lt gRng hv0) hv0⟩ }

/-- A SLICE OF INTEGERS THAT CAME IN: it is nil; or it leads to a row of 'cap' cells, the numbers 'zs' (the first 'len' are its elements). -/
def IsRow (k : IntKind) (w : World) (a : Option Addr) (len cap : Nat) (zs : List Int) : Prop :=
  (a = none ∧ len = 0 ∧ cap = 0 ∧ zs = []) ∨
  ∃ x, a = some x ∧ len ≤ cap ∧ cap ≤ maxLen ∧ zs.length = cap ∧ (∀ i, i < zs.length → w.cell? (x.add i) = some (.int k (zs.getD i 0))) ∧ ∀ n ∈ zs, (Lit.int k n).wf = true

theorem wf_i64 {n : Int} (h : (Lit.int .i64 n).wf = true) : -9223372036854775808 ≤ n ∧ n ≤ 9223372036854775807 := by
  simp only [Lit.wf, Bool.and_eq_true, decide_eq_true_eq] at h
  exact h
theorem wf_u64 {n : Int} (h : (Lit.int .u64 n).wf = true) : 0 ≤ n ∧ n ≤ 18446744073709551615 := by
  simp only [Lit.wf, Bool.and_eq_true, decide_eq_true_eq] at h
  exact h

theorem walkSpanNanos (b : Nat) (W : World) (_ : (Lit.float .f64 b).wf = true) (henv : Env W.heap.size W) : Calls Tryd.prog 3 #[.float .f64 b] W fun e w' => e = .returned (.bool true) ∧ Below W.heap.size W w' := law_nanos b W henv
theorem walkSpanTexts (n : Int) (s : ByteArray) (W : World) (_ : (Lit.int .i64 n).wf = true) (hs : s.size ≤ maxLen) (henv : Env W.heap.size W) : Calls Tryd.prog 5 #[.int .i64 n, .string s] W fun e w' => e = .returned (.bool true) ∧ Below W.heap.size W w' := law_texts n s (by unfold maxLen at hs; exact hs) W henv
theorem walkSpanRises (f g : Nat) (a n : Int) (W : World) (_ : (Lit.float .f64 f).wf = true) (_ : (Lit.float .f64 g).wf = true) (ha : (Lit.int .u64 a).wf = true) (_ : (Lit.int .i64 n).wf = true) (henv : Env W.heap.size W) : Calls Tryd.prog 6 #[.float .f64 f, .float .f64 g, .int .u64 a, .int .i64 n] W fun e w' => e = .returned (.bool true) ∧ Below W.heap.size W w' :=
  law_rises f g a n (wf_u64 ha).1 (wf_u64 ha).2 W henv
theorem walkSpanSums (p : Option Addr) (len cap : Nat) (zs : List Int) (n : Int) (W : World) (h : IsRow .i64 W p len cap zs) (_ : (Lit.int .i64 n).wf = true) (henv : Env W.heap.size W) : Calls Tryd.prog 4 #[.slice p len cap, .int .i64 n] W fun e w' => e = .returned (.bool true) ∧ Below W.heap.size W w' := by
  rcases h with ⟨rfl, rfl, rfl, rfl⟩ | ⟨x, rfl, hl, hm, hz, hc, _⟩
  · exact law_sums none 0 [] n (by simp) W henv (fun j hj => by simp at hj)
  · unfold maxLen at hm
    have e : (zs.take len).length = len := by rw [List.length_take]; omega
    have := law_sums (some x) cap (zs.take len) n (by rw [e]; omega) W henv (fun j hj => by
      rw [e] at hj
      obtain ⟨b, o, hx, hcell⟩ := ints_at hc (by omega)
      refine ⟨b, o, by rw [hx], ?_⟩
      rw [hcell j (by omega)]
      simp [List.getD, hj])
    rwa [e] at this

def synS : ByteArray := { data := #[105, 110, 118, 97, 108, 105, 100, 32, 115, 121, 110, 116, 97, 120] }
def rngS : ByteArray := { data := #[118, 97, 108, 117, 101, 32, 111, 117, 116, 32, 111, 102, 32, 114, 97, 110, 103, 101] }
/-- so many blocks has the settled world -/
noncomputable def lowB : Nat := (World.holding Tryd.prog default ⟨#[], #[], []⟩).heap.size
/-- A WORLD FOR THE WITNESS: the settled one, the listed variables holding what their initialisers lay. -/
noncomputable def laidWorld (os : Os) : World :=
  let w0 := World.holding Tryd.prog os ⟨#[.cells #[.string synS] 111, .cells #[.string rngS] 111], #[], []⟩
  { w0 with heap := ((((w0.heap.modify 2 fun
      | .cells _ t frozen => .cells #[.iface 109 (.pointer (some ⟨lowB, 0, none⟩))] t frozen
      | o => o).modify 3 fun
      | .cells _ t frozen => .cells #[.iface 109 (.pointer (some ⟨lowB + 1, 0, none⟩))] t frozen
      | o => o).modify 1 fun
      | .cells _ t frozen => .cells #[.int .u64 1, .int .u64 10, .int .u64 100, .int .u64 1000, .int .u64 10000, .int .u64 100000, .int .u64 1000000, .int .u64 10000000, .int .u64 100000000, .int .u64 1000000000, .int .u64 10000000000, .int .u64 100000000000, .int .u64 1000000000000, .int .u64 10000000000000, .int .u64 100000000000000, .int .u64 1000000000000000, .int .u64 10000000000000000, .int .u64 100000000000000000, .int .u64 1000000000000000000, .int .u64 10000000000000000000] t frozen
      | o => o).modify 5 fun
      | .cells _ t frozen => .cells #[.int .u8 0, .int .u8 1, .int .u8 28, .int .u8 2, .int .u8 29, .int .u8 14, .int .u8 24, .int .u8 3, .int .u8 30, .int .u8 22, .int .u8 20, .int .u8 15, .int .u8 25, .int .u8 17, .int .u8 4, .int .u8 8, .int .u8 31, .int .u8 27, .int .u8 13, .int .u8 23, .int .u8 21, .int .u8 19, .int .u8 16, .int .u8 7, .int .u8 26, .int .u8 12, .int .u8 18, .int .u8 6, .int .u8 11, .int .u8 5, .int .u8 10, .int .u8 9] t frozen
      | o => o).modify 6 fun
      | .cells _ t frozen => .cells #[.int .u8 0, .int .u8 1, .int .u8 56, .int .u8 2, .int .u8 57, .int .u8 49, .int .u8 28, .int .u8 3, .int .u8 61, .int .u8 58, .int .u8 42, .int .u8 50, .int .u8 38, .int .u8 29, .int .u8 17, .int .u8 4, .int .u8 62, .int .u8 47, .int .u8 59, .int .u8 36, .int .u8 45, .int .u8 43, .int .u8 51, .int .u8 22, .int .u8 53, .int .u8 39, .int .u8 33, .int .u8 30, .int .u8 24, .int .u8 18, .int .u8 12, .int .u8 5, .int .u8 63, .int .u8 55, .int .u8 48, .int .u8 27, .int .u8 60, .int .u8 41, .int .u8 37, .int .u8 16, .int .u8 46, .int .u8 35, .int .u8 44, .int .u8 21, .int .u8 52, .int .u8 32, .int .u8 23, .int .u8 11, .int .u8 54, .int .u8 26, .int .u8 40, .int .u8 15, .int .u8 34, .int .u8 20, .int .u8 31, .int .u8 10, .int .u8 25, .int .u8 14, .int .u8 19, .int .u8 9, .int .u8 13, .int .u8 8, .int .u8 7, .int .u8 6] t frozen
      | o => o }
end Go.Proofs.YteofkhpofligaaaDoor
