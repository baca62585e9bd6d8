/-
  What the rows' listed variables give the walks of stage 5 (conf): the table of powers of ten, the code's two rows of names; strconv's two errors, some number in bytealg.MaxLen; and a world for the witness.
-/
import Derived.Test.YtkchbnojcfkkhaaDoorCards
import Derived.Test.YtkchbnojcfkkhaaDoorTie
import Derived.Test.YtkchbnojcfkkhaaDoorLb
import Derived.Test.YtkchbnojcfkkhaaDoorQf
import Derived.ProofKit
import Derived.OpenShut
import Derived.Deep.DeepHandedRow
import Derived.Lib.LaidTab
import Derived.Stop.LaidErr
import Derived.Shelf.Vars
namespace Go.Proofs.YtkchbnojcfkkhaaDoor
open Go.ChangeShapes Go.WideShapes Go.ChangeAt Go.RowKit Go.Cg

theorem laidOut : laidOutB Tryd.prog = true := by kernel_rfl
theorem own : ownKnob Tryd.prog.godebug = none := by kernel_rfl
theorem gP10 : Tryd.prog.globalNamed "internal/strconv.uint64pow10" = some 5 := by kernel_rfl
theorem gP10T : (Tryd.prog.globals[5]?).map (·.type) = some 113 := by kernel_rfl
theorem cellsP10 : Tryd.prog.cellsOf 113 = 20 := by kernel_rfl
theorem cellsU64 : Tryd.prog.cellsOf 68 = 1 := by kernel_rfl
theorem gSyn : Tryd.prog.globalNamed "strconv.ErrSyntax" = some 2 := by kernel_rfl
theorem gRng : Tryd.prog.globalNamed "strconv.ErrRange" = some 3 := by kernel_rfl
theorem gSynT : (Tryd.prog.globals[2]?).map (·.type) = some 64 := by kernel_rfl
theorem gRngT : (Tryd.prog.globals[3]?).map (·.type) = some 64 := by kernel_rfl
theorem cellsES : Tryd.prog.cellsOf 111 = 1 := by kernel_rfl
theorem cellsStr : Tryd.prog.cellsOf 9 = 1 := by kernel_rfl
theorem star : "*" ++ "errors.errorString" = "*errors.errorString" := by decide
theorem rowES (u : TypeId) (h : Tryd.prog.typeName? 3 u = some "*errors.errorString") : u = 109 :=
  typeName_ptr_named (nm := "errors.errorString") (by rw [star]; kernel_rfl) (by kernel_rfl) (by decide) u (by rw [star]; exact h)
theorem gSh : Tryd.prog.globalNamed "distaff/conf.sharedNames" = some 0 := by kernel_rfl
theorem gNm : Tryd.prog.globalNamed "distaff/conf.names" = some 1 := by kernel_rfl
theorem gShT : (Tryd.prog.globals[0]?).map (·.type) = some 59 := by kernel_rfl
theorem gNmT : (Tryd.prog.globals[1]?).map (·.type) = some 69 := by kernel_rfl
theorem cellsSh : Tryd.prog.cellsOf 59 = 4 := by kernel_rfl
theorem cellsNm : Tryd.prog.cellsOf 69 = 7 := by kernel_rfl

/-- an array of texts that reads so holds them -/
theorem cells_of_strs {H : Type} {enc : TypeId × Value → H} {P : Program} {w : World} {base : Nat} {sp : Nat → Bool} {held : Bool} {fuel : Nat} {t e : TypeId} {n : Nat} {cs : List Value} {zs : List (List UInt8)} {p : List MemPlace}
    (ht : P.underlying t = some (.array n e)) (he : P.underlying e = some .string) (hce : P.cellsOf e = 1) (hct : P.cellsOf t = n)
    (h : DataW.trod enc P w base sp held fuel t cs = some (.agg (zs.map fun l => .lit (.string l)), p)) : cs = zs.map strV := by
  cases fuel with
  | zero => simp [DataW.trod] at h
  | succ fuel =>
    simp only [DataW.trod, ht, hce, hct, Nat.mul_one] at h
    split at h
    · rename_i hl
      obtain ⟨xs, hm, hx⟩ := Option.map_eq_some_iff.1 h
      have hxs : xs.map (·.1) = zs.map fun l => (DataW.lit (.string l) : DataW H) := by
        have := congrArg Prod.fst hx
        simpa using this
      have hxl : xs.length = n := by simpa using Lib.mapM_length hm
      have hzl : zs.length = n := by
        have := congrArg List.length hxs
        simp at this
        omega
      apply List.ext_getElem?
      intro i
      by_cases hi : i < n
      · obtain ⟨b, hb, hf⟩ := Lib.mapM_at hm i i (by simp [hi])
        obtain ⟨z, hc, rfl, _⟩ := DataW.trod_string he hf
        have h1 : cs[i]? = some (.string z) := by
          have := congrArg (·[0]?) hc
          simpa [List.getElem?_take, List.getElem?_drop] using this
        have h2 : (xs.map (·.1))[i]? = some (DataW.lit (.string z.data.toList) : DataW H) := by simp [hb]
        rw [hxs] at h2
        simp only [List.getElem?_map, Option.map_eq_some_iff, DataW.lit.injEq, Lit.string.injEq] at h2
        obtain ⟨z', hz', e⟩ := h2
        rw [h1, List.getElem?_map, hz']
        subst e
        rfl
      · rw [List.getElem?_eq_none (by omega), List.getElem?_eq_none (by simp; omega)]
    · cases h
theorem strs_of_head {P : Program} {W : World} {name : String} {zs : List (List UInt8)} {rest : List (String × DataW Unit)} {g : Nat} {t e : TypeId} {n : Nat}
    (hg : P.globalNamed name = some g) (hty : (P.globals[g]?).map (·.type) = some t) (ht : P.underlying t = some (.array n e)) (he : P.underlying e = some .string) (hce : P.cellsOf e = 1) (hct : P.cellsOf t = n)
    (h : laidMet P ((name, .agg (zs.map fun l => .lit (.string l))) :: rest) W) : W.var? P name = some (zs.map strV).toArray := by
  obtain ⟨ps, ⟨g', t', cs, fuel, p, q, hg', ht', hvar, hd, _, _⟩, _⟩ := h
  obtain rfl := Option.some.inj (hg.symm.trans hg')
  obtain rfl := Option.some.inj (hty.symm.trans ht')
  rw [hvar, ← cells_of_strs ht he hce hct hd]
theorem var_lt {P : Program} {W : World} {n : String} {g : Nat} {cs : Array Value} (hg : P.globalNamed n = some g) (h : W.var? P n = some cs) : g < W.heap.size := by
  unfold World.var? at h
  simp only [hg, Option.bind_some] at h
  rcases Nat.lt_or_ge g W.heap.size with h' | h'
  · exact h'
  · simp [Array.getElem?_eq_none h'] at h

/-- the rows' lists -/
def laidA : List (String × DataW Unit) := [("math/bits.deBruijn32tab", Rows.laid_math_bits_deBruijn32tab), ("math/bits.deBruijn64tab", Rows.laid_math_bits_deBruijn64tab), ("internal/strconv.uint64pow10", Rows.laid_internal_strconv_uint64pow10), ("distaff/conf.sharedNames", Rows.laid_distaff_conf_sharedNames), ("distaff/conf.names", Rows.laid_distaff_conf_names)]
def laidB : List (String × DataW Unit) := [("math/bits.deBruijn32tab", Rows.laid_math_bits_deBruijn32tab), ("math/bits.deBruijn64tab", Rows.laid_math_bits_deBruijn64tab), ("internal/strconv.uint64pow10", Rows.laid_internal_strconv_uint64pow10), ("unicode/utf8.acceptRanges", Rows.laid_unicode_utf8_acceptRanges), ("strconv.ErrRange", Rows.laid_strconv_ErrRange), ("strconv.ErrSyntax", Rows.laid_strconv_ErrSyntax), ("distaff/conf.sharedNames", Rows.laid_distaff_conf_sharedNames), ("distaff/conf.names", Rows.laid_distaff_conf_names), ("unicode/utf8.first", Rows.laid_unicode_utf8_first)]

theorem env_of2 {W : World} {rest : List (String × DataW Unit)} (htab : Lib.TabIs Tryd.prog W "internal/strconv.uint64pow10" .u64 Lib.pow10Tab) (h : laidMet Tryd.prog (("distaff/conf.sharedNames", Rows.laid_distaff_conf_sharedNames) :: ("distaff/conf.names", Rows.laid_distaff_conf_names) :: rest) W) : EnvC W.heap.size W := by
  have hs : W.var? Tryd.prog "distaff/conf.sharedNames" = some (W4.map strV).toArray := strs_of_head (zs := W4) gSh gShT Tryd.underlying59 Tryd.underlying9 cellsStr cellsSh h
  have hn : W.var? Tryd.prog "distaff/conf.names" = some (W7.map strV).toArray := strs_of_head (zs := W7) gNm gNmT Tryd.underlying69 Tryd.underlying9 cellsStr cellsNm h.tail
  have at4 : ∀ i < 4, W4[i]? = some (W4.getD i []) := by decide
  have at7 : ∀ i < 7, W7[i]? = some (W7.getD i []) := by decide
  exact {
    base := { size := Nat.le_refl _, tab := Lib.tabBelow_of_tabIs htab }
    gs := var_lt gSh hs
    gn := var_lt gNm hn
    sh := fun i hi => by rw [World.var?_cell gSh hs i, List.getElem?_toArray, List.getElem?_map, at4 i hi]; rfl
    nm := fun i hi => by rw [World.var?_cell gNm hn i, List.getElem?_toArray, List.getElem?_map, at7 i hi]; rfl }
theorem env_ofc {W : World} (h : laidMet Tryd.prog laidA W) : EnvC W.heap.size W := by
  have h3 := h.tail.tail
  have htab : Lib.TabIs Tryd.prog W "internal/strconv.uint64pow10" .u64 Lib.pow10Tab :=
    Lib.tabIs_of_head (zs := Lib.pow10Tab) gP10 gP10T Tryd.underlying113 Tryd.underlying68 cellsU64 cellsP10 h3
  exact env_of2 htab h3.tail
theorem env_ofr {W : World} (h : laidMet Tryd.prog laidB W) (hsh : W.ShapedOpen Tryd.prog) : EnvR W.heap.size W := by
  have h3 := h.tail.tail
  have htab : Lib.TabIs Tryd.prog W "internal/strconv.uint64pow10" .u64 Lib.pow10Tab :=
    Lib.tabIs_of_head (zs := Lib.pow10Tab) gP10 gP10T Tryd.underlying113 Tryd.underlying68 cellsU64 cellsP10 h3
  have h4 := h3.tail.tail
  obtain ⟨a0, s0, hv0, -, -, -⟩ := laid_sentinel h4 gRng gRngT Tryd.underlying64 rowES Tryd.underlying109 Tryd.underlying111 rfl rfl Tryd.underlying9 cellsES cellsStr
  obtain ⟨a1, s1, hv1, -, -, -⟩ := laid_sentinel h4.tail gSyn gSynT Tryd.underlying64 rowES Tryd.underlying109 Tryd.underlying111 rfl rfl Tryd.underlying9 cellsES cellsStr
  obtain ⟨m, hm⟩ := Tryd.laysM147.s1_3 W hsh
  have hm : W.cell? ⟨4, 0, none⟩ = some (.int .i64 m) := hm
  exact {
    base := env_of2 htab h4.tail.tail
    gm := block_lt_of_cell hm
    gs := var_lt gSyn hv1
    gr := var_lt gRng hv0
    mx := ⟨m, hm⟩
    sx := ⟨_, by rw [World.var?_cell gSyn hv1 0]; rfl, .inr ⟨_, _, rfl⟩⟩
    rg := ⟨_, by rw [World.var?_cell gRng hv0 0]; rfl, .inr ⟨_, _, rfl⟩⟩ }

theorem wf_u32 {n : Int} (h : (Lit.int .u32 n).wf = true) : 0 ≤ n ∧ n ≤ 4294967295 := by
  simp only [Lit.wf, Bool.and_eq_true, decide_eq_true_eq] at h
  exact h

theorem walkConfCells (c : Cfg) (p i : Int) (W : World) (_ : CfgWf c) (_ : (Lit.int .i64 p).wf = true) (hi : (Lit.int .u32 i).wf = true) (henv : EnvC W.heap.size W) : Calls Tryd.prog 3 #[cVal c, .int .i64 p, .int .u32 i] W fun e w' => e = .returned (.bool true) ∧ Below W.heap.size W w' := by
  obtain ⟨h0, h1⟩ := wf_u32 hi
  obtain ⟨n, rfl⟩ : ∃ n : Nat, i = n := ⟨i.toNat, by omega⟩
  exact law_cells c p n (by omega) W henv
theorem walkConfNames (c : Cfg) (a : Int) (s : ByteArray) (W : World) (_ : CfgWf c) (_ : (Lit.int .i64 a).wf = true) (hs : s.size ≤ maxLen) (henv : EnvC W.heap.size W) : Calls Tryd.prog 4 #[cVal c, .int .i64 a, .string s] W fun e w' => e = .returned (.bool true) ∧ Below W.heap.size W w' := law_names c a s (by unfold maxLen at hs; exact hs) W henv

def synS : ByteArray := { data := #[105, 110, 118, 97, 108, 105, 100, 32, 115, 121, 110, 116, 97, 120] }
def rngS : ByteArray := { data := #[118, 97, 108, 117, 101, 32, 111, 117, 116, 32, 111, 102, 32, 114, 97, 110, 103, 101] }
/-- so many blocks has the settled world -/
noncomputable def lowB : Nat := (World.holding Tryd.prog default ⟨#[], #[], []⟩).heap.size
/-- A WORLD FOR THE WITNESS: the settled one, the listed variables holding what their initialisers lay. -/
noncomputable def laidWorld (os : Os) : World :=
  let w0 := World.holding Tryd.prog os ⟨#[.cells #[.string synS] 111, .cells #[.string rngS] 111], #[], []⟩
  { w0 with heap := ((((((((w0.heap.modify 2 fun
      | .cells _ t frozen => .cells #[.iface 109 (.pointer (some ⟨lowB, 0, none⟩))] t frozen
      | o => o).modify 3 fun
      | .cells _ t frozen => .cells #[.iface 109 (.pointer (some ⟨lowB + 1, 0, none⟩))] t frozen
      | o => o).modify 0 fun
      | .cells _ t frozen => .cells #[.string ⟨#[116, 105, 99, 107, 101, 116]⟩, .string ⟨#[115, 101, 114, 118, 105, 110, 103]⟩, .string ⟨#[105, 100, 108, 101]⟩, .string ⟨#[115, 105, 122, 101]⟩] t frozen
      | o => o).modify 1 fun
      | .cells _ t frozen => .cells #[.string ⟨#[119, 111, 114, 100]⟩, .string ⟨#[110, 101, 120, 116]⟩, .string ⟨#[115, 116, 97, 116]⟩, .string ⟨#[116, 105, 99, 107]⟩, .string ⟨#[115, 121, 115]⟩, .string ⟨#[102, 108, 97, 103]⟩, .string ⟨#[115, 108, 111, 116]⟩] t frozen
      | o => o).modify 7 fun
      | .cells _ t frozen => .cells #[.int .u8 128, .int .u8 191, .int .u8 160, .int .u8 191, .int .u8 128, .int .u8 159, .int .u8 144, .int .u8 191, .int .u8 128, .int .u8 143, .int .u8 0, .int .u8 0, .int .u8 0, .int .u8 0, .int .u8 0, .int .u8 0, .int .u8 0, .int .u8 0, .int .u8 0, .int .u8 0, .int .u8 0, .int .u8 0, .int .u8 0, .int .u8 0, .int .u8 0, .int .u8 0, .int .u8 0, .int .u8 0, .int .u8 0, .int .u8 0, .int .u8 0, .int .u8 0] t frozen
      | o => o).modify 6 fun
      | .cells _ t frozen => .cells (Go.Pinned.utf8FirstZ.map fun (n : Nat) => Value.int .u8 (n : Int)).toArray t frozen
      | o => o).modify 5 fun
      | .cells _ t frozen => .cells #[.int .u64 1, .int .u64 10, .int .u64 100, .int .u64 1000, .int .u64 10000, .int .u64 100000, .int .u64 1000000, .int .u64 10000000, .int .u64 100000000, .int .u64 1000000000, .int .u64 10000000000, .int .u64 100000000000, .int .u64 1000000000000, .int .u64 10000000000000, .int .u64 100000000000000, .int .u64 1000000000000000, .int .u64 10000000000000000, .int .u64 100000000000000000, .int .u64 1000000000000000000, .int .u64 10000000000000000000] t frozen
      | o => o).modify 8 fun
      | .cells _ t frozen => .cells #[.int .u8 0, .int .u8 1, .int .u8 28, .int .u8 2, .int .u8 29, .int .u8 14, .int .u8 24, .int .u8 3, .int .u8 30, .int .u8 22, .int .u8 20, .int .u8 15, .int .u8 25, .int .u8 17, .int .u8 4, .int .u8 8, .int .u8 31, .int .u8 27, .int .u8 13, .int .u8 23, .int .u8 21, .int .u8 19, .int .u8 16, .int .u8 7, .int .u8 26, .int .u8 12, .int .u8 18, .int .u8 6, .int .u8 11, .int .u8 5, .int .u8 10, .int .u8 9] t frozen
      | o => o).modify 9 fun
      | .cells _ t frozen => .cells #[.int .u8 0, .int .u8 1, .int .u8 56, .int .u8 2, .int .u8 57, .int .u8 49, .int .u8 28, .int .u8 3, .int .u8 61, .int .u8 58, .int .u8 42, .int .u8 50, .int .u8 38, .int .u8 29, .int .u8 17, .int .u8 4, .int .u8 62, .int .u8 47, .int .u8 59, .int .u8 36, .int .u8 45, .int .u8 43, .int .u8 51, .int .u8 22, .int .u8 53, .int .u8 39, .int .u8 33, .int .u8 30, .int .u8 24, .int .u8 18, .int .u8 12, .int .u8 5, .int .u8 63, .int .u8 55, .int .u8 48, .int .u8 27, .int .u8 60, .int .u8 41, .int .u8 37, .int .u8 16, .int .u8 46, .int .u8 35, .int .u8 44, .int .u8 21, .int .u8 52, .int .u8 32, .int .u8 23, .int .u8 11, .int .u8 54, .int .u8 26, .int .u8 40, .int .u8 15, .int .u8 34, .int .u8 20, .int .u8 31, .int .u8 10, .int .u8 25, .int .u8 14, .int .u8 19, .int .u8 9, .int .u8 13, .int .u8 8, .int .u8 7, .int .u8 6] t frozen
      | o => o }
end Go.Proofs.YtkchbnojcfkkhaaDoor
