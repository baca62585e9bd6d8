/- Small words that many layers share: an answer, and what an append touches; texts as values. -/
import Derived.Test.YtjdbmedealhbjaaTc
import Derived.OwnWalk
import Derived.Deep.AppendLies
namespace Go.Proofs.Ytjdbmedealhbjaa
open Go.RowKit

/-- it returned v, and touched nothing that was there -/
def Ans (v : Value) (w : World) (e : Ending) (w' : World) : Prop := e = .returned v ∧ Below w.heap.size w w'
theorem own_tch {S : Nat → Prop} {w w' : World} {B n : Nat} {E : TypeId} {v : Value} {xs : List Value} (h : w.ownsRow B E 1 v n xs) (ht : Tch S w w') (hs : ∀ k, S k → k < B) : w'.ownsRow B E 1 v n xs := by
  refine ⟨h.1, ?_⟩
  rcases h.2 with h2 | ⟨g, cap, cur, hv, hB, hg, r⟩
  · exact .inl h2
  · exact .inr ⟨g, cap, cur, hv, hB, ht.obj hg (fun e => by have := hs g e; omega), r⟩
theorem Tch.grown {w w' : World} {row : Option Nat} (h : w.grownBy w' row) : Tch (fun k => row = some k) w w' := ⟨h.os, h.tape, h.output, h.size, fun k hk hn => h.block k hk (fun e => hn e.symm)⟩
theorem infoStr : (Try.prog.info? 9).map (fun i => (i.zero, i.size, i.bytes)) = some (some (.string ⟨#[]⟩), 1, 16) := by kernel_rfl
/-- a text as a value -/
def strV (l : List UInt8) : Value := .string ⟨l.toArray⟩
theorem strs_one (xs : List (List UInt8)) : ∀ u ∈ xs.map strV, u.oneCell' = true := by
  intro u hu
  obtain ⟨y, _, rfl⟩ := List.mem_map.1 hu
  rfl
theorem str_new (x : ByteArray) (w : World) (t : TypeId) : ∀ j u, [Value.string x][j]? = some u → (w.alloc (.cells #[.string x] t)).cell? ((⟨w.heap.size, 0, none⟩ : Addr).add j) = some u := by
  intro j u hu
  rcases j with _ | j <;> simp at hu
  subst hu
  simp [World.cell?_alloc_new, Addr.add]
theorem str_one (x : ByteArray) : ∀ u ∈ [Value.string x], u.oneCell' = true := by
  intro u hu; simp at hu; subst hu; rfl
end Go.Proofs.Ytjdbmedealhbjaa
