/- The law DequePlays (layer 8), whole. -/
import Derived.Test.YtjdbmedealhbjaaPg
namespace Go.Proofs.Ytjdbmedealhbjaa
open Go.RowKit Go.Wd Go.Dk

theorem plays_any (D : DqApi) (q rm : Int) (hrm : 0 ≤ rm ∧ rm ≤ 255) (vl : Value) (l : List Int) (acts : List ActV) (pa : Option Addr) (na ca : Nat) (g : Int) (w : World) (hl : SlIs (fun _ => False) w vl l) (ha : ActsIs w pa acts) (hna : na = acts.length) :
    Calls Try.prog 3 #[.int .i64 q, .int .u8 rm, vl, .slice pa na ca, .int .i64 g] w (Ans (.bool true) w) := by
  obtain ⟨pl, nl, cl, rfl, hnl⟩ := hid_slice hl
  cases hf : fewB acts 100 with
  | false => exact plays_many D q rm _ acts pa na ca g w ⟨pl, nl, cl, rfl⟩ ha hna hf
  | true =>
    by_cases h80 : nl ≤ 80
    · cases hr : room q with
      | false => exact plays_none D q rm pl nl cl l acts pa na ca g w hl hnl h80 ha hna hf hr
      | true =>
        have hb := room_bd hr
        obtain ⟨n, rfl⟩ : ∃ n : Nat, q = (n : Int) := ⟨q.toNat, by omega⟩
        by_cases h64 : n ≤ 64
        · exact plays_go D n rm hrm pl nl cl l acts pa na ca g w hl hnl h80 ha hna hf hr h64
        · exact plays_great D n rm pl nl cl l acts pa na ca g w hl hnl h80 ha hna hf hr (by omega)
    · exact plays_long D q rm pl nl cl acts pa na ca g w (by omega) ha hna hf
/-- of whatever length -/
theorem plays_in (D : DqApi) (q rm : Int) (hrm : 0 ≤ rm ∧ rm ≤ 255) (vl : Value) (l : List Int) (acts : List ActV) (pa : Option Addr) (na ca : Nat) (g : Int) (w : World) (hl : InSl w vl l) (ha : ActsIs w pa acts) (hna : na = acts.length) :
    Calls Try.prog 3 #[.int .i64 q, .int .u8 rm, vl, .slice pa na ca, .int .i64 g] w (Ans (.bool true) w) := by
  by_cases h80 : l.length ≤ 1000
  · exact plays_any D q rm hrm vl l acts pa na ca g w (hl.sl h80) ha hna
  · obtain ⟨pl, nl, cl, rfl, hnl, -, -⟩ := hl
    cases hf : fewB acts 100 with
    | false => exact plays_many D q rm _ acts pa na ca g w ⟨pl, nl, cl, rfl⟩ ha hna hf
    | true => exact plays_long D q rm pl nl cl acts pa na ca g w (by omega) ha hna hf
end Go.Proofs.Ytjdbmedealhbjaa
