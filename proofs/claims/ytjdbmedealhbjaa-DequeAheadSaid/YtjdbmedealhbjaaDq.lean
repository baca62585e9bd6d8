/- Deques in plain, and what is asked of the code's (layer 8). -/
import Derived.Test.YtjdbmedealhbjaaAn
import Derived.Test.YtjdbmedealhbjaaCn
import Derived.Test.YtjdbmedealhbjaaMa
namespace Go.Dk
def putL (q : Nat) (l : List Int) (g : Int) : List Int := if l.length < q then l ++ [g] else l.take (l.length - q / 2)
def putO (q : Nat) (l : List Int) (g : Int) : List Int := if l.length < q then [] else l.drop (l.length - q / 2) ++ [g]
def layN (q : Nat) (l xs : List Int) : Nat := min xs.length (q - l.length)
def layL (q : Nat) (l xs : List Int) : List Int := l ++ xs.take (layN q l xs)
def stN (l : List Int) : Nat := l.length - l.length / 2
def stL (l : List Int) : List Int := l.drop (stN l)
def stO (l : List Int) : List Int := l.take (stN l)
def aheadL (l : List Int) (g : Int) : Int := if g ∈ l then (l.idxOf g : Int) else -1
/-- may it be moved? -/
def mvB (l m : List Int) : Bool := decide (l ≠ [] ∧ m = [])
def mvF (l m : List Int) : List Int := if mvB l m = true then stL l else l
def mvT (q : Nat) (l m : List Int) : List Int := if mvB l m = true then layL q m (stO l).tail else m
def mvV (l m : List Int) : Int := if mvB l m = true then l.headD 0 else 0
theorem putL_len {q : Nat} {l : List Int} (g : Int) (h : l.length ≤ q) : (putL q l g).length ≤ q := by
  unfold putL; split
  · rw [List.length_append]; simp; omega
  · rw [List.length_take]; omega
theorem putO_len {q : Nat} {l : List Int} (g : Int) : (putO q l g).length ≤ q + 1 := by
  unfold putO; split
  · simp
  · rw [List.length_append, List.length_drop]; simp; omega
theorem layN_le (q : Nat) (l xs : List Int) : layN q l xs ≤ xs.length := Nat.min_le_left _ _
theorem layL_len {q : Nat} {l xs : List Int} (h : l.length ≤ q) : (layL q l xs).length ≤ q := by
  unfold layL layN; rw [List.length_append, List.length_take]; omega
theorem stL_len (l : List Int) : (stL l).length = l.length / 2 := by unfold stL stN; rw [List.length_drop]; omega
theorem stO_len (l : List Int) : (stO l).length = stN l := by unfold stO; rw [List.length_take]; unfold stN; omega
theorem stN_pos {l : List Int} (h : l ≠ []) : 0 < stN l := by
  unfold stN
  have := List.length_pos_iff.2 h
  omega
end Go.Dk
namespace Go.Proofs.Ytjdbmedealhbjaa
open Go.RowKit Go.Wd Go.Dk

/-- numbers in a slice, in a block that is none of S -/
def SlIs (S : Nat → Prop) (w : World) (v : Value) (xs : List Int) : Prop :=
  ∃ p c, v = .slice p xs.length c ∧ xs.length ≤ c ∧ c ≤ maxLen ∧ (p = none → c = 0) ∧ LiesN S .i64 w p xs
section
variable {S R : Nat → Prop} {w w' : World} {v : Value} {xs : List Int}
theorem SlIs.nil (S : Nat → Prop) (w : World) : SlIs S w (.slice none 0 0) [] := ⟨none, 0, rfl, Nat.le_refl _, Nat.zero_le _, fun _ => rfl, .nil ..⟩
theorem SlIs.tch (h : SlIs S w v xs) (ht : Tch S w w') : SlIs S w' v xs := by
  obtain ⟨p, c, h1, h2, h3, h4, h5⟩ := h
  exact ⟨p, c, h1, h2, h3, h4, h5.tch ht⟩
theorem SlIs.on (h : SlIs S w v xs) (hb : Below w.heap.size w w') : SlIs S w' v xs := h.tch (.of S hb)
theorem SlIs.less (h : SlIs R w v xs) (hs : ∀ b, S b → R b) : SlIs S w v xs := by
  obtain ⟨p, c, h1, h2, h3, h4, h5⟩ := h
  exact ⟨p, c, h1, h2, h3, h4, h5.less hs⟩
/-- blocks that are new are none of its -/
theorem SlIs.more (h : SlIs S w v xs) (hs : ∀ b, R b → S b ∨ w.heap.size ≤ b) : SlIs R w v xs := by
  obtain ⟨p, c, h1, h2, h3, h4, h5⟩ := h
  refine ⟨p, c, h1, h2, h3, h4, ⟨h5.len, fun j hj => ?_⟩⟩
  obtain ⟨b, o, e, hn, hc⟩ := h5.cells j hj
  refine ⟨b, o, e, fun hr => ?_, hc⟩
  rcases hs b hr with h | h
  · exact hn h
  · have := block_lt_of_cell hc; have e2 : (⟨b, o + j, none⟩ : Addr).block = b := rfl; omega
theorem SlIs.len (h : SlIs S w v xs) : xs.length ≤ 1000000000000000 := by
  obtain ⟨p, c, _, _, _, _, h5⟩ := h
  exact h5.len
end
/-- a row of numbers that was made since the block B -/
def NewRow (B : Nat) (w : World) (v : Value) (xs : List Int) : Prop := w.ownsRow B 3 1 v xs.length (xs.map (Value.int .i64))
theorem NewRow.form {B : Nat} {w : World} {v : Value} {xs : List Int} (h : NewRow B w v xs) : ∃ p n c, v = .slice p n c ∧ n = xs.length := by
  obtain ⟨p, c, e⟩ := ownk_form h
  exact ⟨p, _, c, e, rfl⟩
theorem NewRow.nil (B : Nat) (w : World) : NewRow B w (.slice none 0 0) [] := World.ownsRow_nil _ _ _ _
theorem NewRow.base {B C : Nat} {w : World} {v : Value} {xs : List Int} (h : NewRow B w v xs) (hc : C ≤ B) : NewRow C w v xs := ownk_base h hc
theorem NewRow.lt {B : Nat} {w : World} {v : Value} {xs : List Int} (h : NewRow B w v xs) : ∀ k, v.ownBlock = some k → B ≤ k ∧ k < w.heap.size := by
  intro k hk
  rcases h.2 with ⟨hv, _⟩ | ⟨g, cap, cur, hv, hB, hg, _⟩
  · rw [hv] at hk; cases hk
  · rw [hv] at hk
    have : g = k := by simpa [Value.ownBlock] using hk
    subst this; exact ⟨hB, lt_of_block hg⟩
theorem NewRow.tch {S : Nat → Prop} {B : Nat} {w w' : World} {v : Value} {xs : List Int} (h : NewRow B w v xs) (ht : Tch S w w') (hs : ∀ k, v.ownBlock = some k → ¬ S k) : NewRow B w' v xs := by
  refine ⟨h.1, ?_⟩
  rcases h.2 with h2 | ⟨g, cap, cur, hv, hB, hg, r⟩
  · exact .inl h2
  · exact .inr ⟨g, cap, cur, hv, hB, ht.obj hg (hs g (by rw [hv]; rfl)), r⟩
theorem NewRow.on {B : Nat} {w w' : World} {v : Value} {xs : List Int} (h : NewRow B w v xs) (hb : Below w.heap.size w w') : NewRow B w' v xs := ownk_on h hb
/-- read as a slice -/
theorem NewRow.sl {B : Nat} {w : World} {v : Value} {xs : List Int} {S : Nat → Prop} (h : NewRow B w v xs) (hl : xs.length ≤ 1000000000000000) (hs : ∀ k, v.ownBlock = some k → ¬ S k) : SlIs S w v xs := by
  rcases h.2 with ⟨hv, hz⟩ | ⟨g, cap, cur, hv, hB, hg, hc, hc2, r⟩
  · have : xs = [] := List.eq_nil_of_length_eq_zero hz
    subst this; rw [hv]; exact .nil ..
  · obtain ⟨p, cap2, e, hL⟩ := ownk_lies h rfl hl
    rw [hv] at e hs
    cases e
    refine ⟨_, cap, hv, hc, hc2, (fun e => by cases e), LiesN.made hL ?_⟩
    rintro b o e
    cases e
    exact hs g rfl

/-- what is asked of a deque's functions -/
theorem NewRow.post {w w' : World} {v : Value} {xs : List Int} (h : NewRow w.heap.size w' v xs) (hb : Below w.heap.size w w') : ∃ p n c, Ending.returned v = .returned (.slice p n c) ∧ Hid (n = xs.length) ∧ NewRow w.heap.size w' (.slice p n c) xs ∧ Below w.heap.size w w' := by
  obtain ⟨p, n, c, rfl, e⟩ := h.form
  exact ⟨p, n, c, rfl, e, h, hb⟩
def OutPost (Is : (Nat → Prop) → World → Nat → Nat → List Int → Prop) (S : Nat → Prop) (db q : Nat) (xs out : List Int) (w : World) (e : Ending) (w' : World) : Prop :=
  ∃ p n c S', e = .returned (.slice p n c) ∧ Hid (n = out.length) ∧ Is S' w' db q xs ∧ NewRow w.heap.size w' (.slice p n c) out ∧ (∀ k, (Value.slice p n c).ownBlock = some k → ¬ S' k) ∧ (∀ k, S' k → S k ∨ w.heap.size ≤ k) ∧ Tch S w w'
def ValPost (Is : (Nat → Prop) → World → Nat → Nat → List Int → Prop) (S : Nat → Prop) (db q : Nat) (xs : List Int) (v : Value) (w : World) (e : Ending) (w' : World) : Prop :=
  ∃ S', e = .returned v ∧ Is S' w' db q xs ∧ (∀ k, S' k → S k ∨ w.heap.size ≤ k) ∧ Tch S w w'
def MadePost (Is : (Nat → Prop) → World → Nat → Nat → List Int → Prop) (q : Nat) (xs : List Int) (f : Value → Value) (w : World) (e : Ending) (w' : World) : Prop :=
  ∃ db S', e = .returned (f (.pointer (some ⟨db, 0, none⟩))) ∧ Is S' w' db q xs ∧ (∀ k, S' k → w.heap.size ≤ k) ∧ Below w.heap.size w w'
def RowPost8 (xs : List Int) (w : World) (e : Ending) (w' : World) : Prop := ∃ p n c, e = .returned (.slice p n c) ∧ Hid (n = xs.length) ∧ NewRow w.heap.size w' (.slice p n c) xs ∧ Below w.heap.size w w'
def MovePost (Is : (Nat → Prop) → World → Nat → Nat → List Int → Prop) (S R : Nat → Prop) (a q : Nat) (xs : List Int) (b p : Nat) (ys : List Int) (v : Value) (w : World) (e : Ending) (w' : World) : Prop :=
  ∃ S' R', e = .returned v ∧ Is S' w' a q xs ∧ Is R' w' b p ys ∧ (∀ k, S' k → ¬ R' k) ∧ (∀ k, S' k → S k ∨ w.heap.size ≤ k) ∧ (∀ k, R' k → R k ∨ w.heap.size ≤ k) ∧ Tch (fun k => S k ∨ R k) w w'
abbrev dptr (b : Nat) : Value := .pointer (some ⟨b, 0, none⟩)
structure DqApi where
  Is : (Nat → Prop) → World → Nat → Nat → List Int → Prop
  lt : ∀ {S w db q xs}, Is S w db q xs → ∀ k, S k → k < w.heap.size
  self : ∀ {S w db q xs}, Is S w db q xs → S db
  room : ∀ {S w db q xs}, Is S w db q xs → room (q : Int) = true
  len : ∀ {S w db q xs}, Is S w db q xs → xs.length ≤ q
  tch : ∀ {S R w w' db q xs}, Is S w db q xs → Tch R w w' → (∀ k, S k → ¬ R k) → Is S w' db q xs
  new_yes : ∀ (q : Nat) (v : Value) (xs : List Int) (w : World), Go.Wd.room (q : Int) = true → SlIs (fun _ => False) w v xs → xs.length ≤ 1000 →
    Calls Try.prog 10 #[.int .i64 q, v] w (MadePost Is q (xs.take q) (fun p => .tuple #[p, .int .i64 0]) w)
  new_no : ∀ (q : Int) (v : Value) (xs : List Int) (w : World), Go.Wd.room q = false → SlIs (fun _ => False) w v xs → xs.length ≤ 1000 →
    Calls Try.prog 10 #[.int .i64 q, v] w (Ans (.tuple #[.pointer none, .int .i64 2]) w)
  put_any : ∀ {S w db q xs} (g : Int), Is S w db q xs → Calls Try.prog 18 #[dptr db, .int .i64 g] w (OutPost Is S db q (putL q xs g) (putO q xs g) w)
  lay_any : ∀ {S w db q xs} (v : Value) (l : List Int), Is S w db q xs → SlIs S w v l → l.length ≤ 1000 → Calls Try.prog 19 #[dptr db, v] w (ValPost Is S db q (layL q xs l) (.int .i64 (layN q xs l)) w)
  get_any : ∀ {S w db q xs}, Is S w db q xs → Calls Try.prog 20 #[dptr db] w (ValPost Is S db q xs.tail (.tuple #[.int .i64 (xs.headD 0), .bool (decide (0 < xs.length))]) w)
  steal_any : ∀ {S w db q xs}, Is S w db q xs → Calls Try.prog 21 #[dptr db] w (OutPost Is S db q (stL xs) (stO xs) w)
  room_any : ∀ {S w db q xs}, Is S w db q xs → Calls Try.prog 25 #[dptr db] w (Ans (.int .i64 q) w)
  len_any : ∀ {S w db q xs}, Is S w db q xs → Calls Try.prog 26 #[dptr db] w (Ans (.int .i64 xs.length) w)
  all_any : ∀ {S w db q xs}, Is S w db q xs → Calls Try.prog 22 #[dptr db] w (RowPost8 xs w)
  ahead_any : ∀ {S w db q xs} (g : Int), Is S w db q xs → Calls Try.prog 24 #[dptr db, .int .i64 g] w (Ans (.int .i64 (aheadL xs g)) w)
  copy_any : ∀ {S w db q xs}, Is S w db q xs → Calls Try.prog 12 #[dptr db] w (MadePost Is q xs (fun p => p) w)
  same_any : ∀ {S R w a b q p xs ys}, Is S w a q xs → Is R w b p ys → Calls Try.prog 15 #[dptr a, dptr b] w (Ans (.bool (decide (q = p ∧ xs = ys))) w)
  move_any : ∀ {S R w a b q p xs ys}, Is S w a q xs → Is R w b p ys → (∀ k, S k → ¬ R k) →
    Calls Try.prog 23 #[dptr a, dptr b] w (MovePost Is S R a q (mvF xs ys) b p (mvT p xs ys) (.tuple #[.int .i64 (mvV xs ys), .bool (mvB xs ys)]) w)
  move_self : ∀ {S w a q xs}, Is S w a q xs → Calls Try.prog 23 #[dptr a, dptr a] w (Ans (.tuple #[.int .i64 0, .bool false]) w)
  put_nil : ∀ (g : Int) (w : World), Calls Try.prog 18 #[.pointer none, .int .i64 g] w (RowPost8 [] w)
  lay_nil : ∀ (v : Value) (l : List Int) (w : World), SlIs (fun _ => False) w v l → Calls Try.prog 19 #[.pointer none, v] w (Ans (.int .i64 0) w)
  get_nil : ∀ (w : World), Calls Try.prog 20 #[.pointer none] w (Ans (.tuple #[.int .i64 0, .bool false]) w)
  steal_nil : ∀ (w : World), Calls Try.prog 21 #[.pointer none] w (RowPost8 [] w)
  room_nil : ∀ (w : World), Calls Try.prog 25 #[.pointer none] w (Ans (.int .i64 0) w)
  len_nil : ∀ (w : World), Calls Try.prog 26 #[.pointer none] w (Ans (.int .i64 0) w)
  all_nil : ∀ (w : World), Calls Try.prog 22 #[.pointer none] w (RowPost8 [] w)
  ahead_nil : ∀ (g : Int) (w : World), Calls Try.prog 24 #[.pointer none, .int .i64 g] w (Ans (.int .i64 (-1)) w)
  copy_nil : ∀ (w : World), Calls Try.prog 12 #[.pointer none] w (Ans (.pointer none) w)
  same_nil : ∀ (w : World), Calls Try.prog 15 #[.pointer none, .pointer none] w (Ans (.bool true) w)
  move_nil : ∀ (w : World), Calls Try.prog 23 #[.pointer none, .pointer none] w (Ans (.tuple #[.int .i64 0, .bool false]) w)
theorem DqApi.on (D : DqApi) {S : Nat → Prop} {w w' : World} {db q : Nat} {xs : List Int} (h : D.Is S w db q xs) (hb : Below w.heap.size w w') : D.Is S w' db q xs := D.tch h (.of (fun _ => False) hb) (fun _ _ h => h)
end Go.Proofs.Ytjdbmedealhbjaa
