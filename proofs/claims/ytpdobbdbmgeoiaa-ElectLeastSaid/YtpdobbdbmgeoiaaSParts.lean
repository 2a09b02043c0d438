/-
  No statement: what a path below the root is, told of lists of bytes.
-/
import Derived.Test.YtpdobbdbmgeoiaaBase
namespace Go.Proofs.Ytpdobbdbmgeoiaa
open Go.RowKit

def smallB (c : UInt8) : Bool := decide (97 ≤ (c.toNat : Int)) && decide ((c.toNat : Int) ≤ 122)
def digitB (c : UInt8) : Bool := decide (48 ≤ (c.toNat : Int)) && decide ((c.toNat : Int) ≤ 57)
def alnumB (c : UInt8) : Bool := smallB c || digitB c
/-- A name: small letters and digits, the first a letter, eight at most. -/
def goodB : List UInt8 → Bool
  | [] => false
  | c :: r => smallB c && decide (r.length ≤ 7) && r.all alnumB
/-- The parts of a text, a stroke between two. -/
def segs : List UInt8 → List (List UInt8)
  | [] => [[]]
  | c :: r => if c = 47 then [] :: segs r else ((c :: (segs r).head!) :: (segs r).tail)
/-- Is what is left a path's, p parts being told? -/
def nodeFrom (l : List UInt8) (p : Nat) : Bool :=
  match l with
  | [] => decide (0 < p)
  | c :: r => decide (c = 47) && (segs r).all goodB && decide ((segs r).length + p ≤ 4)
/-- A path, and not the root. -/
def nodeB (l : List UInt8) : Bool := nodeFrom l 0

theorem good_cons (c : UInt8) (r : List UInt8) : goodB (c :: r) = (smallB c && decide (r.length ≤ 7) && r.all alnumB) := rfl
theorem node_nil (p : Nat) : nodeFrom [] p = decide (0 < p) := rfl
theorem node_cons (c : UInt8) (r : List UInt8) (p : Nat) : nodeFrom (c :: r) p = (decide (c = 47) && (segs r).all goodB && decide ((segs r).length + p ≤ 4)) := rfl

theorem segs_ne (l : List UInt8) : segs l ≠ [] := by
  cases l with
  | nil => simp [segs]
  | cons c r => unfold segs; split <;> simp

theorem segs_eq (l : List UInt8) : ∃ a q, segs l = a :: q := by
  cases h : segs l with
  | nil => exact absurd h (segs_ne l)
  | cons a q => exact ⟨a, q, rfl⟩

theorem segs_stroke (q : List UInt8) : segs (47 :: q) = [] :: segs q := by simp [segs]
theorem segs_sign {c : UInt8} (h : ¬ c = 47) (q : List UInt8) {a : List UInt8} {b : List (List UInt8)} (e : segs q = a :: b) : segs (c :: q) = (c :: a) :: b := by
  rw [segs, if_neg h, e]; rfl

theorem segs_app : ∀ (n q : List UInt8), (∀ c ∈ n, ¬ c = 47) → ∀ {a : List UInt8} {b : List (List UInt8)}, segs q = a :: b → segs (n ++ q) = (n ++ a) :: b
  | [], _, _, _, _, e => e
  | c :: n, q, h, _, _, e => segs_sign (h c (by simp)) _ (segs_app n q (fun x hx => h x (by simp [hx])) e)

theorem segs_name {n : List UInt8} (h : ∀ c ∈ n, ¬ c = 47) : segs n = [n] := by
  have := segs_app n [] h (a := []) (b := []) rfl
  simpa using this

theorem segs_more {n : List UInt8} (h : ∀ c ∈ n, ¬ c = 47) (q : List UInt8) : segs (n ++ 47 :: q) = n :: segs q := by
  have := segs_app n (47 :: q) h (segs_stroke q)
  simpa using this

theorem segs_long {n : List UInt8} (h : ∀ c ∈ n, ¬ c = 47) {d : UInt8} (hd : ¬ d = 47) (q : List UInt8) : ∃ a b, segs (n ++ d :: q) = (n ++ d :: a) :: b := by
  obtain ⟨a, b, e⟩ := segs_eq q
  exact ⟨a, b, segs_app n (d :: q) h (segs_sign hd q e)⟩

theorem small_ne {c : UInt8} (h : smallB c = true) : ¬ c = 47 := by
  rintro rfl; revert h; decide
theorem alnum_ne {c : UInt8} (h : alnumB c = true) : ¬ c = 47 := by
  rintro rfl; revert h; decide

/-- A name is taken off; what is left is a path's just where the whole was. -/
theorem node_step {c : UInt8} {r rest : List UInt8} (hc : smallB c = true) (hr : r.all alnumB = true) (hl : r.length ≤ 7)
    (stop : rest = [] ∨ r.length = 7 ∨ ∃ d q, rest = d :: q ∧ alnumB d = false) (p : Nat) :
    nodeFrom (47 :: (c :: r ++ rest)) p = (decide (p < 4) && nodeFrom rest (p + 1)) := by
  have hn : ∀ x ∈ c :: r, ¬ x = 47 := by
    intro x hx
    rcases List.mem_cons.1 hx with rfl | hx
    · exact small_ne hc
    · exact alnum_ne (List.all_eq_true.1 hr x hx)
  have hg : goodB (c :: r) = true := by rw [good_cons, hc, hr, decide_eq_true hl]; rfl
  cases rest with
  | nil =>
    rw [List.append_nil]
    rw [node_cons, node_nil, segs_name hn]
    simp [hg]
    omega
  | cons d q =>
    by_cases hd : d = 47
    · subst hd
      rw [node_cons, node_cons, segs_more hn]
      simp only [List.all_cons, hg, List.length_cons, decide_true, Bool.true_and]
      by_cases hp : p < 4
      · rw [decide_eq_true hp, Bool.true_and]
        congr 1
        apply decide_eq_decide.2
        omega
      · rw [decide_eq_false hp, Bool.false_and, decide_eq_false (by omega), Bool.and_false]
    · have e2 : nodeFrom (d :: q) (p + 1) = false := by rw [node_cons, decide_eq_false hd]; rfl
      rw [e2, Bool.and_false]
      obtain ⟨a, b, e⟩ := segs_long hn hd q
      have hb : goodB (c :: r ++ d :: a) = false := by
        rw [List.cons_append, good_cons]
        rcases stop with h | h | ⟨d', q', h, h'⟩
        · cases h
        · rw [decide_eq_false (by simp; omega)]; simp
        · cases h
          rw [List.all_append, List.all_cons, h']; simp
      rw [node_cons, e, List.all_cons, hb]
      simp

/-- What begins with no name is none. -/
theorem node_none {l : List UInt8} (h0 : ¬ l = []) (h : ∀ c r, l = 47 :: c :: r → smallB c = false) (p : Nat) : nodeFrom l p = false := by
  match l, h0, h with
  | [47], _, _ => rfl
  | c :: r, _, h =>
    by_cases hc : c = 47
    · subst hc
      cases r with
      | nil => rfl
      | cons d q =>
        have hs := h d q rfl
        rw [node_cons]
        by_cases hd : d = 47
        · subst hd
          rw [segs_stroke, List.all_cons]; simp [goodB]
        · obtain ⟨a, b, e⟩ := segs_eq q
          rw [segs_sign hd q e, List.all_cons]; simp [good_cons, hs]
    · rw [node_cons, decide_eq_false hc]; rfl

/-- How many bytes the stroke and the name have with which s begins; 0: it does not begin so. -/
def PartIs (s : ByteArray) (n : Nat) : Prop :=
  (n = 0 ∧ ∀ c r, s.data.toList = 47 :: c :: r → smallB c = false) ∨
  (2 ≤ n ∧ n ≤ s.size ∧ n ≤ 9 ∧ ∃ c r rest, s.data.toList = 47 :: (c :: r ++ rest) ∧ n = r.length + 2 ∧ smallB c = true ∧ r.all alnumB = true ∧ (rest = [] ∨ r.length = 7 ∨ ∃ d q, rest = d :: q ∧ alnumB d = false))

theorem toList_extract (s : ByteArray) (n : Nat) : (s.extract n s.size).data.toList = s.data.toList.drop n := by
  simp only [ByteArray.data_extract, Array.toList_extract, List.extract]
  exact List.take_of_length_le (by simp)

theorem part_none {s : ByteArray} (h : PartIs s 0) (h0 : ¬ s.size = 0) (p : Nat) : nodeFrom s.data.toList p = false := by
  rcases h with ⟨_, h⟩ | ⟨h, _⟩
  · exact node_none (fun e => h0 (by have := congrArg List.length e; simpa using this)) h p
  · omega

theorem part_some {s : ByteArray} {n : Nat} (h : PartIs s n) (h0 : ¬ n = 0) (p : Nat) : nodeFrom s.data.toList p = (decide (p < 4) && nodeFrom (s.extract n s.size).data.toList (p + 1)) := by
  rcases h with ⟨h, _⟩ | ⟨_, _, _, c, r, rest, e, hn, hc, hr, stop⟩
  · exact absurd h h0
  · rw [toList_extract, e, node_step hc hr (by omega) stop]
    congr 2
    subst hn
    simp

/-- What the walk of part knows when it stops at n. -/
theorem part_of {s : ByteArray} {n : Nat} (h2 : 2 ≤ n) (hn : n ≤ s.size) (h9 : n ≤ 9) (a0 : s[0] = 47) (a1 : smallB s[1] = true) (am : ∀ j (hj : j < s.size), 2 ≤ j → j < n → alnumB s[j] = true)
    (stop : n = s.size ∨ n = 9 ∨ ∃ h : n < s.size, alnumB s[n] = false) : PartIs s n := by
  right
  refine ⟨h2, hn, h9, s[1], (s.data.toList.drop 2).take (n - 2), s.data.toList.drop n, ?_, ?_, a1, ?_, ?_⟩
  · apply List.ext_getElem
    · simp; omega
    · intro i hi hi'
      have hs : i < s.size := by simpa using hi
      match i with
      | 0 => exact a0
      | 1 => simp; rfl
      | i + 2 =>
        simp only [List.cons_append, List.getElem_cons_succ]
        by_cases hin : i < n - 2
        · rw [List.getElem_append_left (by simp; omega)]
          simp only [List.getElem_take, List.getElem_drop]
          congr 1
          omega
        · rw [List.getElem_append_right (by simp; omega)]
          simp only [List.getElem_drop, List.length_take, List.length_drop]
          congr 1
          simp; omega
  · simp; omega
  · rw [List.all_eq_true]
    intro x hx
    obtain ⟨j, hj, rfl⟩ := List.mem_iff_getElem.1 hx
    simp at hj
    have := am (2 + j) (by omega) (by omega) (by omega)
    rw [List.getElem_take, List.getElem_drop]
    exact this
  · rcases stop with h | h | ⟨hh, h⟩
    · left; simp; omega
    · right; left; simp; omega
    · right; right
      refine ⟨s[n], s.data.toList.drop (n + 1), ?_, h⟩
      exact List.drop_eq_getElem_cons (l := s.data.toList) (i := n) (by simpa using hh)

end Go.Proofs.Ytpdobbdbmgeoiaa
