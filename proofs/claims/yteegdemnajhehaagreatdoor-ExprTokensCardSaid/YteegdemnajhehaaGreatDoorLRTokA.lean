/-
  No statement: plain facts for the document's Tokens: what stands at a place of a text.
-/
import Derived.Test.YteegdemnajhehaaGreatDoorLTokens
import Derived.Test.YteegdemnajhehaaGreatDoorLRef
import Derived.Test.YteegdemnajhehaaGreatDoorLNumber
namespace Go.Proofs.YteegdemnajhehaaGreatDoor
open Go.RowKit

theorem drop_at (s : ByteArray) {k : Nat} (h : k < s.size) : s.data.toList.drop k = s[k] :: s.data.toList.drop (k + 1) := List.drop_eq_getElem_cons (by simpa using h)

theorem run_drop {q : UInt8 → Bool} {s : ByteArray} {k m : Nat} (hk : k ≤ m) (hm : m ≤ s.size) (h1 : ∀ j (h : j < s.size), k ≤ j → j < m → q s[j] = true) (h2 : ∀ h : m < s.size, q s[m] = false) : runL q (s.data.toList.drop k) = m - k := by
  have hl : s.data.toList.length = s.size := by simp
  refine run_is (by rw [List.length_drop]; omega) (fun j hj hjm => ?_) (fun hj => ?_)
  · rw [List.length_drop] at hj
    rw [List.getElem_drop]
    exact h1 (k + j) (by omega) (by omega) (by omega)
  · rw [List.length_drop] at hj
    rw [List.getElem_drop]
    have := h2 (by omega)
    have e : k + (m - k) = m := by omega
    simp only [e]
    exact this

theorem e_bad {s : ByteArray} {k : Nat} {T : List Tk} {E : LexEnd} {er : Int} (hk : k < s.size) (h32 : ¬ s[k] = 32) (hE : (lexL (s.data.toList.drop k) k).after T = E) (hf : firstF (s.data.toList.drop k) = .bad er) : E = .bad k er := by
  have hd := drop_at s hk
  rw [← hE, lex_bad (by rw [hd]; simp) (by rw [hd]; simpa using h32) hf]
  rfl

theorem e_tok {s : ByteArray} {k m : Nat} {T : List Tk} {E : LexEnd} {kd nv : Int} (hk : k < s.size) (h32 : ¬ s[k] = 32) (hm : k < m) (hE : (lexL (s.data.toList.drop k) k).after T = E) (hf : firstF (s.data.toList.drop k) = .tok kd (m - k) nv) :
    (lexL (s.data.toList.drop m) m).after (T ++ [⟨kd, (s.data.toList.drop k).take (m - k), nv, k⟩]) = E := by
  have hd := drop_at s hk
  rw [← hE, lex_tok (by rw [hd]; simpa using h32) (by omega) hf, after_after, List.drop_drop, show k + (m - k) = m by omega]

theorem e_blank {s : ByteArray} {k : Nat} {T : List Tk} {E : LexEnd} (hk : k < s.size) (h32 : s[k] = 32) (hE : (lexL (s.data.toList.drop k) k).after T = E) : (lexL (s.data.toList.drop (k + 1)) (k + 1)).after T = E := by
  rw [← hE, drop_at s hk, h32, lex_blank]

theorem e_end {s : ByteArray} {T : List Tk} {E : LexEnd} (hE : (lexL (s.data.toList.drop s.size) s.size).after T = E) : E = .ok T := by
  rw [← hE, List.drop_of_length_le (by simp), lex_nil]
  simp [LexEnd.after]

theorem first_small {s : ByteArray} {k : Nat} (hk : k < s.size) (h : smallB s[k] = true) : firstF (s.data.toList.drop k) = nameF (s.data.toList.drop k) := by
  rw [drop_at s hk]
  simp only [firstF]
  rw [if_pos h]
theorem first_digit {s : ByteArray} {k : Nat} (hk : k < s.size) (h : smallB s[k] = false) (h2 : digitB s[k] = true) : firstF (s.data.toList.drop k) = numF (s.data.toList.drop k) := by
  rw [drop_at s hk]
  simp only [firstF]
  rw [if_neg (by rw [h]; decide), if_pos h2]
theorem first_sign {s : ByteArray} {k : Nat} (hk : k < s.size) (h : smallB s[k] = false) (h2 : digitB s[k] = false) : firstF (s.data.toList.drop k) = signF (s.data.toList.drop k) := by
  rw [drop_at s hk]
  simp only [firstF]
  rw [if_neg (by rw [h]; decide), if_neg (by rw [h2]; decide)]

theorem name_long {l : List UInt8} {n : Nat} (h : runL alnumB l = n) (h8 : 8 < n) : nameF l = .bad 5 := by unfold nameF; rw [h, if_pos h8]
theorem name_short {l : List UInt8} {n : Nat} (h : runL alnumB l = n) (h8 : ¬ 8 < n) : nameF l = .tok 1 n 0 := by unfold nameF; rw [h, if_neg h8]
theorem sign_none {l : List UInt8} (h : signL l = 0) : signF l = .bad 2 := by unfold signF; rw [if_pos h]
theorem sign_some {l : List UInt8} {n : Nat} (h : signL l = n) (h0 : ¬ n = 0) : signF l = .tok 3 n 0 := by unfold signF; rw [h, if_neg h0]

section
variable {s : ByteArray} {k m : Nat}
theorem num_A (hk : k < s.size) (hr : runL digitB (s.data.toList.drop k) = m - k) (h1 : 1 < m - k) (h48 : s[k] = 48) : numF (s.data.toList.drop k) = .bad 2 := by
  unfold numF
  rw [hr, if_pos (.inl ⟨h1, by rw [drop_at s hk, h48]; rfl⟩)]

theorem head_rest (hm : k ≤ m) : ((s.data.toList.drop k).drop (m - k)).head? = if h : m < s.size then some s[m] else none := by
  rw [List.drop_drop, show k + (m - k) = m by omega, List.head?_drop]
  by_cases h : m < s.size
  · rw [dif_pos h]; exact List.getElem?_eq_getElem (by simpa using h)
  · rw [dif_neg h]; exact List.getElem?_eq_none (by simp; omega)

theorem num_B (hm : k ≤ m) (hr : runL digitB (s.data.toList.drop k) = m - k) (h1 : m < s.size) (h2 : smallB s[m] = true) : numF (s.data.toList.drop k) = .bad 2 := by
  unfold numF
  rw [hr, if_pos (.inr ⟨s[m], by rw [head_rest hm, dif_pos h1], h2⟩)]

theorem num_no (hk : k < s.size) (hm : k < m) (ha : ¬ (1 < m - k ∧ s[k] = 48)) (hb : ∀ h : m < s.size, smallB s[m] = false) :
    ¬ ((1 < m - k ∧ (s.data.toList.drop k).head? = some 48) ∨ ∃ d, ((s.data.toList.drop k).drop (m - k)).head? = some d ∧ smallB d = true) := by
  rintro (⟨x, y⟩ | ⟨d, x, y⟩)
  · rw [drop_at s hk] at y
    exact ha ⟨x, by simpa using y⟩
  · rw [head_rest (by omega)] at x
    by_cases h : m < s.size
    · rw [dif_pos h] at x
      cases x
      rw [hb h] at y; cases y
    · rw [dif_neg h] at x; cases x

theorem num_plain (hk : k < s.size) (hm : k < m) (hms : m ≤ s.size) (hr : runL digitB (s.data.toList.drop k) = m - k) (ha : ¬ (1 < m - k ∧ s[k] = 48)) :
    (∀ c ∈ (s.extract k m).data.toList, isD c) ∧ ¬ (s.extract k m).data.toList = [] ∧ (∀ r, (s.extract k m).data.toList = 48 :: r → r = []) := by
  have hl : (s.extract k m).data.toList.length = m - k := by rw [list_from, List.length_take, List.length_drop]; simp; omega
  refine ⟨fun c hc => ?_, fun e => ?_, fun r e => ?_⟩
  · rw [list_from, ← hr, take_run] at hc
    exact (digit_iff c).1 (List.all_eq_true.1 (List.all_takeWhile (p := digitB) (l := s.data.toList.drop k)) c hc)
  · rw [e] at hl; simp at hl; omega
  · have e0 : (s.extract k m).data.toList.head? = some s[k] := by
      rw [list_from, List.head?_take, if_neg (by omega), drop_at s hk]; rfl
    rw [e] at e0 hl
    have h48 : s[k] = 48 := by simpa using e0.symm
    have : ¬ 1 < m - k := fun h => ha ⟨h, h48⟩
    rw [List.length_cons] at hl
    exact List.length_eq_zero_iff.1 (by omega)

theorem num_O (hk : k < s.size) (hm : k < m) (hms : m ≤ s.size) (hr : runL digitB (s.data.toList.drop k) = m - k) (ha : ¬ (1 < m - k ∧ s[k] = 48)) (hb : ∀ h : m < s.size, smallB s[m] = false) {v : Int} (hv : numOf (s.extract k m).data.toList = some v) :
    numF (s.data.toList.drop k) = .tok 2 (m - k) v ∧ In64 v := by
  obtain ⟨d1, d2, d3⟩ := num_plain hk hm hms hr ha
  refine ⟨?_, num_in hv⟩
  unfold numF
  rw [hr, if_neg (num_no hk hm ha hb), ← list_from]
  by_cases h : 9223372036854775807 < valD (s.extract k m).data.toList
  · rw [num_over d1 h] at hv; cases hv
  · rw [if_neg h]
    rw [num_digits d2 d1 d3 (by omega)] at hv
    cases hv; rfl

theorem num_R (hk : k < s.size) (hm : k < m) (hms : m ≤ s.size) (hr : runL digitB (s.data.toList.drop k) = m - k) (ha : ¬ (1 < m - k ∧ s[k] = 48)) (hb : ∀ h : m < s.size, smallB s[m] = false) (hv : numOf (s.extract k m).data.toList = none) :
    numF (s.data.toList.drop k) = .bad 1 := by
  obtain ⟨d1, d2, d3⟩ := num_plain hk hm hms hr ha
  unfold numF
  rw [hr, if_neg (num_no hk hm ha hb), ← list_from]
  by_cases h : 9223372036854775807 < valD (s.extract k m).data.toList
  · rw [if_pos h]
  · rw [num_digits d2 d1 d3 (by omega)] at hv; cases hv
end

end Go.Proofs.YteegdemnajhehaaGreatDoor
