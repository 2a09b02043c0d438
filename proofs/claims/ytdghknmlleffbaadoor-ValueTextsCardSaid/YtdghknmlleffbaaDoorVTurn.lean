/-
  No statement: the order of values, turned; what a value's text is read back as.
-/
import Derived.Test.YtdghknmlleffbaaDoorVVal
import Derived.Test.YtdghknmlleffbaaDoorVBack
namespace Go.Proofs.YtdghknmlleffbaaDoor
open Go.RowKit

theorem cmpI_turnV (a b : Int) : cmpI b a = -(cmpI a b) := by unfold cmpI; omega
theorem cmpS_turnV (a b : ByteArray) : cmpS b a = -(cmpS a b) := by
  unfold cmpS
  cases h : Op.bytesLess a.toList b.toList with
  | true =>
    cases k : Op.bytesLess b.toList a.toList with
    | true => have := bytesLess_trans _ _ _ h k; rw [bytesLess_irrefl] at this; cases this
    | false => rfl
  | false =>
    cases k : Op.bytesLess b.toList a.toList with
    | true => rfl
    | false => rfl
theorem cmpL_turn : ∀ (a b : List Int), cmpL b a = -(cmpL a b)
  | [], [] => rfl
  | [], _ :: _ => rfl
  | _ :: _, [] => rfl
  | a :: r, b :: q => by
    have h := cmpL_turn r q
    have hi := cmpI_turnV a b
    simp only [cmpL]
    split <;> split <;> omega
theorem cmpV_turn (k1 n1 : Int) (s1 : ByteArray) (l1 : Nat) (z1 : Nat → Int) (k2 n2 : Int) (s2 : ByteArray) (l2 : Nat) (z2 : Nat → Int) : cmpV k2 n2 s2 l2 z2 k1 n1 s1 l1 z1 = -(cmpV k1 n1 s1 l1 z1 k2 n2 s2 l2 z2) := by
  unfold cmpV
  by_cases h : k1 = k2
  · subst h
    rw [if_pos rfl, if_pos rfl]
    split
    · exact cmpI_turnV _ _
    · split
      · exact cmpS_turnV _ _
      · split
        · exact cmpL_turn _ _
        · rfl
  · rw [if_neg h, if_neg (fun e => h e.symm)]
    exact cmpI_turnV _ _

theorem cmpI_in (a b : Int) : -1 ≤ cmpI a b ∧ cmpI a b ≤ 1 := by unfold cmpI; omega
theorem cmpL_in : ∀ (a b : List Int), -1 ≤ cmpL a b ∧ cmpL a b ≤ 1
  | [], [] => by simp [cmpL]
  | [], _ :: _ => by simp [cmpL]
  | _ :: _, [] => by simp [cmpL]
  | a :: r, b :: q => by
    have h := cmpL_in r q
    have hi := cmpI_in a b
    simp only [cmpL]
    split
    · exact h
    · exact hi
theorem cmpV_in (k1 n1 : Int) (s1 : ByteArray) (l1 : Nat) (z1 : Nat → Int) (k2 n2 : Int) (s2 : ByteArray) (l2 : Nat) (z2 : Nat → Int) : -1 ≤ cmpV k1 n1 s1 l1 z1 k2 n2 s2 l2 z2 ∧ cmpV k1 n1 s1 l1 z1 k2 n2 s2 l2 z2 ≤ 1 := by
  unfold cmpV
  split
  · split
    · exact cmpI_in _ _
    · split
      · unfold cmpS; split
        · omega
        · split <;> omega
      · split
        · exact cmpL_in _ _
        · omega
  · exact cmpI_in _ _

theorem cmpL_self : ∀ a : List Int, cmpL a a = 0
  | [] => rfl
  | a :: r => by simp only [cmpL]; rw [cmpI_self, if_pos rfl, cmpL_self r]

/-- What the text of a value that may be is read as is that value. -/
theorem value_back {k n : Int} {s : ByteArray} {len : Nat} {z : Nat → Int} (hn : In64 n) (hz : ∀ j, In64 (z j)) (he : errV k s len z = 0) :
    ∃ p, raw (textV k n s len z) = some p ∧ errP p = 0 ∧ ∀ {k' n' : Int} {T : ByteArray} {a : Option Addr} {len' cap : Nat} {z' : Nat → Int}, IsPV p k' n' T a len' cap z' → cmpV k' n' T len' z' k n s len z = 0 := by
  unfold errV at he
  by_cases h1 : k = 1
  · subst h1
    refine ⟨.num n, by rw [textV, if_pos rfl]; exact raw_num hn, rfl, ?_⟩
    rintro k' n' T a len' cap z' ⟨rfl, rfl, -⟩
    unfold cmpV; rw [if_pos rfl, if_pos rfl, cmpI_self]
  rw [if_neg h1] at he
  by_cases h2 : k = 2
  · subst h2
    rw [if_pos rfl] at he
    refine ⟨.text s.data.toList, by rw [textV, if_neg (by decide), if_pos rfl, List.append_assoc]; exact raw_text _, he, ?_⟩
    rintro k' n' T a len' cap z' ⟨rfl, -, hT, -⟩
    obtain rfl : T = s := text_eq hT
    unfold cmpV; rw [if_pos rfl, if_neg (by decide), if_pos rfl, cmpS_self]
  rw [if_neg h2] at he
  by_cases h3 : k = 3
  · subst h3
    rw [if_pos rfl] at he
    refine ⟨.list (upTo z len), by rw [textV, if_neg (by decide), if_neg (by decide), if_pos rfl]; exact raw_list z hz len, he, ?_⟩
    rintro k' n' T a len' cap z' ⟨rfl, -, -, hu⟩
    have hl : (upTo z len).length ≤ 16 := by
      unfold errL at he
      split at he
      · cases he
      · omega
    rw [List.take_of_length_le (by omega)] at hu
    unfold cmpV; rw [if_pos rfl, if_neg (by decide), if_neg (by decide), if_pos rfl, hu, cmpL_self]
  rw [if_neg h3] at he
  cases he

end Go.Proofs.YtdghknmlleffbaaDoor
