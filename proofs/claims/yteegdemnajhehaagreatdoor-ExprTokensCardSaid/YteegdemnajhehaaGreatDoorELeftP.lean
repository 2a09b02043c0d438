/-
  No statement: three signs' texts parsed (plain facts).
-/
import Derived.Test.YteegdemnajhehaaGreatDoorAKnown
namespace Go.Proofs.YteegdemnajhehaaGreatDoor
open Go.RowKit

def sB (i : Nat) : UInt8 := if i = 0 then 43 else if i = 1 then 45 else if i = 2 then 42 else if i = 3 then 47 else 37
def rightB (i j : Nat) : Bool := decide (i < 2) && decide (2 ≤ j)
def tk1 (P Q : UInt8) : List Tk := [⟨1, [97], 0, 0⟩, ⟨3, [P], 0, 2⟩, ⟨1, [98], 0, 4⟩, ⟨3, [Q], 0, 6⟩, ⟨1, [99], 0, 8⟩]
def tk2 (P Q : UInt8) : List Tk := [⟨1, [97], 0, 0⟩, ⟨3, [P], 0, 2⟩, ⟨3, [40], 0, 4⟩, ⟨1, [98], 0, 5⟩, ⟨3, [Q], 0, 7⟩, ⟨1, [99], 0, 9⟩, ⟨3, [41], 0, 10⟩]
def tk3 (P Q : UInt8) : List Tk := [⟨3, [40], 0, 0⟩, ⟨1, [97], 0, 1⟩, ⟨3, [P], 0, 3⟩, ⟨1, [98], 0, 5⟩, ⟨3, [41], 0, 6⟩, ⟨3, [Q], 0, 8⟩, ⟨1, [99], 0, 10⟩]
def tx1 (P Q : UInt8) : List UInt8 := [97, 32, P, 32, 98, 32, Q, 32, 99]
def tx2 (P Q : UInt8) : List UInt8 := [97, 32, P, 32, 40, 98, 32, Q, 32, 99, 41]
def tx3 (P Q : UInt8) : List UInt8 := [40, 97, 32, P, 32, 98, 41, 32, Q, 32, 99]
def nR (i j : Nat) : TN := twoT [sB i] (nameT [97]) (twoT [sB j] (nameT [98]) (nameT [99]))
def nL (i j : Nat) : TN := twoT [sB j] (twoT [sB i] (nameT [97]) (nameT [98])) (nameT [99])
def n1 (i j : Nat) : TN := if rightB i j = true then nR i j else nL i j

theorem five_cases {i : Nat} (h : i < 5) : i = 0 ∨ i = 1 ∨ i = 2 ∨ i = 3 ∨ i = 4 := by omega

theorem left_of1 (i j : Nat) (hi : i < 5) (hj : j < 5) : ofL (tk1 (sB i) (sB j)) 0 = .ok (n1 i j) 5 := by
  rcases five_cases hi with rfl | rfl | rfl | rfl | rfl <;> rcases five_cases hj with rfl | rfl | rfl | rfl | rfl <;> rfl
theorem left_of2 (i j : Nat) (hi : i < 5) (hj : j < 5) : ofL (tk2 (sB i) (sB j)) 0 = .ok (nR i j) 7 := by
  rcases five_cases hi with rfl | rfl | rfl | rfl | rfl <;> rcases five_cases hj with rfl | rfl | rfl | rfl | rfl <;> rfl
theorem left_of3 (i j : Nat) (hi : i < 5) (hj : j < 5) : ofL (tk3 (sB i) (sB j)) 0 = .ok (nL i j) 7 := by
  rcases five_cases hi with rfl | rfl | rfl | rfl | rfl <;> rcases five_cases hj with rfl | rfl | rfl | rfl | rfl <;> rfl
theorem left_sameR (i j : Nat) (hi : i < 5) (hj : j < 5) : sameT (n1 i j) (nR i j) = rightB i j := by
  rcases five_cases hi with rfl | rfl | rfl | rfl | rfl <;> rcases five_cases hj with rfl | rfl | rfl | rfl | rfl <;> rfl
theorem left_sameL (i j : Nat) (hi : i < 5) (hj : j < 5) : sameT (n1 i j) (nL i j) = !rightB i j := by
  rcases five_cases hi with rfl | rfl | rfl | rfl | rfl <;> rcases five_cases hj with rfl | rfl | rfl | rfl | rfl <;> rfl

theorem sB_lex1 (i j : Nat) (hi : i < 5) (hj : j < 5) : lexL (tx1 (sB i) (sB j)) 0 = .ok (tk1 (sB i) (sB j)) := by
  rcases five_cases hi with rfl | rfl | rfl | rfl | rfl <;> rcases five_cases hj with rfl | rfl | rfl | rfl | rfl
  all_goals
    refine k9_step (n := 1) (k := 1) (v := 0) (by decide) (by decide) (by rfl) ?_
    refine (lex_blank _ _).trans ?_
    refine k9_step (n := 1) (k := 3) (v := 0) (by decide) (by decide) (by rfl) ?_
    refine (lex_blank _ _).trans ?_
    refine k9_step (n := 1) (k := 1) (v := 0) (by decide) (by decide) (by rfl) ?_
    refine (lex_blank _ _).trans ?_
    refine k9_step (n := 1) (k := 3) (v := 0) (by decide) (by decide) (by rfl) ?_
    refine (lex_blank _ _).trans ?_
    refine k9_step (n := 1) (k := 1) (v := 0) (by decide) (by decide) (by rfl) ?_
    exact lex_nil _
theorem sB_lex2 (i j : Nat) (hi : i < 5) (hj : j < 5) : lexL (tx2 (sB i) (sB j)) 0 = .ok (tk2 (sB i) (sB j)) := by
  rcases five_cases hi with rfl | rfl | rfl | rfl | rfl <;> rcases five_cases hj with rfl | rfl | rfl | rfl | rfl
  all_goals
    refine k9_step (n := 1) (k := 1) (v := 0) (by decide) (by decide) (by rfl) ?_
    refine (lex_blank _ _).trans ?_
    refine k9_step (n := 1) (k := 3) (v := 0) (by decide) (by decide) (by rfl) ?_
    refine (lex_blank _ _).trans ?_
    refine k9_step (n := 1) (k := 3) (v := 0) (by decide) (by decide) (by rfl) ?_
    refine k9_step (n := 1) (k := 1) (v := 0) (by decide) (by decide) (by rfl) ?_
    refine (lex_blank _ _).trans ?_
    refine k9_step (n := 1) (k := 3) (v := 0) (by decide) (by decide) (by rfl) ?_
    refine (lex_blank _ _).trans ?_
    refine k9_step (n := 1) (k := 1) (v := 0) (by decide) (by decide) (by rfl) ?_
    refine k9_step (n := 1) (k := 3) (v := 0) (by decide) (by decide) (by rfl) ?_
    exact lex_nil _
theorem sB_lex3 (i j : Nat) (hi : i < 5) (hj : j < 5) : lexL (tx3 (sB i) (sB j)) 0 = .ok (tk3 (sB i) (sB j)) := by
  rcases five_cases hi with rfl | rfl | rfl | rfl | rfl <;> rcases five_cases hj with rfl | rfl | rfl | rfl | rfl
  all_goals
    refine k9_step (n := 1) (k := 3) (v := 0) (by decide) (by decide) (by rfl) ?_
    refine k9_step (n := 1) (k := 1) (v := 0) (by decide) (by decide) (by rfl) ?_
    refine (lex_blank _ _).trans ?_
    refine k9_step (n := 1) (k := 3) (v := 0) (by decide) (by decide) (by rfl) ?_
    refine (lex_blank _ _).trans ?_
    refine k9_step (n := 1) (k := 1) (v := 0) (by decide) (by decide) (by rfl) ?_
    refine k9_step (n := 1) (k := 3) (v := 0) (by decide) (by decide) (by rfl) ?_
    refine (lex_blank _ _).trans ?_
    refine k9_step (n := 1) (k := 3) (v := 0) (by decide) (by decide) (by rfl) ?_
    refine (lex_blank _ _).trans ?_
    refine k9_step (n := 1) (k := 1) (v := 0) (by decide) (by decide) (by rfl) ?_
    exact lex_nil _

theorem px_of {l : List UInt8} {L : List Tk} {t : TN} {q : Nat} (hl : l.length ≤ 1024) (h1 : lexL l 0 = .ok L) (h2 : ofL L 0 = .ok t q) (h3 : L.length ≤ q) : parseX l = .ok t := by
  have h : lexT l = .ok L := by unfold lexT; rw [if_neg (by omega)]; exact h1
  unfold parseX
  rw [h]
  simp only
  rw [h2]
  simp only
  rw [if_neg (by omega)]

theorem left_px (i j : Nat) (hi : i < 5) (hj : j < 5) : parseX (tx1 (sB i) (sB j)) = .ok (n1 i j) ∧ parseX (tx2 (sB i) (sB j)) = .ok (nR i j) ∧ parseX (tx3 (sB i) (sB j)) = .ok (nL i j) :=
  ⟨px_of (by simp [tx1]) (sB_lex1 i j hi hj) (left_of1 i j hi hj) (Nat.le_refl _), px_of (by simp [tx2]) (sB_lex2 i j hi hj) (left_of2 i j hi hj) (Nat.le_refl _), px_of (by simp [tx3]) (sB_lex3 i j hi hj) (left_of3 i j hi hj) (Nat.le_refl _)⟩

/-- What is parsed may be. -/
theorem parse_good {l : List UInt8} {t : TN} (h : parseX l = .ok t) : checkT t = 0 ∧ sizeT t ≤ 32 := by
  unfold parseX at h
  cases hl : lexT l with
  | bad p e => rw [hl] at h; cases h
  | ok L =>
    rw [hl] at h
    simp only at h
    cases ho : ofL L 0 with
    | bad p e => rw [ho] at h; cases h
    | ok t' q =>
      rw [ho] at h
      simp only at h
      split at h
      · cases h
      · cases h
        exact ofL_good (lexT_good hl) ho
theorem parse_okT {l : List UInt8} {t : TN} (h : parseX l = .ok t) : OkT t := ((check_iff t).1 (parse_good h).1).1

end Go.Proofs.YteegdemnajhehaaGreatDoor
