/-
  No statement: two rising rows walked together, as plain facts.
-/
import Derived.Test.YtpdobbdbmgeoiaaDgMem
import Derived.Test.YtpdobbdbmgeoiaaSCmp
set_option linter.unusedVariables false
namespace Go.Proofs.Ytpdobbdbmgeoiaa
open Go.RowKit

def zMK : MK := ⟨⟨#[]⟩, 0, 0, 0, ⟨#[]⟩⟩
def zRD : RD := ⟨⟨#[]⟩, 0, 0, 0, ⟨#[]⟩, 0, fun _ => ⟨⟨#[]⟩, 0, 0, ⟨#[]⟩, 0, fun _ => 0⟩⟩
/-- What lies at a place. -/
def atK (l : List MK) (j : Nat) : MK := l.getD j zMK
def atD (l : List RD) (j : Nat) : RD := l.getD j zRD
def atS (l : List ByteArray) (j : Nat) : ByteArray := l.getD j ⟨#[]⟩
theorem atK_lt {l : List MK} {j : Nat} (h : j < l.length) : atK l j = l[j] := by unfold atK; simp [List.getD, h]
theorem atD_lt {l : List RD} {j : Nat} (h : j < l.length) : atD l j = l[j] := by unfold atD; simp [List.getD, h]
theorem atS_lt {l : List ByteArray} {j : Nat} (h : j < l.length) : atS l j = l[j] := by unfold atS; simp [List.getD, h]
theorem atK_cons (x : MK) (l : List MK) (j : Nat) : atK (x :: l) (j + 1) = atK l j := rfl
theorem atD_cons (x : RD) (l : List RD) (j : Nat) : atD (x :: l) (j + 1) = atD l j := rfl
theorem atS_cons (x : ByteArray) (l : List ByteArray) (j : Nat) : atS (x :: l) (j + 1) = atS l j := rfl

abbrev idK (k : ByteArray) : ByteArray := k
def lenOf : Value → Nat
  | .slice _ n _ => n
  | _ => 0

section
variable {A B : Type}
/-- The first, where it has the key. -/
def headK (kb : B → ByteArray) (k : ByteArray) : List B → Option B
  | [] => none
  | y :: _ => if kb y = k then some y else none
/-- What is kept of the first row, beside those of the second that have its keys. -/
def pickW (ka : A → ByteArray) (kb : B → ByteArray) (keep : A → Option B → Bool) : List A → List B → List A
  | [], _ => []
  | x :: r, b => if keep x (headK kb (ka x) (b.dropWhile fun y => lsS (kb y) (ka x))) = true then x :: pickW ka kb keep r (b.dropWhile fun y => lsS (kb y) (ka x)) else pickW ka kb keep r (b.dropWhile fun y => lsS (kb y) (ka x))

theorem pickW_sub (ka : A → ByteArray) (kb : B → ByteArray) (keep : A → Option B → Bool) : ∀ (a : List A) (b : List B), ∀ x ∈ pickW ka kb keep a b, x ∈ a
  | [], _, x, h => by simp [pickW] at h
  | y :: r, b, x, h => by
    unfold pickW at h
    split at h
    · rcases List.mem_cons.1 h with rfl | h
      · exact List.mem_cons_self
      · exact List.mem_cons_of_mem _ (pickW_sub ka kb keep r _ x h)
    · exact List.mem_cons_of_mem _ (pickW_sub ka kb keep r _ x h)

theorem pickW_len (ka : A → ByteArray) (kb : B → ByteArray) (keep : A → Option B → Bool) : ∀ (a : List A) (b : List B), (pickW ka kb keep a b).length ≤ a.length
  | [], _ => by simp [pickW]
  | y :: r, b => by
    unfold pickW
    have := pickW_len ka kb keep r (b.dropWhile fun y' => lsS (kb y') (ka y))
    split
    · simp only [List.length_cons]; omega
    · simp only [List.length_cons]; omega

/-- The walk is a test of each, by what the other row has of its key. -/
theorem find_drop (kb : B → ByteArray) {k k' : ByteArray} (hk : lsS k k' = true ∨ k = k') : ∀ b : List B, (b.dropWhile fun y => lsS (kb y) k).find? (fun y => decide (kb y = k')) = b.find? (fun y => decide (kb y = k'))
  | [] => rfl
  | y :: r => by
    rw [List.dropWhile_cons]
    split
    · next h =>
      rw [find_drop kb hk r]
      rw [List.find?_cons_of_neg]
      have h' : lsS (kb y) k = true := h
      simp only [decide_eq_true_eq]
      intro e
      rcases hk with hk | rfl
      · have := strictS.trans _ _ _ h' hk
        rw [e, strictS.irrefl] at this; cases this
      · rw [e, strictS.irrefl] at h'; cases h'
    · rfl

theorem head_find (kb : B → ByteArray) (k : ByteArray) : ∀ b : List B, Rising lsS (b.map kb) → headK kb k (b.dropWhile fun y => lsS (kb y) k) = b.find? (fun y => decide (kb y = k))
  | [], _ => rfl
  | y :: r, h => by
    rw [List.dropWhile_cons]
    have hr : Rising lsS (r.map kb) := by
      rw [List.map_cons] at h
      exact (List.pairwise_cons.1 h).2
    split
    · next h1 =>
      have h1' : lsS (kb y) k = true := h1
      rw [head_find kb k r hr, List.find?_cons_of_neg]
      simp only [decide_eq_true_eq]
      intro e
      rw [e, strictS.irrefl] at h1'; cases h1'
    · next h1 =>
      show (if kb y = k then some y else none) = _
      by_cases e : kb y = k
      · rw [if_pos e, List.find?_cons_of_pos (by simpa using e)]
      · rw [if_neg e, List.find?_cons_of_neg (by simpa using e)]
        symm
        rw [List.find?_eq_none]
        intro z hz
        simp only [decide_eq_true_eq]
        intro e2
        have h2 : lsS (kb y) (kb z) = true := by
          rw [List.map_cons] at h
          exact (List.pairwise_cons.1 h).1 _ (List.mem_map.2 ⟨z, hz, rfl⟩)
        rw [e2] at h2
        exact h1 h2

theorem pickW_filter (ka : A → ByteArray) (kb : B → ByteArray) (keep : A → Option B → Bool) : ∀ (a : List A) (b : List B), Rising lsS (a.map ka) → Rising lsS (b.map kb) → pickW ka kb keep a b = a.filter fun x => keep x (b.find? fun y => decide (kb y = ka x))
  | [], _, _, _ => rfl
  | x :: r, b, ha, hb => by
    rw [List.map_cons] at ha
    obtain ⟨ha1, ha2⟩ := List.pairwise_cons.1 ha
    have hb' : Rising lsS ((b.dropWhile fun y => lsS (kb y) (ka x)).map kb) := List.Pairwise.sublist ((List.dropWhile_sublist _).map kb) hb
    unfold pickW
    rw [head_find kb (ka x) b hb, pickW_filter ka kb keep r _ ha2 hb']
    have e : r.filter (fun x' => keep x' ((b.dropWhile fun y => lsS (kb y) (ka x)).find? fun y => decide (kb y = ka x'))) = r.filter (fun x' => keep x' (b.find? fun y => decide (kb y = ka x'))) := by
      apply List.filter_congr
      intro x' hx'
      rw [find_drop kb (.inl (ha1 _ (List.mem_map.2 ⟨x', hx', rfl⟩)))]
    rw [e, List.filter_cons]
end

/-- Is a row's stamp newer than a mark's; a mark's than a row's? -/
def newRK (x : RD) (m : MK) : Bool := cmpSt x.t x.i x.q x.o m.t m.i m.q m.o == 1
def newKR (m : MK) (x : RD) : Bool := cmpSt m.t m.i m.q m.o x.t x.i x.q x.o == 1
def sendK (x : RD) : Option MK → Bool
  | none => true
  | some m => newRK x m
def wantK (m : MK) : Option RD → Bool
  | none => true
  | some x => newKR m x
def bothK (_ : RD) (o : Option ByteArray) : Bool := o.isSome

end Go.Proofs.Ytpdobbdbmgeoiaa
