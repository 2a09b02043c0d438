/-
  No statement: the contracts of Compare and Same of package value.
-/
import Derived.Test.YtpdobbdbmgeoiaaVCheck
import Derived.WalkLawsBesides
import Derived.Test.YtpdobbdbmgeoiaaKeys
namespace Go.Proofs.Ytpdobbdbmgeoiaa
open Go.RowKit

/-- -1, 0, 1: of two numbers. -/
def cmpI (a b : Int) : Int := if a < b then -1 else if b < a then 1 else 0
/-- Of two texts, by bytes. -/
def cmpS (a b : ByteArray) : Int := if Op.bytesLess a.toList b.toList then -1 else if Op.bytesLess b.toList a.toList then 1 else 0

set_option maxHeartbeats 1000000 in
theorem cmp64_any (a b : Int) (w : World) : Calls Try.prog 41 #[.int .i64 a, .int .i64 b] w fun e w' => e = .returned (.int .i64 (cmpI a b)) ∧ w = w' := by
  have hc : a < b ∨ b < a ∨ a = b := by omega
  rcases hc with h | h | rfl
  · rw [show cmpI a b = -1 by unfold cmpI; rw [if_pos h]]
    go_enter Try.func41, Try.ntmps41
    go_wp2
    go_ret
    exact ⟨rfl, rfl⟩
  · rw [show cmpI a b = 1 by unfold cmpI; rw [if_neg (by omega), if_pos h]]
    go_enter Try.func41, Try.ntmps41
    go_wp2
    go_ret
    exact ⟨rfl, rfl⟩
  · rw [show cmpI a a = 0 by unfold cmpI; rw [if_neg (by omega), if_neg (by omega)]]
    go_enter Try.func41, Try.ntmps41
    go_wp2
    go_ret
    exact ⟨rfl, rfl⟩

set_option maxHeartbeats 1000000 in
theorem cmpStr_any (a b : ByteArray) (w : World) : Calls Try.prog 43 #[.string a, .string b] w fun e w' => e = .returned (.int .i64 (cmpS a b)) ∧ w = w' := by
  by_cases h : Op.bytesLess a.toList b.toList = true
  · rw [show cmpS a b = -1 by unfold cmpS; rw [if_pos h]]
    go_enter Try.func43, Try.ntmps43
    go_wp2
    go_ret
    exact ⟨rfl, rfl⟩
  · have h' : Op.bytesLess a.toList b.toList = false := by simpa using h
    by_cases k : Op.bytesLess b.toList a.toList = true
    · rw [show cmpS a b = 1 by unfold cmpS; rw [if_neg h, if_pos k]]
      have q : (a.toList == b.toList) = false := by
        rw [beq_eq_false_iff_ne]; intro e
        rw [e, bytesLess_irrefl] at k; cases k
      clear h
      go_enter Try.func43, Try.ntmps43
      go_wp2
      go_ret
      exact ⟨rfl, rfl⟩
    · have k' : Op.bytesLess b.toList a.toList = false := by simpa using k
      rw [show cmpS a b = 0 by unfold cmpS; rw [if_neg h, if_neg k]]
      obtain rfl : a = b := bytes_eq (bytesLess_total _ _ h' k')
      clear h k k'
      go_enter Try.func43, Try.ntmps43
      go_wp2
      go_ret
      exact ⟨rfl, rfl⟩

/-- Of two lists, number by number; a front is less. -/
def cmpL : List Int → List Int → Int
  | [], [] => 0
  | [], _ :: _ => -1
  | _ :: _, [] => 1
  | a :: r, b :: q => if cmpI a b = 0 then cmpL r q else cmpI a b

theorem cmpI_self (a : Int) : cmpI a a = 0 := by unfold cmpI; rw [if_neg (by omega), if_neg (by omega)]

theorem cmpI_ne {a b : Int} (h : ¬ a = b) : ¬ cmpI a b = 0 := by
  unfold cmpI
  split
  · omega
  · split <;> omega

theorem cmpL_drop (k : Nat) : ∀ (l m : List Int), k ≤ l.length → k ≤ m.length → (∀ j, j < k → l.getD j 0 = m.getD j 0) → cmpL l m = cmpL (l.drop k) (m.drop k) := by
  induction k with
  | zero => intro l m _ _ _; rfl
  | succ k ih =>
    intro l m hl hm h
    cases l with
    | nil => simp at hl
    | cons a l => cases m with
      | nil => simp at hm
      | cons b m =>
        have e : a = b := by simpa using h 0 (by omega)
        subst e
        rw [cmpL, cmpI_self, if_pos rfl, List.drop_succ_cons, List.drop_succ_cons]
        exact ih l m (by simpa using hl) (by simpa using hm) (fun j hj => by simpa using h (j + 1) (by omega))

/-- What slices.Compare answers when it stands at k. -/
theorem cmp_at {z1 z2 : Nat → Int} {n1 n2 k : Nat} (h : ∀ j, j < k → z1 j = z2 j) (h1 : k ≤ n1) (h2 : k ≤ n2) :
    cmpL (upTo z1 n1) (upTo z2 n2) = cmpL ((upTo z1 n1).drop k) ((upTo z2 n2).drop k) :=
  cmpL_drop k _ _ (by rw [upTo_len]; exact h1) (by rw [upTo_len]; exact h2) (fun j hj => by rw [upTo_at z1 (by omega), upTo_at z2 (by omega)]; exact h j hj)

theorem upTo_drop (z : Nat → Int) {n k : Nat} (h : k < n) : (upTo z n).drop k = z k :: (upTo z n).drop (k + 1) := by
  rw [List.drop_eq_getElem_cons (by rw [upTo_len]; exact h)]
  congr 1
  simp [upTo]

theorem upTo_done (z : Nat → Int) {n k : Nat} (h : n ≤ k) : (upTo z n).drop k = [] := List.drop_of_length_le (by rw [upTo_len]; exact h)

/-- Of two values. -/
def cmpV (k1 n1 : Int) (s1 : ByteArray) (l1 : Nat) (z1 : Nat → Int) (k2 n2 : Int) (s2 : ByteArray) (l2 : Nat) (z2 : Nat → Int) : Int :=
  if k1 = k2 then (if k1 = 1 then cmpI n1 n2 else if k1 = 2 then cmpS s1 s2 else if k1 = 3 then cmpL (upTo z1 l1) (upTo z2 l2) else 0) else cmpI k1 k2

/-- Of three that rise the first is not above the last; it is below it just where one step rises. -/
def Ord3 (x y z : Int) : Prop := x ≤ 0 → y ≤ 0 → z ≤ 0 ∧ (z < 0 ↔ x < 0 ∨ y < 0)

theorem ordI (a b c : Int) : Ord3 (cmpI a b) (cmpI b c) (cmpI a c) := by
  unfold Ord3 cmpI; omega

theorem cmpS_lt {a b : ByteArray} (h : Op.bytesLess a.toList b.toList = true) : cmpS a b = -1 := by unfold cmpS; rw [if_pos h]
theorem cmpS_self (a : ByteArray) : cmpS a a = 0 := by unfold cmpS; rw [bytesLess_irrefl]; rfl
theorem cmpS_le {a b : ByteArray} (h : cmpS a b ≤ 0) : Op.bytesLess a.toList b.toList = true ∨ a = b := by
  cases e : Op.bytesLess a.toList b.toList with
  | true => exact .inl rfl
  | false =>
    right
    cases e2 : Op.bytesLess b.toList a.toList with
    | true => unfold cmpS at h; rw [e, e2] at h; simp at h
    | false => exact bytes_eq (bytesLess_total _ _ e e2)

theorem ordS (a b c : ByteArray) : Ord3 (cmpS a b) (cmpS b c) (cmpS a c) := by
  intro h1 h2
  rcases cmpS_le h1 with k1 | rfl
  · rcases cmpS_le h2 with k2 | rfl
    · rw [cmpS_lt (bytesLess_trans _ _ _ k1 k2), cmpS_lt k1]
      exact ⟨by decide, fun _ => .inl (by decide), fun _ => by decide⟩
    · rw [cmpS_lt k1]
      exact ⟨by decide, fun _ => .inl (by decide), fun _ => by decide⟩
  · rw [cmpS_self]
    exact ⟨h2, fun h => .inr h, fun h => h.resolve_left (by decide)⟩

end Go.Proofs.Ytpdobbdbmgeoiaa
