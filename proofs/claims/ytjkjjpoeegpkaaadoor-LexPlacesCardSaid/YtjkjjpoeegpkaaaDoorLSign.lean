/-
  No statement: the contract of signBytes of package lex.
-/
import Derived.Test.YtjkjjpoeegpkaaaDoorLSmall
namespace Go.Proofs.YtjkjjpoeegpkaaaDoor
open Go.RowKit

theorem bytes_one {s : ByteArray} (h : s.size = 1) : s.data.toList = [s[0]'(by omega)] := by
  have hl : s.data.toList.length = s.size := by simp
  cases e : s.data.toList with
  | nil => rw [e] at hl; simp at hl; omega
  | cons c r =>
    have h00 : s.data.toList[0]? = some (s[0]'(by omega)) := List.getElem?_eq_getElem (by omega)
    rw [e] at h00 hl
    have hc : c = s[0] := by simpa using h00
    have : r = [] := List.length_eq_zero_iff.1 (by simp at hl; omega)
    rw [this, hc]

theorem bytes_two {s : ByteArray} (h : 2 ≤ s.size) : ∃ r, s.data.toList = s[0] :: s[1] :: r := by
  have d0 := List.drop_eq_getElem_cons (l := s.data.toList) (i := 0) (by simp; omega)
  have d1 := List.drop_eq_getElem_cons (l := s.data.toList) (i := 1) (by simp; omega)
  rw [List.drop_zero] at d0
  rw [d0, Nat.zero_add, d1]
  exact ⟨_, rfl⟩

theorem byte_eq (c : UInt8) (k : Nat) (hk : k < 256) : ((c.toNat : Int) == (k : Int)) = (c == UInt8.ofNat k) := by
  by_cases h : c = UInt8.ofNat k
  · subst h
    rw [UInt8.toNat_ofNat']
    rw [show k % 2 ^ 8 = k by omega]
    simp
  · rw [beq_eq_false_iff_ne.2 h, beq_eq_false_iff_ne.2]
    intro e
    apply h
    apply UInt8.toNat_inj.1
    rw [UInt8.toNat_ofNat']
    omega

theorem one_sign (c : UInt8) : oneSign c = ((c.toNat : Int) == 40 || (c.toNat : Int) == 41 || (c.toNat : Int) == 44 || (c.toNat : Int) == 61 || (c.toNat : Int) == 60 || (c.toNat : Int) == 62 || (c.toNat : Int) == 43 || (c.toNat : Int) == 45 || (c.toNat : Int) == 42 || (c.toNat : Int) == 47 || (c.toNat : Int) == 37) := by
  unfold oneSign
  have q : ∀ k : Nat, k < 256 → (c == UInt8.ofNat k) = ((c.toNat : Int) == (k : Int)) := fun k hk => (byte_eq c k hk).symm
  exact congr (congrArg or (congr (congrArg or (congr (congrArg or (congr (congrArg or (congr (congrArg or (congr (congrArg or (congr (congrArg or (congr (congrArg or (congr (congrArg or (congr (congrArg or (q 40 (by decide))) (q 41 (by decide)))) (q 44 (by decide)))) (q 61 (by decide)))) (q 60 (by decide)))) (q 62 (by decide)))) (q 43 (by decide)))) (q 45 (by decide)))) (q 42 (by decide)))) (q 47 (by decide)))) (q 37 (by decide))

set_option maxHeartbeats 8000000 in
theorem lSignGo (s : ByteArray) (h1 : 1 ≤ s.size) (t1 : ((s.extract 0 (min 2 (s.size : Int)).toNat).toList == [33, 61]) = false) (t2 : ((s.extract 0 (min 2 (s.size : Int)).toNat).toList == [60, 61]) = false) (t3 : ((s.extract 0 (min 2 (s.size : Int)).toNat).toList == [62, 61]) = false) {n : Nat} (R : n = if (((s[0]'(by omega)).toNat : Int) == 40 || ((s[0]'(by omega)).toNat : Int) == 41 || ((s[0]'(by omega)).toNat : Int) == 44 || ((s[0]'(by omega)).toNat : Int) == 61 || ((s[0]'(by omega)).toNat : Int) == 60 || ((s[0]'(by omega)).toNat : Int) == 62 || ((s[0]'(by omega)).toNat : Int) == 43 || ((s[0]'(by omega)).toNat : Int) == 45 || ((s[0]'(by omega)).toNat : Int) == 42 || ((s[0]'(by omega)).toNat : Int) == 47 || ((s[0]'(by omega)).toNat : Int) == 37) = true then 1 else 0) (w : World) : Calls Tryd.prog 33 #[.string s] w fun e w' => e = .returned (.int .i64 (n : Int)) ∧ w = w' := by
  have R := Lib.hid R
  go_enter Tryd.func33, Tryd.ntmps33
  go_wp2_with fail
  all_goals
    go_ret
    refine ⟨?_, rfl⟩
    rw [R.out]
    simp only [*, Bool.true_or, Bool.or_true, if_true, Bool.or_false, Bool.false_eq_true, if_false]
    rfl

set_option maxHeartbeats 2000000 in
theorem lSignTwoA (s : ByteArray) (h1 : 1 ≤ s.size) (t1 : ((s.extract 0 (min 2 (s.size : Int)).toNat).toList == [33, 61]) = true) (w : World) : Calls Tryd.prog 33 #[.string s] w fun e w' => e = .returned (.int .i64 ((2 : Nat) : Int)) ∧ w = w' := by
  go_enter Tryd.func33, Tryd.ntmps33
  go_wp2_with fail
  go_ret
  exact ⟨rfl, rfl⟩

set_option maxHeartbeats 2000000 in
theorem lSignTwoB (s : ByteArray) (h1 : 1 ≤ s.size) (t1 : ((s.extract 0 (min 2 (s.size : Int)).toNat).toList == [33, 61]) = false) (t2 : ((s.extract 0 (min 2 (s.size : Int)).toNat).toList == [60, 61]) = true) (w : World) : Calls Tryd.prog 33 #[.string s] w fun e w' => e = .returned (.int .i64 ((2 : Nat) : Int)) ∧ w = w' := by
  go_enter Tryd.func33, Tryd.ntmps33
  go_wp2_with fail
  go_ret
  exact ⟨rfl, rfl⟩

set_option maxHeartbeats 2000000 in
theorem lSignTwoC (s : ByteArray) (h1 : 1 ≤ s.size) (t1 : ((s.extract 0 (min 2 (s.size : Int)).toNat).toList == [33, 61]) = false) (t2 : ((s.extract 0 (min 2 (s.size : Int)).toNat).toList == [60, 61]) = false) (t3 : ((s.extract 0 (min 2 (s.size : Int)).toNat).toList == [62, 61]) = true) (w : World) : Calls Tryd.prog 33 #[.string s] w fun e w' => e = .returned (.int .i64 ((2 : Nat) : Int)) ∧ w = w' := by
  go_enter Tryd.func33, Tryd.ntmps33
  go_wp2_with fail
  go_ret
  exact ⟨rfl, rfl⟩

theorem lSign_any (s : ByteArray) (h1 : 1 ≤ s.size) (w : World) : Calls Tryd.prog 33 #[.string s] w fun e w' => e = .returned (.int .i64 (signL s.data.toList : Int)) ∧ w = w' := by
  by_cases h2 : s.size = 1
  · have T : (s.extract 0 (min 2 (s.size : Int)).toNat).toList = [s[0]'(by omega)] := by rw [Lib.toList_data, list_front, bytes_one h2, show (min 2 (s.size : Int)).toNat = 1 by omega]; rfl
    refine lSignGo s h1 (by rw [T]; simp) (by rw [T]; simp) (by rw [T]; simp) ?_ w
    rw [bytes_one h2]
    show (if oneSign _ = true then 1 else 0) = _
    rw [one_sign]
  · obtain ⟨r, hr⟩ := bytes_two (s := s) (by omega)
    have T : (s.extract 0 (min 2 (s.size : Int)).toNat).toList = [s[0]'(by omega), s[1]'(by omega)] := by
      rw [Lib.toList_data, list_front, show (min 2 (s.size : Int)).toNat = 2 by omega, hr]; rfl
    have E : signL s.data.toList = if twoSign (s[0]'(by omega)) (s[1]'(by omega)) then 2 else if oneSign (s[0]'(by omega)) then 1 else 0 := by rw [hr]; rfl
    have q : ∀ k : UInt8, ([s[0]'(by omega), s[1]'(by omega)] == [k, 61]) = ((s[0]'(by omega)) == k && (s[1]'(by omega)) == 61) := fun k => by
      show ((s[0]'(by omega)) == k && ((s[1]'(by omega)) == 61 && true)) = _
      rw [Bool.and_true]
    by_cases hd : s[1]'(by omega) = 61
    · by_cases a1 : s[0]'(by omega) = 33
      · rw [E, show twoSign (s[0]'(by omega)) (s[1]'(by omega)) = true by unfold twoSign; rw [hd, a1]; decide]
        exact lSignTwoA s h1 (by rw [T, q, hd, a1]; decide) w
      by_cases a2 : s[0]'(by omega) = 60
      · rw [E, show twoSign (s[0]'(by omega)) (s[1]'(by omega)) = true by unfold twoSign; rw [hd, a2]; decide]
        exact lSignTwoB s h1 (by rw [T, q, hd, a2]; decide) (by rw [T, q, hd, a2]; decide) w
      by_cases a3 : s[0]'(by omega) = 62
      · rw [E, show twoSign (s[0]'(by omega)) (s[1]'(by omega)) = true by unfold twoSign; rw [hd, a3]; decide]
        exact lSignTwoC s h1 (by rw [T, q, hd, a3]; decide) (by rw [T, q, hd, a3]; decide) (by rw [T, q, hd, a3]; decide) w
      refine lSignGo s h1 (by rw [T, q, beq_eq_false_iff_ne.2 a1]; rfl) (by rw [T, q, beq_eq_false_iff_ne.2 a2]; rfl) (by rw [T, q, beq_eq_false_iff_ne.2 a3]; rfl) ?_ w
      rw [E, ← one_sign, show twoSign (s[0]'(by omega)) (s[1]'(by omega)) = false by unfold twoSign; rw [beq_eq_false_iff_ne.2 a1, beq_eq_false_iff_ne.2 a2, beq_eq_false_iff_ne.2 a3]; simp]
      rfl
    · have z : (s[1]'(by omega) == 61) = false := beq_eq_false_iff_ne.2 hd
      refine lSignGo s h1 (by rw [T, q, z, Bool.and_false]) (by rw [T, q, z, Bool.and_false]) (by rw [T, q, z, Bool.and_false]) ?_ w
      rw [E, ← one_sign, show twoSign (s[0]'(by omega)) (s[1]'(by omega)) = false by unfold twoSign; rw [z]; rfl]
      rfl

end Go.Proofs.YtjkjjpoeegpkaaaDoor
