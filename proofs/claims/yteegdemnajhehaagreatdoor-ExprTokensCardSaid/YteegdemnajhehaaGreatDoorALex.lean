/-
  No statement: small contracts of the lexer.
-/
import Derived.Test.YteegdemnajhehaaGreatDoorAMath
import Derived.Test.YteegdemnajhehaaGreatDoorShelf
import Derived.Test.YteegdemnajhehaaGreatDoorProg
import Derived.WalkKit
import Derived.WalkSpells
import Derived.IntWalk
import Derived.Lib.Hide
import Derived.LoopTactic
import Derived.StillTailTactics
import Derived.Deep.QuietTactic
import Derived.BigQuiet
import Derived.Lib.AtoiErrMem
import Derived.Lib.ParseIntBTie
namespace Go.Proofs.YteegdemnajhehaaGreatDoor
open Go.RowKit

theorem ret_b {a b : Bool} (h : a = b) : Ending.returned (.bool a) = .returned (.bool b) := by rw [h]
theorem ret_n {a b : Nat} (h : a = b) : Ending.returned (.int .i64 (a : Int)) = .returned (.int .i64 (b : Int)) := by rw [h]

set_option maxHeartbeats 1000000 in
theorem lSmall_any (c : UInt8) (w : World) : Calls Tryz.prog 77 #[.int .u8 c.toNat] w fun e w' => e = .returned (.bool (smallB c)) ∧ w = w' := by
  obtain ⟨x, hx⟩ : ∃ x : Int, (c.toNat : Int) = x := ⟨_, rfl⟩
  unfold smallB
  rw [hx]
  by_cases h : 97 ≤ x
  · go_enter Tryz.func77, Tryz.ntmps77
    go_wp2
    go_ret
    exact ⟨ret_b (a := decide (x ≤ 122)) (by rw [decide_eq_true h]; rfl), rfl⟩
  · go_enter Tryz.func77, Tryz.ntmps77
    go_wp2
    go_ret
    exact ⟨ret_b (a := false) (by rw [decide_eq_false (by omega)]; rfl), rfl⟩

set_option maxHeartbeats 1000000 in
theorem lDigit_any (c : UInt8) (w : World) : Calls Tryz.prog 79 #[.int .u8 c.toNat] w fun e w' => e = .returned (.bool (digitB c)) ∧ w = w' := by
  obtain ⟨x, hx⟩ : ∃ x : Int, (c.toNat : Int) = x := ⟨_, rfl⟩
  unfold digitB
  rw [hx]
  by_cases h : 48 ≤ x
  · go_enter Tryz.func79, Tryz.ntmps79
    go_wp2
    go_ret
    exact ⟨ret_b (a := decide (x ≤ 57)) (by rw [decide_eq_true h]; rfl), rfl⟩
  · go_enter Tryz.func79, Tryz.ntmps79
    go_wp2
    go_ret
    exact ⟨ret_b (a := false) (by rw [decide_eq_false (by omega)]; rfl), rfl⟩

set_option maxHeartbeats 1000000 in
theorem lInName_any (c : UInt8) (w : World) : Calls Tryz.prog 105 #[.int .u8 c.toNat] w fun e w' => e = .returned (.bool (alnumB c)) ∧ w = w' := by
  unfold alnumB
  cases h : smallB c with
  | true =>
    have C := Lib.hid (p := ∀ w, Calls Tryz.prog 77 #[.int .u8 c.toNat] w fun e w' => e = .returned (.bool true) ∧ w = w') (fun w => by have := lSmall_any c w; rwa [h] at this)
    clear h
    go_enter Tryz.func105, Tryz.ntmps105
    go_wp2_with (go_at_call 77; refine (C.out _).mono ?_; rintro e w' ⟨rfl, rfl⟩)
    go_ret
    exact ⟨ret_b (a := true) rfl, rfl⟩
  | false =>
    have C := Lib.hid (p := ∀ w, Calls Tryz.prog 77 #[.int .u8 c.toNat] w fun e w' => e = .returned (.bool false) ∧ w = w') (fun w => by have := lSmall_any c w; rwa [h] at this)
    have D := Lib.hid (p := ∀ w, Calls Tryz.prog 79 #[.int .u8 c.toNat] w fun e w' => e = .returned (.bool (digitB c)) ∧ w = w') (fun w => lDigit_any c w)
    clear h
    go_enter Tryz.func105, Tryz.ntmps105
    go_wp2_with (first | (go_at_call 77; refine (C.out _).mono ?_; rintro e w' ⟨rfl, rfl⟩) | (go_at_call 79; refine (D.out _).mono ?_; rintro e w' ⟨rfl, rfl⟩))
    go_ret
    exact ⟨ret_b (a := digitB c) rfl, rfl⟩

theorem list_from (s : ByteArray) (a b : Nat) : (s.extract a b).data.toList = (s.data.toList.drop a).take (b - a) := by
  rw [ByteArray.data_extract, Array.toList_extract]
theorem list_tail (s : ByteArray) (a : Nat) : (s.extract a s.size).data.toList = s.data.toList.drop a := by
  rw [list_from]; exact List.take_of_length_le (by simp)
theorem list_front (s : ByteArray) (b : Nat) : (s.extract 0 b).data.toList = s.data.toList.take b := by
  rw [list_from]; rfl

theorem prefix_blank (l : List UInt8) : Lib.hasPrefix l (⟨#[32]⟩ : ByteArray).data.toList = decide (l.head? = some 32) := by
  cases l with
  | nil => rfl
  | cons c r =>
    show [32].isPrefixOf (c :: r) = _
    rw [List.isPrefixOf]
    by_cases h : c = 32
    · subst h; rfl
    · rw [beq_eq_false_iff_ne.2 (fun e : (32 : UInt8) = c => h e.symm)]
      rw [decide_eq_false (by simpa using h)]
      rfl

set_option maxHeartbeats 2000000 in
theorem lSkip_any (s : ByteArray) (p : Nat) (hp : p ≤ s.size) (hm : s.size ≤ 281474976710656) (w : World) : Calls Tryz.prog 53 #[.string s, .int .i64 p] w fun e w' => e = .returned (.int .i64 ((p + runL (· == 32) (s.data.toList.drop p) : Nat) : Int)) ∧ w = w' := by
  have C := Lib.hid (p := ∀ (k : Nat) w, Calls Tryz.prog 76 #[.string (s.extract k s.size), .string ⟨#[32]⟩] w fun e w' => e = .returned (.bool (decide ((s.data.toList.drop k).head? = some 32))) ∧ w = w') (fun k w => by
    have := Tryz.strings_HasPrefix (s.extract k s.size) ⟨#[32]⟩ w
    rw [prefix_blank, list_tail] at this
    exact this.mono fun e w' ⟨h1, h2⟩ => ⟨h1, h2.symm⟩)
  obtain ⟨N, hN⟩ : ∃ N, p + runL (· == 32) (s.data.toList.drop p) = N := ⟨_, rfl⟩
  rw [hN]
  have H := Lib.hid hN
  clear hN
  go_enter Tryz.func53, Tryz.ntmps53
  go_wp2_with fail
  go_loop [1] (fun i => ∃ k : Nat, p ≤ k ∧ k ≤ s.size ∧ i = .int .i64 k ∧ Hid (k + runL (· == 32) (s.data.toList.drop k) = N)) (fun i => s.size - (intOf i).toNat)
  case atStart => exact ⟨p, Nat.le_refl _, by omega, rfl, H⟩
  case round =>
    obtain ⟨k, hk1, hk, rfl, hok⟩ := hrel
    by_cases hc : (s.data.toList.drop k).head? = some 32
    · have D := Lib.hid (p := ∀ w, Calls Tryz.prog 76 #[.string (s.extract k s.size), .string ⟨#[32]⟩] w fun e w' => e = .returned (.bool true) ∧ w = w') (fun w => by have := C.out k w; rwa [decide_eq_true hc] at this)
      have hlt : k < s.size := by
        have hl : s.data.toList.length = s.size := by simp
        rcases Nat.lt_or_ge k s.size with h | h
        · exact h
        · rw [List.drop_of_length_le (by omega)] at hc; cases hc
      have hok1 := Lib.hid (show k + 1 + runL (· == 32) (s.data.toList.drop (k + 1)) = N by
        rw [← hok.out]
        have hd := List.drop_eq_getElem_cons (l := s.data.toList) (i := k) (by simpa using hlt)
        rw [hd] at hc ⊢
        have h32 : s.data.toList[k]'(by simpa using hlt) = 32 := by simpa using hc
        have : runL (· == 32) (s.data.toList[k]'(by simpa using hlt) :: s.data.toList.drop (k + 1)) = runL (· == 32) (s.data.toList.drop (k + 1)) + 1 := by
          unfold runL; rw [List.takeWhile_cons_of_pos (by rw [h32]; decide)]; rfl
        rw [this]; omega)
      clear hc
      go_wp2_with (go_at_call 76; refine (D.out _).mono ?_; rintro e w' ⟨rfl, rfl⟩)
      go_round
      case rel => exact ⟨k + 1, by omega, by omega, by go_num, hok1⟩
      case measure => simp [intOf]; omega
    · have D := Lib.hid (p := ∀ w, Calls Tryz.prog 76 #[.string (s.extract k s.size), .string ⟨#[32]⟩] w fun e w' => e = .returned (.bool false) ∧ w = w') (fun w => by have := C.out k w; rwa [decide_eq_false hc] at this)
      have hkN : Hid (k = N) := Lib.hid (by
        rw [← hok.out]
        have : runL (· == 32) (s.data.toList.drop k) = 0 := by
          cases e : s.data.toList.drop k with
          | nil => rfl
          | cons c r =>
            rw [e] at hc
            unfold runL
            rw [List.takeWhile_cons_of_neg (by simpa using hc)]; rfl
        omega)
      clear hc
      go_wp2_with (go_at_call 76; refine (D.out _).mono ?_; rintro e w' ⟨rfl, rfl⟩)
      go_ret
      exact ⟨ret_n hkN.out, rfl⟩

set_option maxHeartbeats 4000000 in
theorem lRunD_any (s : ByteArray) (hm : s.size ≤ 281474976710656) (w : World) :
    Calls Tryz.prog 104 #[.string s, .func (.func 79) #[] #[]] w fun e w' => e = .returned (.int .i64 (runL digitB s.data.toList : Int)) ∧ w = w' := by
  have hF := Lib.hid lDigit_any
  go_enter Tryz.func104, Tryz.ntmps104
  go_wp2_with fail
  go_loop [5] (fun i => ∃ k : Nat, k ≤ s.size ∧ i = .int .i64 k ∧ Hid (∀ j (h : j < s.data.toList.length), j < k → digitB s.data.toList[j] = true)) (fun i => s.size - (intOf i).toNat)
  case atStart => exact ⟨0, by omega, rfl, Lib.hid (fun j _ h => by omega)⟩
  case round =>
    obtain ⟨k, hk, rfl, hok⟩ := hrel
    have hl : s.data.toList.length = s.size := by simp
    by_cases hlt : k < s.size
    · cases hc : digitB s[k] with
      | true =>
        have D := Lib.hid (p := ∀ w, Calls Tryz.prog 79 #[.int .u8 s[k].toNat] w fun e w' => e = .returned (.bool true) ∧ w = w') (fun w => by have := hF.out s[k] w; rwa [hc] at this)
        have hok1 := Lib.hid (show ∀ j (h : j < s.data.toList.length), j < k + 1 → digitB s.data.toList[j] = true from fun j hj hjk => by
          by_cases e : j = k
          · subst e; exact hc
          · exact hok.out j hj (by omega))
        clear hc hl
        go_wp2_with (go_at_call 79; refine (D.out _).mono ?_; rintro e w' ⟨rfl, rfl⟩)
        go_round
        case rel => exact ⟨k + 1, by omega, by go_num, hok1⟩
        case measure => simp [intOf]; omega
      | false =>
        have D := Lib.hid (p := ∀ w, Calls Tryz.prog 79 #[.int .u8 s[k].toNat] w fun e w' => e = .returned (.bool false) ∧ w = w') (fun w => by have := hF.out s[k] w; rwa [hc] at this)
        have R := Lib.hid (run_is (q := digitB) (l := s.data.toList) (n := k) (by omega) hok.out (fun _ => hc))
        clear hc hl
        go_wp2_with (go_at_call 79; refine (D.out _).mono ?_; rintro e w' ⟨rfl, rfl⟩)
        go_ret
        exact ⟨ret_n R.out.symm, rfl⟩
    · obtain rfl : k = s.size := by omega
      have R := Lib.hid (run_is (q := digitB) (l := s.data.toList) (n := s.size) (by omega) hok.out (fun h => by omega))
      clear hl
      go_wp2_with fail
      go_ret
      exact ⟨ret_n R.out.symm, rfl⟩

set_option maxHeartbeats 4000000 in
theorem lRunN_any (s : ByteArray) (hm : s.size ≤ 281474976710656) (w : World) :
    Calls Tryz.prog 104 #[.string s, .func (.func 105) #[] #[]] w fun e w' => e = .returned (.int .i64 (runL alnumB s.data.toList : Int)) ∧ w = w' := by
  have hF := Lib.hid lInName_any
  go_enter Tryz.func104, Tryz.ntmps104
  go_wp2_with fail
  go_loop [5] (fun i => ∃ k : Nat, k ≤ s.size ∧ i = .int .i64 k ∧ Hid (∀ j (h : j < s.data.toList.length), j < k → alnumB s.data.toList[j] = true)) (fun i => s.size - (intOf i).toNat)
  case atStart => exact ⟨0, by omega, rfl, Lib.hid (fun j _ h => by omega)⟩
  case round =>
    obtain ⟨k, hk, rfl, hok⟩ := hrel
    have hl : s.data.toList.length = s.size := by simp
    by_cases hlt : k < s.size
    · cases hc : alnumB s[k] with
      | true =>
        have D := Lib.hid (p := ∀ w, Calls Tryz.prog 105 #[.int .u8 s[k].toNat] w fun e w' => e = .returned (.bool true) ∧ w = w') (fun w => by have := hF.out s[k] w; rwa [hc] at this)
        have hok1 := Lib.hid (show ∀ j (h : j < s.data.toList.length), j < k + 1 → alnumB s.data.toList[j] = true from fun j hj hjk => by
          by_cases e : j = k
          · subst e; exact hc
          · exact hok.out j hj (by omega))
        clear hc hl
        go_wp2_with (go_at_call 105; refine (D.out _).mono ?_; rintro e w' ⟨rfl, rfl⟩)
        go_round
        case rel => exact ⟨k + 1, by omega, by go_num, hok1⟩
        case measure => simp [intOf]; omega
      | false =>
        have D := Lib.hid (p := ∀ w, Calls Tryz.prog 105 #[.int .u8 s[k].toNat] w fun e w' => e = .returned (.bool false) ∧ w = w') (fun w => by have := hF.out s[k] w; rwa [hc] at this)
        have R := Lib.hid (run_is (q := alnumB) (l := s.data.toList) (n := k) (by omega) hok.out (fun _ => hc))
        clear hc hl
        go_wp2_with (go_at_call 105; refine (D.out _).mono ?_; rintro e w' ⟨rfl, rfl⟩)
        go_ret
        exact ⟨ret_n R.out.symm, rfl⟩
    · obtain rfl : k = s.size := by omega
      have R := Lib.hid (run_is (q := alnumB) (l := s.data.toList) (n := s.size) (by omega) hok.out (fun h => by omega))
      clear hl
      go_wp2_with fail
      go_ret
      exact ⟨ret_n R.out.symm, rfl⟩

end Go.Proofs.YteegdemnajhehaaGreatDoor

namespace Go.Proofs.YteegdemnajhehaaGreatDoor
open Go.RowKit

theorem bytes_one {s : ByteArray} (h : s.size = 1) : s.data.toList = [s[0]'(by omega)] := by
  have hl : s.data.toList.length = s.size := by simp
  cases e : s.data.toList with
  | nil => rw [e] at hl; simp at hl; omega
  | cons c r =>
    have h00 : s.data.toList[0]? = some (s[0]'(by omega)) := List.getElem?_eq_getElem (by omega)
    rw [e] at h00 hl
    have hc : c = s[0] := by simpa using h00
    have : r = [] := List.length_eq_zero_iff.1 (by simp at hl; omega)
    rw [this, hc]

theorem bytes_two {s : ByteArray} (h : 2 ≤ s.size) : ∃ r, s.data.toList = s[0] :: s[1] :: r := by
  have d0 := List.drop_eq_getElem_cons (l := s.data.toList) (i := 0) (by simp; omega)
  have d1 := List.drop_eq_getElem_cons (l := s.data.toList) (i := 1) (by simp; omega)
  rw [List.drop_zero] at d0
  rw [d0, Nat.zero_add, d1]
  exact ⟨_, rfl⟩

theorem byte_eq (c : UInt8) (k : Nat) (hk : k < 256) : ((c.toNat : Int) == (k : Int)) = (c == UInt8.ofNat k) := by
  by_cases h : c = UInt8.ofNat k
  · subst h
    rw [UInt8.toNat_ofNat']
    rw [show k % 2 ^ 8 = k by omega]
    simp
  · rw [beq_eq_false_iff_ne.2 h, beq_eq_false_iff_ne.2]
    intro e
    apply h
    apply UInt8.toNat_inj.1
    rw [UInt8.toNat_ofNat']
    omega

theorem one_sign (c : UInt8) : oneSign c = ((c.toNat : Int) == 40 || (c.toNat : Int) == 41 || (c.toNat : Int) == 44 || (c.toNat : Int) == 61 || (c.toNat : Int) == 60 || (c.toNat : Int) == 62 || (c.toNat : Int) == 43 || (c.toNat : Int) == 45 || (c.toNat : Int) == 42 || (c.toNat : Int) == 47 || (c.toNat : Int) == 37) := by
  unfold oneSign
  have q : ∀ k : Nat, k < 256 → (c == UInt8.ofNat k) = ((c.toNat : Int) == (k : Int)) := fun k hk => (byte_eq c k hk).symm
  exact congr (congrArg or (congr (congrArg or (congr (congrArg or (congr (congrArg or (congr (congrArg or (congr (congrArg or (congr (congrArg or (congr (congrArg or (congr (congrArg or (congr (congrArg or (q 40 (by decide))) (q 41 (by decide)))) (q 44 (by decide)))) (q 61 (by decide)))) (q 60 (by decide)))) (q 62 (by decide)))) (q 43 (by decide)))) (q 45 (by decide)))) (q 42 (by decide)))) (q 47 (by decide)))) (q 37 (by decide))

set_option maxHeartbeats 8000000 in
theorem lSignGo (s : ByteArray) (h1 : 1 ≤ s.size) (t1 : ((s.extract 0 (min 2 (s.size : Int)).toNat).toList == [33, 61]) = false) (t2 : ((s.extract 0 (min 2 (s.size : Int)).toNat).toList == [60, 61]) = false) (t3 : ((s.extract 0 (min 2 (s.size : Int)).toNat).toList == [62, 61]) = false) {n : Nat} (R : n = if (((s[0]'(by omega)).toNat : Int) == 40 || ((s[0]'(by omega)).toNat : Int) == 41 || ((s[0]'(by omega)).toNat : Int) == 44 || ((s[0]'(by omega)).toNat : Int) == 61 || ((s[0]'(by omega)).toNat : Int) == 60 || ((s[0]'(by omega)).toNat : Int) == 62 || ((s[0]'(by omega)).toNat : Int) == 43 || ((s[0]'(by omega)).toNat : Int) == 45 || ((s[0]'(by omega)).toNat : Int) == 42 || ((s[0]'(by omega)).toNat : Int) == 47 || ((s[0]'(by omega)).toNat : Int) == 37) = true then 1 else 0) (w : World) : Calls Tryz.prog 108 #[.string s] w fun e w' => e = .returned (.int .i64 (n : Int)) ∧ w = w' := by
  have R := Lib.hid R
  go_enter Tryz.func108, Tryz.ntmps108
  go_wp2_with fail
  all_goals
    go_ret
    refine ⟨?_, rfl⟩
    rw [R.out]
    simp only [*, Bool.true_or, Bool.or_true, if_true, Bool.or_false, Bool.false_eq_true, if_false]
    rfl

set_option maxHeartbeats 2000000 in
theorem lSignTwoA (s : ByteArray) (h1 : 1 ≤ s.size) (t1 : ((s.extract 0 (min 2 (s.size : Int)).toNat).toList == [33, 61]) = true) (w : World) : Calls Tryz.prog 108 #[.string s] w fun e w' => e = .returned (.int .i64 ((2 : Nat) : Int)) ∧ w = w' := by
  go_enter Tryz.func108, Tryz.ntmps108
  go_wp2_with fail
  go_ret
  exact ⟨rfl, rfl⟩

set_option maxHeartbeats 2000000 in
theorem lSignTwoB (s : ByteArray) (h1 : 1 ≤ s.size) (t1 : ((s.extract 0 (min 2 (s.size : Int)).toNat).toList == [33, 61]) = false) (t2 : ((s.extract 0 (min 2 (s.size : Int)).toNat).toList == [60, 61]) = true) (w : World) : Calls Tryz.prog 108 #[.string s] w fun e w' => e = .returned (.int .i64 ((2 : Nat) : Int)) ∧ w = w' := by
  go_enter Tryz.func108, Tryz.ntmps108
  go_wp2_with fail
  go_ret
  exact ⟨rfl, rfl⟩

set_option maxHeartbeats 2000000 in
theorem lSignTwoC (s : ByteArray) (h1 : 1 ≤ s.size) (t1 : ((s.extract 0 (min 2 (s.size : Int)).toNat).toList == [33, 61]) = false) (t2 : ((s.extract 0 (min 2 (s.size : Int)).toNat).toList == [60, 61]) = false) (t3 : ((s.extract 0 (min 2 (s.size : Int)).toNat).toList == [62, 61]) = true) (w : World) : Calls Tryz.prog 108 #[.string s] w fun e w' => e = .returned (.int .i64 ((2 : Nat) : Int)) ∧ w = w' := by
  go_enter Tryz.func108, Tryz.ntmps108
  go_wp2_with fail
  go_ret
  exact ⟨rfl, rfl⟩

theorem lSign_any (s : ByteArray) (h1 : 1 ≤ s.size) (w : World) : Calls Tryz.prog 108 #[.string s] w fun e w' => e = .returned (.int .i64 (signL s.data.toList : Int)) ∧ w = w' := by
  by_cases h2 : s.size = 1
  · have T : (s.extract 0 (min 2 (s.size : Int)).toNat).toList = [s[0]'(by omega)] := by rw [Lib.toList_data, list_front, bytes_one h2, show (min 2 (s.size : Int)).toNat = 1 by omega]; rfl
    refine lSignGo s h1 (by rw [T]; simp) (by rw [T]; simp) (by rw [T]; simp) ?_ w
    rw [bytes_one h2]
    show (if oneSign _ = true then 1 else 0) = _
    rw [one_sign]
  · obtain ⟨r, hr⟩ := bytes_two (s := s) (by omega)
    have T : (s.extract 0 (min 2 (s.size : Int)).toNat).toList = [s[0]'(by omega), s[1]'(by omega)] := by
      rw [Lib.toList_data, list_front, show (min 2 (s.size : Int)).toNat = 2 by omega, hr]; rfl
    have E : signL s.data.toList = if twoSign (s[0]'(by omega)) (s[1]'(by omega)) then 2 else if oneSign (s[0]'(by omega)) then 1 else 0 := by rw [hr]; rfl
    have q : ∀ k : UInt8, ([s[0]'(by omega), s[1]'(by omega)] == [k, 61]) = ((s[0]'(by omega)) == k && (s[1]'(by omega)) == 61) := fun k => by
      show ((s[0]'(by omega)) == k && ((s[1]'(by omega)) == 61 && true)) = _
      rw [Bool.and_true]
    by_cases hd : s[1]'(by omega) = 61
    · by_cases a1 : s[0]'(by omega) = 33
      · rw [E, show twoSign (s[0]'(by omega)) (s[1]'(by omega)) = true by unfold twoSign; rw [hd, a1]; decide]
        exact lSignTwoA s h1 (by rw [T, q, hd, a1]; decide) w
      by_cases a2 : s[0]'(by omega) = 60
      · rw [E, show twoSign (s[0]'(by omega)) (s[1]'(by omega)) = true by unfold twoSign; rw [hd, a2]; decide]
        exact lSignTwoB s h1 (by rw [T, q, hd, a2]; decide) (by rw [T, q, hd, a2]; decide) w
      by_cases a3 : s[0]'(by omega) = 62
      · rw [E, show twoSign (s[0]'(by omega)) (s[1]'(by omega)) = true by unfold twoSign; rw [hd, a3]; decide]
        exact lSignTwoC s h1 (by rw [T, q, hd, a3]; decide) (by rw [T, q, hd, a3]; decide) (by rw [T, q, hd, a3]; decide) w
      refine lSignGo s h1 (by rw [T, q, beq_eq_false_iff_ne.2 a1]; rfl) (by rw [T, q, beq_eq_false_iff_ne.2 a2]; rfl) (by rw [T, q, beq_eq_false_iff_ne.2 a3]; rfl) ?_ w
      rw [E, ← one_sign, show twoSign (s[0]'(by omega)) (s[1]'(by omega)) = false by unfold twoSign; rw [beq_eq_false_iff_ne.2 a1, beq_eq_false_iff_ne.2 a2, beq_eq_false_iff_ne.2 a3]; simp]
      rfl
    · have z : (s[1]'(by omega) == 61) = false := beq_eq_false_iff_ne.2 hd
      refine lSignGo s h1 (by rw [T, q, z, Bool.and_false]) (by rw [T, q, z, Bool.and_false]) (by rw [T, q, z, Bool.and_false]) ?_ w
      rw [E, ← one_sign, show twoSign (s[0]'(by omega)) (s[1]'(by omega)) = false by unfold twoSign; rw [z]; rfl]
      rfl

end Go.Proofs.YteegdemnajhehaaGreatDoor

namespace Go.Proofs.YteegdemnajhehaaGreatDoor
open Go.RowKit

theorem four {W : World} {B : Nat} {x0 x1 x2 x3 : Value} {t : TypeId} (h : W.heap[B]? = some (.cells #[x0, x1, x2, x3] t (0, 0))) :
    (W.cell? ⟨B, 0, none⟩ = some x0 ∧ W.cell? ⟨B, 1, none⟩ = some x1 ∧ W.cell? ⟨B, 2, none⟩ = some x2 ∧ W.cell? ⟨B, 3, none⟩ = some x3) ∧
    (W.frozen? ⟨B, 0, none⟩ = false ∧ W.frozen? ⟨B, 1, none⟩ = false ∧ W.frozen? ⟨B, 2, none⟩ = false ∧ W.frozen? ⟨B, 3, none⟩ = false) := by
  refine ⟨⟨?_, ?_, ?_, ?_⟩, ?_, ?_, ?_, ?_⟩ <;> simp [World.cell?, World.frozen?, h]

theorem set_block (W : World) (B o : Nat) (cur : Array Value) (t : TypeId) (v : Value) (h : W.heap[B]? = some (.cells cur t (0, 0))) : (W.setCell ⟨B, o, none⟩ v).heap[B]? = some (.cells (cur.setIfInBounds o v) t (0, 0)) :=
  heap_setCell_same W B o cur t v h

theorem four_set {W : World} {B : Nat} {x0 x1 x2 x3 : Value} {t : TypeId} (h : W.heap[B]? = some (.cells #[x0, x1, x2, x3] t (0, 0))) (v0 v1 v2 v3 : Value) :
    ((((W.setCell ⟨B, 0, none⟩ v0).setCell ⟨B, 1, none⟩ v1).setCell ⟨B, 2, none⟩ v2).setCell ⟨B, 3, none⟩ v3).heap[B]? = some (.cells #[v0, v1, v2, v3] t (0, 0)) := by
  have := set_block _ B 3 _ t v3 (set_block _ B 2 _ t v2 (set_block _ B 1 _ t v1 (set_block W B 0 _ t v0 h)))
  simpa using this

theorem four_below {b : Nat} {A W : World} {B : Nat} (h : Below b A W) (hB : b ≤ B) (v0 v1 v2 v3 : Value) :
    Below b A ((((W.setCell ⟨B, 0, none⟩ v0).setCell ⟨B, 1, none⟩ v1).setCell ⟨B, 2, none⟩ v2).setCell ⟨B, 3, none⟩ v3) :=
  (((h.setCell (p := ⟨B, 0, none⟩) hB v0).setCell (p := ⟨B, 1, none⟩) hB v1).setCell (p := ⟨B, 2, none⟩) hB v2).setCell (p := ⟨B, 3, none⟩) hB v3

theorem four_other {W : World} {B k : Nat} (hne : k ≠ B) (v0 v1 v2 v3 : Value) :
    ((((W.setCell ⟨B, 0, none⟩ v0).setCell ⟨B, 1, none⟩ v1).setCell ⟨B, 2, none⟩ v2).setCell ⟨B, 3, none⟩ v3).heap[k]? = W.heap[k]? :=
  (Below.heap_setCell _ ⟨B, 3, none⟩ v3 k hne).trans ((Below.heap_setCell _ ⟨B, 2, none⟩ v2 k hne).trans ((Below.heap_setCell _ ⟨B, 1, none⟩ v1 k hne).trans (Below.heap_setCell _ ⟨B, 0, none⟩ v0 k hne)))

/-- The four cells, behind four stores and a new block. -/
theorem four_new {W : World} {B : Nat} {x0 x1 x2 x3 : Value} {t : TypeId} (h : W.heap[B]? = some (.cells #[x0, x1, x2, x3] t (0, 0))) (v0 v1 v2 v3 : Value) (o : Obj) :
    (((((W.setCell ⟨B, 0, none⟩ v0).setCell ⟨B, 1, none⟩ v1).setCell ⟨B, 2, none⟩ v2).setCell ⟨B, 3, none⟩ v3).alloc o).heap[B]? = some (.cells #[v0, v1, v2, v3] t (0, 0)) :=
  (Below.heap_alloc _ _ _ (lt_of_block (four_set h v0 v1 v2 v3))).trans (four_set h v0 v1 v2 v3)

theorem clone_any (s : ByteArray) (hm : s.size ≤ 281474976710656) (w : World) : Calls Tryz.prog 119 #[.string s] w fun e w' => e = .returned (.string s) ∧ Below w.heap.size w w' := by
  go_enter Tryz.func119, Tryz.ntmps119
  go_wp2_with (go_at_call 127; refine (Tryz.stringslite_Clone s _ hm).mono ?_; rintro e w' ⟨rfl, hb⟩; have hb1 := Lib.hid hb; clear hb)
  go_ret
  exact ⟨rfl, hb1.out⟩

/-- A token as a value. -/
abbrev tkV (k : Int) (s : ByteArray) (n p : Int) : Value := .agg #[.int .i64 k, .string s, .int .i64 n, .int .i64 p]
/-- A token's block. -/
abbrev tkO (k : Int) (s : ByteArray) (n p : Int) : Obj := .cells #[.int .i64 k, .string s, .int .i64 n, .int .i64 p] 74

theorem lt_block {w : World} {k : Nat} {o : Obj} (h : w.heap[k]? = some o) : k < w.heap.size := (Array.getElem?_eq_some_iff.1 h).1

set_option maxHeartbeats 2000000 in
theorem lToken_any (k : Int) (s : ByteArray) (hm : s.size ≤ 281474976710656) (w : World) : Calls Tryz.prog 106 #[.int .i64 k, .string s] w fun e w' => e = .returned (tkV k s 0 0) ∧ Below w.heap.size w w' := by
  go_enter Tryz.func106, Tryz.ntmps106
  go_wp2_with fail
  refine (clone_any s hm _).mono ?_
  rintro e w1 ⟨rfl, hb⟩
  have hB := (hb.block w.heap.size (by simp)).trans (heap_alloc_new w _)
  have B1 := Lib.hid (show Below w.heap.size w w1 from ((Below.refl _ w).alloc (Nat.le_refl _) _).trans (hb.mono (by simp)))
  obtain ⟨⟨k0, k1, k2, k3⟩, g0, g1, g2, g3⟩ := four hB
  have c0 := Lib.hid hB
  clear hb hB
  go_wp2_with fail
  obtain ⟨⟨d0, d1, d2, d3⟩, -⟩ := four (four_set c0.out (.int .i64 k) (.string s) (.int .i64 0) (.int .i64 0))
  exact bodyPost_ret (v := tkV k s 0 0) (by simp [results, Tryz.results106, go_sem, d0, d1, d2, d3]) rfl ⟨rfl, four_below B1.out (Nat.le_refl _) _ _ _ _⟩

end Go.Proofs.YteegdemnajhehaaGreatDoor

namespace Go.Proofs.YteegdemnajhehaaGreatDoor
open Go.RowKit

/-- What a first token is answered as. -/
def retF (l : List UInt8) : Fst → Value
  | .bad e => .tuple #[tkV 0 ⟨#[]⟩ 0 0, .int .i64 e]
  | .tok k n v => .tuple #[tkV k ⟨(l.take n).toArray⟩ v 0, .int .i64 0]

theorem front_eq (s : ByteArray) (n : Nat) : s.extract 0 n = ⟨(s.data.toList.take n).toArray⟩ := text_eq (by rw [list_front])

/-- The two errors of the library are there. -/
def Laid (w : World) : Prop :=
  (∃ tp p t f, w.heap[1]? = some (.cells #[.iface tp p] t f)) ∧ (∃ tp p t f, w.heap[2]? = some (.cells #[.iface tp p] t f))

theorem Laid.step {w w' : World} (h : Laid w) (hb : Below w.heap.size w w') : Laid w' := by
  obtain ⟨⟨tp, p, t1, f1, h1⟩, ⟨tq, q, t2, f2, h2⟩⟩ := h
  exact ⟨⟨tp, p, t1, f1, (hb.block _ (lt_block h1)).trans h1⟩, ⟨tq, q, t2, f2, (hb.block _ (lt_block h2)).trans h2⟩⟩

theorem var_of {w : World} {n : String} {g : Nat} {cs : Array Value} {t : TypeId} {f : Nat × Nat} (hg : Tryz.prog.globalNamed n = some g) (h : w.heap[g]? = some (.cells cs t f)) : w.var? Tryz.prog n = some cs := by
  unfold World.var?
  rw [hg]
  simp [h]

theorem parse_ok (s : ByteArray) (v : Int) (hs : s.size ≤ 281474976710656) (h : Lib.parseIntB 64 s.data.toList = .ok v) (w : World) :
    Calls Tryz.prog 107 #[.string s, .int .i64 10, .int .i64 64] w fun e w' => e = .returned (.tuple #[.int .i64 v, .nilIface]) ∧ Below w.heap.size w w' := by
  refine (Tryz.strconv_ParseInt_10_at64_ok s (by omega) v h w).mono ?_
  rintro e w' ⟨rfl, rfl | ⟨t, rfl⟩⟩
  · exact ⟨rfl, Below.refl _ _⟩
  · exact ⟨rfl, Lib.bytesWorld_below _ _ _⟩

/-- It ends with an error. -/
def Fell (w : World) (e : Ending) (w' : World) : Prop := (∃ n t p, e = .returned (.tuple #[.int .i64 n, .iface t p])) ∧ Below w.heap.size w w'

theorem parse_fell (s : ByteArray) (hs : s.size ≤ 281474976710656) (w : World) (hw : Laid w) (h : ∀ v, ¬ Lib.parseIntB 64 s.data.toList = .ok v) :
    Calls Tryz.prog 107 #[.string s, .int .i64 10, .int .i64 64] w (Fell w) := by
  obtain ⟨⟨tp, p, t1, f1, h1⟩, ⟨tq, q, t2, f2, h2⟩⟩ := hw
  rcases hp : Lib.parseIntB 64 s.data.toList with v | _ | _
  · exact absurd hp (h v)
  · refine (Any.strconv_ParseInt_10_at64_syntax_var Tryz.laysC174 s hs hp tp p w (var_of (by kernel_rfl) h1)).mono ?_
    rintro e w' ⟨N, rfl, _, _, hb⟩
    exact ⟨⟨_, _, _, rfl⟩, hb⟩
  · refine (Any.strconv_ParseInt_10_at64_range_var Tryz.laysC174 s hs hp tq q w (var_of (by kernel_rfl) h2)).mono ?_
    rintro e w' ⟨N, rfl, _, _, hb⟩
    exact ⟨⟨_, _, _, rfl⟩, hb⟩

set_option maxHeartbeats 4000000 in
theorem lName_any (s : ByteArray) (hm : s.size ≤ 281474976710656) (w : World) : Calls Tryz.prog 78 #[.string s] w fun e w' => e = .returned (retF s.data.toList (nameF s.data.toList)) ∧ Below w.heap.size w w' := by
  obtain ⟨n, hn⟩ : ∃ n, runL alnumB s.data.toList = n := ⟨_, rfl⟩
  have hle : n ≤ s.size := by rw [← hn]; have := run_le alnumB s.data.toList; simpa using this
  have C := Lib.hid (p := ∀ w, Calls Tryz.prog 104 #[.string s, .func (.func 105) #[] #[]] w fun e w' => e = .returned (.int .i64 (n : Int)) ∧ w = w') (fun w => by have := lRunN_any s hm w; rwa [hn] at this)
  unfold nameF
  rw [hn]
  clear hn
  by_cases h8 : 8 < n
  · rw [if_pos h8]
    unfold retF
    go_enter Tryz.func78, Tryz.ntmps78
    go_wp2_with (go_at_call 104; refine (C.out _).mono ?_; rintro e w' ⟨rfl, rfl⟩)
    refine bodyPost_ret (v := .tuple #[tkV 0 ⟨#[]⟩ 0 0, .int .i64 5]) (by simp [results, Tryz.results78, go_sem]) rfl ⟨rfl, ?_⟩
    exact (Below.refl _ _).alloc (Nat.le_refl _) _
  · rw [if_neg h8]
    have T := Lib.hid (fun w => lToken_any 1 (s.extract 0 n) (by rw [ByteArray.size_extract]; omega) w)
    have F := Lib.hid (front_eq s n)
    unfold retF
    go_enter Tryz.func78, Tryz.ntmps78
    go_wp2_with (go_at_call 104; refine (C.out _).mono ?_; rintro e w' ⟨rfl, rfl⟩)
    refine (T.out _).mono ?_
    rintro e w1 ⟨rfl, hb⟩
    have hB := (hb.block w.heap.size (by simp)).trans (heap_alloc_new w _)
    have B1 := Lib.hid (show Below w.heap.size w w1 from ((Below.refl _ w).alloc (Nat.le_refl _) _).trans (hb.mono (by simp)))
    obtain ⟨⟨k0, k1, k2, k3⟩, g0, g1, g2, g3⟩ := four hB
    have c0 := Lib.hid hB
    clear hb hB
    go_wp2_with fail
    obtain ⟨⟨d0, d1, d2, d3⟩, -⟩ := four (four_set c0.out (.int .i64 1) (.string (s.extract 0 n)) (.int .i64 0) (.int .i64 0))
    refine bodyPost_ret (v := .tuple #[tkV 1 (s.extract 0 n) 0 0, .int .i64 0]) (by simp [results, Tryz.results78, go_sem, d0, d1, d2, d3]) rfl ⟨?_, four_below B1.out (Nat.le_refl _) _ _ _ _⟩
    rw [F.out]

set_option maxHeartbeats 4000000 in
theorem lSignF_any (s : ByteArray) (h1 : 1 ≤ s.size) (hm : s.size ≤ 281474976710656) (w : World) : Calls Tryz.prog 81 #[.string s] w fun e w' => e = .returned (retF s.data.toList (signF s.data.toList)) ∧ Below w.heap.size w w' := by
  obtain ⟨n, hn⟩ : ∃ n, signL s.data.toList = n := ⟨_, rfl⟩
  have hle : n ≤ s.size := by rw [← hn]; have := sign_le s.data.toList; simpa using this
  have C := Lib.hid (p := ∀ w, Calls Tryz.prog 108 #[.string s] w fun e w' => e = .returned (.int .i64 (n : Int)) ∧ w = w') (fun w => by have := lSign_any s h1 w; rwa [hn] at this)
  unfold signF
  rw [hn]
  clear hn
  by_cases h8 : n = 0
  · rw [if_pos h8]
    unfold retF
    have q : ((n : Int) == 0) = true := by rw [h8]; rfl
    clear h8
    go_enter Tryz.func81, Tryz.ntmps81
    go_wp2_with (go_at_call 108; refine (C.out _).mono ?_; rintro e w' ⟨rfl, rfl⟩)
    refine bodyPost_ret (v := .tuple #[tkV 0 ⟨#[]⟩ 0 0, .int .i64 2]) (by simp [results, Tryz.results81, go_sem]) rfl ⟨rfl, ?_⟩
    exact (Below.refl _ _).alloc (Nat.le_refl _) _
  · rw [if_neg h8]
    have q : ((n : Int) == 0) = false := by rw [beq_eq_false_iff_ne]; omega
    clear h8
    have T := Lib.hid (fun w => lToken_any 3 (s.extract 0 n) (by rw [ByteArray.size_extract]; omega) w)
    have F := Lib.hid (front_eq s n)
    unfold retF
    go_enter Tryz.func81, Tryz.ntmps81
    go_wp2_with (go_at_call 108; refine (C.out _).mono ?_; rintro e w' ⟨rfl, rfl⟩)
    refine (T.out _).mono ?_
    rintro e w1 ⟨rfl, hb⟩
    have hB := (hb.block w.heap.size (by simp)).trans (heap_alloc_new w _)
    have B1 := Lib.hid (show Below w.heap.size w w1 from ((Below.refl _ w).alloc (Nat.le_refl _) _).trans (hb.mono (by simp)))
    obtain ⟨⟨k0, k1, k2, k3⟩, g0, g1, g2, g3⟩ := four hB
    have c0 := Lib.hid hB
    clear hb hB
    go_wp2_with fail
    obtain ⟨⟨d0, d1, d2, d3⟩, -⟩ := four (four_set c0.out (.int .i64 3) (.string (s.extract 0 n)) (.int .i64 0) (.int .i64 0))
    refine bodyPost_ret (v := .tuple #[tkV 3 (s.extract 0 n) 0 0, .int .i64 0]) (by simp [results, Tryz.results81, go_sem, d0, d1, d2, d3]) rfl ⟨?_, four_below B1.out (Nat.le_refl _) _ _ _ _⟩
    rw [F.out]

end Go.Proofs.YteegdemnajhehaaGreatDoor
