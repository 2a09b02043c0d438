/-
  No statement: contracts of small, digit, inName, run, skip of package lex.
-/
import Derived.Test.YtjkjjpoeegpkaaaDoorLMath
import Derived.Test.YtjkjjpoeegpkaaaDoorShelf
import Derived.Test.YtjkjjpoeegpkaaaDoorProg
import Derived.WalkKit
import Derived.WalkSpells
import Derived.IntWalk
import Derived.Lib.Hide
import Derived.LoopTactic
import Derived.StillTailTactics
import Derived.Deep.QuietTactic
import Derived.BigQuiet
namespace Go.Proofs.YtjkjjpoeegpkaaaDoor
open Go.RowKit

theorem ret_b {a b : Bool} (h : a = b) : Ending.returned (.bool a) = .returned (.bool b) := by rw [h]
theorem ret_n {a b : Nat} (h : a = b) : Ending.returned (.int .i64 (a : Int)) = .returned (.int .i64 (b : Int)) := by rw [h]

set_option maxHeartbeats 1000000 in
theorem lSmall_any (c : UInt8) (w : World) : Calls Tryd.prog 22 #[.int .u8 c.toNat] w fun e w' => e = .returned (.bool (smallB c)) ∧ w = w' := by
  obtain ⟨x, hx⟩ : ∃ x : Int, (c.toNat : Int) = x := ⟨_, rfl⟩
  unfold smallB
  rw [hx]
  by_cases h : 97 ≤ x
  · go_enter Tryd.func22, Tryd.ntmps22
    go_wp2
    go_ret
    exact ⟨ret_b (a := decide (x ≤ 122)) (by rw [decide_eq_true h]; rfl), rfl⟩
  · go_enter Tryd.func22, Tryd.ntmps22
    go_wp2
    go_ret
    exact ⟨ret_b (a := false) (by rw [decide_eq_false (by omega)]; rfl), rfl⟩

set_option maxHeartbeats 1000000 in
theorem lDigit_any (c : UInt8) (w : World) : Calls Tryd.prog 24 #[.int .u8 c.toNat] w fun e w' => e = .returned (.bool (digitB c)) ∧ w = w' := by
  obtain ⟨x, hx⟩ : ∃ x : Int, (c.toNat : Int) = x := ⟨_, rfl⟩
  unfold digitB
  rw [hx]
  by_cases h : 48 ≤ x
  · go_enter Tryd.func24, Tryd.ntmps24
    go_wp2
    go_ret
    exact ⟨ret_b (a := decide (x ≤ 57)) (by rw [decide_eq_true h]; rfl), rfl⟩
  · go_enter Tryd.func24, Tryd.ntmps24
    go_wp2
    go_ret
    exact ⟨ret_b (a := false) (by rw [decide_eq_false (by omega)]; rfl), rfl⟩

set_option maxHeartbeats 1000000 in
theorem lInName_any (c : UInt8) (w : World) : Calls Tryd.prog 30 #[.int .u8 c.toNat] w fun e w' => e = .returned (.bool (alnumB c)) ∧ w = w' := by
  unfold alnumB
  cases h : smallB c with
  | true =>
    have C := Lib.hid (p := ∀ w, Calls Tryd.prog 22 #[.int .u8 c.toNat] w fun e w' => e = .returned (.bool true) ∧ w = w') (fun w => by have := lSmall_any c w; rwa [h] at this)
    clear h
    go_enter Tryd.func30, Tryd.ntmps30
    go_wp2_with (go_at_call 22; refine (C.out _).mono ?_; rintro e w' ⟨rfl, rfl⟩)
    go_ret
    exact ⟨ret_b (a := true) rfl, rfl⟩
  | false =>
    have C := Lib.hid (p := ∀ w, Calls Tryd.prog 22 #[.int .u8 c.toNat] w fun e w' => e = .returned (.bool false) ∧ w = w') (fun w => by have := lSmall_any c w; rwa [h] at this)
    have D := Lib.hid (p := ∀ w, Calls Tryd.prog 24 #[.int .u8 c.toNat] w fun e w' => e = .returned (.bool (digitB c)) ∧ w = w') (fun w => lDigit_any c w)
    clear h
    go_enter Tryd.func30, Tryd.ntmps30
    go_wp2_with (first | (go_at_call 22; refine (C.out _).mono ?_; rintro e w' ⟨rfl, rfl⟩) | (go_at_call 24; refine (D.out _).mono ?_; rintro e w' ⟨rfl, rfl⟩))
    go_ret
    exact ⟨ret_b (a := digitB c) rfl, rfl⟩

theorem list_from (s : ByteArray) (a b : Nat) : (s.extract a b).data.toList = (s.data.toList.drop a).take (b - a) := by
  rw [ByteArray.data_extract, Array.toList_extract]
theorem list_tail (s : ByteArray) (a : Nat) : (s.extract a s.size).data.toList = s.data.toList.drop a := by
  rw [list_from]; exact List.take_of_length_le (by simp)
theorem list_front (s : ByteArray) (b : Nat) : (s.extract 0 b).data.toList = s.data.toList.take b := by
  rw [list_from]; rfl

theorem prefix_blank (l : List UInt8) : Lib.hasPrefix l (⟨#[32]⟩ : ByteArray).data.toList = decide (l.head? = some 32) := by
  cases l with
  | nil => rfl
  | cons c r =>
    show [32].isPrefixOf (c :: r) = _
    rw [List.isPrefixOf]
    by_cases h : c = 32
    · subst h; rfl
    · rw [beq_eq_false_iff_ne.2 (fun e : (32 : UInt8) = c => h e.symm)]
      rw [decide_eq_false (by simpa using h)]
      rfl

set_option maxHeartbeats 2000000 in
theorem lSkip_any (s : ByteArray) (p : Nat) (hp : p ≤ s.size) (hm : s.size ≤ 281474976710656) (w : World) : Calls Tryd.prog 12 #[.string s, .int .i64 p] w fun e w' => e = .returned (.int .i64 ((p + runL (· == 32) (s.data.toList.drop p) : Nat) : Int)) ∧ w = w' := by
  have C := Lib.hid (p := ∀ (k : Nat) w, Calls Tryd.prog 21 #[.string (s.extract k s.size), .string ⟨#[32]⟩] w fun e w' => e = .returned (.bool (decide ((s.data.toList.drop k).head? = some 32))) ∧ w = w') (fun k w => by
    have := Tryd.strings_HasPrefix (s.extract k s.size) ⟨#[32]⟩ w
    rw [prefix_blank, list_tail] at this
    exact this.mono fun e w' ⟨h1, h2⟩ => ⟨h1, h2.symm⟩)
  obtain ⟨N, hN⟩ : ∃ N, p + runL (· == 32) (s.data.toList.drop p) = N := ⟨_, rfl⟩
  rw [hN]
  have H := Lib.hid hN
  clear hN
  go_enter Tryd.func12, Tryd.ntmps12
  go_wp2_with fail
  go_loop [1] (fun i => ∃ k : Nat, p ≤ k ∧ k ≤ s.size ∧ i = .int .i64 k ∧ Hid (k + runL (· == 32) (s.data.toList.drop k) = N)) (fun i => s.size - (intOf i).toNat)
  case atStart => exact ⟨p, Nat.le_refl _, by omega, rfl, H⟩
  case round =>
    obtain ⟨k, hk1, hk, rfl, hok⟩ := hrel
    by_cases hc : (s.data.toList.drop k).head? = some 32
    · have D := Lib.hid (p := ∀ w, Calls Tryd.prog 21 #[.string (s.extract k s.size), .string ⟨#[32]⟩] w fun e w' => e = .returned (.bool true) ∧ w = w') (fun w => by have := C.out k w; rwa [decide_eq_true hc] at this)
      have hlt : k < s.size := by
        have hl : s.data.toList.length = s.size := by simp
        rcases Nat.lt_or_ge k s.size with h | h
        · exact h
        · rw [List.drop_of_length_le (by omega)] at hc; cases hc
      have hok1 := Lib.hid (show k + 1 + runL (· == 32) (s.data.toList.drop (k + 1)) = N by
        rw [← hok.out]
        have hd := List.drop_eq_getElem_cons (l := s.data.toList) (i := k) (by simpa using hlt)
        rw [hd] at hc ⊢
        have h32 : s.data.toList[k]'(by simpa using hlt) = 32 := by simpa using hc
        have : runL (· == 32) (s.data.toList[k]'(by simpa using hlt) :: s.data.toList.drop (k + 1)) = runL (· == 32) (s.data.toList.drop (k + 1)) + 1 := by
          unfold runL; rw [List.takeWhile_cons_of_pos (by rw [h32]; decide)]; rfl
        rw [this]; omega)
      clear hc
      go_wp2_with (go_at_call 21; refine (D.out _).mono ?_; rintro e w' ⟨rfl, rfl⟩)
      go_round
      case rel => exact ⟨k + 1, by omega, by omega, by go_num, hok1⟩
      case measure => simp [intOf]; omega
    · have D := Lib.hid (p := ∀ w, Calls Tryd.prog 21 #[.string (s.extract k s.size), .string ⟨#[32]⟩] w fun e w' => e = .returned (.bool false) ∧ w = w') (fun w => by have := C.out k w; rwa [decide_eq_false hc] at this)
      have hkN : Hid (k = N) := Lib.hid (by
        rw [← hok.out]
        have : runL (· == 32) (s.data.toList.drop k) = 0 := by
          cases e : s.data.toList.drop k with
          | nil => rfl
          | cons c r =>
            rw [e] at hc
            unfold runL
            rw [List.takeWhile_cons_of_neg (by simpa using hc)]; rfl
        omega)
      clear hc
      go_wp2_with (go_at_call 21; refine (D.out _).mono ?_; rintro e w' ⟨rfl, rfl⟩)
      go_ret
      exact ⟨ret_n hkN.out, rfl⟩

set_option maxHeartbeats 4000000 in
theorem lRunD_any (s : ByteArray) (hm : s.size ≤ 281474976710656) (w : World) :
    Calls Tryd.prog 29 #[.string s, .func (.func 24) #[] #[]] w fun e w' => e = .returned (.int .i64 (runL digitB s.data.toList : Int)) ∧ w = w' := by
  have hF := Lib.hid lDigit_any
  go_enter Tryd.func29, Tryd.ntmps29
  go_wp2_with fail
  go_loop [5] (fun i => ∃ k : Nat, k ≤ s.size ∧ i = .int .i64 k ∧ Hid (∀ j (h : j < s.data.toList.length), j < k → digitB s.data.toList[j] = true)) (fun i => s.size - (intOf i).toNat)
  case atStart => exact ⟨0, by omega, rfl, Lib.hid (fun j _ h => by omega)⟩
  case round =>
    obtain ⟨k, hk, rfl, hok⟩ := hrel
    have hl : s.data.toList.length = s.size := by simp
    by_cases hlt : k < s.size
    · cases hc : digitB s[k] with
      | true =>
        have D := Lib.hid (p := ∀ w, Calls Tryd.prog 24 #[.int .u8 s[k].toNat] w fun e w' => e = .returned (.bool true) ∧ w = w') (fun w => by have := hF.out s[k] w; rwa [hc] at this)
        have hok1 := Lib.hid (show ∀ j (h : j < s.data.toList.length), j < k + 1 → digitB s.data.toList[j] = true from fun j hj hjk => by
          by_cases e : j = k
          · subst e; exact hc
          · exact hok.out j hj (by omega))
        clear hc hl
        go_wp2_with (go_at_call 24; refine (D.out _).mono ?_; rintro e w' ⟨rfl, rfl⟩)
        go_round
        case rel => exact ⟨k + 1, by omega, by go_num, hok1⟩
        case measure => simp [intOf]; omega
      | false =>
        have D := Lib.hid (p := ∀ w, Calls Tryd.prog 24 #[.int .u8 s[k].toNat] w fun e w' => e = .returned (.bool false) ∧ w = w') (fun w => by have := hF.out s[k] w; rwa [hc] at this)
        have R := Lib.hid (run_is (q := digitB) (l := s.data.toList) (n := k) (by omega) hok.out (fun _ => hc))
        clear hc hl
        go_wp2_with (go_at_call 24; refine (D.out _).mono ?_; rintro e w' ⟨rfl, rfl⟩)
        go_ret
        exact ⟨ret_n R.out.symm, rfl⟩
    · obtain rfl : k = s.size := by omega
      have R := Lib.hid (run_is (q := digitB) (l := s.data.toList) (n := s.size) (by omega) hok.out (fun h => by omega))
      clear hl
      go_wp2_with fail
      go_ret
      exact ⟨ret_n R.out.symm, rfl⟩

set_option maxHeartbeats 4000000 in
theorem lRunN_any (s : ByteArray) (hm : s.size ≤ 281474976710656) (w : World) :
    Calls Tryd.prog 29 #[.string s, .func (.func 30) #[] #[]] w fun e w' => e = .returned (.int .i64 (runL alnumB s.data.toList : Int)) ∧ w = w' := by
  have hF := Lib.hid lInName_any
  go_enter Tryd.func29, Tryd.ntmps29
  go_wp2_with fail
  go_loop [5] (fun i => ∃ k : Nat, k ≤ s.size ∧ i = .int .i64 k ∧ Hid (∀ j (h : j < s.data.toList.length), j < k → alnumB s.data.toList[j] = true)) (fun i => s.size - (intOf i).toNat)
  case atStart => exact ⟨0, by omega, rfl, Lib.hid (fun j _ h => by omega)⟩
  case round =>
    obtain ⟨k, hk, rfl, hok⟩ := hrel
    have hl : s.data.toList.length = s.size := by simp
    by_cases hlt : k < s.size
    · cases hc : alnumB s[k] with
      | true =>
        have D := Lib.hid (p := ∀ w, Calls Tryd.prog 30 #[.int .u8 s[k].toNat] w fun e w' => e = .returned (.bool true) ∧ w = w') (fun w => by have := hF.out s[k] w; rwa [hc] at this)
        have hok1 := Lib.hid (show ∀ j (h : j < s.data.toList.length), j < k + 1 → alnumB s.data.toList[j] = true from fun j hj hjk => by
          by_cases e : j = k
          · subst e; exact hc
          · exact hok.out j hj (by omega))
        clear hc hl
        go_wp2_with (go_at_call 30; refine (D.out _).mono ?_; rintro e w' ⟨rfl, rfl⟩)
        go_round
        case rel => exact ⟨k + 1, by omega, by go_num, hok1⟩
        case measure => simp [intOf]; omega
      | false =>
        have D := Lib.hid (p := ∀ w, Calls Tryd.prog 30 #[.int .u8 s[k].toNat] w fun e w' => e = .returned (.bool false) ∧ w = w') (fun w => by have := hF.out s[k] w; rwa [hc] at this)
        have R := Lib.hid (run_is (q := alnumB) (l := s.data.toList) (n := k) (by omega) hok.out (fun _ => hc))
        clear hc hl
        go_wp2_with (go_at_call 30; refine (D.out _).mono ?_; rintro e w' ⟨rfl, rfl⟩)
        go_ret
        exact ⟨ret_n R.out.symm, rfl⟩
    · obtain rfl : k = s.size := by omega
      have R := Lib.hid (run_is (q := alnumB) (l := s.data.toList) (n := s.size) (by omega) hok.out (fun h => by omega))
      clear hl
      go_wp2_with fail
      go_ret
      exact ⟨ret_n R.out.symm, rfl⟩

end Go.Proofs.YtjkjjpoeegpkaaaDoor
