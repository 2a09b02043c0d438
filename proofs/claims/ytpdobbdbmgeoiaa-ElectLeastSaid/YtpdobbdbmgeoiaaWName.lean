/-
  No statement: the contract of Name of package row.
-/
import Derived.Test.YtpdobbdbmgeoiaaRPath
import Derived.Deep.QuietTactic
import Derived.BigQuiet
namespace Go.Proofs.Ytpdobbdbmgeoiaa
open Go.RowKit

set_option maxHeartbeats 1000000 in
theorem wSmall_any (c : UInt8) (w : World) : Calls Try.prog 78 #[.int .u8 c.toNat] w fun e w' => e = .returned (.bool (smallB c)) ∧ w = w' := by
  obtain ⟨x, hx⟩ : ∃ x : Int, (c.toNat : Int) = x := ⟨_, rfl⟩
  unfold smallB
  rw [hx]
  by_cases h : 97 ≤ x
  · go_enter Try.func78, Try.ntmps78
    go_wp2
    go_ret
    exact ⟨ret_b (a := decide (x ≤ 122)) (by rw [decide_eq_true h]; rfl), rfl⟩
  · go_enter Try.func78, Try.ntmps78
    go_wp2
    go_ret
    exact ⟨ret_b (a := false) (by rw [decide_eq_false (by omega)]; rfl), rfl⟩

set_option maxHeartbeats 1000000 in
theorem wDigit_any (c : UInt8) (w : World) : Calls Try.prog 79 #[.int .u8 c.toNat] w fun e w' => e = .returned (.bool (digitB c)) ∧ w = w' := by
  obtain ⟨x, hx⟩ : ∃ x : Int, (c.toNat : Int) = x := ⟨_, rfl⟩
  unfold digitB
  rw [hx]
  by_cases h : 48 ≤ x
  · go_enter Try.func79, Try.ntmps79
    go_wp2
    go_ret
    exact ⟨ret_b (a := decide (x ≤ 57)) (by rw [decide_eq_true h]; rfl), rfl⟩
  · go_enter Try.func79, Try.ntmps79
    go_wp2
    go_ret
    exact ⟨ret_b (a := false) (by rw [decide_eq_false (by omega)]; rfl), rfl⟩

set_option maxHeartbeats 2000000 in
theorem wName_any (s : ByteArray) (hm : s.size ≤ 281474976710656) (w : World) : Calls Try.prog 69 #[.string s] w fun e w' => e = .returned (.bool (goodB s.data.toList)) ∧ w = w' := by
  have hne : 1 ≤ s.size → (s.toList == []) = false := fun h => by
    rw [beq_eq_false_iff_ne, Lib.toList_data]
    intro e
    have hl : s.data.toList.length = s.size := by simp
    rw [e] at hl; simp at hl; omega
  by_cases h1 : s.size < 1
  · have R := Lib.hid (good_no (.inl h1))
    obtain rfl : s = ⟨#[]⟩ := (by simpa using h1 : s = ByteArray.empty)
    clear hne h1 hm
    go_enter Try.func69, Try.ntmps69
    go_wp2_with fail
    go_ret
    exact ⟨ret_b (a := false) R.out.symm, rfl⟩
  have h2 : 1 ≤ s.size := by omega
  have he := hne h2
  clear hne h1
  by_cases h8 : 8 < s.size
  · have R := Lib.hid (good_no (.inr h8))
    go_enter Try.func69, Try.ntmps69
    go_wp2_with fail
    go_ret
    exact ⟨ret_b (a := false) R.out.symm, rfl⟩
  have h3 : s.size ≤ 8 := by omega
  have R := Lib.hid (good_at h2 h3)
  have hs0 : 0 < s.size := by omega
  cases hc : smallB s[0] with
  | false =>
    have R2 := Lib.hid (R.out.trans (by rw [hc]; rfl : _ = false))
    have C := Lib.hid (p := ∀ w, Calls Try.prog 78 #[.int .u8 s[0].toNat] w fun e w' => e = .returned (.bool false) ∧ w = w') (fun w => by have := wSmall_any s[0] w; rwa [hc] at this)
    clear R hc h3
    go_enter Try.func69, Try.ntmps69
    go_wp2_with (go_at_call 78; refine (C.out _).mono ?_; rintro e w' ⟨rfl, rfl⟩)
    go_ret
    exact ⟨ret_b (a := false) R2.out.symm, rfl⟩
  | true =>
    have R2 := Lib.hid (R.out.trans (by rw [hc]; rfl : _ = s.data.toList.all alnumB))
    have C := Lib.hid (p := ∀ w, Calls Try.prog 78 #[.int .u8 s[0].toNat] w fun e w' => e = .returned (.bool true) ∧ w = w') (fun w => by have := wSmall_any s[0] w; rwa [hc] at this)
    have h0 := Lib.hid (show alnumB s[0] = true by unfold alnumB; rw [hc]; rfl)
    clear R hc
    go_enter Try.func69, Try.ntmps69
    go_wp2_with (go_at_call 78; refine (C.out _).mono ?_; rintro e w' ⟨rfl, rfl⟩)
    go_loop [3] (fun i => ∃ k : Nat, 1 ≤ k ∧ k ≤ s.size ∧ i = .int .i64 k ∧ Hid (∀ j (hj : j < s.size), j < k → alnumB s[j] = true)) (fun i => s.size - (intOf i).toNat)
    case atStart => exact ⟨1, Nat.le_refl _, h2, rfl, Lib.hid (fun j _ h => by
      obtain rfl : j = 0 := (by omega)
      exact h0.out)⟩
    case round =>
      obtain ⟨k, hk1, hk, rfl, hok⟩ := hrel
      by_cases hlt : k < s.size
      · cases ha : smallB s[k] with
        | true =>
          have hok1 := Lib.hid (show ∀ j (hj : j < s.size), j < k + 1 → alnumB s[j] = true from fun j hj hjk => by
              by_cases e : j = k
              · subst e; unfold alnumB; rw [ha]; rfl
              · exact hok.out j hj (by omega))
          have D := Lib.hid (p := ∀ w, Calls Try.prog 78 #[.int .u8 s[k].toNat] w fun e w' => e = .returned (.bool true) ∧ w = w') (fun w => by have := wSmall_any s[k] w; rwa [ha] at this)
          clear ha C
          go_wp2_with (go_at_call 78; refine (D.out _).mono ?_; rintro e w' ⟨rfl, rfl⟩)
          go_round
          case rel => exact ⟨k + 1, by omega, by omega, by go_num, hok1⟩
          case measure => simp [intOf]; omega
        | false =>
          have D := Lib.hid (p := ∀ w, Calls Try.prog 78 #[.int .u8 s[k].toNat] w fun e w' => e = .returned (.bool false) ∧ w = w') (fun w => by have := wSmall_any s[k] w; rwa [ha] at this)
          cases hd : digitB s[k] with
          | true =>
            have hok1 := Lib.hid (show ∀ j (hj : j < s.size), j < k + 1 → alnumB s[j] = true from fun j hj hjk => by
                by_cases e : j = k
                · subst e; unfold alnumB; rw [ha, hd]; rfl
                · exact hok.out j hj (by omega))
            have E := Lib.hid (p := ∀ w, Calls Try.prog 79 #[.int .u8 s[k].toNat] w fun e w' => e = .returned (.bool true) ∧ w = w') (fun w => by have := wDigit_any s[k] w; rwa [hd] at this)
            clear ha hd C
            go_wp2_with (first | (go_at_call 78; refine (D.out _).mono ?_; rintro e w' ⟨rfl, rfl⟩) | (go_at_call 79; refine (E.out _).mono ?_; rintro e w' ⟨rfl, rfl⟩))
            go_round
            case rel => exact ⟨k + 1, by omega, by omega, by go_num, hok1⟩
            case measure => simp [intOf]; omega
          | false =>
            have E := Lib.hid (p := ∀ w, Calls Try.prog 79 #[.int .u8 s[k].toNat] w fun e w' => e = .returned (.bool false) ∧ w = w') (fun w => by have := wDigit_any s[k] w; rwa [hd] at this)
            have R3 := Lib.hid (R2.out.trans (all_no hlt (by unfold alnumB; rw [ha, hd]; rfl)))
            clear ha hd C
            go_wp2_with (first | (go_at_call 78; refine (D.out _).mono ?_; rintro e w' ⟨rfl, rfl⟩) | (go_at_call 79; refine (E.out _).mono ?_; rintro e w' ⟨rfl, rfl⟩))
            go_ret
            exact ⟨ret_b (a := false) R3.out.symm, rfl⟩
      · have R3 := Lib.hid (R2.out.trans (all_yes fun j hj => hok.out j hj (by omega)))
        go_wp2_with fail
        go_ret
        exact ⟨ret_b (a := true) R3.out.symm, rfl⟩

end Go.Proofs.Ytpdobbdbmgeoiaa
