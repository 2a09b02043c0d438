/-
  No statement: the contracts of the document's In, Name.
-/
import Derived.Test.YtpdobbdbmgeoiaaSCheck
namespace Go.Proofs.Ytpdobbdbmgeoiaa
open Go.RowKit

set_option maxHeartbeats 1000000 in
theorem rIn_any (n : Int) (w : World) : Calls Try.prog 46 #[.int .i64 n] w fun e w' => e = .returned (.bool (countB n)) ∧ w = w' := by
  by_cases h : 0 ≤ n
  · go_enter Try.func46, Try.ntmps46
    go_wp2
    go_ret
    exact ⟨ret_b (a := decide (n ≤ 1000000000)) (by unfold countB; rw [decide_eq_true h]; rfl), rfl⟩
  · go_enter Try.func46, Try.ntmps46
    go_wp2
    go_ret
    exact ⟨ret_b (a := false) (by unfold countB; rw [decide_eq_false (by omega)]; rfl), rfl⟩

theorem good_no {s : ByteArray} (h : s.size < 1 ∨ 8 < s.size) : goodB s.data.toList = false := by
  have hl : s.data.toList.length = s.size := by simp
  cases e : s.data.toList with
  | nil => rfl
  | cons c r =>
    rw [e] at hl
    rw [good_cons, decide_eq_false (by simp at hl; omega), Bool.and_false, Bool.false_and]

theorem good_at {s : ByteArray} (h : 1 ≤ s.size) (h8 : s.size ≤ 8) : goodB s.data.toList = (smallB s[0] && s.data.toList.all alnumB) := by
  have hl : s.data.toList.length = s.size := by simp
  have h0 : s.data.toList[0]? = some s[0] := List.getElem?_eq_getElem (by omega)
  cases e : s.data.toList with
  | nil => rw [e] at hl; simp at hl; omega
  | cons c r =>
    rw [e] at hl h0
    have : c = s[0] := by simpa using h0
    subst this
    rw [good_cons, decide_eq_true (by simp at hl; omega), Bool.and_true, List.all_cons]
    unfold alnumB
    cases smallB s[0] <;> simp

theorem all_no {s : ByteArray} {j : Nat} (hj : j < s.size) (h : alnumB s[j] = false) : s.data.toList.all alnumB = false := by
  rw [List.all_eq_false]
  exact ⟨s[j], List.mem_iff_getElem.2 ⟨j, by simpa using hj, rfl⟩, by rw [h]; simp⟩

theorem all_yes {s : ByteArray} (h : ∀ j (hj : j < s.size), alnumB s[j] = true) : s.data.toList.all alnumB = true := by
  rw [List.all_eq_true]
  intro c hc
  obtain ⟨j, hj, rfl⟩ := List.mem_iff_getElem.1 hc
  exact h j (by simpa using hj)

set_option maxHeartbeats 2000000 in
theorem rName_any (s : ByteArray) (hm : s.size ≤ 281474976710656) (w : World) : Calls Try.prog 29 #[.string s] w fun e w' => e = .returned (.bool (goodB s.data.toList)) ∧ w = w' := by
  by_cases h1 : s.size < 1 ∨ 8 < s.size
  · have R := Lib.hid (good_no h1)
    rcases h1 with h1 | h1
    · go_enter Try.func29, Try.ntmps29
      go_wp2_with fail
      go_ret
      exact ⟨ret_b (a := false) R.out.symm, rfl⟩
    · have h2 : 1 ≤ s.size := by omega
      go_enter Try.func29, Try.ntmps29
      go_wp2_with fail
      go_ret
      exact ⟨ret_b (a := false) R.out.symm, rfl⟩
  · have h2 : 1 ≤ s.size := by omega
    have h3 : s.size ≤ 8 := by omega
    have R := Lib.hid (good_at h2 h3)
    obtain ⟨c, hc⟩ : ∃ c : Int, (s[0].toNat : Int) = c := ⟨_, rfl⟩
    have hs : smallB s[0] = (decide (97 ≤ c) && decide (c ≤ 122)) := by unfold smallB; rw [hc]
    by_cases k : 97 ≤ c ∧ c ≤ 122
    · obtain ⟨k1, k2⟩ := k
      have R2 := Lib.hid (R.out.trans (by rw [hs, decide_eq_true k1, decide_eq_true k2]; rfl : _ = s.data.toList.all alnumB))
      clear R hs h1
      go_enter Try.func29, Try.ntmps29
      go_wp2_with fail
      go_loop [3] (fun i => ∃ k : Nat, k ≤ s.size ∧ i = .int .i64 k ∧ Hid (∀ j (hj : j < s.size), j < k → alnumB s[j] = true)) (fun i => s.size - (intOf i).toNat)
      case atStart => exact ⟨0, Nat.zero_le _, rfl, Lib.hid (fun j _ h => by omega)⟩
      case round =>
        obtain ⟨k, hk, rfl, hok⟩ := hrel
        by_cases hlt : k < s.size
        · obtain ⟨d, hd⟩ : ∃ c : Int, (s[k].toNat : Int) = c := ⟨_, rfl⟩
          have hb : alnumB s[k] = (decide (97 ≤ d) && decide (d ≤ 122) || decide (48 ≤ d) && decide (d ≤ 57)) := by unfold alnumB smallB digitB; rw [hd]
          have hcase : (97 ≤ d ∧ d ≤ 122) ∨ (48 ≤ d ∧ d ≤ 57) ∨ d < 48 ∨ (57 < d ∧ d < 97) ∨ 122 < d := by omega
          rcases hcase with ⟨g1, g2⟩ | ⟨g1, g2⟩ | g1 | ⟨g1, g2⟩ | g1
          · have hok1 := Lib.hid (show ∀ j (hj : j < s.size), j < k + 1 → alnumB s[j] = true from fun j hj hjk => by
              by_cases e : j = k
              · subst e; rw [hb, decide_eq_true g1, decide_eq_true g2]; rfl
              · exact hok.out j hj (by omega))
            clear hb
            go_wp2_with fail
            go_round
            case rel => exact ⟨k + 1, by omega, by go_num, hok1⟩
            case measure => simp [intOf]; omega
          · have hok1 := Lib.hid (show ∀ j (hj : j < s.size), j < k + 1 → alnumB s[j] = true from fun j hj hjk => by
              by_cases e : j = k
              · subst e; rw [hb, decide_eq_true g1, decide_eq_true g2, Bool.and_self, Bool.or_true]
              · exact hok.out j hj (by omega))
            have g3 : d < 97 := by omega
            clear hb
            go_wp2_with fail
            go_round
            case rel => exact ⟨k + 1, by omega, by go_num, hok1⟩
            case measure => simp [intOf]; omega
          · have R3 := Lib.hid (R2.out.trans (all_no hlt (by rw [hb, decide_eq_false (by omega), decide_eq_false (p := 48 ≤ d) (by omega)]; rfl)))
            have g3 : d < 97 := by omega
            clear hb
            go_wp2_with fail
            go_ret
            exact ⟨ret_b (a := false) R3.out.symm, rfl⟩
          · have R3 := Lib.hid (R2.out.trans (all_no hlt (by rw [hb, decide_eq_false (by omega), decide_eq_false (p := d ≤ 57) (by omega)]; simp)))
            have g3 : 48 ≤ d := by omega
            clear hb
            go_wp2_with fail
            go_ret
            exact ⟨ret_b (a := false) R3.out.symm, rfl⟩
          · have R3 := Lib.hid (R2.out.trans (all_no hlt (by rw [hb, decide_eq_false (p := d ≤ 122) (by omega), decide_eq_false (p := d ≤ 57) (by omega)]; simp)))
            have g3 : 97 ≤ d := by omega
            have g4 : 48 ≤ d := by omega
            have g5 : 57 < d := by omega
            clear hb
            go_wp2_with fail
            go_ret
            exact ⟨ret_b (a := false) R3.out.symm, rfl⟩
        · have R3 := Lib.hid (R2.out.trans (all_yes fun j hj => hok.out j hj (by omega)))
          go_wp2_with fail
          go_ret
          exact ⟨ret_b (a := true) R3.out.symm, rfl⟩
    · have hb : (decide (97 ≤ c) && decide (c ≤ 122)) = false := by
        rcases Int.lt_or_le c 97 with h | h
        · rw [decide_eq_false (by omega)]; rfl
        · rw [decide_eq_true h, decide_eq_false (by omega)]; rfl
      have R2 := Lib.hid (R.out.trans (by rw [hs, hb]; rfl : _ = false))
      clear hb R hs h1
      have k' : c < 97 ∨ (97 ≤ c ∧ 122 < c) := by omega
      clear k
      rcases k' with k | ⟨k, k'⟩
      · go_enter Try.func29, Try.ntmps29
        go_wp2_with fail
        go_ret
        exact ⟨ret_b (a := false) R2.out.symm, rfl⟩
      · go_enter Try.func29, Try.ntmps29
        go_wp2_with fail
        go_ret
        exact ⟨ret_b (a := false) R2.out.symm, rfl⟩

theorem not_empty {s : ByteArray} (h : 1 ≤ s.size) : s.toList.isEmpty = false := by
  rw [Lib.toList_data]
  have hl : s.data.toList.length = s.size := by simp
  cases e : s.data.toList with
  | nil => rw [e] at hl; simp at hl; omega
  | cons a b => rfl

theorem not_one {s : ByteArray} (h : 2 ≤ s.size) (c : UInt8) : (s.toList == [c]) = false := by
  rw [beq_eq_false_iff_ne, Lib.toList_data]
  intro e
  have hl : s.data.toList.length = s.size := by simp
  rw [e] at hl; simp at hl; omega

end Go.Proofs.Ytpdobbdbmgeoiaa
