/-
  No statement: names; the words of a tree read back.
-/
import Derived.Test.YteegdemnajhehaaGreatDoorALex
import Derived.Deep.QuietTactic
import Derived.BigQuiet
import Derived.Test.YteegdemnajhehaaGreatDoorLTokens
import Derived.Test.YteegdemnajhehaaGreatDoorAMem
namespace Go.Proofs.YteegdemnajhehaaGreatDoor
open Go.RowKit

theorem good_no {s : ByteArray} (h : s.size < 1 ∨ 8 < s.size) : goodB s.data.toList = false := by
  have hl : s.data.toList.length = s.size := by simp
  cases e : s.data.toList with
  | nil => rfl
  | cons c r =>
    rw [e] at hl
    rw [good_cons, decide_eq_false (by simp at hl; omega), Bool.and_false, Bool.false_and]

theorem good_at {s : ByteArray} (h : 1 ≤ s.size) (h8 : s.size ≤ 8) : goodB s.data.toList = (smallB s[0] && s.data.toList.all alnumB) := by
  have hl : s.data.toList.length = s.size := by simp
  have h0 : s.data.toList[0]? = some s[0] := List.getElem?_eq_getElem (by omega)
  cases e : s.data.toList with
  | nil => rw [e] at hl; simp at hl; omega
  | cons c r =>
    rw [e] at hl h0
    have : c = s[0] := by simpa using h0
    subst this
    rw [good_cons, decide_eq_true (by simp at hl; omega), Bool.and_true, List.all_cons]
    unfold alnumB
    cases smallB s[0] <;> simp

theorem all_no {s : ByteArray} {j : Nat} (hj : j < s.size) (h : alnumB s[j] = false) : s.data.toList.all alnumB = false := by
  rw [List.all_eq_false]
  exact ⟨s[j], List.mem_iff_getElem.2 ⟨j, by simpa using hj, rfl⟩, by rw [h]; simp⟩

theorem all_yes {s : ByteArray} (h : ∀ j (hj : j < s.size), alnumB s[j] = true) : s.data.toList.all alnumB = true := by
  rw [List.all_eq_true]
  intro c hc
  obtain ⟨j, hj, rfl⟩ := List.mem_iff_getElem.1 hc
  exact h j (by simpa using hj)

set_option maxHeartbeats 2000000 in
theorem rName_any (s : ByteArray) (hm : s.size ≤ 281474976710656) (w : World) : Calls Tryz.prog 56 #[.string s] w fun e w' => e = .returned (.bool (goodB s.data.toList)) ∧ w = w' := by
  by_cases h1 : s.size < 1 ∨ 8 < s.size
  · have R := Lib.hid (good_no h1)
    rcases h1 with h1 | h1
    · go_enter Tryz.func56, Tryz.ntmps56
      go_wp2_with fail
      go_ret
      exact ⟨ret_b (a := false) R.out.symm, rfl⟩
    · have h2 : 1 ≤ s.size := by omega
      go_enter Tryz.func56, Tryz.ntmps56
      go_wp2_with fail
      go_ret
      exact ⟨ret_b (a := false) R.out.symm, rfl⟩
  · have h2 : 1 ≤ s.size := by omega
    have h3 : s.size ≤ 8 := by omega
    have R := Lib.hid (good_at h2 h3)
    obtain ⟨c, hc⟩ : ∃ c : Int, (s[0].toNat : Int) = c := ⟨_, rfl⟩
    have hs : smallB s[0] = (decide (97 ≤ c) && decide (c ≤ 122)) := by unfold smallB; rw [hc]
    by_cases k : 97 ≤ c ∧ c ≤ 122
    · obtain ⟨k1, k2⟩ := k
      have R2 := Lib.hid (R.out.trans (by rw [hs, decide_eq_true k1, decide_eq_true k2]; rfl : _ = s.data.toList.all alnumB))
      clear R hs h1
      go_enter Tryz.func56, Tryz.ntmps56
      go_wp2_with fail
      go_loop [3] (fun i => ∃ k : Nat, k ≤ s.size ∧ i = .int .i64 k ∧ Hid (∀ j (hj : j < s.size), j < k → alnumB s[j] = true)) (fun i => s.size - (intOf i).toNat)
      case atStart => exact ⟨0, Nat.zero_le _, rfl, Lib.hid (fun j _ h => by omega)⟩
      case round =>
        obtain ⟨k, hk, rfl, hok⟩ := hrel
        by_cases hlt : k < s.size
        · obtain ⟨d, hd⟩ : ∃ c : Int, (s[k].toNat : Int) = c := ⟨_, rfl⟩
          have hb : alnumB s[k] = (decide (97 ≤ d) && decide (d ≤ 122) || decide (48 ≤ d) && decide (d ≤ 57)) := by unfold alnumB smallB digitB; rw [hd]
          have hcase : (97 ≤ d ∧ d ≤ 122) ∨ (48 ≤ d ∧ d ≤ 57) ∨ d < 48 ∨ (57 < d ∧ d < 97) ∨ 122 < d := by omega
          rcases hcase with ⟨g1, g2⟩ | ⟨g1, g2⟩ | g1 | ⟨g1, g2⟩ | g1
          · have hok1 := Lib.hid (show ∀ j (hj : j < s.size), j < k + 1 → alnumB s[j] = true from fun j hj hjk => by
              by_cases e : j = k
              · subst e; rw [hb, decide_eq_true g1, decide_eq_true g2]; rfl
              · exact hok.out j hj (by omega))
            clear hb
            go_wp2_with fail
            go_round
            case rel => exact ⟨k + 1, by omega, by go_num, hok1⟩
            case measure => simp [intOf]; omega
          · have hok1 := Lib.hid (show ∀ j (hj : j < s.size), j < k + 1 → alnumB s[j] = true from fun j hj hjk => by
              by_cases e : j = k
              · subst e; rw [hb, decide_eq_true g1, decide_eq_true g2, Bool.and_self, Bool.or_true]
              · exact hok.out j hj (by omega))
            have g3 : d < 97 := by omega
            clear hb
            go_wp2_with fail
            go_round
            case rel => exact ⟨k + 1, by omega, by go_num, hok1⟩
            case measure => simp [intOf]; omega
          · have R3 := Lib.hid (R2.out.trans (all_no hlt (by rw [hb, decide_eq_false (by omega), decide_eq_false (p := 48 ≤ d) (by omega)]; rfl)))
            have g3 : d < 97 := by omega
            clear hb
            go_wp2_with fail
            go_ret
            exact ⟨ret_b (a := false) R3.out.symm, rfl⟩
          · have R3 := Lib.hid (R2.out.trans (all_no hlt (by rw [hb, decide_eq_false (by omega), decide_eq_false (p := d ≤ 57) (by omega)]; simp)))
            have g3 : 48 ≤ d := by omega
            clear hb
            go_wp2_with fail
            go_ret
            exact ⟨ret_b (a := false) R3.out.symm, rfl⟩
          · have R3 := Lib.hid (R2.out.trans (all_no hlt (by rw [hb, decide_eq_false (p := d ≤ 122) (by omega), decide_eq_false (p := d ≤ 57) (by omega)]; simp)))
            have g3 : 97 ≤ d := by omega
            have g4 : 48 ≤ d := by omega
            have g5 : 57 < d := by omega
            clear hb
            go_wp2_with fail
            go_ret
            exact ⟨ret_b (a := false) R3.out.symm, rfl⟩
        · have R3 := Lib.hid (R2.out.trans (all_yes fun j hj => hok.out j hj (by omega)))
          go_wp2_with fail
          go_ret
          exact ⟨ret_b (a := true) R3.out.symm, rfl⟩
    · have hb : (decide (97 ≤ c) && decide (c ≤ 122)) = false := by
        rcases Int.lt_or_le c 97 with h | h
        · rw [decide_eq_false (by omega)]; rfl
        · rw [decide_eq_true h, decide_eq_false (by omega)]; rfl
      have R2 := Lib.hid (R.out.trans (by rw [hs, hb]; rfl : _ = false))
      clear hb R hs h1
      have k' : c < 97 ∨ (97 ≤ c ∧ 122 < c) := by omega
      clear k
      rcases k' with k | ⟨k, k'⟩
      · go_enter Tryz.func56, Tryz.ntmps56
        go_wp2_with fail
        go_ret
        exact ⟨ret_b (a := false) R2.out.symm, rfl⟩
      · go_enter Tryz.func56, Tryz.ntmps56
        go_wp2_with fail
        go_ret
        exact ⟨ret_b (a := false) R2.out.symm, rfl⟩

end Go.Proofs.YteegdemnajhehaaGreatDoor

namespace Go.Proofs.YteegdemnajhehaaGreatDoor
open Go.RowKit

set_option maxHeartbeats 1000000 in
theorem wSmall_any (c : UInt8) (w : World) : Calls Tryz.prog 88 #[.int .u8 c.toNat] w fun e w' => e = .returned (.bool (smallB c)) ∧ w = w' := by
  obtain ⟨x, hx⟩ : ∃ x : Int, (c.toNat : Int) = x := ⟨_, rfl⟩
  unfold smallB
  rw [hx]
  by_cases h : 97 ≤ x
  · go_enter Tryz.func88, Tryz.ntmps88
    go_wp2
    go_ret
    exact ⟨ret_b (a := decide (x ≤ 122)) (by rw [decide_eq_true h]; rfl), rfl⟩
  · go_enter Tryz.func88, Tryz.ntmps88
    go_wp2
    go_ret
    exact ⟨ret_b (a := false) (by rw [decide_eq_false (by omega)]; rfl), rfl⟩

set_option maxHeartbeats 1000000 in
theorem wDigit_any (c : UInt8) (w : World) : Calls Tryz.prog 89 #[.int .u8 c.toNat] w fun e w' => e = .returned (.bool (digitB c)) ∧ w = w' := by
  obtain ⟨x, hx⟩ : ∃ x : Int, (c.toNat : Int) = x := ⟨_, rfl⟩
  unfold digitB
  rw [hx]
  by_cases h : 48 ≤ x
  · go_enter Tryz.func89, Tryz.ntmps89
    go_wp2
    go_ret
    exact ⟨ret_b (a := decide (x ≤ 57)) (by rw [decide_eq_true h]; rfl), rfl⟩
  · go_enter Tryz.func89, Tryz.ntmps89
    go_wp2
    go_ret
    exact ⟨ret_b (a := false) (by rw [decide_eq_false (by omega)]; rfl), rfl⟩

set_option maxHeartbeats 2000000 in
theorem wName_any (s : ByteArray) (hm : s.size ≤ 281474976710656) (w : World) : Calls Tryz.prog 69 #[.string s] w fun e w' => e = .returned (.bool (goodB s.data.toList)) ∧ w = w' := by
  have hne : 1 ≤ s.size → (s.toList == []) = false := fun h => by
    rw [beq_eq_false_iff_ne, Lib.toList_data]
    intro e
    have hl : s.data.toList.length = s.size := by simp
    rw [e] at hl; simp at hl; omega
  by_cases h1 : s.size < 1
  · have R := Lib.hid (good_no (.inl h1))
    obtain rfl : s = ⟨#[]⟩ := (by simpa using h1 : s = ByteArray.empty)
    clear hne h1 hm
    go_enter Tryz.func69, Tryz.ntmps69
    go_wp2_with fail
    go_ret
    exact ⟨ret_b (a := false) R.out.symm, rfl⟩
  have h2 : 1 ≤ s.size := by omega
  have he := hne h2
  clear hne h1
  by_cases h8 : 8 < s.size
  · have R := Lib.hid (good_no (.inr h8))
    go_enter Tryz.func69, Tryz.ntmps69
    go_wp2_with fail
    go_ret
    exact ⟨ret_b (a := false) R.out.symm, rfl⟩
  have h3 : s.size ≤ 8 := by omega
  have R := Lib.hid (good_at h2 h3)
  have hs0 : 0 < s.size := by omega
  cases hc : smallB s[0] with
  | false =>
    have R2 := Lib.hid (R.out.trans (by rw [hc]; rfl : _ = false))
    have C := Lib.hid (p := ∀ w, Calls Tryz.prog 88 #[.int .u8 s[0].toNat] w fun e w' => e = .returned (.bool false) ∧ w = w') (fun w => by have := wSmall_any s[0] w; rwa [hc] at this)
    clear R hc h3
    go_enter Tryz.func69, Tryz.ntmps69
    go_wp2_with (go_at_call 88; refine (C.out _).mono ?_; rintro e w' ⟨rfl, rfl⟩)
    go_ret
    exact ⟨ret_b (a := false) R2.out.symm, rfl⟩
  | true =>
    have R2 := Lib.hid (R.out.trans (by rw [hc]; rfl : _ = s.data.toList.all alnumB))
    have C := Lib.hid (p := ∀ w, Calls Tryz.prog 88 #[.int .u8 s[0].toNat] w fun e w' => e = .returned (.bool true) ∧ w = w') (fun w => by have := wSmall_any s[0] w; rwa [hc] at this)
    have h0 := Lib.hid (show alnumB s[0] = true by unfold alnumB; rw [hc]; rfl)
    clear R hc
    go_enter Tryz.func69, Tryz.ntmps69
    go_wp2_with (go_at_call 88; refine (C.out _).mono ?_; rintro e w' ⟨rfl, rfl⟩)
    go_loop [3] (fun i => ∃ k : Nat, 1 ≤ k ∧ k ≤ s.size ∧ i = .int .i64 k ∧ Hid (∀ j (hj : j < s.size), j < k → alnumB s[j] = true)) (fun i => s.size - (intOf i).toNat)
    case atStart => exact ⟨1, Nat.le_refl _, h2, rfl, Lib.hid (fun j _ h => by
      obtain rfl : j = 0 := (by omega)
      exact h0.out)⟩
    case round =>
      obtain ⟨k, hk1, hk, rfl, hok⟩ := hrel
      by_cases hlt : k < s.size
      · cases ha : smallB s[k] with
        | true =>
          have hok1 := Lib.hid (show ∀ j (hj : j < s.size), j < k + 1 → alnumB s[j] = true from fun j hj hjk => by
              by_cases e : j = k
              · subst e; unfold alnumB; rw [ha]; rfl
              · exact hok.out j hj (by omega))
          have D := Lib.hid (p := ∀ w, Calls Tryz.prog 88 #[.int .u8 s[k].toNat] w fun e w' => e = .returned (.bool true) ∧ w = w') (fun w => by have := wSmall_any s[k] w; rwa [ha] at this)
          clear ha C
          go_wp2_with (go_at_call 88; refine (D.out _).mono ?_; rintro e w' ⟨rfl, rfl⟩)
          go_round
          case rel => exact ⟨k + 1, by omega, by omega, by go_num, hok1⟩
          case measure => simp [intOf]; omega
        | false =>
          have D := Lib.hid (p := ∀ w, Calls Tryz.prog 88 #[.int .u8 s[k].toNat] w fun e w' => e = .returned (.bool false) ∧ w = w') (fun w => by have := wSmall_any s[k] w; rwa [ha] at this)
          cases hd : digitB s[k] with
          | true =>
            have hok1 := Lib.hid (show ∀ j (hj : j < s.size), j < k + 1 → alnumB s[j] = true from fun j hj hjk => by
                by_cases e : j = k
                · subst e; unfold alnumB; rw [ha, hd]; rfl
                · exact hok.out j hj (by omega))
            have E := Lib.hid (p := ∀ w, Calls Tryz.prog 89 #[.int .u8 s[k].toNat] w fun e w' => e = .returned (.bool true) ∧ w = w') (fun w => by have := wDigit_any s[k] w; rwa [hd] at this)
            clear ha hd C
            go_wp2_with (first | (go_at_call 88; refine (D.out _).mono ?_; rintro e w' ⟨rfl, rfl⟩) | (go_at_call 89; refine (E.out _).mono ?_; rintro e w' ⟨rfl, rfl⟩))
            go_round
            case rel => exact ⟨k + 1, by omega, by omega, by go_num, hok1⟩
            case measure => simp [intOf]; omega
          | false =>
            have E := Lib.hid (p := ∀ w, Calls Tryz.prog 89 #[.int .u8 s[k].toNat] w fun e w' => e = .returned (.bool false) ∧ w = w') (fun w => by have := wDigit_any s[k] w; rwa [hd] at this)
            have R3 := Lib.hid (R2.out.trans (all_no hlt (by unfold alnumB; rw [ha, hd]; rfl)))
            clear ha hd C
            go_wp2_with (first | (go_at_call 88; refine (D.out _).mono ?_; rintro e w' ⟨rfl, rfl⟩) | (go_at_call 89; refine (E.out _).mono ?_; rintro e w' ⟨rfl, rfl⟩))
            go_ret
            exact ⟨ret_b (a := false) R3.out.symm, rfl⟩
      · have R3 := Lib.hid (R2.out.trans (all_yes fun j hj => hok.out j hj (by omega)))
        go_wp2_with fail
        go_ret
        exact ⟨ret_b (a := true) R3.out.symm, rfl⟩

end Go.Proofs.YteegdemnajhehaaGreatDoor

namespace Go.Proofs.YteegdemnajhehaaGreatDoor
open Go.RowKit

theorem run_app {q : UInt8 → Bool} : ∀ (x r : List UInt8), (∀ c ∈ x, q c = true) → (∀ c t, r = c :: t → q c = false) → runL q (x ++ r) = x.length
  | [], r, _, h => by
    cases r with
    | nil => rfl
    | cons c t =>
      unfold runL
      rw [List.nil_append, List.takeWhile_cons_of_neg (by rw [h c t rfl]; decide)]
  | c :: x, r, h, h2 => by
    have ih := run_app x r (fun d hd => h d (by simp [hd])) h2
    unfold runL at ih ⊢
    rw [List.cons_append, List.takeWhile_cons_of_pos (h c (by simp)), List.length_cons, ih, List.length_cons]

/-- What may stand behind a word: nothing, or a blank. -/
def Blank (r : List UInt8) : Prop := r = [] ∨ ∃ t, r = 32 :: t

theorem Blank.not {q : UInt8 → Bool} {r : List UInt8} (h : Blank r) (hq : q 32 = false) : ∀ c t, r = c :: t → q c = false := by
  rintro c t rfl
  rcases h with h | ⟨t', h⟩
  · cases h
  · cases h; exact hq

theorem take_all (q : UInt8 → Bool) (l : List UInt8) : ∀ c ∈ l.take (runL q l), q c = true := by
  rw [take_run]
  exact fun c hc => List.all_eq_true.1 List.all_takeWhile c hc

theorem run_take {q : UInt8 → Bool} (hq : q 32 = false) (l : List UInt8) {r : List UInt8} (hr : Blank r) : runL q (l.take (runL q l) ++ r) = runL q l := by
  rw [run_app _ _ (take_all q l) (hr.not hq), List.length_take]
  have := run_le q l
  omega

theorem head_take {l r : List UInt8} {n : Nat} (hn : 1 ≤ n) (hl : n ≤ l.length) : (l.take n ++ r).head? = l.head? := by
  cases l with
  | nil => simp at hl; omega
  | cons c t =>
    obtain ⟨m, rfl⟩ : ∃ m, n = m + 1 := ⟨n - 1, by omega⟩
    rfl

theorem name_back (l : List UInt8) {r : List UInt8} (hr : Blank r) {n : Nat} {k v : Int} (h : nameF l = .tok k n v) : nameF (l.take n ++ r) = .tok k n v := by
  unfold nameF at h ⊢
  split at h
  · cases h
  · rename_i h8
    cases h
    rw [run_take (by decide) l hr, if_neg h8]

theorem num_back (l : List UInt8) {r : List UInt8} (hr : Blank r) (h1 : 1 ≤ runL digitB l) {n : Nat} {k v : Int} (h : numF l = .tok k n v) : numF (l.take n ++ r) = .tok k n v := by
  unfold numF at h
  split at h
  · cases h
  · rename_i hno
    split at h
    · cases h
    · rename_i hv
      cases h
      have hle := run_le digitB l
      have hlen : (l.take (runL digitB l)).length = runL digitB l := by rw [List.length_take]; omega
      unfold numF
      rw [run_take (by decide) l hr, head_take h1 hle, List.take_append_of_le_length (by omega), List.take_take, Nat.min_self, List.drop_append, hlen]
      rw [if_neg, if_neg hv]
      rintro (h | ⟨d, h, hd⟩)
      · exact hno (.inl h)
      · rw [List.drop_of_length_le (by omega), List.nil_append, Nat.sub_self, List.drop_zero] at h
        rcases hr with rfl | ⟨t, rfl⟩
        · cases h
        · cases h
          cases hd

theorem two_blank (c : UInt8) : twoSign c 32 = false := rfl

theorem sign_back (l : List UInt8) {r : List UInt8} (hr : Blank r) (h0 : ¬ signL l = 0) : signL (l.take (signL l) ++ r) = signL l := by
  have one : ∀ c : UInt8, oneSign c = true → signL ([c] ++ r) = 1 := fun c hc => by
    rcases hr with rfl | ⟨t, rfl⟩
    · show (if oneSign c = true then 1 else 0) = 1
      rw [if_pos hc]
    · show (if twoSign c 32 = true then 2 else if oneSign c = true then 1 else 0) = 1
      rw [two_blank, if_neg (by decide), if_pos hc]
  match l with
  | [] => exact absurd rfl h0
  | [c] =>
    have e : signL [c] = if oneSign c = true then 1 else 0 := rfl
    rw [e] at h0 ⊢
    cases hc : oneSign c with
    | false => rw [hc] at h0; exact absurd rfl h0
    | true => rw [if_pos rfl]; exact one c hc
  | c :: d :: q =>
    have e : signL (c :: d :: q) = if twoSign c d = true then 2 else if oneSign c = true then 1 else 0 := rfl
    rw [e] at h0 ⊢
    cases h2 : twoSign c d with
    | true =>
      rw [if_pos rfl]
      show (if twoSign c d = true then 2 else if oneSign c = true then 1 else 0) = 2
      rw [if_pos h2]
    | false =>
      rw [h2] at h0
      rw [if_neg (by decide)] at h0 ⊢
      cases hc : oneSign c with
      | false => rw [hc] at h0; exact absurd rfl h0
      | true => rw [if_pos rfl]; exact one c hc

theorem first_back {l : List UInt8} {r : List UInt8} (hr : Blank r) {n : Nat} {k v : Int} (h : firstF l = .tok k n v) : firstF (l.take n ++ r) = .tok k n v := by
  obtain ⟨hn, hl⟩ := first_len h
  cases l with
  | nil => cases h
  | cons c t =>
    obtain ⟨x, hx⟩ : ∃ x, (c :: t).take n ++ r = c :: x := by
      obtain ⟨m, rfl⟩ : ∃ m, n = m + 1 := ⟨n - 1, by omega⟩
      exact ⟨_, rfl⟩
    simp only [firstF] at h
    rw [hx]
    simp only [firstF]
    rw [← hx]
    split at h
    · rename_i hs
      rw [if_pos hs]; exact name_back _ hr h
    · rename_i hs
      rw [if_neg hs]
      split at h
      · rename_i hd
        rw [if_pos hd]; exact num_back _ hr (run_pos hd) h
      · rename_i hd
        rw [if_neg hd]
        unfold signF at h ⊢
        split at h
        · cases h
        · rename_i h0
          cases h
          rw [sign_back _ hr h0, if_neg h0]

/-- A token, but for its place. -/
def coreT (t : Tk) : Int × List UInt8 × Int := (t.kind, t.text, t.num)

theorem lex_back (l : List UInt8) (p : Nat) : ∀ ts, lexL l p = .ok ts → ∀ q, ∃ ts', lexL (textsT ts) q = .ok ts' ∧ ts'.map coreT = ts.map coreT := by
  refine lex_induct (C := fun l p => ∀ ts, lexL l p = .ok ts → ∀ q, ∃ ts', lexL (textsT ts) q = .ok ts' ∧ ts'.map coreT = ts.map coreT) ?_ ?_ ?_ ?_ l.length l p (Nat.le_refl _)
  · intro p ts h q
    rw [lex_nil] at h; cases h
    exact ⟨[], lex_nil q, rfl⟩
  · intro r p ih ts h
    rw [lex_blank] at h
    exact ih ts h
  · intro l p e h1 h0 hf ts h
    rw [lex_bad h0 h1 hf] at h; cases h
  · intro l p k n v h1 h0 hf hn hl ih ts h q
    rw [lex_tok h1 hn hf] at h
    obtain ⟨ts', h', rfl⟩ := after_ok h
    have go : ∀ r, Blank r → ∀ T, lexL r (q + n) = .ok T → lexL (l.take n ++ r) q = .ok (⟨k, l.take n, v, q⟩ :: T) := fun r hr T hT => by
      have ht : (l.take n).length = n := by rw [List.length_take]; omega
      rw [lex_tok (by rw [head_take hn hl]; exact h1) hn (first_back hr hf)]
      rw [show (l.take n ++ r).drop n = r by rw [List.drop_append, ht, List.drop_of_length_le (by omega), Nat.sub_self]; rfl, show (l.take n ++ r).take n = l.take n by rw [List.take_append_of_le_length (by omega), List.take_take, Nat.min_self], hT]
      rfl
    cases ts' with
    | nil =>
      refine ⟨[⟨k, l.take n, v, q⟩], ?_, ?_⟩
      · have := go [] (.inl rfl) [] (lex_nil _)
        rw [List.append_nil] at this
        exact this
      · rfl
    | cons t ts' =>
      obtain ⟨T, hT, hc⟩ := ih (t :: ts') h' (q + n + 1)
      refine ⟨⟨k, l.take n, v, q⟩ :: T, ?_, ?_⟩
      · have e : textsT ([⟨k, l.take n, v, p⟩] ++ t :: ts') = l.take n ++ 32 :: textsT (t :: ts') := rfl
        rw [e]
        exact go _ (.inr ⟨_, rfl⟩) T ((lex_blank _ _).trans hT)
      · rw [List.map_cons, hc]
        rfl

theorem lex_bad_ne (l : List UInt8) (p : Nat) : ∀ q e, lexL l p = .bad q e → e = 1 ∨ e = 2 ∨ e = 5 := by
  refine lex_induct (C := fun l p => ∀ q e, lexL l p = .bad q e → e = 1 ∨ e = 2 ∨ e = 5) ?_ ?_ ?_ ?_ l.length l p (Nat.le_refl _)
  · intro p q e h
    rw [lex_nil] at h; cases h
  · intro r p ih q e h
    rw [lex_blank] at h
    exact ih q e h
  · intro l p e h1 h0 hf q e2 h
    rw [lex_bad h0 h1 hf] at h; cases h
    exact first_bad hf
  · intro l p k n v h1 h0 hf hn hl ih q e h
    rw [lex_tok h1 hn hf] at h
    cases hx : lexL (l.drop n) (p + n) with
    | ok ts => rw [hx] at h; cases h
    | bad q' e' => rw [hx] at h; cases h; exact ih _ _ hx

theorem lexT_bad_ne {l : List UInt8} {p : Nat} {e : Int} (h : lexT l = .bad p e) : (e == 0) = false ∧ (e != 0) = true := by
  have : e = 4 ∨ e = 1 ∨ e = 2 ∨ e = 5 := by
    unfold lexT at h
    split at h
    · cases h; exact .inl rfl
    · exact .inr (lex_bad_ne _ _ _ _ h)
  rcases this with h | h | h | h <;> rw [h] <;> exact ⟨by decide, by decide⟩

theorem lexT_back {l : List UInt8} {ts : List Tk} (h : lexT l = .ok ts) (hl : l.length ≤ 500) : ∃ ts', lexT (textsT ts) = .ok ts' ∧ ts'.map coreT = ts.map coreT := by
  unfold lexT at h
  rw [if_neg (by omega)] at h
  obtain ⟨ts', h1, h2⟩ := lex_back l 0 ts h 0
  have := texts_len h
  refine ⟨ts', ?_, h2⟩
  unfold lexT
  rw [if_neg (by omega)]
  exact h1

end Go.Proofs.YteegdemnajhehaaGreatDoor

namespace Go.Proofs.YteegdemnajhehaaGreatDoor
open Go.RowKit

/-- What follows a word or a number ends it. -/
def StopB (r : List UInt8) : Prop := ∀ c t, r = c :: t → alnumB c = false

theorem stop_nil : StopB [] := fun c t h => by cases h
theorem stop_blank (r : List UInt8) : StopB (32 :: r) := fun c t h => by cases h; decide
theorem stop_shut (r : List UInt8) : StopB (41 :: r) := fun c t h => by cases h; decide

theorem alnum_parts {c : UInt8} (h : alnumB c = false) : smallB c = false ∧ digitB c = false := by
  unfold alnumB at h
  simpa using h

theorem lex_name {x r : List UInt8} (hx : goodB x = true) (hr : StopB r) (p : Nat) : lexL (x ++ r) p = (lexL r (p + x.length)).after [⟨1, x, 0, p⟩] := by
  cases x with
  | nil => cases hx
  | cons c t =>
    rw [good_cons] at hx
    simp only [Bool.and_eq_true, decide_eq_true_eq, List.all_eq_true] at hx
    obtain ⟨⟨h1, h2⟩, h3⟩ := hx
    have hall : ∀ d ∈ c :: t, alnumB d = true := fun d hd => by
      rcases List.mem_cons.1 hd with rfl | hd
      · unfold alnumB; rw [h1]; rfl
      · exact h3 d hd
    have hrun := run_app (c :: t) r hall hr
    have hf : firstF (c :: t ++ r) = .tok 1 (c :: t).length 0 := by
      rw [List.cons_append]
      simp only [firstF]
      rw [if_pos h1, ← List.cons_append]
      unfold nameF
      rw [hrun, if_neg (by simp; omega)]
    have h32 : ¬ (c :: t ++ r).head? = some 32 := by
      intro e
      have : c = 32 := by simpa using e
      rw [this] at h1
      cases h1
    rw [lex_tok h32 (by simp) hf, List.drop_left, List.take_left]

theorem itoa_dec {n : Int} (h : 0 ≤ n) : Lib.itoa n = Lib.decDigits n.toNat := by unfold Lib.itoa; rw [if_neg (by omega)]

theorem lex_num {n : Int} {r : List UInt8} (h0 : 0 ≤ n) (h1 : n ≤ 9223372036854775807) (hr : StopB r) (p : Nat) : lexL (Lib.itoa n ++ r) p = (lexL r (p + (Lib.itoa n).length)).after [⟨2, Lib.itoa n, n, p⟩] := by
  rw [itoa_dec h0]
  obtain ⟨c, t, hc, hd⟩ := dec_cons n.toNat
  have hall : ∀ d ∈ Lib.decDigits n.toNat, digitB d = true := fun d hd => (digit_iff d).2 (dec_digits _ d hd)
  have hrun := run_app (Lib.decDigits n.toNat) r hall (fun c t e => (alnum_parts (hr c t e)).2)
  have hval := dec_val n.toNat
  have hz : ∀ q, Lib.decDigits n.toNat = 48 :: q → q = [] := fun q hq => by
    rcases Nat.eq_zero_or_pos n.toNat with h | h
    · rw [h, dec_zero] at hq; simpa using hq.symm
    · exact absurd hq (dec_head _ h q)
  obtain ⟨D, hD⟩ : ∃ D, Lib.decDigits n.toNat = D := ⟨_, rfl⟩
  rw [hD] at hc hall hrun hval hz ⊢
  have hcd : digitB c = true := hall c (by rw [hc]; simp)
  have hcs : smallB c = false := by
    unfold smallB
    rw [decide_eq_false (by have := (digit_iff c).1 hcd; unfold isD at this; omega)]
    rfl
  have hf : firstF (D ++ r) = .tok 2 D.length n := by
    have e : firstF (D ++ r) = numF (D ++ r) := by
      rw [hc, List.cons_append]
      simp only [firstF]
      rw [if_neg (by rw [hcs]; decide), if_pos hcd]
    rw [e]
    unfold numF
    rw [hrun, List.take_left, List.drop_left, hval, if_neg, if_neg (by omega)]
    · rw [show ((n.toNat : Nat) : Int) = n by omega]
    · rintro (⟨a, b⟩ | ⟨d, a, b⟩)
      · rw [hc, List.cons_append] at b
        have hc48 : c = 48 := by simpa using b
        have := hz t (by rw [hc, hc48])
        rw [hc, this] at a
        simp at a
      · cases r with
        | nil => cases a
        | cons c' t' =>
          have hd' : c' = d := by simpa using a
          rw [← hd', (alnum_parts (hr c' t' rfl)).1] at b
          cases b
  have h32 : ¬ (D ++ r).head? = some 32 := by
    intro e
    rw [hc] at e
    have : c = 32 := by simpa using e
    rw [this] at hcd
    cases hcd
  rw [lex_tok h32 (by rw [hc]; simp) hf, List.drop_left, List.take_left]

/-- The signs of one byte that begin no longer one. -/
def plainSign (c : UInt8) : Prop := c = 40 ∨ c = 41 ∨ c = 43 ∨ c = 45 ∨ c = 42 ∨ c = 47 ∨ c = 37

theorem lex_sign {c : UInt8} (hc : plainSign c) (r : List UInt8) (p : Nat) : lexL (c :: r) p = (lexL r (p + 1)).after [⟨3, [c], 0, p⟩] := by
  have h1 : smallB c = false ∧ digitB c = false ∧ oneSign c = true ∧ (∀ d, twoSign c d = false) ∧ ¬ c = 32 := by
    rcases hc with rfl | rfl | rfl | rfl | rfl | rfl | rfl <;> refine ⟨by decide, by decide, by decide, fun d => ?_, by decide⟩ <;> (unfold twoSign; rw [Bool.and_eq_false_iff]; right; decide)
  obtain ⟨s1, s2, s3, s4, s5⟩ := h1
  have hs : signL (c :: r) = 1 := by
    cases r with
    | nil =>
      show (if oneSign c = true then 1 else 0) = 1
      rw [if_pos s3]
    | cons d t =>
      show (if twoSign c d = true then 2 else if oneSign c = true then 1 else 0) = 1
      rw [if_neg (by rw [s4 d]; decide), if_pos s3]
  have hf : firstF (c :: r) = .tok 3 1 0 := by
    simp only [firstF]
    rw [if_neg (by rw [s1]; decide), if_neg (by rw [s2]; decide)]
    unfold signF
    rw [hs]
    rfl
  rw [lex_tok (by simpa using s5) (Nat.le_refl _) hf]
  rfl

/-- The tokens of a node, its kids' tokens given. -/
def tokN (o m : ByteArray) (n : Int) (ts : List (List (Int × List UInt8 × Int))) : List (Int × List UInt8 × Int) :=
  if isNum o = true then [(2, Lib.itoa n, n)] else if isName o = true then [(1, m.data.toList, 0)]
  else if isNeg o = true then (3, [45], 0) :: ts.headD [] else (3, [40], 0) :: (ts.headD [] ++ (3, o.data.toList, 0) :: (ts.tail.headD [] ++ [(3, [41], 0)]))

def tokF : F → List (List (Int × List UInt8 × Int))
  | .nil => []
  | .cons o m n ks r => tokN o m n (tokF ks) :: tokF r

def tokE (t : TN) : List (Int × List UInt8 × Int) := tokN t.op t.nm t.n (tokF t.ks)

/-- The tree, but for what its words don't say. -/
def canF : F → F
  | .nil => .nil
  | .cons o m n ks r => .cons o (if isName o = true then m else ⟨#[]⟩) (if isNum o = true then n else 0) (canF ks) (canF r)
def canT (t : TN) : TN := ⟨t.op, if isName t.op = true then t.nm else ⟨#[]⟩, if isNum t.op = true then t.n else 0, canF t.ks⟩

theorem can_f (t : TN) : (canT t).f = canF t.f := rfl
theorem can_len : ∀ f : F, (canF f).len = f.len
  | .nil => rfl
  | .cons o m n ks r => by rw [canF, F.len, F.len, can_len r]

theorem same_can : ∀ f : F, sameF (canF f) f = true
  | .nil => rfl
  | .cons o m n ks r => by
    rw [canF, sameF, can_len, same_can ks, same_can r]
    cases h1 : isNum o <;> cases h2 : isName o <;> simp

/-- The four sorts of nodes. -/
theorem node_cases {o m : ByteArray} {n : Int} {ks : F} (h : errN o m n ks.len = 0) :
    (isNum o = true ∧ ks = .nil ∧ 0 ≤ n) ∨ (isNum o = false ∧ isName o = true ∧ ks = .nil ∧ goodB m.data.toList = true) ∨
    (isNum o = false ∧ isName o = false ∧ isNeg o = true ∧ ∃ a : TN, ks = a.f) ∨
    (isNum o = false ∧ isName o = false ∧ isNeg o = false ∧ isTwo o = true ∧ ∃ a b : TN, ks = .cons a.op a.nm a.n a.ks b.f) := by
  unfold errN at h
  split at h
  · cases h
  · rename_i h1
    split at h
    · cases h
    · rename_i h2
      split at h
      · cases h
      · rename_i h3
        have ha : arity o = (ks.len : Int) := by simpa using h1
        unfold arity at ha
        cases e1 : isNum o with
        | true =>
          rw [e1, Bool.true_or, if_pos rfl] at ha
          rw [e1] at h3
          refine .inl ⟨rfl, ?_, by simpa using h3⟩
          cases ks with
          | nil => rfl
          | cons _ _ _ _ _ => rw [F.len] at ha; omega
        | false =>
          cases e2 : isName o with
          | true =>
            rw [e1, e2, Bool.or_true, if_pos rfl] at ha
            rw [e2] at h2
            refine .inr (.inl ⟨rfl, rfl, ?_, by simpa using h2⟩)
            cases ks with
            | nil => rfl
            | cons _ _ _ _ _ => rw [F.len] at ha; omega
          | false =>
            rw [e1, e2, Bool.or_false, if_neg (by decide)] at ha
            cases e3 : isNeg o with
            | true =>
              rw [e3, if_pos rfl] at ha
              refine .inr (.inr (.inl ⟨rfl, rfl, rfl, ?_⟩))
              cases ks with
              | nil => rw [F.len] at ha; omega
              | cons o' m' n' k' r' =>
                cases r' with
                | nil => exact ⟨⟨o', m', n', k'⟩, rfl⟩
                | cons _ _ _ _ _ => rw [F.len, F.len] at ha; omega
            | false =>
              rw [e3, if_neg (by decide)] at ha
              cases e4 : isTwo o with
              | true =>
                rw [e4, if_pos rfl] at ha
                refine .inr (.inr (.inr ⟨rfl, rfl, rfl, rfl, ?_⟩))
                cases ks with
                | nil => rw [F.len] at ha; omega
                | cons o' m' n' k' r' =>
                  cases r' with
                  | nil => rw [F.len, F.len] at ha; omega
                  | cons o2 m2 n2 k2 r2 =>
                    cases r2 with
                    | nil => exact ⟨⟨o', m', n', k'⟩, ⟨o2, m2, n2, k2⟩, rfl⟩
                    | cons _ _ _ _ _ => rw [F.len, F.len, F.len] at ha; omega
              | false =>
                rw [e4, if_neg (by decide)] at ha
                omega

theorem two_sign {o : ByteArray} (h : isTwo o = true) : signO o.data.toList ∧ ∃ c, o.data.toList = [c] ∧ plainSign c := by
  unfold isTwo at h
  simp only [Bool.or_eq_true, beq_iff_eq] at h
  rcases h with (((h | h) | h) | h) | h
  · exact ⟨.inl h, 43, h, .inr (.inr (.inl rfl))⟩
  · exact ⟨.inr (.inl h), 45, h, .inr (.inr (.inr (.inl rfl)))⟩
  · exact ⟨.inr (.inr (.inl h)), 42, h, .inr (.inr (.inr (.inr (.inl rfl))))⟩
  · exact ⟨.inr (.inr (.inr (.inl h))), 47, h, .inr (.inr (.inr (.inr (.inr (.inl rfl)))))⟩
  · exact ⟨.inr (.inr (.inr (.inr h))), 37, h, .inr (.inr (.inr (.inr (.inr (.inr rfl)))))⟩

/-- Numbers that a text may tell. -/
def NumsF : F → Prop
  | .nil => True
  | .cons _ _ n ks r => n ≤ 9223372036854775807 ∧ NumsF ks ∧ NumsF r

/-- Each tree of a row is such. -/
def EachF (P : TN → Prop) : F → Prop
  | .nil => True
  | .cons o m n ks r => P ⟨o, m, n, ks⟩ ∧ EachF P r

/-- An induction over trees that may be: each sort of node. -/
theorem tree_induct {P : TN → Prop} (hnum : ∀ o m n, isNum o = true → 0 ≤ n → n ≤ 9223372036854775807 → P ⟨o, m, n, .nil⟩)
    (hname : ∀ o m n, isNum o = false → isName o = true → goodB m.data.toList = true → P ⟨o, m, n, .nil⟩)
    (hneg : ∀ o m n (a : TN), isNum o = false → isName o = false → isNeg o = true → P a → P ⟨o, m, n, a.f⟩)
    (htwo : ∀ o m n (a b : TN), isNum o = false → isName o = false → isNeg o = false → isTwo o = true → P a → P b → P ⟨o, m, n, .cons a.op a.nm a.n a.ks b.f⟩) :
    ∀ f : F, chkF f = 0 → NumsF f → EachF P f
  | .nil, _, _ => trivial
  | .cons o m n ks r, h, hn => by
    rw [chkF] at h
    by_cases h1 : errN o m n ks.len = 0
    · rw [if_pos h1] at h
      by_cases h2 : chkF ks = 0
      · rw [if_pos h2] at h
        have ik := tree_induct hnum hname hneg htwo ks h2 hn.2.1
        refine ⟨?_, tree_induct hnum hname hneg htwo r h hn.2.2⟩
        rcases node_cases h1 with ⟨a, rfl, b⟩ | ⟨a, b, rfl, c⟩ | ⟨a, b, c, k, rfl⟩ | ⟨a, b, c, d, k, l, rfl⟩
        · exact hnum o m n a b hn.1
        · exact hname o m n a b c
        · exact hneg o m n k a b c ik.1
        · exact htwo o m n k l a b c d ik.1 ik.2.1
      · rw [if_neg h2] at h; exact absurd h h2
    · rw [if_neg h1] at h; exact absurd h h1

theorem tree_induct1 {P : TN → Prop} (hnum : ∀ o m n, isNum o = true → 0 ≤ n → n ≤ 9223372036854775807 → P ⟨o, m, n, .nil⟩)
    (hname : ∀ o m n, isNum o = false → isName o = true → goodB m.data.toList = true → P ⟨o, m, n, .nil⟩)
    (hneg : ∀ o m n (a : TN), isNum o = false → isName o = false → isNeg o = true → P a → P ⟨o, m, n, a.f⟩)
    (htwo : ∀ o m n (a b : TN), isNum o = false → isName o = false → isNeg o = false → isTwo o = true → P a → P b → P ⟨o, m, n, .cons a.op a.nm a.n a.ks b.f⟩)
    (t : TN) (h : OkT t) (hn : NumsF t.f) : P t := (tree_induct hnum hname hneg htwo t.f h hn).1

theorem text_num {o m : ByteArray} {n : Int} {ks : F} (h : isNum o = true) : textE ⟨o, m, n, ks⟩ = Lib.itoa n ∧ tokE ⟨o, m, n, ks⟩ = [(2, Lib.itoa n, n)] := by
  unfold textE tokE txtN tokN; rw [if_pos h, if_pos h]; exact ⟨rfl, rfl⟩
theorem text_name {o m : ByteArray} {n : Int} {ks : F} (h : isNum o = false) (h2 : isName o = true) : textE ⟨o, m, n, ks⟩ = m.data.toList ∧ tokE ⟨o, m, n, ks⟩ = [(1, m.data.toList, 0)] := by
  unfold textE tokE txtN tokN
  simp only
  rw [if_neg (by rw [h]; decide), if_pos h2, if_neg (by rw [h]; decide), if_pos h2]; exact ⟨rfl, rfl⟩
theorem text_neg {o m : ByteArray} {n : Int} (a : TN) (h : isNum o = false) (h2 : isName o = false) (h3 : isNeg o = true) : textE ⟨o, m, n, a.f⟩ = 45 :: textE a ∧ tokE ⟨o, m, n, a.f⟩ = (3, [45], 0) :: tokE a := by
  show txtN o m n (txtF a.f) = _ ∧ tokN o m n (tokF a.f) = _
  rw [txtN, tokN, if_neg (by rw [h]; decide), if_neg (by rw [h2]; decide), if_pos h3, if_neg (by rw [h]; decide), if_neg (by rw [h2]; decide), if_pos h3]; exact ⟨rfl, rfl⟩
theorem text_two {o m : ByteArray} {n : Int} (a b : TN) (h : isNum o = false) (h2 : isName o = false) (h3 : isNeg o = false) :
    textE ⟨o, m, n, .cons a.op a.nm a.n a.ks b.f⟩ = 40 :: (textE a ++ 32 :: (o.data.toList ++ 32 :: (textE b ++ [41]))) ∧
    tokE ⟨o, m, n, .cons a.op a.nm a.n a.ks b.f⟩ = (3, [40], 0) :: (tokE a ++ (3, o.data.toList, 0) :: (tokE b ++ [(3, [41], 0)])) := by
  show txtN o m n (txtF (.cons a.op a.nm a.n a.ks b.f)) = _ ∧ tokN o m n (tokF (.cons a.op a.nm a.n a.ks b.f)) = _
  rw [txtN, tokN, if_neg (by rw [h]; decide), if_neg (by rw [h2]; decide), if_neg (by rw [h3]; decide), if_neg (by rw [h]; decide), if_neg (by rw [h2]; decide), if_neg (by rw [h3]; decide)]; exact ⟨rfl, rfl⟩

/-- The words of a tree are its tokens. -/
def LexOK (t : TN) : Prop := ∀ r, StopB r → ∀ p, ∃ ts, ts.map coreT = tokE t ∧ lexL (textE t ++ r) p = (lexL r (p + (textE t).length)).after ts

theorem lex_tree (t : TN) (h : OkT t) (hn : NumsF t.f) : LexOK t := by
  refine tree_induct1 (P := LexOK) ?_ ?_ ?_ ?_ t h hn
  · intro o m n h1 h2 h3 r hr p
    rw [(text_num h1).1, (text_num h1).2]
    exact ⟨[⟨2, Lib.itoa n, n, p⟩], rfl, lex_num h2 h3 hr p⟩
  · intro o m n h1 h2 h3 r hr p
    rw [(text_name h1 h2).1, (text_name h1 h2).2]
    exact ⟨[⟨1, m.data.toList, 0, p⟩], rfl, lex_name h3 hr p⟩
  · intro o m n a h1 h2 h3 ih r hr p
    rw [(text_neg a h1 h2 h3).1, (text_neg a h1 h2 h3).2]
    obtain ⟨ts, e1, e2⟩ := ih r hr (p + 1)
    refine ⟨⟨3, [45], 0, p⟩ :: ts, by rw [List.map_cons, e1]; rfl, ?_⟩
    rw [List.cons_append, lex_sign (.inr (.inr (.inr (.inl rfl)))), e2, after_after, List.length_cons, show p + ((textE a).length + 1) = p + 1 + (textE a).length by omega]
    rfl
  · intro o m n a b h1 h2 h3 h4 ia ib r hr p
    rw [(text_two a b h1 h2 h3).1, (text_two a b h1 h2 h3).2]
    obtain ⟨_, c, hc, hp⟩ := two_sign h4
    rw [hc]
    obtain ⟨ta, a1, a2⟩ := ia (32 :: ([c] ++ 32 :: (textE b ++ [41]) ++ r)) (stop_blank _) (p + 1)
    obtain ⟨tb, b1, b2⟩ := ib (41 :: r) (stop_shut r) (p + 1 + (textE a).length + 1 + 1 + 1)
    refine ⟨⟨3, [40], 0, p⟩ :: (ta ++ ⟨3, [c], 0, p + 1 + (textE a).length + 1⟩ :: (tb ++ [⟨3, [41], 0, p + 1 + (textE a).length + 1 + 1 + 1 + (textE b).length⟩])), ?_, ?_⟩
    · simp only [List.map_cons, List.map_append, a1, b1]
      rfl
    · have e0 : 40 :: (textE a ++ 32 :: ([c] ++ 32 :: (textE b ++ [41]))) ++ r = 40 :: (textE a ++ 32 :: ([c] ++ 32 :: (textE b ++ [41]) ++ r)) := by simp
      rw [e0, lex_sign (.inl rfl), a2, lex_blank]
      have e1 : [c] ++ 32 :: (textE b ++ [41]) ++ r = c :: 32 :: (textE b ++ 41 :: r) := by simp
      rw [e1, lex_sign hp, lex_blank, b2, lex_sign (.inr (.inl rfl))]
      simp only [after_after, List.length_cons, List.length_append, List.length_nil]
      have e2 : p + 1 + (textE a).length + 1 + 1 + 1 + (textE b).length + 1 = p + ((textE a).length + (0 + 1 + ((textE b).length + (0 + 1) + 1) + 1) + 1) := by omega
      rw [e2]
      congr 1

theorem at_core {L : List Tk} {pre post : List (Int × List UInt8 × Int)} {c : Int × List UInt8 × Int} (h : L.map coreT = pre ++ c :: post) : ∃ t, L[pre.length]? = some t ∧ t.kind = c.1 ∧ t.text = c.2.1 ∧ t.num = c.2.2 := by
  have e : (L.map coreT)[pre.length]? = some c := by rw [h]; simp
  rw [List.getElem?_map] at e
  cases hx : L[pre.length]? with
  | none => rw [hx] at e; cases e
  | some t =>
    rw [hx] at e
    have e' := Option.some.inj e
    unfold coreT at e'
    exact ⟨t, rfl, by rw [← e'], by rw [← e'], by rw [← e']⟩

theorem isS_core {L : List Tk} {pre post : List (Int × List UInt8 × Int)} {x y : List UInt8} {v : Int} (h : L.map coreT = pre ++ (3, x, v) :: post) {p : Nat} (hp : p = pre.length) : isS L y p = (x == y) ∧ opAt L p = x := by
  obtain ⟨t, h1, h2, h3, _⟩ := at_core h
  subst hp
  unfold isS opAt
  rw [h1]
  simp only
  rw [h2, h3]
  exact ⟨by simp, rfl⟩

theorem tick_ok {s : RS} (hb : s.bad = 0) (h : s.cnt + 1 ≤ 32) : tickR s = ⟨s.pos + 1, s.cnt + 1, 0, s.whr⟩ := by
  unfold tickR; rw [if_pos hb, if_neg (by omega)]

theorem ba_toList (o : ByteArray) : (⟨o.data.toList.toArray⟩ : ByteArray) = o := text_eq (by simp)

/-- The tokens of a tree are read as that tree. -/
def ReadOK (t : TN) : Prop := ∀ (L : List Tk) (pre post : List (Int × List UInt8 × Int)), L.map coreT = pre ++ (tokE t ++ post) → ∀ s : RS, s.pos = pre.length → s.bad = 0 → s.cnt + sizeT t ≤ 32 →
  pE L .fac s = (canT t, ⟨s.pos + (tokE t).length, s.cnt + sizeT t, 0, s.whr⟩)

theorem num_op {o : ByteArray} (h : isNum o = true) : o = ⟨#[110, 117, 109]⟩ := by
  unfold isNum bNum at h
  exact text_eq (by rw [beq_iff_eq.1 h])
theorem name_op {o : ByteArray} (h : isName o = true) : o = ⟨#[110, 97, 109, 101]⟩ := by
  unfold isName bName at h
  exact text_eq (by rw [beq_iff_eq.1 h])
theorem neg_op {o : ByteArray} (h : isNeg o = true) : o = ⟨#[110, 101, 103]⟩ := by
  unfold isNeg bNeg at h
  exact text_eq (by rw [beq_iff_eq.1 h])

theorem read_tree (t : TN) (h : OkT t) (hn : NumsF t.f) : ReadOK t := by
  refine tree_induct1 (P := ReadOK) ?_ ?_ ?_ ?_ t h hn
  · intro o m n h1 h2 h3 L pre post hL s hp hb hc
    have hs : sizeT ⟨o, m, n, .nil⟩ = 1 := rfl
    rw [hs] at hc ⊢
    rw [(text_num h1).2] at hL ⊢
    obtain ⟨tk, k1, k2, k3, k4⟩ := at_core (c := (2, Lib.itoa n, n)) hL
    rw [pE_fac, if_pos hb, hp, k1]
    simp only
    rw [if_pos k2, tick_ok hb hc, k4]
    have : canT ⟨o, m, n, .nil⟩ = numT n := by
      unfold canT
      simp only
      rw [if_pos h1, num_op h1]
      rfl
    rw [this, hp]
    rfl
  · intro o m n h1 h2 h3 L pre post hL s hp hb hc
    have hs : sizeT ⟨o, m, n, .nil⟩ = 1 := rfl
    rw [hs] at hc ⊢
    rw [(text_name h1 h2).2] at hL ⊢
    obtain ⟨tk, k1, k2, k3, k4⟩ := at_core (c := (1, m.data.toList, 0)) hL
    have k2 : tk.kind = 1 := k2
    rw [pE_fac, if_pos hb, hp, k1]
    simp only
    rw [if_neg (by rw [k2]; decide), if_pos k2, tick_ok hb hc, k3]
    have : canT ⟨o, m, n, .nil⟩ = nameT m.data.toList := by
      unfold canT nameT
      simp only
      rw [if_pos h2, if_neg (by rw [h1]; decide), ba_toList, name_op h2]
      rfl
    rw [this, hp]
    rfl
  · intro o m n a h1 h2 h3 ih L pre post hL s hp hb hc
    have hs : sizeT ⟨o, m, n, a.f⟩ = 1 + sizeT a := by unfold sizeT; rw [show (⟨o, m, n, a.f⟩ : TN).ks = a.f from rfl, sizeF_tree]; rfl
    rw [hs] at hc ⊢
    rw [(text_neg a h1 h2 h3).2] at hL ⊢
    obtain ⟨tk, k1, k2, k3, k4⟩ := at_core (pre := pre) (c := (3, [45], 0)) (post := tokE a ++ post) (by rw [hL]; rfl)
    rw [pE_fac, if_pos hb, hp, k1]
    simp only
    rw [if_neg (by rw [k2]; decide), if_neg (by rw [k2]; decide), if_pos k3, tick_ok hb (by omega)]
    have e := ih L (pre ++ [(3, [45], 0)]) post (by rw [hL]; simp) ⟨s.pos + 1, s.cnt + 1, 0, s.whr⟩ (by rw [List.length_append]; show s.pos + 1 = _; rw [hp]; rfl) rfl (by show s.cnt + 1 + _ ≤ 32; omega)
    rw [e]
    have : canT ⟨o, m, n, a.f⟩ = negT (canT a) := by
      unfold canT negT
      simp only
      rw [if_neg (by rw [h2]; decide), if_neg (by rw [h1]; decide), neg_op h3]
      rfl
    rw [this]
    show (_, (⟨s.pos + 1 + (tokE a).length, s.cnt + 1 + sizeT a, 0, s.whr⟩ : RS)) = (_, ⟨pre.length + ((tokE a).length + 1), s.cnt + (1 + sizeT a), 0, s.whr⟩)
    rw [hp, show pre.length + 1 + (tokE a).length = pre.length + ((tokE a).length + 1) by omega, show s.cnt + 1 + sizeT a = s.cnt + (1 + sizeT a) by omega]
  · intro o m n a b h1 h2 h3 h4 ia ib L pre post hL s hp hb hc
    have hs : sizeT ⟨o, m, n, .cons a.op a.nm a.n a.ks b.f⟩ = 1 + sizeT a + sizeT b := by unfold sizeT; simp only; rw [sizeF, sizeF_tree]; unfold sizeT; omega
    rw [hs] at hc ⊢
    rw [(text_two a b h1 h2 h3).2] at hL ⊢
    obtain ⟨tk, k1, k2, k3, k4⟩ := at_core (pre := pre) (c := (3, [40], 0)) (post := tokE a ++ (3, o.data.toList, 0) :: (tokE b ++ (3, [41], 0) :: post)) (by rw [hL]; simp)
    rw [pE_fac, if_pos hb, hp, k1]
    simp only
    rw [if_neg (by rw [k2]; decide), if_neg (by rw [k2]; decide), if_neg (by rw [k3]; decide), if_pos k3]
    have hstep : stepR s = ⟨s.pos + 1, s.cnt, 0, s.whr⟩ := by unfold stepR; rw [hb]
    rw [hstep, pE_sum, pE_prod]
    have ea := ia L (pre ++ [(3, [40], 0)]) ((3, o.data.toList, 0) :: (tokE b ++ (3, [41], 0) :: post)) (by rw [hL]; simp) ⟨s.pos + 1, s.cnt, 0, s.whr⟩ (by rw [List.length_append]; show s.pos + 1 = _; rw [hp]; rfl) rfl (by show s.cnt + _ ≤ 32; omega)
    rw [ea]
    simp only
    have hL2 : L.map coreT = (pre ++ (3, [40], 0) :: tokE a) ++ (3, o.data.toList, 0) :: (tokE b ++ (3, [41], 0) :: post) := by rw [hL]; simp
    have hL3 : L.map coreT = (pre ++ (3, [40], 0) :: (tokE a ++ (3, o.data.toList, 0) :: tokE b)) ++ (3, [41], 0) :: post := by rw [hL]; simp
    have p2 : s.pos + 1 + (tokE a).length = (pre ++ (3, [40], 0) :: tokE a).length := by rw [hp]; simp; omega
    have p3 : s.pos + 1 + (tokE a).length + 1 + (tokE b).length = (pre ++ (3, [40], 0) :: (tokE a ++ (3, o.data.toList, 0) :: tokE b)).length := by rw [hp]; simp; omega
    have eb := ib L ((pre ++ (3, [40], 0) :: tokE a) ++ [(3, o.data.toList, 0)]) ((3, [41], 0) :: post) (by rw [hL]; simp) ⟨s.pos + 1 + (tokE a).length + 1, s.cnt + sizeT a + 1, 0, s.whr⟩ (by rw [List.length_append, ← p2]; rfl) rfl (by show s.cnt + sizeT a + 1 + _ ≤ 32; omega)
    have ht := tick_ok (s := ⟨s.pos + 1 + (tokE a).length, s.cnt + sizeT a, 0, s.whr⟩) rfl (by show s.cnt + sizeT a + 1 ≤ 32; omega)
    simp only at ht
    have opE := (isS_core (y := []) hL2 p2).2
    have shutM : isM L (s.pos + 1 + (tokE a).length + 1 + (tokE b).length) = false := by
      unfold isM
      rw [(isS_core (y := [42]) hL3 p3).1, (isS_core (y := [47]) hL3 p3).1, (isS_core (y := [37]) hL3 p3).1]
      rfl
    have shutA : isA L (s.pos + 1 + (tokE a).length + 1 + (tokE b).length) = false := by
      unfold isA
      rw [(isS_core (y := [43]) hL3 p3).1, (isS_core (y := [45]) hL3 p3).1]
      rfl
    have shutS : isS L [41] (s.pos + 1 + (tokE a).length + 1 + (tokE b).length) = true := by
      rw [(isS_core (y := [41]) hL3 p3).1]; rfl
    have hM : isM L (s.pos + 1 + (tokE a).length) = isMul o := by
      unfold isM isMul
      rw [(isS_core (y := [42]) hL2 p2).1, (isS_core (y := [47]) hL2 p2).1, (isS_core (y := [37]) hL2 p2).1]
    have hA : isA L (s.pos + 1 + (tokE a).length) = isAdd o := by
      unfold isA isAdd
      rw [(isS_core (y := [43]) hL2 p2).1, (isS_core (y := [45]) hL2 p2).1]
    have hcan : canT ⟨o, m, n, .cons a.op a.nm a.n a.ks b.f⟩ = twoT o.data.toList (canT a) (canT b) := by
      unfold canT twoT
      simp only
      rw [if_neg (by rw [h2]; decide), if_neg (by rw [h1]; decide), ba_toList]
      rfl
    have fin : ∀ X : TN, closeR L ⟨s.pos + 1 + (tokE a).length + 1 + (tokE b).length, s.cnt + sizeT a + 1 + sizeT b, 0, s.whr⟩ = ⟨pre.length + ((tokE a).length + ((tokE b).length + (0 + 1) + 1) + 1), s.cnt + (1 + sizeT a + sizeT b), 0, s.whr⟩ := fun _ => by
      unfold closeR
      simp only
      rw [shutS, if_neg (by decide)]
      unfold stepR
      simp only
      rw [hp, show pre.length + 1 + (tokE a).length + 1 + (tokE b).length + 1 = pre.length + ((tokE a).length + ((tokE b).length + (0 + 1) + 1) + 1) by omega, show s.cnt + sizeT a + 1 + sizeT b = s.cnt + (1 + sizeT a + sizeT b) by omega]
    rw [hcan]
    simp only [List.length_cons, List.length_append, List.length_nil]
    have hor : isMul o = true ∨ (isMul o = false ∧ isAdd o = true) := by
      have h4' := h4
      unfold isTwo at h4'
      cases hx : isMul o with
      | true => exact .inl rfl
      | false =>
        right
        unfold isMul at hx
        unfold isAdd
        refine ⟨rfl, ?_⟩
        simp only [Bool.or_eq_false_iff] at hx
        simp only [Bool.or_eq_true] at h4' ⊢
        rcases h4' with (((h | h) | h) | h) | h
        · exact .inl h
        · exact .inr h
        · rw [hx.1.1] at h; cases h
        · rw [hx.1.2] at h; cases h
        · rw [hx.2] at h; cases h
    rcases hor with hm | ⟨hm, hadd⟩
    · rw [pE_prodL]
      simp only
      rw [if_pos (by rw [hM, hm]; rfl), ht, eb]
      simp only
      rw [pE_prodL]
      simp only
      rw [if_neg (by rw [shutM]; decide), pE_sumL]
      simp only
      rw [if_neg (by rw [shutA]; decide), opE, fin zeroT]
    · rw [pE_prodL]
      simp only
      rw [if_neg (by rw [hM, hm]; decide), pE_sumL]
      simp only
      rw [if_pos (by rw [hA, hadd]; rfl), ht, pE_prod, eb]
      simp only
      rw [pE_prodL]
      simp only
      rw [if_neg (by rw [shutM]; decide), pE_sumL]
      simp only
      rw [if_neg (by rw [shutA]; decide), opE, fin zeroT]

end Go.Proofs.YteegdemnajhehaaGreatDoor

namespace Go.Proofs.YteegdemnajhehaaGreatDoor
open Go.RowKit

theorem itoa_len {n : Int} (h0 : 0 ≤ n) (h1 : n ≤ 9223372036854775807) : (Lib.itoa n).length ≤ 19 := by
  rw [itoa_dec h0]
  exact dec_len 18 _ (by omega)

theorem good_len {x : List UInt8} (h : goodB x = true) : x.length ≤ 8 := by
  cases x with
  | nil => simp
  | cons c r =>
    rw [good_cons] at h
    simp only [Bool.and_eq_true, decide_eq_true_eq] at h
    have := h.1.2
    simp; omega

theorem text_len (t : TN) (h : OkT t) (hn : NumsF t.f) : (textE t).length ≤ 19 * sizeT t := by
  refine tree_induct1 (P := fun t => (textE t).length ≤ 19 * sizeT t) ?_ ?_ ?_ ?_ t h hn
  · intro o m n h1 h2 h3
    rw [(text_num h1).1]
    have := itoa_len h2 h3
    have hs : sizeT ⟨o, m, n, .nil⟩ = 1 := rfl
    omega
  · intro o m n h1 h2 h3
    rw [(text_name h1 h2).1]
    have := good_len h3
    have hs : sizeT ⟨o, m, n, .nil⟩ = 1 := rfl
    omega
  · intro o m n a h1 h2 h3 ih
    rw [(text_neg a h1 h2 h3).1]
    have hs : sizeT ⟨o, m, n, a.f⟩ = 1 + sizeT a := by unfold sizeT; rw [show (⟨o, m, n, a.f⟩ : TN).ks = a.f from rfl, sizeF_tree]; rfl
    rw [hs, List.length_cons]
    omega
  · intro o m n a b h1 h2 h3 h4 ia ib
    rw [(text_two a b h1 h2 h3).1]
    obtain ⟨_, c, hc, _⟩ := two_sign h4
    have hs : sizeT ⟨o, m, n, .cons a.op a.nm a.n a.ks b.f⟩ = 1 + sizeT a + sizeT b := by unfold sizeT; simp only; rw [sizeF, sizeF_tree]; unfold sizeT; omega
    rw [hs, hc]
    simp only [List.length_cons, List.length_append, List.length_nil]
    omega

/-- A factor that ends where the tokens end is all of it. -/
theorem of_fac {L : List Tk} {t : TN} {c w : Nat} (h : pE L .fac ⟨0, 0, 0, 0⟩ = (t, ⟨L.length, c, 0, w⟩)) : ofL L 0 = .ok t L.length := by
  have e : pE L .sum ⟨0, 0, 0, 0⟩ = (t, ⟨L.length, c, 0, w⟩) := by
    rw [pE_sum, pE_prod, h]
    simp only
    rw [pE_prodL]
    simp only
    rw [if_neg (by rw [isM_end (Nat.le_refl _)]; decide), pE_sumL]
    simp only
    rw [if_neg (by rw [isA_end (Nat.le_refl _)]; decide)]
  unfold ofL
  rw [e]
  rfl

/-- The words of a tree that may be are read as that tree. -/
theorem parse_text (t : TN) (h : OkT t) (hn : NumsF t.f) (hs : sizeT t ≤ 32) : parseX (textE t) = .ok (canT t) := by
  have hlen := text_len t h hn
  obtain ⟨ts, e1, e2⟩ := lex_tree t h hn [] stop_nil 0
  rw [List.append_nil, lex_nil] at e2
  have eT : lexT (textE t) = .ok ts := by
    unfold lexT
    rw [if_neg (by omega), e2]
    simp [LexEnd.after]
  have hl : ts.length = (tokE t).length := by rw [← e1, List.length_map]
  have hr := read_tree t h hn ts [] [] (by rw [e1]; simp) ⟨0, 0, 0, 0⟩ rfl rfl (by show 0 + _ ≤ 32; omega)
  simp only [Nat.zero_add] at hr
  rw [← hl] at hr
  unfold parseX
  rw [eT]
  simp only
  rw [of_fac hr]
  simp only
  rw [if_neg (Nat.lt_irrefl _)]

/-- A text in which each byte is a token: ones and plain signs, no two ones together. -/
def OneB : List UInt8 → Prop
  | [] => True
  | c :: r => ((c = 49 ∧ ∀ d t, r = d :: t → plainSign d) ∨ plainSign c) ∧ OneB r

def tkB (c : UInt8) (p : Nat) : Tk := if c = 49 then ⟨2, [49], 1, p⟩ else ⟨3, [c], 0, p⟩
def bytesT : List UInt8 → Nat → List Tk
  | [], _ => []
  | c :: r, p => tkB c p :: bytesT r (p + 1)

theorem bytesT_len : ∀ (l : List UInt8) (p : Nat), (bytesT l p).length = l.length
  | [], _ => rfl
  | c :: r, p => by rw [bytesT, List.length_cons, List.length_cons, bytesT_len r]

theorem bytesT_at : ∀ (l : List UInt8) (p i : Nat), (bytesT l p)[i]? = (l[i]?).map fun c => tkB c (p + i)
  | [], _, _ => by simp [bytesT]
  | c :: r, p, 0 => by simp [bytesT]
  | c :: r, p, i + 1 => by
    rw [bytesT, List.getElem?_cons_succ, List.getElem?_cons_succ, bytesT_at r (p + 1) i, show p + 1 + i = p + (i + 1) by omega]

theorem plain_not {c : UInt8} (h : plainSign c) : ¬ c = 49 ∧ alnumB c = false := by
  rcases h with rfl | rfl | rfl | rfl | rfl | rfl | rfl <;> exact ⟨by decide, by decide⟩

theorem lex_bytes : ∀ (l : List UInt8) (p : Nat), OneB l → lexL l p = .ok (bytesT l p)
  | [], p, _ => lex_nil p
  | c :: r, p, h => by
    rcases h.1 with ⟨rfl, hr⟩ | hc
    · have e : Lib.itoa 1 = [49] := by decide +kernel
      have := lex_num (n := 1) (r := r) (by decide) (by decide) (fun d t e => (plain_not (hr d t e)).2) p
      rw [e] at this
      rw [show (49 : UInt8) :: r = [49] ++ r from rfl, this]
      show (lexL r (p + 1)).after _ = _
      rw [lex_bytes r (p + 1) h.2]
      rfl
    · rw [lex_sign hc, lex_bytes r (p + 1) h.2]
      have : tkB c p = ⟨3, [c], 0, p⟩ := by unfold tkB; rw [if_neg (plain_not hc).1]
      rw [bytesT, this]
      rfl

/-- The three shapes. -/
def deep0 (k : Nat) : List UInt8 := 49 :: (List.replicate k [43, 49]).flatten
def deep1 (k : Nat) : List UInt8 := List.replicate k 45 ++ [49]
def deep2 (k : Nat) : List UInt8 := List.replicate k 40 ++ 49 :: List.replicate k 41

theorem one_flat : ∀ k, OneB ((List.replicate k [43, 49]).flatten : List UInt8) ∧ ∀ d t, ((List.replicate k [43, 49]).flatten : List UInt8) = d :: t → plainSign d
  | 0 => ⟨trivial, fun d t h => by cases h⟩
  | k + 1 => by
    obtain ⟨h1, h2⟩ := one_flat k
    refine ⟨⟨.inr (.inr (.inr (.inl rfl))), .inl ⟨rfl, h2⟩, h1⟩, fun d t h => ?_⟩
    have h' : (43 : UInt8) :: 49 :: (List.replicate k [43, 49]).flatten = d :: t := h
    cases h'
    exact .inr (.inr (.inl rfl))
theorem one_deep0 (k : Nat) : OneB (deep0 k) := ⟨.inl ⟨rfl, (one_flat k).2⟩, (one_flat k).1⟩
theorem one_deep1 : ∀ k, OneB (deep1 k)
  | 0 => ⟨.inl ⟨rfl, fun d t h => by cases h⟩, trivial⟩
  | k + 1 => ⟨.inr (.inr (.inr (.inr (.inl rfl)))), one_deep1 k⟩
theorem one_shut : ∀ k, OneB (List.replicate k 41)
  | 0 => trivial
  | k + 1 => ⟨.inr (.inr (.inl rfl)), one_shut k⟩
theorem one_open : ∀ k m, OneB (List.replicate k 40 ++ 49 :: List.replicate m 41)
  | 0, m => ⟨.inl ⟨rfl, fun d t h => by
      cases m with
      | zero => cases h
      | succ m => cases h; exact .inr (.inl rfl)⟩, one_shut m⟩
  | k + 1, m => ⟨.inr (.inl rfl), one_open k m⟩
theorem one_deep2 (k : Nat) : OneB (deep2 k) := one_open k k

theorem flat_at : ∀ (k i : Nat), i < k → ((List.replicate k [43, 49]).flatten : List UInt8)[2 * i]? = some 43 ∧ ((List.replicate k [43, 49]).flatten : List UInt8)[2 * i + 1]? = some 49
  | 0, _, h => by omega
  | k + 1, 0, _ => ⟨rfl, rfl⟩
  | k + 1, i + 1, h => by
    obtain ⟨a, b⟩ := flat_at k i (by omega)
    have e : ((List.replicate (k + 1) [43, 49]).flatten : List UInt8) = 43 :: 49 :: (List.replicate k [43, 49]).flatten := rfl
    rw [e, show 2 * (i + 1) = 2 * i + 1 + 1 by omega]
    exact ⟨by rw [List.getElem?_cons_succ, List.getElem?_cons_succ]; exact a, by rw [List.getElem?_cons_succ, List.getElem?_cons_succ]; exact b⟩
theorem flat_len : ∀ k, ((List.replicate k [43, 49]).flatten : List UInt8).length = 2 * k
  | 0 => rfl
  | k + 1 => by
    show (43 :: 49 :: (List.replicate k [43, 49]).flatten : List UInt8).length = _
    rw [List.length_cons, List.length_cons, flat_len k]; omega

theorem tk_one (p : Nat) : tkB 49 p = ⟨2, [49], 1, p⟩ := rfl
theorem tk_sign {c : UInt8} (p : Nat) (h : ¬ c = 49) : tkB c p = ⟨3, [c], 0, p⟩ := if_neg h

theorem isS_at {L : List Tk} {p q : Nat} {c : UInt8} {y : List UInt8} (h : L[p]? = some ⟨3, [c], 0, q⟩) : isS L y p = ([c] == y) := by
  unfold isS; rw [h]; simp

/-- A factor of one number, at a place. -/
theorem fac_one {L : List Tk} {p q c w : Nat} (h : L[p]? = some ⟨2, [49], 1, q⟩) : (pE L .fac ⟨p, c, 0, w⟩).2 = tickR ⟨p, c, 0, w⟩ := by
  rw [pE_fac, if_pos rfl]
  simp only
  rw [h]
  simp

theorem tick_in {p c w : Nat} (h : c + 1 ≤ 32) : tickR ⟨p, c, 0, w⟩ = ⟨p + 1, c + 1, 0, w⟩ := tick_ok rfl h
theorem tick_out {p w : Nat} : tickR ⟨p, 32, 0, w⟩ = ⟨p + 1, 33, 4, p⟩ := rfl

theorem fac_bad {L : List Tk} {p c w : Nat} : (pE L .fac ⟨p, c, 4, w⟩).2 = ⟨p, c, 4, w⟩ := pr_stay L _ _ _ (by show ¬ (4 : Int) = 0; decide)
theorem any_bad {L : List Tk} {md : Md} {s : RS} (h : s.bad = 4) : (pE L md s).2 = s := pr_stay L _ _ _ (by rw [h]; decide)

/-- Minus signs. -/
theorem minus_at (L : List Tk) (k : Nat) (h : ∀ i, i < k → ∃ q, L[i]? = some ⟨3, [45], 0, q⟩) (h1 : ∃ q, L[k]? = some ⟨2, [49], 1, q⟩) : ∀ (j p c w : Nat), p + j = k → c ≤ 32 →
    (c + j + 1 ≤ 32 → (pE L .fac ⟨p, c, 0, w⟩).2 = ⟨k + 1, c + j + 1, 0, w⟩) ∧ (32 < c + j + 1 → (pE L .fac ⟨p, c, 0, w⟩).2.bad = 4 ∧ (pE L .fac ⟨p, c, 0, w⟩).2.whr = p + (32 - c))
  | 0, p, c, w, hp, hc => by
    obtain ⟨q, hq⟩ := h1
    obtain rfl : p = k := by omega
    rw [fac_one hq]
    refine ⟨fun h => by rw [tick_in (by omega)], fun h => ?_⟩
    obtain rfl : c = 32 := by omega
    rw [tick_out]
    exact ⟨rfl, by simp⟩
  | j + 1, p, c, w, hp, hc => by
    obtain ⟨q, hq⟩ := h p (by omega)
    have e : (pE L .fac ⟨p, c, 0, w⟩).2 = (pE L .fac (tickR ⟨p, c, 0, w⟩)).2 := by
      rw [pE_fac, if_pos rfl]
      simp only
      rw [hq]
      simp
    rw [e]
    by_cases h32 : c = 32
    · subst h32
      rw [tick_out, fac_bad]
      exact ⟨fun h => by omega, fun _ => ⟨rfl, by simp⟩⟩
    · rw [tick_in (by omega)]
      obtain ⟨a, b⟩ := minus_at L k h h1 j (p + 1) (c + 1) w (by omega) (by omega)
      refine ⟨fun h => ?_, fun h => ?_⟩
      · rw [a (by omega), show c + 1 + j + 1 = c + (j + 1) + 1 by omega]
      · obtain ⟨b1, b2⟩ := b (by omega)
        exact ⟨b1, by rw [b2]; omega⟩

/-- Brackets. -/
theorem bracket_at (L : List Tk) (k : Nat) (h : ∀ i, i < k → ∃ q, L[i]? = some ⟨3, [40], 0, q⟩) (h1 : ∃ q, L[k]? = some ⟨2, [49], 1, q⟩) (h2 : ∀ i, k < i → i ≤ 2 * k → ∃ q, L[i]? = some ⟨3, [41], 0, q⟩) (hl : L.length = 2 * k + 1) : ∀ (j p : Nat), p + j = k →
    (pE L .fac ⟨p, 0, 0, 0⟩).2 = ⟨p + 2 * j + 1, 1, 0, 0⟩
  | 0, p, hp => by
    obtain ⟨q, hq⟩ := h1
    obtain rfl : p = k := by omega
    rw [fac_one hq, tick_in (by omega)]
  | j + 1, p, hp => by
    obtain ⟨q, hq⟩ := h p (by omega)
    have e : (pE L .fac ⟨p, 0, 0, 0⟩).2 = closeR L (pE L .sum ⟨p + 1, 0, 0, 0⟩).2 := by
      rw [pE_fac, if_pos rfl]
      simp only
      rw [hq]
      simp [stepR]
    have ih := bracket_at L k h h1 h2 hl j (p + 1) (by omega)
    obtain ⟨q2, hq2⟩ := h2 (p + 1 + 2 * j + 1) (by omega) (by omega)
    have es : (pE L .sum ⟨p + 1, 0, 0, 0⟩).2 = ⟨p + 1 + 2 * j + 1, 1, 0, 0⟩ := by
      rw [pE_sum, pE_prod, ih, pE_prodL]
      simp only
      rw [if_neg (by unfold isM; rw [isS_at hq2, isS_at hq2, isS_at hq2]; decide), pE_sumL]
      simp only
      rw [if_neg (by unfold isA; rw [isS_at hq2, isS_at hq2]; decide)]
    rw [e, es]
    unfold closeR
    simp only
    rw [if_neg (by rw [isS_at hq2]; decide)]
    unfold stepR
    simp only
    rw [show p + 1 + 2 * j + 1 + 1 = p + 2 * (j + 1) + 1 by omega]

/-- Sums. -/
theorem plus_at (L : List Tk) (k : Nat) (h : ∀ i, i < k → ∃ q, L[2 * i + 1]? = some ⟨3, [43], 0, q⟩) (h1 : ∀ i, i ≤ k → ∃ q, L[2 * i]? = some ⟨2, [49], 1, q⟩) (hl : L.length = 2 * k + 1) : ∀ (j i : Nat) (n : TN), i + j = k → 2 * i + 1 ≤ 32 →
    (2 * k + 1 ≤ 32 → (pE L (.sumL n) ⟨2 * i + 1, 2 * i + 1, 0, 0⟩).2 = ⟨2 * k + 1, 2 * k + 1, 0, 0⟩) ∧ (32 < 2 * k + 1 → (pE L (.sumL n) ⟨2 * i + 1, 2 * i + 1, 0, 0⟩).2.bad = 4 ∧ (pE L (.sumL n) ⟨2 * i + 1, 2 * i + 1, 0, 0⟩).2.whr = 32)
  | 0, i, n, hi, hc => by
    obtain rfl : i = k := by omega
    rw [pE_sumL]
    simp only
    rw [if_neg (by rw [isA_end (by omega)]; decide)]
    exact ⟨fun _ => rfl, fun h => by omega⟩
  | j + 1, i, n, hi, hc => by
    obtain ⟨q, hq⟩ := h i (by omega)
    obtain ⟨q2, hq2⟩ := h1 (i + 1) (by omega)
    rw [pE_sumL]
    simp only
    rw [if_pos (by unfold isA; rw [isS_at hq, isS_at hq]; decide), tick_in (by omega)]
    have hf := fac_one (c := 2 * i + 1 + 1) (w := 0) hq2
    rw [show 2 * (i + 1) = 2 * i + 1 + 1 by omega] at hf
    by_cases h32 : 2 * i + 1 + 1 = 32
    · rw [h32] at hf ⊢
      rw [tick_out] at hf
      have hp : (pE L .prod ⟨32, 32, 0, 0⟩).2 = ⟨33, 33, 4, 32⟩ := by
        rw [pE_prod, hf]
        exact any_bad rfl
      rw [hp]
      refine ⟨fun h => by omega, fun _ => ?_⟩
      rw [any_bad rfl]
      exact ⟨rfl, rfl⟩
    · rw [tick_in (by omega)] at hf
      have hp : (pE L .prod ⟨2 * i + 1 + 1, 2 * i + 1 + 1, 0, 0⟩).2 = ⟨2 * (i + 1) + 1, 2 * (i + 1) + 1, 0, 0⟩ := by
        rw [pE_prod, hf, pE_prodL]
        simp only
        have : isM L (2 * i + 1 + 1 + 1) = false := by
          by_cases hj : j = 0
          · exact isM_end (by omega)
          · obtain ⟨q3, hq3⟩ := h (i + 1) (by omega)
            rw [show 2 * (i + 1) + 1 = 2 * i + 1 + 1 + 1 by omega] at hq3
            unfold isM; rw [isS_at hq3, isS_at hq3, isS_at hq3]; decide
        rw [if_neg (by rw [this]; decide)]
        show (⟨2 * i + 1 + 1 + 1, 2 * i + 1 + 1 + 1, 0, 0⟩ : RS) = _
        rw [show 2 * (i + 1) + 1 = 2 * i + 1 + 1 + 1 by omega]
      rw [hp]
      exact plus_at L k h h1 hl j (i + 1) _ (by omega) (by omega)

/-- Where all goes well, or the thirty-third node comes at token 32. -/
def DeepOK (l : List UInt8) (nodes : Nat) : Prop := (nodes ≤ 32 → ∃ t, parseX l = .ok t ∧ checkT t = 0) ∧ (32 < nodes → parseX l = .bad 32 4)

theorem deep_of {l : List UInt8} {nodes : Nat} (hl : l.length ≤ 1000) (ho : OneB l) (hgood : nodes ≤ 32 → (pE (bytesT l 0) .sum ⟨0, 0, 0, 0⟩).2.bad = 0 ∧ (pE (bytesT l 0) .sum ⟨0, 0, 0, 0⟩).2.pos = l.length)
    (hbad : 32 < nodes → (pE (bytesT l 0) .sum ⟨0, 0, 0, 0⟩).2.bad = 4 ∧ (pE (bytesT l 0) .sum ⟨0, 0, 0, 0⟩).2.whr = 32) (h33 : 32 < nodes → 32 < l.length) : DeepOK l nodes := by
  have eT : lexT l = .ok (bytesT l 0) := by
    unfold lexT
    rw [if_neg (by omega)]
    exact lex_bytes l 0 ho
  constructor
  · intro h
    obtain ⟨a, b⟩ := hgood h
    have eo : ofL (bytesT l 0) 0 = .ok (pE (bytesT l 0) .sum ⟨0, 0, 0, 0⟩).1 (pE (bytesT l 0) .sum ⟨0, 0, 0, 0⟩).2.pos := by unfold ofL; rw [if_pos a]
    refine ⟨(pE (bytesT l 0) .sum ⟨0, 0, 0, 0⟩).1, ?_, (ofL_good (lexT_good eT) eo).1⟩
    unfold parseX
    rw [eT]
    simp only
    rw [eo]
    simp only
    rw [b, bytesT_len, if_neg (Nat.lt_irrefl _)]
  · intro h
    obtain ⟨a, b⟩ := hbad h
    have eo : ofL (bytesT l 0) 0 = .bad 32 4 := by unfold ofL; rw [if_neg (by rw [a]; decide), a, b]
    unfold parseX
    rw [eT]
    simp only
    rw [eo]
    simp only
    unfold placeT
    rw [bytesT_at, List.getElem?_eq_getElem (h33 h)]
    simp only [Option.map_some, Nat.zero_add]
    unfold tkB
    split <;> rfl

theorem deep_0 (k : Nat) (hk : k ≤ 40) : DeepOK (deep0 k) (2 * k + 1) := by
  have hl : (deep0 k).length = 2 * k + 1 := by unfold deep0; rw [List.length_cons, flat_len]
  have h1 : ∀ i, i ≤ k → ∃ q, (bytesT (deep0 k) 0)[2 * i]? = some ⟨2, [49], 1, q⟩ := fun i hi => by
    rw [bytesT_at]
    unfold deep0
    cases i with
    | zero => exact ⟨_, rfl⟩
    | succ i =>
      rw [show 2 * (i + 1) = 2 * i + 1 + 1 by omega, List.getElem?_cons_succ, (flat_at k i (by omega)).2]
      exact ⟨_, rfl⟩
  have h : ∀ i, i < k → ∃ q, (bytesT (deep0 k) 0)[2 * i + 1]? = some ⟨3, [43], 0, q⟩ := fun i hi => by
    rw [bytesT_at]
    unfold deep0
    rw [List.getElem?_cons_succ, (flat_at k i hi).1]
    exact ⟨_, rfl⟩
  have hlen : (bytesT (deep0 k) 0).length = 2 * k + 1 := by rw [bytesT_len, hl]
  obtain ⟨q0, hq0⟩ := h1 0 (Nat.zero_le _)
  have hf := fac_one (c := 0) (w := 0) hq0
  rw [tick_in (by omega)] at hf
  simp only [Nat.mul_zero] at hf
  have hp : (pE (bytesT (deep0 k) 0) .prod ⟨0, 0, 0, 0⟩).2 = ⟨1, 1, 0, 0⟩ := by
    rw [pE_prod, hf, pE_prodL]
    simp only
    have : isM (bytesT (deep0 k) 0) (0 + 1) = false := by
      by_cases h0 : k = 0
      · exact isM_end (by omega)
      · obtain ⟨q, hq⟩ := h 0 (by omega)
        unfold isM; rw [isS_at hq, isS_at hq, isS_at hq]; decide
    rw [if_neg (by rw [this]; decide)]
  obtain ⟨a, b⟩ := plus_at (bytesT (deep0 k) 0) k h h1 hlen k 0 (pE (bytesT (deep0 k) 0) .prod ⟨0, 0, 0, 0⟩).1 (by omega) (by omega)
  have es : pE (bytesT (deep0 k) 0) .sum ⟨0, 0, 0, 0⟩ = pE (bytesT (deep0 k) 0) (.sumL (pE (bytesT (deep0 k) 0) .prod ⟨0, 0, 0, 0⟩).1) ⟨2 * 0 + 1, 2 * 0 + 1, 0, 0⟩ := by rw [pE_sum, hp]
  refine deep_of (by omega) (one_deep0 k) (fun hn => ?_) (fun hn => ?_) (fun hn => by omega)
  · rw [es, a hn]; exact ⟨rfl, by rw [hl]⟩
  · rw [es]; exact b hn

theorem deep_1 (k : Nat) (hk : k ≤ 40) : DeepOK (deep1 k) (k + 1) := by
  have hl : (deep1 k).length = k + 1 := by unfold deep1; simp
  have h : ∀ i, i < k → ∃ q, (bytesT (deep1 k) 0)[i]? = some ⟨3, [45], 0, q⟩ := fun i hi => by
    rw [bytesT_at]
    unfold deep1
    rw [List.getElem?_append_left (by simpa using hi), List.getElem?_replicate, if_pos hi]
    exact ⟨_, rfl⟩
  have h1 : ∃ q, (bytesT (deep1 k) 0)[k]? = some ⟨2, [49], 1, q⟩ := by
    rw [bytesT_at]
    unfold deep1
    rw [List.getElem?_append_right (by simp)]
    simp only [List.length_replicate, Nat.sub_self]
    exact ⟨_, rfl⟩
  have hlen : (bytesT (deep1 k) 0).length = k + 1 := by rw [bytesT_len, hl]
  obtain ⟨a, b⟩ := minus_at (bytesT (deep1 k) 0) k h h1 k 0 0 0 (by omega) (by omega)
  refine deep_of (by omega) (one_deep1 k) (fun hn => ?_) (fun hn => ?_) (fun hn => by omega)
  · have hf := a (by omega)
    have es : (pE (bytesT (deep1 k) 0) .sum ⟨0, 0, 0, 0⟩).2 = ⟨k + 1, 0 + k + 1, 0, 0⟩ := by
      rw [pE_sum, pE_prod, hf, pE_prodL]
      simp only
      rw [if_neg (by rw [isM_end (by omega)]; decide), pE_sumL]
      simp only
      rw [if_neg (by rw [isA_end (by omega)]; decide)]
    rw [es]; exact ⟨rfl, by rw [hl]⟩
  · obtain ⟨b1, b2⟩ := b (by omega)
    have es : (pE (bytesT (deep1 k) 0) .sum ⟨0, 0, 0, 0⟩).2 = (pE (bytesT (deep1 k) 0) .fac ⟨0, 0, 0, 0⟩).2 := by
      rw [pE_sum, pE_prod, any_bad (md := .prodL _) b1, any_bad (md := .sumL _) b1]
    rw [es]
    exact ⟨b1, by rw [b2]⟩

theorem deep_2 (k : Nat) (hk : k ≤ 40) : DeepOK (deep2 k) 1 := by
  have hl : (deep2 k).length = 2 * k + 1 := by unfold deep2; simp; omega
  have h : ∀ i, i < k → ∃ q, (bytesT (deep2 k) 0)[i]? = some ⟨3, [40], 0, q⟩ := fun i hi => by
    rw [bytesT_at]
    unfold deep2
    rw [List.getElem?_append_left (by simpa using hi), List.getElem?_replicate, if_pos hi]
    exact ⟨_, rfl⟩
  have h1 : ∃ q, (bytesT (deep2 k) 0)[k]? = some ⟨2, [49], 1, q⟩ := by
    rw [bytesT_at]
    unfold deep2
    rw [List.getElem?_append_right (by simp)]
    simp only [List.length_replicate, Nat.sub_self]
    exact ⟨_, rfl⟩
  have h2 : ∀ i, k < i → i ≤ 2 * k → ∃ q, (bytesT (deep2 k) 0)[i]? = some ⟨3, [41], 0, q⟩ := fun i hi hi2 => by
    rw [bytesT_at]
    unfold deep2
    rw [List.getElem?_append_right (by simp; omega), List.length_replicate]
    obtain ⟨m, hm⟩ : ∃ m, i - k = m + 1 := ⟨i - k - 1, by omega⟩
    rw [hm, List.getElem?_cons_succ, List.getElem?_replicate, if_pos (by omega)]
    exact ⟨_, rfl⟩
  have hlen : (bytesT (deep2 k) 0).length = 2 * k + 1 := by rw [bytesT_len, hl]
  have hf := bracket_at (bytesT (deep2 k) 0) k h h1 h2 hlen k 0 (by omega)
  have es : (pE (bytesT (deep2 k) 0) .sum ⟨0, 0, 0, 0⟩).2 = ⟨0 + 2 * k + 1, 1, 0, 0⟩ := by
    rw [pE_sum, pE_prod, hf, pE_prodL]
    simp only
    rw [if_neg (by rw [isM_end (by omega)]; decide), pE_sumL]
    simp only
    rw [if_neg (by rw [isA_end (by omega)]; decide)]
  refine deep_of (by omega) (one_deep2 k) (fun hn => ?_) (fun hn => by omega) (fun hn => by omega)
  rw [es]; exact ⟨rfl, by rw [hl]; show 0 + 2 * k + 1 = _; omega⟩

end Go.Proofs.YteegdemnajhehaaGreatDoor
