/-
  No statement: the contracts of Check of package stamp and its parts.
-/
import Derived.Test.YtpdobbdbmgeoiaaGreatVCheck
import Derived.Test.YtpdobbdbmgeoiaaGreatSParts
namespace Go.Proofs.YtpdobbdbmgeoiaaGreat
open Go.RowKit

theorem ret_b {a b : Bool} (h : a = b) : Ending.returned (.bool a) = .returned (.bool b) := by rw [h]

/-- Is a number 0 to a thousand million? -/
def countB (n : Int) : Bool := decide (0 ≤ n) && decide (n ≤ 1000000000)

set_option maxHeartbeats 1000000 in
theorem counts_any (n : Int) (w : World) : Calls Tryz.prog 107 #[.int .i64 n] w fun e w' => e = .returned (.bool (countB n)) ∧ w = w' := by
  by_cases h : 0 ≤ n
  · go_enter Tryz.func107, Tryz.ntmps107
    go_wp2
    go_ret
    exact ⟨ret_b (a := decide (n ≤ 1000000000)) (by unfold countB; rw [decide_eq_true h]; rfl), rfl⟩
  · go_enter Tryz.func107, Tryz.ntmps107
    go_wp2
    go_ret
    exact ⟨ret_b (a := false) (by unfold countB; rw [decide_eq_false (by omega)]; rfl), rfl⟩

set_option maxHeartbeats 1000000 in
theorem small_any (c : UInt8) (w : World) : Calls Tryz.prog 145 #[.int .u8 c.toNat] w fun e w' => e = .returned (.bool (smallB c)) ∧ w = w' := by
  obtain ⟨x, hx⟩ : ∃ x : Int, (c.toNat : Int) = x := ⟨_, rfl⟩
  unfold smallB
  rw [hx]
  by_cases h : 97 ≤ x
  · go_enter Tryz.func145, Tryz.ntmps145
    go_wp2
    go_ret
    exact ⟨ret_b (a := decide (x ≤ 122)) (by rw [decide_eq_true h]; rfl), rfl⟩
  · go_enter Tryz.func145, Tryz.ntmps145
    go_wp2
    go_ret
    exact ⟨ret_b (a := false) (by rw [decide_eq_false (by omega)]; rfl), rfl⟩

set_option maxHeartbeats 1000000 in
theorem digit_any (c : UInt8) (w : World) : Calls Tryz.prog 146 #[.int .u8 c.toNat] w fun e w' => e = .returned (.bool (digitB c)) ∧ w = w' := by
  obtain ⟨x, hx⟩ : ∃ x : Int, (c.toNat : Int) = x := ⟨_, rfl⟩
  unfold digitB
  rw [hx]
  by_cases h : 48 ≤ x
  · go_enter Tryz.func146, Tryz.ntmps146
    go_wp2
    go_ret
    exact ⟨ret_b (a := decide (x ≤ 57)) (by rw [decide_eq_true h]; rfl), rfl⟩
  · go_enter Tryz.func146, Tryz.ntmps146
    go_wp2
    go_ret
    exact ⟨ret_b (a := false) (by rw [decide_eq_false (by omega)]; rfl), rfl⟩

set_option maxHeartbeats 1000000 in
theorem part_any (s : ByteArray) (hm : s.size ≤ 281474976710656) (w : World) : Calls Tryz.prog 126 #[.string s] w fun e w' => (∃ n : Nat, e = .returned (.int .i64 n) ∧ PartIs s n) ∧ w = w' := by
  by_cases h2 : s.size < 2
  · have P := Lib.hid (show PartIs s 0 from .inl ⟨rfl, fun c r e => by have := congrArg List.length e; simp at this; omega⟩)
    go_enter Tryz.func126, Tryz.ntmps126
    go_wp2_with fail
    go_ret
    exact ⟨⟨0, rfl, P.out⟩, rfl⟩
  · by_cases h0 : s[0] = 47
    · cases h1 : smallB s[1] with
      | false =>
        have P := Lib.hid (show PartIs s 0 from .inl ⟨rfl, fun c r e => by
          have : s[1] = c := by
            have h := congrArg (fun l => l[1]?) e
            simp at h
            have := (Array.getElem?_eq_some_iff.1 h).2
            exact this
          rw [← this]; exact h1⟩)
        have S := fun w => small_any s[1] w
        rw [h1] at S
        have SS := Lib.hid S
        have e0 : ((s[0].toNat : Int) != 47) = false := by rw [h0]; decide
        clear S h1 h0
        go_enter Tryz.func126, Tryz.ntmps126
        go_wp2_with fail
        refine (SS.out _).mono ?_
        rintro e w1 ⟨rfl, rfl⟩
        go_wp2_with fail
        go_ret
        exact ⟨⟨0, rfl, P.out⟩, rfl⟩
      | true =>
        have S := fun w => small_any s[1] w
        rw [h1] at S
        have SS := Lib.hid S
        have e0 : ((s[0].toNat : Int) != 47) = false := by rw [h0]; decide
        have A0 := Lib.hid h0
        have A1 := Lib.hid h1
        clear S h1 h0
        go_enter Tryz.func126, Tryz.ntmps126
        go_wp2_with fail
        refine (SS.out _).mono ?_
        rintro e w1 ⟨rfl, rfl⟩
        go_wp2_with fail
        go_loop [3] (fun i => ∃ k : Nat, 2 ≤ k ∧ k ≤ s.size ∧ k ≤ 9 ∧ i = .int .i64 k ∧ Hid (∀ j (hj : j < s.size), 2 ≤ j → j < k → alnumB s[j] = true)) (fun i => s.size - (intOf i).toNat)
        case atStart => exact ⟨2, by omega, by omega, by omega, rfl, Lib.hid (fun j _ h h' => by omega)⟩
        case round =>
          obtain ⟨k, hk2, hk, hk9, rfl, hok⟩ := hrel
          by_cases hlt : k < s.size
          · by_cases h8 : k ≤ 8
            · have S1 := fun w => small_any s[k] w
              have S2 := fun w => digit_any s[k] w
              cases hs : smallB s[k] with
              | true =>
                rw [hs] at S1
                have SS1 := Lib.hid S1
                have hok1 := Lib.hid (show ∀ j (hj : j < s.size), 2 ≤ j → j < k + 1 → alnumB s[j] = true from fun j hj h2 hjk => by
                  by_cases e : j = k
                  · subst e; unfold alnumB; rw [hs]; rfl
                  · exact hok.out j hj h2 (by omega))
                clear S1 S2 hs
                go_wp2_with fail
                refine (SS1.out _).mono ?_
                rintro e w1 ⟨rfl, rfl⟩
                go_wp2_with fail
                go_round
                case rel => exact ⟨k + 1, by omega, by omega, by omega, by go_num, hok1⟩
                case measure => simp [intOf]; omega
              | false =>
                rw [hs] at S1
                cases hd : digitB s[k] with
                | true =>
                  rw [hd] at S2
                  have SS1 := Lib.hid S1
                  have SS2 := Lib.hid S2
                  have hok1 := Lib.hid (show ∀ j (hj : j < s.size), 2 ≤ j → j < k + 1 → alnumB s[j] = true from fun j hj h2 hjk => by
                    by_cases e : j = k
                    · subst e; unfold alnumB; rw [hs, hd]; rfl
                    · exact hok.out j hj h2 (by omega))
                  clear S1 S2 hs hd
                  go_wp2_with fail
                  refine (SS1.out _).mono ?_
                  rintro e w1 ⟨rfl, rfl⟩
                  go_wp2_with fail
                  refine (SS2.out _).mono ?_
                  rintro e w1 ⟨rfl, rfl⟩
                  go_wp2_with fail
                  go_round
                  case rel => exact ⟨k + 1, by omega, by omega, by omega, by go_num, hok1⟩
                  case measure => simp [intOf]; omega
                | false =>
                  rw [hd] at S2
                  have SS1 := Lib.hid S1
                  have SS2 := Lib.hid S2
                  have P := Lib.hid (part_of hk2 hk hk9 A0.out A1.out (fun j hj a b => hok.out j hj a b) (.inr (.inr ⟨hlt, by unfold alnumB; rw [hs, hd]; rfl⟩)))
                  clear S1 S2 hs hd
                  go_wp2_with fail
                  refine (SS1.out _).mono ?_
                  rintro e w1 ⟨rfl, rfl⟩
                  go_wp2_with fail
                  refine (SS2.out _).mono ?_
                  rintro e w1 ⟨rfl, rfl⟩
                  go_wp2_with fail
                  go_ret
                  exact ⟨⟨k, rfl, P.out⟩, rfl⟩
            · have P := Lib.hid (part_of hk2 hk hk9 A0.out A1.out (fun j hj a b => hok.out j hj a b) (.inr (.inl (by omega))))
              go_wp2_with fail
              go_ret
              exact ⟨⟨k, rfl, P.out⟩, rfl⟩
          · have P := Lib.hid (part_of hk2 hk hk9 A0.out A1.out (fun j hj a b => hok.out j hj a b) (.inl (by omega)))
            go_wp2_with fail
            go_ret
            exact ⟨⟨k, rfl, P.out⟩, rfl⟩
    · have P := Lib.hid (show PartIs s 0 from .inl ⟨rfl, fun c r e => by
        exfalso; apply h0
        have h := congrArg (fun l => l[0]?) e
        simp at h
        exact (Array.getElem?_eq_some_iff.1 h).2⟩)
      have e0 : ((s[0].toNat : Int) != 47) = true := by
        rw [bne_iff_ne]; intro e; apply h0
        apply UInt8.toNat_inj.1
        have : s[0].toNat = 47 := by omega
        rw [this]; rfl
      clear h0
      go_enter Tryz.func126, Tryz.ntmps126
      go_wp2_with fail
      go_ret
      exact ⟨⟨0, rfl, P.out⟩, rfl⟩

theorem size_pos {s : ByteArray} (h : (s.toList == (⟨#[]⟩ : ByteArray).toList) = false) : ¬ s.size = 0 := by
  intro e
  obtain rfl : s = ⟨#[]⟩ := by cases s with | mk d => simp [ByteArray.size] at e; simp [e]
  simp at h

set_option maxHeartbeats 1000000 in
theorem belowRoot_any (s : ByteArray) (hm : s.size ≤ 281474976710656) (w : World) : Calls Tryz.prog 108 #[.string s] w fun e w' => e = .returned (.bool (nodeB s.data.toList)) ∧ w = w' := by
  go_enter Tryz.func108, Tryz.ntmps108
  go_wp2_with fail
  go_loop [0, 3] (fun i p => ∃ (t : ByteArray) (k : Nat), i = .string t ∧ p = .int .i64 k ∧ t.size ≤ s.size ∧ k ≤ 4 ∧ Hid (nodeFrom t.data.toList k = nodeB s.data.toList)) (fun i _ => match i with | .string t => t.size | _ => 0)
  case atStart => exact ⟨s, 0, rfl, rfl, Nat.le_refl _, by omega, Lib.hid rfl⟩
  case round =>
    obtain ⟨t, k, rfl, rfl, ht, hk, hN⟩ := hrel
    by_cases h0 : t.size = 0
    · obtain rfl : t = ⟨#[]⟩ := by cases t with | mk d => simp [ByteArray.size] at h0; simp [h0]
      have R := Lib.hid (show nodeB s.data.toList = decide (0 < k) by rw [← hN.out]; rfl)
      clear h0 hN
      go_wp2_with fail
      go_ret
      exact ⟨ret_b (a := decide (0 < k)) R.out.symm, rfl⟩
    · have hne : t.toList.isEmpty = false := by
        rw [Lib.toList_data]
        cases e : t.data.toList with
        | nil => exact absurd (by have := congrArg List.length e; simpa using this) h0
        | cons a b => rfl
      have h0' : 0 < t.size := by omega
      clear h0
      go_wp2_with fail
      refine (part_any t (by omega) _).mono ?_
      rintro e w1 ⟨⟨n, rfl, hP⟩, rfl⟩
      by_cases hn : n = 0
      · subst hn
        have R := Lib.hid (show nodeB s.data.toList = false by rw [← hN.out]; exact part_none hP (by omega) k)
        clear hP hN
        go_wp2_with fail
        go_ret
        exact ⟨ret_b (a := false) R.out.symm, rfl⟩
      · have hstep := part_some hP hn k
        have hns : 2 ≤ n ∧ n ≤ t.size := by
          rcases hP with ⟨h, _⟩ | ⟨h, h', _⟩
          · omega
          · exact ⟨h, h'⟩
        obtain ⟨hn2, hnt⟩ := hns
        by_cases h4 : k = 4
        · subst h4
          have R := Lib.hid (show nodeB s.data.toList = false by rw [← hN.out, hstep]; rfl)
          clear hP hN hstep
          go_wp2_with fail
          go_ret
          exact ⟨ret_b (a := false) R.out.symm, rfl⟩
        · have R := Lib.hid (show nodeFrom (t.extract n t.size).data.toList (k + 1) = nodeB s.data.toList by rw [← hN.out, hstep, decide_eq_true (by omega)]; rfl)
          have hn' : ((n : Int) == 0) = false := by rw [beq_eq_false_iff_ne]; omega
          have h4' : ((k : Int) == 4) = false := by rw [beq_eq_false_iff_ne]; omega
          clear hP hN hstep
          go_wp2_with fail
          exact ⟨⟨_, k + 1, rfl, by go_num, by simp; omega, by omega, R⟩, by simp; omega⟩

/-- What is wrong with a stamp; 0: nothing. -/
def errS (t i q : Int) (o : ByteArray) : Int := if countB t = true then if countB i = true then if countB q = true then if nodeB o.data.toList = true then 0 else 5 else 1 else 1 else 1

/-- A stamp as a value. -/
abbrev stp (t i q : Int) (o : ByteArray) : Value := .agg #[.int .i64 t, .int .i64 i, .int .i64 q, .string o]

set_option maxHeartbeats 1000000 in
theorem stampCheck_any (t i q : Int) (o : ByteArray) (hm : o.size ≤ 281474976710656) (w : World) : Calls Tryz.prog 83 #[stp t i q o] w fun e w' => e = .returned (.int .i64 (errS t i q o)) ∧ Below w.heap.size w w' := by
  have C1 := fun w => counts_any t w
  have C2 := fun w => counts_any i w
  have C3 := fun w => counts_any q w
  have C4 := fun w => belowRoot_any o hm w
  obtain ⟨b1, h1⟩ : ∃ b, countB t = b := ⟨_, rfl⟩
  obtain ⟨b2, h2⟩ : ∃ b, countB i = b := ⟨_, rfl⟩
  obtain ⟨b3, h3⟩ : ∃ b, countB q = b := ⟨_, rfl⟩
  obtain ⟨b4, h4⟩ : ∃ b, nodeB o.data.toList = b := ⟨_, rfl⟩
  unfold errS
  rw [h1] at C1 ⊢
  rw [h2] at C2 ⊢
  rw [h3] at C3 ⊢
  rw [h4] at C4 ⊢
  clear h1 h2 h3 h4
  have D1 := Lib.hid C1
  have D2 := Lib.hid C2
  have D3 := Lib.hid C3
  have D4 := Lib.hid C4
  clear C1 C2 C3 C4
  unfold stp
  cases b1 with
  | false =>
    go_enter Tryz.func83, Tryz.ntmps83
    go_wp2_with fail
    refine (D1.out _).mono ?_
    rintro e w1 ⟨rfl, rfl⟩
    go_wp2_with fail
    go_ret
    exact ⟨rfl, (Below.refl _ _).alloc (Nat.le_refl _) _⟩
  | true =>
    cases b2 with
    | false =>
      go_enter Tryz.func83, Tryz.ntmps83
      go_wp2_with fail
      refine (D1.out _).mono ?_
      rintro e w1 ⟨rfl, rfl⟩
      go_wp2_with fail
      refine (D2.out _).mono ?_
      rintro e w1 ⟨rfl, rfl⟩
      go_wp2_with fail
      go_ret
      exact ⟨rfl, (Below.refl _ _).alloc (Nat.le_refl _) _⟩
    | true =>
      cases b3 with
      | false =>
        go_enter Tryz.func83, Tryz.ntmps83
        go_wp2_with fail
        refine (D1.out _).mono ?_
        rintro e w1 ⟨rfl, rfl⟩
        go_wp2_with fail
        refine (D2.out _).mono ?_
        rintro e w1 ⟨rfl, rfl⟩
        go_wp2_with fail
        refine (D3.out _).mono ?_
        rintro e w1 ⟨rfl, rfl⟩
        go_wp2_with fail
        go_ret
        exact ⟨rfl, (Below.refl _ _).alloc (Nat.le_refl _) _⟩
      | true =>
        cases b4 with
        | false =>
          go_enter Tryz.func83, Tryz.ntmps83
          go_wp2_with fail
          refine (D1.out _).mono ?_
          rintro e w1 ⟨rfl, rfl⟩
          go_wp2_with fail
          refine (D2.out _).mono ?_
          rintro e w1 ⟨rfl, rfl⟩
          go_wp2_with fail
          refine (D3.out _).mono ?_
          rintro e w1 ⟨rfl, rfl⟩
          go_wp2_with fail
          refine (D4.out _).mono ?_
          rintro e w1 ⟨rfl, rfl⟩
          go_wp2_with fail
          go_ret
          exact ⟨rfl, (Below.refl _ _).alloc (Nat.le_refl _) _⟩
        | true =>
          go_enter Tryz.func83, Tryz.ntmps83
          go_wp2_with fail
          refine (D1.out _).mono ?_
          rintro e w1 ⟨rfl, rfl⟩
          go_wp2_with fail
          refine (D2.out _).mono ?_
          rintro e w1 ⟨rfl, rfl⟩
          go_wp2_with fail
          refine (D3.out _).mono ?_
          rintro e w1 ⟨rfl, rfl⟩
          go_wp2_with fail
          refine (D4.out _).mono ?_
          rintro e w1 ⟨rfl, rfl⟩
          go_wp2_with fail
          go_ret
          exact ⟨rfl, (Below.refl _ _).alloc (Nat.le_refl _) _⟩

end Go.Proofs.YtpdobbdbmgeoiaaGreat
