/-
  No statement: contracts of letter, digit, sign of the document's language.
-/
import Derived.Test.YteegdemnajhehaaGreatDoorALex
namespace Go.Proofs.YteegdemnajhehaaGreatDoor
open Go.RowKit

set_option maxHeartbeats 1000000 in
theorem rLetter_any (c : UInt8) (w : World) : Calls Tryz.prog 34 #[.int .u8 c.toNat] w fun e w' => e = .returned (.bool (smallB c)) ∧ w = w' := by
  obtain ⟨x, hx⟩ : ∃ x : Int, (c.toNat : Int) = x := ⟨_, rfl⟩
  unfold smallB
  rw [hx]
  by_cases h : 97 ≤ x
  · go_enter Tryz.func34, Tryz.ntmps34
    go_wp2
    go_ret
    exact ⟨ret_b (a := decide (x ≤ 122)) (by rw [decide_eq_true h]; rfl), rfl⟩
  · go_enter Tryz.func34, Tryz.ntmps34
    go_wp2
    go_ret
    exact ⟨ret_b (a := false) (by rw [decide_eq_false (by omega)]; rfl), rfl⟩

set_option maxHeartbeats 1000000 in
theorem rDigit_any (c : UInt8) (w : World) : Calls Tryz.prog 35 #[.int .u8 c.toNat] w fun e w' => e = .returned (.bool (digitB c)) ∧ w = w' := by
  obtain ⟨x, hx⟩ : ∃ x : Int, (c.toNat : Int) = x := ⟨_, rfl⟩
  unfold digitB
  rw [hx]
  by_cases h : 48 ≤ x
  · go_enter Tryz.func35, Tryz.ntmps35
    go_wp2
    go_ret
    exact ⟨ret_b (a := decide (x ≤ 57)) (by rw [decide_eq_true h]; rfl), rfl⟩
  · go_enter Tryz.func35, Tryz.ntmps35
    go_wp2
    go_ret
    exact ⟨ret_b (a := false) (by rw [decide_eq_false (by omega)]; rfl), rfl⟩

def sgL : List UInt8 := [40, 41, 44, 61, 60, 62, 43, 45, 42, 47, 37]
theorem one_mem (c : UInt8) : oneSign c = sgL.contains c := by
  unfold oneSign sgL
  simp only [List.contains_cons, List.contains_nil, Bool.or_false, Bool.or_assoc]

theorem sg_not {c : UInt8} (h : ∀ j (hj : j < 11), ¬ sgL[j]'hj = c) : oneSign c = false := by
  rw [one_mem]
  cases e : sgL.contains c with
  | false => rfl
  | true =>
    rw [List.contains_iff_mem] at e
    obtain ⟨j, hj, hc⟩ := List.mem_iff_getElem.1 e
    exact absurd hc (h j hj)

theorem sg_is {c : UInt8} {k : Nat} (hk : k < 11) (h : sgL[k]'hk = c) : oneSign c = true := by
  rw [one_mem, List.contains_iff_mem]
  exact List.mem_iff_getElem.2 ⟨k, hk, h⟩

theorem below_drewN {B : Nat} {a w : World} (h : Below B a w) (n : Nat) : Below B a (w.drewN n) := ⟨h.os, h.tape, h.output, h.size, h.block⟩

/-- The walks of sign, way by way. -/
theorem sg_byte {k : Nat} (hk : k < 11) : (⟨#[40, 41, 44, 61, 60, 62, 43, 45, 42, 47, 37]⟩ : ByteArray)[k]'hk = sgL[k]'hk := rfl

set_option maxHeartbeats 4000000 in
theorem rSignW1 (s : ByteArray) (h1 : 1 ≤ s.size) (hm : s.size ≤ 281474976710656) (w : World) {c : UInt8} (hc : s[0]'(by omega) = c) (h2 : s.size = 1) : Calls Tryz.prog 37 #[.string s] w fun e w' => e = .returned (.string (s.extract 0 (if oneSign c = true then 1 else 0))) ∧ Below w.heap.size w w' := by
  obtain ⟨R, hR⟩ : ∃ R, s.extract 0 (if oneSign c = true then 1 else 0) = R := ⟨_, rfl⟩
  rw [hR]
  have H := Lib.hid hR
  clear hR
  have h0 : (0 : Int) < s.size := by omega
  go_enter Tryz.func37, Tryz.ntmps37
  go_wp2_with fail
  go_loopw [4] (fun i wr => ∃ k : Nat, k ≤ 11 ∧ i = .int .i64 k ∧ Hid (∀ j (hj : j < 11), j < k → ¬ sgL[j]'hj = c) ∧ Hid (Below w.heap.size w wr)) (fun i _ => 11 - (intOf i).toNat)
  case atStart => exact ⟨0, by omega, rfl, Lib.hid (fun j _ h => by omega), Lib.hid (Below.refl _ _)⟩
  case round =>
    obtain ⟨k, hk, rfl, hok, hB⟩ := hrel
    by_cases hlt : k < 11
    · have a1 : (k : Int) < 11 := by omega
      have a2 : (0 : Int) ≤ (k : Int) := by omega
      have a3 : ((k : Int)).toNat = k := by omega
      by_cases hh : sgL[k]'hlt = c
      · have q : ((c.toNat : Int) == (((⟨#[40, 41, 44, 61, 60, 62, 43, 45, 42, 47, 37]⟩ : ByteArray)[k]'hlt).toNat : Int)) = true := by rw [sg_byte hlt, hh]; exact beq_self_eq_true _
        have T := Lib.hid (show s.extract 0 1 = R by rw [← H.out, if_pos (sg_is hlt hh)])
        clear hh
        go_wp2_with (go_quiet (fail))
        go_ret
        rw [T.out]
        exact ⟨rfl, below_drewN hB.out _⟩
      · have q : ((c.toNat : Int) == (((⟨#[40, 41, 44, 61, 60, 62, 43, 45, 42, 47, 37]⟩ : ByteArray)[k]'hlt).toNat : Int)) = false := by
          rw [sg_byte hlt, beq_eq_false_iff_ne]
          intro e
          exact hh (UInt8.toNat_inj.1 (by omega)).symm
        have hok1 := Lib.hid (show ∀ j (hj : j < 11), j < k + 1 → ¬ sgL[j]'hj = c from fun j hj hjk => by
          by_cases e : j = k
          · subst e; exact hh
          · exact hok.out j hj (by omega))
        clear hh
        go_wp2_with (go_quiet (fail))
        go_roundw
        case rel => exact ⟨k + 1, by omega, by go_num, hok1, Lib.hid (below_drewN hB.out _)⟩
        case measure => simp [intOf]; omega
    · obtain rfl : k = 11 := by omega
      have T := Lib.hid (show (⟨#[]⟩ : ByteArray) = R by
        rw [← H.out, if_neg (by rw [sg_not (fun j hj => hok.out j hj hj)]; decide)]
        apply text_eq
        rw [list_front]; rfl)
      go_wp2_with fail
      go_ret
      rw [T.out]
      exact ⟨rfl, hB.out⟩

set_option maxHeartbeats 4000000 in
theorem rSignW2 (s : ByteArray) (h1 : 1 ≤ s.size) (hm : s.size ≤ 281474976710656) (w : World) {c : UInt8} (hc : s[0]'(by omega) = c) (h2 : 2 ≤ s.size) (e1 : ((s[1].toNat : Int) == 61) = false) : Calls Tryz.prog 37 #[.string s] w fun e w' => e = .returned (.string (s.extract 0 (if oneSign c = true then 1 else 0))) ∧ Below w.heap.size w w' := by
  obtain ⟨R, hR⟩ : ∃ R, s.extract 0 (if oneSign c = true then 1 else 0) = R := ⟨_, rfl⟩
  rw [hR]
  have H := Lib.hid hR
  clear hR
  have h0 : (0 : Int) < s.size := by omega
  go_enter Tryz.func37, Tryz.ntmps37
  go_wp2_with fail
  go_loopw [4] (fun i wr => ∃ k : Nat, k ≤ 11 ∧ i = .int .i64 k ∧ Hid (∀ j (hj : j < 11), j < k → ¬ sgL[j]'hj = c) ∧ Hid (Below w.heap.size w wr)) (fun i _ => 11 - (intOf i).toNat)
  case atStart => exact ⟨0, by omega, rfl, Lib.hid (fun j _ h => by omega), Lib.hid (Below.refl _ _)⟩
  case round =>
    obtain ⟨k, hk, rfl, hok, hB⟩ := hrel
    by_cases hlt : k < 11
    · have a1 : (k : Int) < 11 := by omega
      have a2 : (0 : Int) ≤ (k : Int) := by omega
      have a3 : ((k : Int)).toNat = k := by omega
      by_cases hh : sgL[k]'hlt = c
      · have q : ((c.toNat : Int) == (((⟨#[40, 41, 44, 61, 60, 62, 43, 45, 42, 47, 37]⟩ : ByteArray)[k]'hlt).toNat : Int)) = true := by rw [sg_byte hlt, hh]; exact beq_self_eq_true _
        have T := Lib.hid (show s.extract 0 1 = R by rw [← H.out, if_pos (sg_is hlt hh)])
        clear hh
        go_wp2_with (go_quiet (fail))
        go_ret
        rw [T.out]
        exact ⟨rfl, below_drewN hB.out _⟩
      · have q : ((c.toNat : Int) == (((⟨#[40, 41, 44, 61, 60, 62, 43, 45, 42, 47, 37]⟩ : ByteArray)[k]'hlt).toNat : Int)) = false := by
          rw [sg_byte hlt, beq_eq_false_iff_ne]
          intro e
          exact hh (UInt8.toNat_inj.1 (by omega)).symm
        have hok1 := Lib.hid (show ∀ j (hj : j < 11), j < k + 1 → ¬ sgL[j]'hj = c from fun j hj hjk => by
          by_cases e : j = k
          · subst e; exact hh
          · exact hok.out j hj (by omega))
        clear hh
        go_wp2_with (go_quiet (fail))
        go_roundw
        case rel => exact ⟨k + 1, by omega, by go_num, hok1, Lib.hid (below_drewN hB.out _)⟩
        case measure => simp [intOf]; omega
    · obtain rfl : k = 11 := by omega
      have T := Lib.hid (show (⟨#[]⟩ : ByteArray) = R by
        rw [← H.out, if_neg (by rw [sg_not (fun j hj => hok.out j hj hj)]; decide)]
        apply text_eq
        rw [list_front]; rfl)
      go_wp2_with fail
      go_ret
      rw [T.out]
      exact ⟨rfl, hB.out⟩

set_option maxHeartbeats 4000000 in
theorem rSignW3 (s : ByteArray) (h1 : 1 ≤ s.size) (hm : s.size ≤ 281474976710656) (w : World) {c : UInt8} (hc : s[0]'(by omega) = c) (h2 : 2 ≤ s.size) (e1 : ((s[1].toNat : Int) == 61) = true) (e2 : ((c.toNat : Int) == 33) = false) (e3 : ((c.toNat : Int) == 60) = false) (e4 : ((c.toNat : Int) == 62) = false) : Calls Tryz.prog 37 #[.string s] w fun e w' => e = .returned (.string (s.extract 0 (if oneSign c = true then 1 else 0))) ∧ Below w.heap.size w w' := by
  obtain ⟨R, hR⟩ : ∃ R, s.extract 0 (if oneSign c = true then 1 else 0) = R := ⟨_, rfl⟩
  rw [hR]
  have H := Lib.hid hR
  clear hR
  have h0 : (0 : Int) < s.size := by omega
  go_enter Tryz.func37, Tryz.ntmps37
  go_wp2_with fail
  go_loopw [4] (fun i wr => ∃ k : Nat, k ≤ 11 ∧ i = .int .i64 k ∧ Hid (∀ j (hj : j < 11), j < k → ¬ sgL[j]'hj = c) ∧ Hid (Below w.heap.size w wr)) (fun i _ => 11 - (intOf i).toNat)
  case atStart => exact ⟨0, by omega, rfl, Lib.hid (fun j _ h => by omega), Lib.hid (Below.refl _ _)⟩
  case round =>
    obtain ⟨k, hk, rfl, hok, hB⟩ := hrel
    by_cases hlt : k < 11
    · have a1 : (k : Int) < 11 := by omega
      have a2 : (0 : Int) ≤ (k : Int) := by omega
      have a3 : ((k : Int)).toNat = k := by omega
      by_cases hh : sgL[k]'hlt = c
      · have q : ((c.toNat : Int) == (((⟨#[40, 41, 44, 61, 60, 62, 43, 45, 42, 47, 37]⟩ : ByteArray)[k]'hlt).toNat : Int)) = true := by rw [sg_byte hlt, hh]; exact beq_self_eq_true _
        have T := Lib.hid (show s.extract 0 1 = R by rw [← H.out, if_pos (sg_is hlt hh)])
        clear hh
        go_wp2_with (go_quiet (fail))
        go_ret
        rw [T.out]
        exact ⟨rfl, below_drewN hB.out _⟩
      · have q : ((c.toNat : Int) == (((⟨#[40, 41, 44, 61, 60, 62, 43, 45, 42, 47, 37]⟩ : ByteArray)[k]'hlt).toNat : Int)) = false := by
          rw [sg_byte hlt, beq_eq_false_iff_ne]
          intro e
          exact hh (UInt8.toNat_inj.1 (by omega)).symm
        have hok1 := Lib.hid (show ∀ j (hj : j < 11), j < k + 1 → ¬ sgL[j]'hj = c from fun j hj hjk => by
          by_cases e : j = k
          · subst e; exact hh
          · exact hok.out j hj (by omega))
        clear hh
        go_wp2_with (go_quiet (fail))
        go_roundw
        case rel => exact ⟨k + 1, by omega, by go_num, hok1, Lib.hid (below_drewN hB.out _)⟩
        case measure => simp [intOf]; omega
    · obtain rfl : k = 11 := by omega
      have T := Lib.hid (show (⟨#[]⟩ : ByteArray) = R by
        rw [← H.out, if_neg (by rw [sg_not (fun j hj => hok.out j hj hj)]; decide)]
        apply text_eq
        rw [list_front]; rfl)
      go_wp2_with fail
      go_ret
      rw [T.out]
      exact ⟨rfl, hB.out⟩

set_option maxHeartbeats 2000000 in
theorem rSignTA (s : ByteArray) (_hm : s.size ≤ 281474976710656) (w : World) (h2 : 2 ≤ s.size) (e1 : ((s[1].toNat : Int) == 61) = true) (e2 : ((s[0].toNat : Int) == 33) = true) : Calls Tryz.prog 37 #[.string s] w fun e w' => e = .returned (.string (s.extract 0 2)) ∧ Below w.heap.size w w' := by
  go_enter Tryz.func37, Tryz.ntmps37
  go_wp2_with fail
  go_ret
  exact ⟨rfl, Below.refl _ _⟩

set_option maxHeartbeats 2000000 in
theorem rSignTB (s : ByteArray) (_hm : s.size ≤ 281474976710656) (w : World) (h2 : 2 ≤ s.size) (e1 : ((s[1].toNat : Int) == 61) = true) (e2 : ((s[0].toNat : Int) == 33) = false) (e3 : ((s[0].toNat : Int) == 60) = true) : Calls Tryz.prog 37 #[.string s] w fun e w' => e = .returned (.string (s.extract 0 2)) ∧ Below w.heap.size w w' := by
  go_enter Tryz.func37, Tryz.ntmps37
  go_wp2_with fail
  go_ret
  exact ⟨rfl, Below.refl _ _⟩

set_option maxHeartbeats 2000000 in
theorem rSignTC (s : ByteArray) (_hm : s.size ≤ 281474976710656) (w : World) (h2 : 2 ≤ s.size) (e1 : ((s[1].toNat : Int) == 61) = true) (e2 : ((s[0].toNat : Int) == 33) = false) (e3 : ((s[0].toNat : Int) == 60) = false) (e4 : ((s[0].toNat : Int) == 62) = true) : Calls Tryz.prog 37 #[.string s] w fun e w' => e = .returned (.string (s.extract 0 2)) ∧ Below w.heap.size w w' := by
  go_enter Tryz.func37, Tryz.ntmps37
  go_wp2_with fail
  go_ret
  exact ⟨rfl, Below.refl _ _⟩

theorem byte_no {c : UInt8} {k : Nat} (hk : k < 256) (h : ¬ c = UInt8.ofNat k) : ((c.toNat : Int) == (k : Int)) = false := by
  rw [byte_eq c k hk]; exact beq_eq_false_iff_ne.2 h
theorem byte_is {c : UInt8} {k : Nat} (hk : k < 256) (h : c = UInt8.ofNat k) : ((c.toNat : Int) == (k : Int)) = true := by
  rw [byte_eq c k hk, h]; exact beq_self_eq_true _

theorem rSign_any (s : ByteArray) (h1 : 1 ≤ s.size) (hm : s.size ≤ 281474976710656) (w : World) : Calls Tryz.prog 37 #[.string s] w fun e w' => e = .returned (.string (s.extract 0 (signL s.data.toList))) ∧ Below w.heap.size w w' := by
  by_cases h2 : s.size = 1
  · have E : signL s.data.toList = if oneSign (s[0]'(by omega)) = true then 1 else 0 := by rw [bytes_one h2]; rfl
    rw [E]
    exact rSignW1 s h1 hm w rfl h2
  · obtain ⟨r, hr⟩ := bytes_two (s := s) (by omega)
    have E : signL s.data.toList = if twoSign (s[0]'(by omega)) (s[1]'(by omega)) = true then 2 else if oneSign (s[0]'(by omega)) = true then 1 else 0 := by rw [hr]; rfl
    rw [E]
    by_cases hd : s[1]'(by omega) = 61
    · have e1 := byte_is (c := s[1]'(by omega)) (k := 61) (by decide) hd
      by_cases a1 : s[0]'(by omega) = 33
      · rw [if_pos (by unfold twoSign; rw [hd, a1]; decide)]
        exact rSignTA s hm w (by omega) e1 (byte_is (k := 33) (by decide) a1)
      by_cases a2 : s[0]'(by omega) = 60
      · rw [if_pos (by unfold twoSign; rw [hd, a2]; decide)]
        exact rSignTB s hm w (by omega) e1 (byte_no (k := 33) (by decide) a1) (byte_is (k := 60) (by decide) a2)
      by_cases a3 : s[0]'(by omega) = 62
      · rw [if_pos (by unfold twoSign; rw [hd, a3]; decide)]
        exact rSignTC s hm w (by omega) e1 (byte_no (k := 33) (by decide) a1) (byte_no (k := 60) (by decide) a2) (byte_is (k := 62) (by decide) a3)
      rw [if_neg (by unfold twoSign; rw [beq_eq_false_iff_ne.2 a1, beq_eq_false_iff_ne.2 a2, beq_eq_false_iff_ne.2 a3]; simp)]
      exact rSignW3 s h1 hm w rfl (by omega) e1 (byte_no (k := 33) (by decide) a1) (byte_no (k := 60) (by decide) a2) (byte_no (k := 62) (by decide) a3)
    · rw [if_neg (by unfold twoSign; rw [beq_eq_false_iff_ne.2 hd, Bool.false_and]; decide)]
      exact rSignW2 s h1 hm w rfl (by omega) (byte_no (k := 61) (by decide) hd)

end Go.Proofs.YteegdemnajhehaaGreatDoor
