/-
  No statement: the contracts of the document's own Of, Order, OrderText, Decimal.
-/
import Derived.Test.YtbabkdeppcfcnaaGreatDoorVCmp
import Derived.Test.YtbabkdeppcfcnaaGreatDoorVText
import Derived.Laws.IdiomStrings
namespace Go.Proofs.YtbabkdeppcfcnaaGreatDoor
open Go.RowKit

set_option maxHeartbeats 1000000 in
theorem order_any (a b : Int) (w : World) : Calls Tryz.prog 58 #[.int .i64 a, .int .i64 b] w fun e w' => e = .returned (.int .i64 (cmpI a b)) ∧ w = w' := by
  have hc : a < b ∨ b < a ∨ a = b := by omega
  rcases hc with h | h | rfl
  · rw [show cmpI a b = -1 by unfold cmpI; rw [if_pos h]]
    go_enter Tryz.func58, Tryz.ntmps58
    go_wp2
    go_ret
    exact ⟨rfl, rfl⟩
  · rw [show cmpI a b = 1 by unfold cmpI; rw [if_neg (by omega), if_pos h]]
    go_enter Tryz.func58, Tryz.ntmps58
    go_wp2
    go_ret
    exact ⟨rfl, rfl⟩
  · rw [cmpI_self]
    go_enter Tryz.func58, Tryz.ntmps58
    go_wp2
    go_ret
    exact ⟨rfl, rfl⟩

set_option maxHeartbeats 1000000 in
theorem orderText_any (a b : ByteArray) (w : World) : Calls Tryz.prog 59 #[.string a, .string b] w fun e w' => e = .returned (.int .i64 (cmpS a b)) ∧ w = w' := by
  by_cases h : Op.bytesLess a.toList b.toList = true
  · rw [show cmpS a b = -1 by unfold cmpS; rw [if_pos h]]
    go_enter Tryz.func59, Tryz.ntmps59
    go_wp2
    go_ret
    exact ⟨rfl, rfl⟩
  · have h' : Op.bytesLess a.toList b.toList = false := by simpa using h
    by_cases k : Op.bytesLess b.toList a.toList = true
    · rw [show cmpS a b = 1 by unfold cmpS; rw [if_neg h, if_pos k]]
      have q : (a.toList == b.toList) = false := by
        rw [beq_eq_false_iff_ne]; intro e
        rw [e, bytesLess_irrefl] at k; cases k
      clear h
      go_enter Tryz.func59, Tryz.ntmps59
      go_wp2
      go_ret
      exact ⟨rfl, rfl⟩
    · have k' : Op.bytesLess b.toList a.toList = false := by simpa using k
      rw [show cmpS a b = 0 by unfold cmpS; rw [if_neg h, if_neg k]]
      obtain rfl : a = b := bytes_eq (bytesLess_total _ _ h' k')
      clear h k k'
      go_enter Tryz.func59, Tryz.ntmps59
      go_wp2
      go_ret
      exact ⟨rfl, rfl⟩

set_option maxHeartbeats 1000000 in
theorem of_any (k n : Int) (s : ByteArray) (a : Option Addr) (len cap : Nat) (w : World) : Calls Tryz.prog 21 #[val k n s (.slice a len cap)] w fun e w' => e = .returned (val k n s (.slice a len cap)) ∧ Below w.heap.size w w' := by
  unfold val
  go_enter Tryz.func21, Tryz.ntmps21
  go_wp2
  exact bodyPost_ret (v := .agg #[.int .i64 k, .int .i64 n, .string s, .slice a len cap]) (by simp [results, Tryz.results21, go_sem]) rfl ⟨rfl, ((Below.refl _ _).alloc (Nat.le_refl _) _).alloc (by simp) _⟩

/-- A digit's byte. -/
def dig (m : Nat) : ByteArray := ⟨#[UInt8.ofNat (48 + m % 10)]⟩

/-- What stands ahead of the digits that are told. -/
def ahead (m : Nat) : List UInt8 := if m < 10 then [] else Lib.decDigits (m / 10)

theorem dec_ahead (m : Nat) : Lib.decDigits m = ahead m ++ (dig m).data.toList := by
  unfold ahead
  by_cases h : m < 10
  · rw [if_pos h, Lib.decDigits, dif_pos h]; simp [dig, Nat.mod_eq_of_lt h]
  · rw [if_neg h, Lib.decDigits, dif_neg h]; simp [dig]

theorem digit_conv (w : World) (m : Nat) : (convert 81 9 (.slice (some ⟨w.heap.size, 0, none⟩) 1 1)).run Tryz.prog (w.alloc (.cells #[.int .u8 (48 + (m : Int) % 10)] 5)) = .ok (.string (dig m)) (w.alloc (.cells #[.int .u8 (48 + (m : Int) % 10)] 5)) := by
  have := run_convert_bytes_back (P := Tryz.prog) (w.alloc (.cells #[.int .u8 (48 + (m : Int) % 10)] 5)) 81 9 5 ⟨w.heap.size, 0, none⟩ 1 [UInt8.ofNat (48 + m % 10)] Tryz.underlying81 Tryz.underlying5 Tryz.underlying9 (fun j hj => by
    obtain rfl : j = 0 := by simpa using hj
    have e : ((UInt8.ofNat (48 + m % 10)).toNat : Int) = 48 + (m : Int) % 10 := by
      rw [UInt8.toNat_ofNat']; omega
    simp only [List.getElem_cons_zero, e]
    exact cell_one_new w _ _ 0 _ rfl)
  exact this

theorem dec_length {n : Nat} (hn : n ≤ 9223372036854775807) : (Lib.decDigits n).length ≤ 21 := by
  have := Lib.itoa_length_le n (by omega) (by omega)
  rwa [Lib.itoa, if_neg (by omega), Int.toNat_natCast] at this

set_option maxRecDepth 100000 in
set_option maxHeartbeats 4000000 in
theorem decNat_any (n : Nat) (hn : n ≤ 9223372036854775807) (w : World) : Calls Tryz.prog 71 #[.int .i64 n] w fun e w' => e = .returned (.string ⟨(Lib.decDigits n).toArray⟩) ∧ Below w.heap.size w w' := by
  have hcv := digit_conv w n
  have DC := Lib.hid (fun w m => digit_conv w m)
  have q1 : ((n : Int) == -9223372036854775808) = false := by rw [beq_eq_false_iff_ne]; omega
  have q2 : decide ((n : Int) < 0) = false := decide_eq_false (by omega)
  have ql := Lib.hid (dec_length hn)
  go_enter Tryz.func71, Tryz.ntmps71
  go_wp2
  go_loopw [0, 3] (fun v t wr => ∃ (m : Nat) (T : ByteArray), m ≤ 9223372036854775807 ∧ v = .int .i64 m ∧ t = .string T ∧ Hid (Lib.decDigits n = ahead m ++ T.data.toList) ∧ Hid (Below w.heap.size w wr)) (fun v _ _ => (intOf v).toNat)
  case atStart => exact ⟨n, dig n, hn, rfl, rfl, Lib.hid (dec_ahead n), Lib.hid ((Below.refl _ _).alloc (Nat.le_refl _) _)⟩
  case round =>
    obtain ⟨m, T, hm, rfl, rfl, hd, hb⟩ := hrel
    clear hcv
    by_cases h : 10 ≤ m
    · have hcv : (convert 81 9 (.slice (some ⟨wr.heap.size, 0, none⟩) 1 1)).run Tryz.prog (wr.alloc (.cells #[.int .u8 (48 + (m : Int) / 10 % 10)] 5)) = .ok (.string (dig (m / 10))) (wr.alloc (.cells #[.int .u8 (48 + (m : Int) / 10 % 10)] 5)) := DC.out wr (m / 10)
      have hd2 := Lib.hid (show Lib.decDigits n = ahead (m / 10) ++ (dig (m / 10) ++ T).data.toList by
        rw [hd.out, show ahead m = Lib.decDigits (m / 10) by unfold ahead; rw [if_neg (by omega)], dec_ahead (m / 10)]
        simp)
      have hb2 := Lib.hid (hb.out.alloc (by have := hb.out.size; exact this) (.cells #[.int .u8 (48 + (m : Int) / 10 % 10)] 5))
      have hT : T.size ≤ 21 := by
        have := congrArg List.length hd.out
        rw [List.length_append] at this
        have e : T.data.toList.length = T.size := by simp
        have := ql.out
        omega
      have hD : (dig (m / 10)).size ≤ 1 := Nat.le_refl _
      go_wp2
      exact ⟨⟨m / 10, dig (m / 10) ++ T, by omega, rfl, rfl, hd2, hb2⟩, by simp [intOf]; omega⟩
    · go_wp2
      go_ret
      refine ⟨?_, hb.out⟩
      rw [hd.out, show ahead m = [] by unfold ahead; rw [if_pos (by omega)]]
      rfl

theorem itoa_least : Lib.itoa (-9223372036854775808) = [45, 57, 50, 50, 51, 51, 55, 50, 48, 51, 54, 56, 53, 52, 55, 55, 53, 56, 48, 56] := by
  simp [Lib.itoa, Lib.decDigits]

set_option maxRecDepth 100000 in
set_option maxHeartbeats 1000000 in
theorem decimal_any (n : Int) (hn : In64 n) (w : World) : Calls Tryz.prog 71 #[.int .i64 n] w fun e w' => e = .returned (.string ⟨(Lib.itoa n).toArray⟩) ∧ Below w.heap.size w w' := by
  by_cases h0 : 0 ≤ n
  · obtain ⟨m, rfl⟩ : ∃ m : Nat, n = m := ⟨n.toNat, by omega⟩
    rw [show Lib.itoa (m : Int) = Lib.decDigits m by rw [Lib.itoa, if_neg (by omega), Int.toNat_natCast]]
    exact decNat_any m (by have := hn.2; omega) w
  by_cases hl : n = -9223372036854775808
  · subst hl
    rw [itoa_least]
    go_enter Tryz.func71, Tryz.ntmps71
    go_wp2_with fail
    go_ret
    exact ⟨rfl, Below.refl _ _⟩
  · obtain ⟨m, hm⟩ : ∃ m : Nat, n = -(m : Int) := ⟨n.natAbs, by omega⟩
    have hm1 : 1 ≤ m := by omega
    have hm2 : m ≤ 9223372036854775807 := by have := hn.1; omega
    have R := Lib.hid (show Lib.itoa n = 45 :: Lib.decDigits m by rw [Lib.itoa, if_pos (by omega), show n.natAbs = m by omega])
    have C := Lib.hid (decNat_any m hm2 w)
    have hlen := dec_length hm2
    obtain ⟨T, hT⟩ : ∃ T : ByteArray, ⟨(Lib.decDigits m).toArray⟩ = T := ⟨_, rfl⟩
    have hTs : T.size ≤ 21 := by
      rw [← hT]
      show (Lib.decDigits m).toArray.size ≤ 21
      simpa using hlen
    have hT1 := Lib.hid hT
    rw [hT] at C
    have q1 : (n == -9223372036854775808) = false := by simpa using hl
    have q2 : decide (n < 0) = true := decide_eq_true (by omega)
    clear hl h0 hn hlen hT
    subst hm
    go_enter Tryz.func71, Tryz.ntmps71
    go_wp2_with fail
    refine C.out.mono ?_
    rintro e w1 ⟨rfl, hb⟩
    have hb1 := Lib.hid hb
    clear hb
    go_wp2_with fail
    go_ret
    refine ⟨ret_str ?_, hb1.out⟩
    rw [R.out]
    simp [← hT1.out]

end Go.Proofs.YtbabkdeppcfcnaaGreatDoor
