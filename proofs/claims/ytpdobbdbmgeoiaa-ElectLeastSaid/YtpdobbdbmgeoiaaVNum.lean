/-
  No statement: contracts of the numbers' calls of package value, and of the document's own (P202).
-/
import Derived.Test.YtpdobbdbmgeoiaaProg
import Derived.WalkKit
import Derived.WalkSpells
import Derived.IntWalk
import Derived.Lib.Hide
namespace Go.Proofs.Ytpdobbdbmgeoiaa
open Go.RowKit

/-- Within 64 bits. -/
def In64 (a : Int) : Prop := -9223372036854775808 ≤ a ∧ a ≤ 9223372036854775807
/-- Cut to 64 bits. -/
def cut64 (x : Int) : Int := if x < -9223372036854775808 then -9223372036854775808 else if 9223372036854775807 < x then 9223372036854775807 else x

theorem cut64_in (x : Int) : In64 (cut64 x) := by unfold In64 cut64; split; omega; split <;> omega
theorem cut64_id {x : Int} (h : In64 x) : cut64 x = x := by unfold In64 at h; unfold cut64; rw [if_neg (by omega), if_neg (by omega)]
theorem cut64_hi {x : Int} (h : 9223372036854775807 < x) : cut64 x = 9223372036854775807 := by unfold cut64; rw [if_neg (by omega), if_pos h]
theorem cut64_lo {x : Int} (h : x < -9223372036854775808) : cut64 x = -9223372036854775808 := by unfold cut64; rw [if_pos h]
theorem wrap_up {x : Int} (h : 9223372036854775807 < x) (h' : x ≤ 18446744073709551615) : wrap64 x = x - 18446744073709551616 := by unfold wrap64; omega
theorem wrap_down {x : Int} (h : x < -9223372036854775808) (h' : -18446744073709551616 ≤ x) : wrap64 x = x + 18446744073709551616 := by unfold wrap64; omega
theorem wrap_in {x : Int} (h : In64 x) : wrap64 x = x := by unfold In64 at h; unfold wrap64; omega
theorem ret_p {a b : Int} {c : Bool} (h : a = b) : Ending.returned (.tuple #[.int .i64 a, .bool c]) = .returned (.tuple #[.int .i64 b, .bool c]) := by rw [h]
theorem ret_i64 {a b : Int} (h : a = b) : Ending.returned (.int .i64 a) = .returned (.int .i64 b) := by rw [h]

theorem tdiv_in {a b : Int} (ha : In64 a) (h0 : ¬ b = 0) (h : a = -9223372036854775808 → ¬ b = -1) : In64 (a.tdiv b) := by
  unfold In64 at *
  have e : (a.tdiv b).natAbs = a.natAbs / b.natAbs := Int.natAbs_tdiv a b
  by_cases h1 : b = 1
  · rw [h1, Int.tdiv_one]; exact ha
  by_cases h2 : b = -1
  · rw [h2, Int.tdiv_neg, Int.tdiv_one]
    have : ¬ a = -9223372036854775808 := fun x => h x h2
    omega
  have hb : 2 ≤ b.natAbs := by omega
  have hle : a.natAbs / b.natAbs ≤ a.natAbs / 2 := Nat.div_le_div_left hb (by decide)
  rw [← e] at hle
  omega

theorem tdiv_ends {a b : Int} (ha : a = -9223372036854775808) (hb : b = -1) : (9223372036854775807 : Int) = cut64 (a.tdiv b) := by
  rw [ha, hb]; decide

theorem tdiv_low {a b : Int} (ha : a = -9223372036854775808) (h0 : ¬ b = 0) (h : (b == -1) = false) : wrap64 (-Int.tdiv 9223372036854775808 b) = cut64 (a.tdiv b) := by
  have hi := tdiv_in (a := a) (b := b) ⟨by omega, by omega⟩ h0 (fun _ => by simpa using h)
  have e : -Int.tdiv 9223372036854775808 b = a.tdiv b := by rw [ha, Int.neg_tdiv]
  rw [cut64_id hi, e, wrap_in hi]

theorem ret_u64v {a b : Int} (h : a = b) : Ending.returned (.int .u64 a) = .returned (.int .u64 b) := by rw [h]
theorem wrap_u {a : Int} (h : a < 0) (a1 : -9223372036854775808 ≤ a) : IntKind.u64.wrap (-IntKind.u64.wrap a) = (a.natAbs : Nat) := by
  simp only [IntKind.wrap, IntKind.signed, IntKind.bits]
  simp
  omega

end Go.Proofs.Ytpdobbdbmgeoiaa
