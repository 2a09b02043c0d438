/-
  No statement: the contract of within of package value.
-/
import Derived.Test.YtdghknmlleffbaaDoorVNum
namespace Go.Proofs.YtdghknmlleffbaaDoor
open Go.RowKit

set_option maxHeartbeats 1000000 in
theorem within_short (s : ByteArray) (c : Int) (hs : s.size < 2) (w : World) :
    Calls Tryd.prog 58 #[.string s, .int .u8 c] w fun e w' => e = .returned (.tuple #[.string ⟨#[]⟩, .bool false]) ∧ w = w' := by
  go_enter Tryd.func58, Tryd.ntmps58
  go_wp2_with fail
  go_ret2
  exact ⟨rfl, rfl⟩

set_option maxHeartbeats 1000000 in
theorem within_any (s : ByteArray) (c : Int) (hs : 2 ≤ s.size) (hm : s.size ≤ 281474976710656) (w : World) :
    Calls Tryd.prog 58 #[.string s, .int .u8 c] w fun e w' => e = .returned (if (s[s.size - 1].toNat : Int) = c then .tuple #[.string (s.extract 1 (s.size - 1)), .bool true] else .tuple #[.string ⟨#[]⟩, .bool false]) ∧ w = w' := by
  by_cases h : (s[s.size - 1].toNat : Int) = c
  · rw [if_pos h]
    have h1 : (((s[s.size - 1].toNat : Int)) != c) = false := by simpa using h
    go_enter Tryd.func58, Tryd.ntmps58
    go_wp2_with fail
    go_ret2
    exact ⟨rfl, rfl⟩
  · rw [if_neg h]
    have h1 : (((s[s.size - 1].toNat : Int)) != c) = true := by simpa using h
    go_enter Tryd.func58, Tryd.ntmps58
    go_wp2_with fail
    go_ret2
    exact ⟨rfl, rfl⟩

end Go.Proofs.YtdghknmlleffbaaDoor
