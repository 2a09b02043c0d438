/-
  No statement: the contracts of Check of package stamp and its parts.
-/
import Derived.Test.YtpdobbdbmgeoiaaVCheck
import Derived.Test.YtpdobbdbmgeoiaaSParts
namespace Go.Proofs.Ytpdobbdbmgeoiaa
open Go.RowKit

theorem ret_b {a b : Bool} (h : a = b) : Ending.returned (.bool a) = .returned (.bool b) := by rw [h]

/-- Is a number 0 to a thousand million? -/
def countB (n : Int) : Bool := decide (0 ≤ n) && decide (n ≤ 1000000000)

theorem size_pos {s : ByteArray} (h : (s.toList == (⟨#[]⟩ : ByteArray).toList) = false) : ¬ s.size = 0 := by
  intro e
  obtain rfl : s = ⟨#[]⟩ := by cases s with | mk d => simp [ByteArray.size] at e; simp [e]
  simp at h

/-- What is wrong with a stamp; 0: nothing. -/
def errS (t i q : Int) (o : ByteArray) : Int := if countB t = true then if countB i = true then if countB q = true then if nodeB o.data.toList = true then 0 else 5 else 1 else 1 else 1

/-- A stamp as a value. -/
abbrev stp (t i q : Int) (o : ByteArray) : Value := .agg #[.int .i64 t, .int .i64 i, .int .i64 q, .string o]

end Go.Proofs.Ytpdobbdbmgeoiaa
