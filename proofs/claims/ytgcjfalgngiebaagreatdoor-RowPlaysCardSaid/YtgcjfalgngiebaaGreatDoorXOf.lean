/-
  No statement: the law's own Few, FewAttrs, Of and OfAttrs, of rows.
-/
import Derived.Test.YtgcjfalgngiebaaGreatDoorXText
import Derived.Test.YtgcjfalgngiebaaGreatDoorAppM
import Derived.Test.YtgcjfalgngiebaaGreatDoorRDec
namespace Go.Proofs.YtgcjfalgngiebaaGreatDoor
open Go.RowKit

set_option maxHeartbeats 1000000 in
theorem few2_any (k n : Int) (s : ByteArray) (a : Option Addr) (len cap : Nat) (hs : s.size ≤ maxLen) (hl : len ≤ maxLen) (w : World) :
    Calls Tryz.prog 5 #[.agg #[.int .i64 k, .int .i64 n, .string s, .slice a len cap]] w fun e w' => e = .returned (.bool (decide (s.size ≤ 200) && decide (len ≤ 40))) ∧ Below w.heap.size w w' := by
  unfold maxLen at hs hl
  by_cases h1 : s.size ≤ 200
  · by_cases h2 : len ≤ 40
    · go_enter Tryz.func5, Tryz.ntmps5
      go_wp2_with fail
      go_ret
      exact ⟨ret_b (a := decide ((len : Int) ≤ 40)) (by rw [decide_eq_true h1, Bool.true_and, decide_eq_true h2]; exact decide_eq_true (by omega)), (Below.refl _ _).alloc (Nat.le_refl _) _⟩
    · go_enter Tryz.func5, Tryz.ntmps5
      go_wp2_with fail
      go_ret
      exact ⟨ret_b (a := decide ((len : Int) ≤ 40)) (by rw [decide_eq_true h1, Bool.true_and, decide_eq_false h2]; exact decide_eq_false (by omega)), (Below.refl _ _).alloc (Nat.le_refl _) _⟩
  · go_enter Tryz.func5, Tryz.ntmps5
    go_wp2_with fail
    go_ret
    exact ⟨ret_b (a := false) (by first | rfl | (rw [decide_eq_false h1]; rfl)), (Below.refl _ _).alloc (Nat.le_refl _) _⟩

/-- Is an attribute short? -/
def fewA (x : AD) : Bool := decide (x.m.size ≤ 100) && (decide (x.s.size ≤ 200) && decide (x.len ≤ 40))
def fewAs (l : List AD) : Bool := l.all fewA
/-- Are attributes few, and short? -/
def fewL (n : Nat) (A : Nat → AD) : Bool := decide (n ≤ 40) && fewAs (fromA A n 0)
/-- Is a row short? -/
def fewR (x : RD) : Bool := decide (x.key.size ≤ 100) && (decide (x.o.size ≤ 100) && fewL x.len x.A)
/-- All sizes are sizes of Go. -/
def SizA (x : AD) : Prop := x.m.size ≤ maxLen ∧ x.s.size ≤ maxLen ∧ x.len ≤ maxLen

end Go.Proofs.YtgcjfalgngiebaaGreatDoor
