/-
  No statement: a value in a block of its own.
-/
import Derived.Test.YtdghknmlleffbaaDoorVKnown
import Derived.Test.YtdghknmlleffbaaDoorVVal
namespace Go.Proofs.YtdghknmlleffbaaDoor
open Go.RowKit

/-- A value is short. -/
def fewB (s : ByteArray) (len : Nat) : Bool := decide (s.size ≤ 200) && decide (len ≤ 40)

theorem ret_bool {a b : Bool} (h : a = b) : Ending.returned (.bool a) = .returned (.bool b) := by rw [h]

set_option maxHeartbeats 1000000 in
theorem few_any (k n : Int) (s : ByteArray) (hs : s.size ≤ maxLen) (a : Option Addr) (len cap : Nat) (hl : len ≤ maxLen) (w : World) :
    Calls Tryd.prog 9 #[val k n s (.slice a len cap)] w fun e w' => e = .returned (.bool (fewB s len)) ∧ Below w.heap.size w w' := by
  unfold maxLen at hs hl
  unfold val
  by_cases h1 : s.size ≤ 200
  · by_cases h2 : len ≤ 40
    · rw [show fewB s len = true by unfold fewB; rw [decide_eq_true h1, decide_eq_true h2]; rfl]
      go_enter Tryd.func9, Tryd.ntmps9
      go_wp2_with fail
      go_ret
      exact ⟨ret_bool (a := decide ((len : Int) ≤ 40)) (decide_eq_true (by omega)), (Below.refl _ _).alloc (Nat.le_refl _) _⟩
    · rw [show fewB s len = false by unfold fewB; rw [decide_eq_true h1, decide_eq_false h2]; rfl]
      go_enter Tryd.func9, Tryd.ntmps9
      go_wp2_with fail
      go_ret
      exact ⟨ret_bool (a := decide ((len : Int) ≤ 40)) (decide_eq_false (by omega)), (Below.refl _ _).alloc (Nat.le_refl _) _⟩
  · rw [show fewB s len = false by unfold fewB; rw [decide_eq_false h1]; rfl]
    go_enter Tryd.func9, Tryd.ntmps9
    go_wp2_with fail
    go_ret
    exact ⟨rfl, (Below.refl _ _).alloc (Nat.le_refl _) _⟩

/-- A value lies in block B, its numbers where its slice says. -/
structure VAt (B : Nat) (k n : Int) (s : ByteArray) (a : Option Addr) (l c : Nat) (z : Nat → Int) (w : World) : Prop where
  r : Reads w a l z
  c : w.heap[B]? = some (.cells #[.int .i64 k, .int .i64 n, .string s, .slice a l c] 24 (0, 0))

theorem VAt.kept {B : Nat} {k n : Int} {s : ByteArray} {a : Option Addr} {l c : Nat} {z : Nat → Int} {w w' : World} (h : VAt B k n s a l c z w) (hb : Below w.heap.size w w') : VAt B k n s a l c z w' :=
  ⟨h.r.kept hb, (hb.block _ (lt_of_block h.c)).trans h.c⟩

theorem few_of {k n : Int} {s : ByteArray} {a : Option Addr} {l c : Nat} {z : Nat → Int} {B : Nat} {w : World} (h : VAt B k n s a l c z w) (hs : s.size ≤ maxLen) : Calls Tryd.prog 9 #[.agg #[.int .i64 k, .int .i64 n, .string s, .slice a l c]] w fun e w' => e = .returned (.bool (fewB s l)) ∧ Below w.heap.size w w' :=
  few_any k n s hs a l c h.r.1 w

theorem compare_of {k1 n1 : Int} {s1 : ByteArray} {a1 : Option Addr} {l1 c1 : Nat} {z1 : Nat → Int} {B1 : Nat} {k2 n2 : Int} {s2 : ByteArray} {a2 : Option Addr} {l2 c2 : Nat} {z2 : Nat → Int} {B2 : Nat} {w : World} (h1 : VAt B1 k1 n1 s1 a1 l1 c1 z1 w) (h2 : VAt B2 k2 n2 s2 a2 l2 c2 z2 w) {x : Int} (hx : cmpV k1 n1 s1 l1 z1 k2 n2 s2 l2 z2 = x) :
    Calls Tryd.prog 14 #[.agg #[.int .i64 k1, .int .i64 n1, .string s1, .slice a1 l1 c1], .agg #[.int .i64 k2, .int .i64 n2, .string s2, .slice a2 l2 c2]] w fun e w' => e = .returned (.int .i64 x) ∧ Below w.heap.size w w' := by
  rw [← hx]
  exact compare_any k1 n1 s1 a1 l1 c1 z1 k2 n2 s2 a2 l2 c2 z2 w h1.r h2.r

end Go.Proofs.YtdghknmlleffbaaDoor
