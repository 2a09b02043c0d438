/-
  No statement: the contracts of Compare and Newer of package stamp.
-/
import Derived.Test.YtpdobbdbmgeoiaaVCmp
import Derived.Test.YtpdobbdbmgeoiaaSCheck
import Derived.StillTailTactics
import Derived.RangeFuncRecord
namespace Go.Proofs.Ytpdobbdbmgeoiaa
open Go.RowKit

theorem same_of {P : Program} {f : FuncId} {args : Array Value} {w : World} {v : Value} (h : Calls P f args w fun e w' => e = .returned v ∧ w = w') : Calls P f args w fun e w'' => e = .returned v ∧ w'' = w :=
  h.mono fun _ _ ⟨he, hw⟩ => ⟨he, hw.symm⟩

/-- The first that is not nought. -/
def orI (a b : Int) : Int := if a = 0 then b else a
/-- -1, 0, 1: of two stamps. -/
def cmpSt (t1 i1 q1 : Int) (o1 : ByteArray) (t2 i2 q2 : Int) (o2 : ByteArray) : Int := orI (cmpI t1 t2) (orI (cmpI i1 i2) (orI (cmpI q1 q2) (cmpS o1 o2)))

theorem cmpSt_self (t i q : Int) (o : ByteArray) : cmpSt t i q o t i q o = 0 := by
  unfold cmpSt orI; rw [cmpI_self, cmpI_self, cmpI_self, cmpS_self]; rfl

theorem cmpI_bounds (a b : Int) : cmpI a b = -1 ∨ cmpI a b = 0 ∨ cmpI a b = 1 := by unfold cmpI; omega
theorem cmpS_bounds (a b : ByteArray) : cmpS a b = -1 ∨ cmpS a b = 0 ∨ cmpS a b = 1 := by
  unfold cmpS
  split
  · exact .inl rfl
  · split
    · exact .inr (.inr rfl)
    · exact .inr (.inl rfl)

theorem cmpSt_bounds (t1 i1 q1 : Int) (o1 : ByteArray) (t2 i2 q2 : Int) (o2 : ByteArray) : cmpSt t1 i1 q1 o1 t2 i2 q2 o2 = -1 ∨ cmpSt t1 i1 q1 o1 t2 i2 q2 o2 = 0 ∨ cmpSt t1 i1 q1 o1 t2 i2 q2 o2 = 1 := by
  have h1 := cmpI_bounds t1 t2
  have h2 := cmpI_bounds i1 i2
  have h3 := cmpI_bounds q1 q2
  have h4 := cmpS_bounds o1 o2
  unfold cmpSt orI
  split <;> (try split) <;> (try split) <;> omega

theorem ordOr {x y z x' y' z' : Int} (h : Ord3 x y z) (h' : Ord3 x' y' z') : Ord3 (orI x x') (orI y y') (orI z z') := by
  unfold Ord3 orI at *
  split <;> split <;> split <;> omega

theorem ordSt (t1 i1 q1 : Int) (o1 : ByteArray) (t2 i2 q2 : Int) (o2 : ByteArray) (t3 i3 q3 : Int) (o3 : ByteArray) :
    Ord3 (cmpSt t1 i1 q1 o1 t2 i2 q2 o2) (cmpSt t2 i2 q2 o2 t3 i3 q3 o3) (cmpSt t1 i1 q1 o1 t3 i3 q3 o3) :=
  ordOr (ordI _ _ _) (ordOr (ordI _ _ _) (ordOr (ordI _ _ _) (ordS _ _ _)))

end Go.Proofs.Ytpdobbdbmgeoiaa
