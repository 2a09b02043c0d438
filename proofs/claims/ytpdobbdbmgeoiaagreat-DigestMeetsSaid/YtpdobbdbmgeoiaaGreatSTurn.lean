/-
  No statement: the order of stamps, turned; where it is nought.
-/
import Derived.Test.YtpdobbdbmgeoiaaGreatSCmp
namespace Go.Proofs.YtpdobbdbmgeoiaaGreat
open Go.RowKit

theorem cmpI_turn (a b : Int) : cmpI b a = -(cmpI a b) := by unfold cmpI; omega
theorem cmpS_turn (a b : ByteArray) : cmpS b a = -(cmpS a b) := by
  unfold cmpS
  cases h : Op.bytesLess a.toList b.toList with
  | true =>
    cases k : Op.bytesLess b.toList a.toList with
    | true => have := bytesLess_trans _ _ _ h k; rw [bytesLess_irrefl] at this; cases this
    | false => rfl
  | false =>
    cases k : Op.bytesLess b.toList a.toList with
    | true => rfl
    | false => rfl
theorem cmpSt_turn (t1 i1 q1 : Int) (o1 : ByteArray) (t2 i2 q2 : Int) (o2 : ByteArray) : cmpSt t2 i2 q2 o2 t1 i1 q1 o1 = -(cmpSt t1 i1 q1 o1 t2 i2 q2 o2) := by
  unfold cmpSt orI
  rw [cmpI_turn t1 t2, cmpI_turn i1 i2, cmpI_turn q1 q2, cmpS_turn o1 o2]
  split <;> split <;> (try split) <;> (try split) <;> (try split) <;> (try split) <;> omega
theorem cmpI_zero {a b : Int} : cmpI a b = 0 ↔ a = b := by unfold cmpI; omega
theorem cmpS_zero {a b : ByteArray} : cmpS a b = 0 ↔ a = b := by
  refine ⟨fun h => ?_, fun h => by subst h; exact cmpS_self a⟩
  unfold cmpS at h
  cases h1 : Op.bytesLess a.toList b.toList with
  | true => rw [h1] at h; simp at h
  | false =>
    cases h2 : Op.bytesLess b.toList a.toList with
    | true => rw [h1, h2] at h; simp at h
    | false => exact bytes_eq (bytesLess_total _ _ h1 h2)
theorem cmpSt_zero {t1 i1 q1 : Int} {o1 : ByteArray} {t2 i2 q2 : Int} {o2 : ByteArray} : cmpSt t1 i1 q1 o1 t2 i2 q2 o2 = 0 ↔ t1 = t2 ∧ i1 = i2 ∧ q1 = q2 ∧ o1 = o2 := by
  unfold cmpSt orI
  constructor
  · intro h
    split at h
    · split at h
      · split at h
        · exact ⟨cmpI_zero.1 ‹_›, cmpI_zero.1 ‹_›, cmpI_zero.1 ‹_›, cmpS_zero.1 h⟩
        · exact absurd h ‹_›
      · exact absurd h ‹_›
    · exact absurd h ‹_›
  · rintro ⟨rfl, rfl, rfl, rfl⟩
    rw [cmpI_self, cmpI_self, cmpI_self, cmpS_self]; rfl

end Go.Proofs.YtpdobbdbmgeoiaaGreat
