/-
  No statement: the contracts of checkAttr and Check of package row.
-/
import Derived.Test.YtpdobbdbmgeoiaaWDef
import Derived.LoopTactic
import Derived.Deep.LoopGhost
import Derived.Deep.Cut
import Derived.StillTailTactics
namespace Go.Proofs.Ytpdobbdbmgeoiaa
open Go.RowKit

theorem leqS_yes {p m : ByteArray} (h : lsS p m = false) : (Op.bytesLess m.toList p.toList || m.toList == p.toList) = true := by
  by_cases e : lsS m p = true
  · have e' : Op.bytesLess m.toList p.toList = true := e
    rw [e']; rfl
  · rw [strictS.total m p (by simpa using e) h]; simp

theorem leqS_no {p m : ByteArray} (h : lsS p m = true) : Op.bytesLess m.toList p.toList = false ∧ (m.toList == p.toList) = false := by
  constructor
  · cases e : Op.bytesLess m.toList p.toList with
    | false => rfl
    | true => have := strictS.trans _ _ _ h e; rw [strictS.irrefl] at this; cases this
  · rw [beq_eq_false_iff_ne]
    intro e
    rw [bytes_eq e, strictS.irrefl] at h; cases h

theorem bcell {W w1 : World} (hb : Below W.heap.size W w1) : (∀ b o, b < W.heap.size → w1.cell? ⟨b, o, none⟩ = W.cell? ⟨b, o, none⟩) ∧ (∀ b o, b < W.heap.size → w1.frozen? ⟨b, o, none⟩ = W.frozen? ⟨b, o, none⟩) :=
  ⟨fun b o h => hb.cell (p := ⟨b, o, none⟩) h, fun b o h => hb.frozen (p := ⟨b, o, none⟩) h⟩

end Go.Proofs.Ytpdobbdbmgeoiaa
