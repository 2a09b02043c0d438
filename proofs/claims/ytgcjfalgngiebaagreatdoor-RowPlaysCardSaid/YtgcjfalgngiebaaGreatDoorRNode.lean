/-
  No statement: the contracts of the document's Parse, Path, Node, CheckStamp.
-/
import Derived.Test.YtgcjfalgngiebaaGreatDoorRCut
namespace Go.Proofs.YtgcjfalgngiebaaGreatDoor
open Go.RowKit

theorem node_at {s : ByteArray} (h : 1 ≤ s.size) (h0 : s[0] = 47) : nodeB s.data.toList = ((segs (s.data.toList.drop 1)).all goodB && decide ((segs (s.data.toList.drop 1)).length ≤ 4)) := by
  have hl : s.data.toList.length = s.size := by simp
  have h00 : s.data.toList[0]? = some s[0] := List.getElem?_eq_getElem (by omega)
  cases e : s.data.toList with
  | nil => rw [e] at hl; simp at hl; omega
  | cons c r =>
    rw [e] at h00
    have : c = s[0] := by simpa using h00
    rw [h0] at this
    subst this
    unfold nodeB
    rw [node_cons, List.drop_one, List.tail_cons]
    simp

/-- What Parse's error is. -/
def ParsesTo (s : ByteArray) (x : Int) : Prop := x = 0 ↔ nodeB s.data.toList = true

theorem size_nil {s : ByteArray} (h : s.size = 0) : s = ⟨#[]⟩ := by
  cases s with | mk d => simp [ByteArray.size] at h; simp [h]

theorem node_not {s : ByteArray} (h : s.size = 0 ∨ ∃ h : 0 < s.size, ¬ s[0] = 47) : nodeB s.data.toList = false := by
  have hl : s.data.toList.length = s.size := by simp
  cases e : s.data.toList with
  | nil => rfl
  | cons c r =>
    rcases h with h | ⟨h, h'⟩
    · rw [e] at hl; simp at hl; omega
    · have h00 : s.data.toList[0]? = some s[0] := List.getElem?_eq_getElem (by omega)
      rw [e] at h00
      have : c = s[0] := by simpa using h00
      subst this
      unfold nodeB
      rw [node_cons, decide_eq_false h']; rfl

theorem not_stroke {c : UInt8} (h : ¬ c = 47) : ((c.toNat : Int) != 47) = true := by
  rw [bne_iff_ne]; intro e; apply h
  apply UInt8.toNat_inj.1
  have : c.toNat = 47 := by omega
  rw [this]; rfl

end Go.Proofs.YtgcjfalgngiebaaGreatDoor
