/-
  No statement: the contract of the document's cut.
-/
import Derived.Test.YtgcjfalgngiebaaGreatDoorRPath
import Derived.Test.YtgcjfalgngiebaaGreatDoorTexts
import Derived.StillTailTactics
import Derived.LoopTactic
import Derived.IntWalk
import Derived.Maps.AppendAt
import Derived.RangeFuncBox
namespace Go.Proofs.YtgcjfalgngiebaaGreatDoor
open Go.RowKit

theorem segs_snoc : ∀ l : List UInt8, ∃ q a, segs l = q ++ [a] ∧ segs (l ++ [47]) = q ++ [a] ++ [[]] ∧ ∀ c, ¬ c = 47 → segs (l ++ [c]) = q ++ [a ++ [c]]
  | [] => ⟨[], [], rfl, rfl, fun c hc => by rw [List.nil_append, segs_sign hc [] (a := []) (b := []) rfl]; rfl⟩
  | d :: l => by
    obtain ⟨q, a, h0, h1, h2⟩ := segs_snoc l
    by_cases hd : d = 47
    · subst hd
      refine ⟨[] :: q, a, ?_, ?_, fun c hc => ?_⟩
      · rw [segs_stroke, h0]; rfl
      · rw [List.cons_append, segs_stroke, h1]; rfl
      · rw [List.cons_append, segs_stroke, h2 c hc]; rfl
    · cases q with
      | nil =>
        refine ⟨[], d :: a, ?_, ?_, fun c hc => ?_⟩
        · rw [segs_sign hd l h0]; rfl
        · rw [List.cons_append, segs_sign hd _ h1]; rfl
        · rw [List.cons_append, segs_sign hd _ (h2 c hc)]; rfl
      | cons b q =>
        refine ⟨(d :: b) :: q, a, ?_, ?_, fun c hc => ?_⟩
        · rw [segs_sign hd l h0]; rfl
        · rw [List.cons_append, segs_sign hd _ h1]; rfl
        · rw [List.cons_append, segs_sign hd _ (h2 c hc)]; rfl

theorem segs_each : ∀ (l : List UInt8), ∀ x ∈ segs l, x.length ≤ l.length
  | [], x, h => by simp [segs] at h; subst h; simp
  | c :: l, x, h => by
    by_cases hc : c = 47
    · subst hc
      rw [segs_stroke] at h
      rcases List.mem_cons.1 h with rfl | h
      · simp
      · have := segs_each l x h; simp; omega
    · obtain ⟨a, q, e⟩ := segs_eq l
      rw [segs_sign hc l e] at h
      rcases List.mem_cons.1 h with rfl | h
      · have := segs_each l a (by rw [e]; simp); simp; omega
      · have := segs_each l x (by rw [e]; simp [h]); simp; omega

theorem segs_len (l : List UInt8) : (segs l).length ≤ l.length + 1 := by
  induction l with
  | nil => simp [segs]
  | cons c l ih =>
    by_cases h : c = 47
    · subst h; rw [segs_stroke]; simp; omega
    · obtain ⟨a, q, e⟩ := segs_eq l
      rw [segs_sign h l e]
      rw [e] at ih
      simp at ih ⊢; omega

/-- The parts, as values. -/
def segF (l : List UInt8) : List Value := (segs l).map tv

end Go.Proofs.YtgcjfalgngiebaaGreatDoor
