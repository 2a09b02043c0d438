/-
  No statement: attributes that may be: their names rise; what names have in them.
-/
import Derived.Test.YtcmcnmmhkpolcaaHW6
import Derived.Test.YtcmcnmmhkpolcaaHW5
import Derived.Test.YtcmcnmmhkpolcaaHEvalT
namespace Go.Proofs.Ytcmcnmmhkpolcaa.Wr
open Go.RowKit

/-- An attribute that keeps the document. -/
def OkA (x : AD) : Prop := FewA x ∧ goodB x.m.data.toList = true ∧ errV x.k x.s x.len x.z = 0
/-- Attributes that keep the document. -/
def OkL (L : List AD) : Prop := L.length ≤ 32 ∧ (∀ x ∈ L, OkA x) ∧ Rising lsS (nmD L)

theorem errAs_iff : ∀ (L : List AD) (p : ByteArray), errAs p L = 0 ↔ (∀ x ∈ L, goodB x.m.data.toList = true ∧ errV x.k x.s x.len x.z = 0) ∧ Rising lsS (p :: nmD L)
  | [], p => by simp [errAs, nmD, Rising]
  | x :: r, p => by
    have ih := errAs_iff r x.m
    have hA : errA p x = 0 ↔ (goodB x.m.data.toList = true ∧ errV x.k x.s x.len x.z = 0) ∧ lsS p x.m = true := by
      unfold errA
      by_cases h1 : goodB x.m.data.toList = false
      · rw [if_pos h1, h1]; simp
      · rw [if_neg h1]
        have h1' : goodB x.m.data.toList = true := by simpa using h1
        by_cases h2 : lsS p x.m = false
        · rw [if_pos h2, h2]; simp
        · rw [if_neg h2]
          have h2' : lsS p x.m = true := by simpa using h2
          rw [h1', h2']; simp
    have hE : errAs p (x :: r) = 0 ↔ errA p x = 0 ∧ errAs x.m r = 0 := by
      show (if errA p x = 0 then errAs x.m r else errA p x) = 0 ↔ _
      by_cases h : errA p x = 0
      · rw [if_pos h]; exact ⟨fun h' => ⟨h, h'⟩, fun h' => h'.2⟩
      · rw [if_neg h]; exact ⟨fun h' => absurd h' h, fun h' => absurd h'.1 h⟩
    rw [hE, hA, ih]
    have hR : Rising lsS (p :: nmD (x :: r)) ↔ lsS p x.m = true ∧ Rising lsS (x.m :: nmD r) := by
      show List.Pairwise _ (p :: x.m :: nmD r) ↔ _
      rw [List.pairwise_cons]
      constructor
      · intro ⟨h1, h2⟩; exact ⟨h1 _ (List.Mem.head _), h2⟩
      · intro ⟨h1, h2⟩
        refine ⟨fun y hy => ?_, h2⟩
        rcases List.mem_cons.1 hy with rfl | hy
        · exact h1
        · exact strictS.trans _ _ _ h1 ((List.pairwise_cons.1 h2).1 y hy)
    rw [hR]
    constructor
    · rintro ⟨⟨h1, h2⟩, h3, h4⟩
      refine ⟨fun y hy => ?_, h2, h4⟩
      rcases List.mem_cons.1 hy with rfl | hy
      · exact h1
      · exact h3 y hy
    · rintro ⟨h1, h2, h3⟩
      exact ⟨⟨h1 x (List.Mem.head _), h2⟩, fun y hy => h1 y (List.Mem.tail _ hy), h3⟩

theorem errS_k : errS 0 0 0 ⟨#[47, 97]⟩ = 0 := by kernel_rfl
theorem good_k : goodB [107] = true := by decide

theorem errR_k (n : Nat) (A : Nat → AD) : errR (rowK n A) = if 32 < n then 4 else errAs ⟨#[]⟩ (fromA A n 0) := by
  show (if goodB [107] = false then (5 : Int) else if errS 0 0 0 ⟨#[47, 97]⟩ = 0 then (if 32 < n then 4 else errAs ⟨#[]⟩ (fromA A n 0)) else errS 0 0 0 ⟨#[47, 97]⟩) = _
  rw [good_k, errS_k]; simp

theorem fromA_len (A : Nat → AD) (n : Nat) : (fromA A n 0).length = n := by simp [fromA]

theorem goodL_iff (n : Nat) (A : Nat → AD) : goodL n A = true ↔ OkL (fromA A n 0) := by
  unfold goodL OkL fewL fewAs
  rw [errR_k, fromA_len]
  simp only [Bool.and_eq_true, decide_eq_true_eq, List.all_eq_true]
  constructor
  · rintro ⟨⟨h1, h2⟩, h3⟩
    by_cases h : 32 < n
    · rw [if_pos h] at h3; cases h3
    · rw [if_neg h] at h3
      obtain ⟨h4, h5⟩ := (errAs_iff _ _).1 h3
      refine ⟨by omega, fun x hx => ⟨?_, h4 x hx⟩, (List.pairwise_cons.1 h5).2⟩
      have := h2 x hx
      unfold fewA at this
      simp only [Bool.and_eq_true, decide_eq_true_eq] at this
      unfold FewA; omega
  · rintro ⟨h1, h2, h3⟩
    refine ⟨⟨by omega, fun x hx => ?_⟩, ?_⟩
    · have := (h2 x hx).1
      unfold FewA at this
      unfold fewA
      simp only [Bool.and_eq_true, decide_eq_true_eq]
      omega
    · rw [if_neg (by omega), errAs_iff]
      refine ⟨fun x hx => (h2 x hx).2, List.pairwise_cons.2 ⟨fun y hy => ?_, h3⟩⟩
      obtain ⟨x, hx, rfl⟩ := List.mem_map.1 hy
      exact lsS_empty (h2 x hx).2.1

end Go.Proofs.Ytcmcnmmhkpolcaa.Wr

namespace Go.Proofs.Ytcmcnmmhkpolcaa
open Go.RowKit

theorem rise_of {A : Nat → Wr.AD} {n : Nat} (h : Rising lsS (Wr.nmD (Wr.fromA A n 0))) : Wr.RiseA A n := by
  intro i j hij hj
  have e : Wr.nmD (Wr.fromA A n 0) = (List.range n).map (fun j => (A j).m) := by simp [Wr.nmD, Wr.fromA]
  rw [e] at h
  exact rising_at h hij (by rw [List.getElem?_map, List.getElem?_range (by omega)]; rfl) (by rw [List.getElem?_map, List.getElem?_range hj]; rfl)

/-- What names have in attributes. -/
def getG (A : Nat → Wr.AD) (n : Nat) (x : ByteArray) : Option Int :=
  match (List.range n).find? (fun j => decide ((A j).m = x)) with
  | some j => if (A j).k = 1 then some (A j).n else none
  | none => none

theorem getG_ok {A : Nat → Wr.AD} {n : Nat} (hR : Wr.RiseA A n) (hN : ∀ j, j < n → In64 (A j).n) : GetOK A n (getG A n) where
  yes := fun j hj => by
    unfold getG
    cases hf : (List.range n).find? (fun i => decide ((A i).m = (A j).m)) with
    | none =>
      rw [List.find?_eq_none] at hf
      have := hf j (List.mem_range.2 hj)
      simp at this
    | some i =>
      have h1 := List.find?_some hf
      have h2 := List.mem_range.1 (List.mem_of_find?_eq_some hf)
      have hm : (A i).m = (A j).m := by simpa using h1
      have hij : i = j := by
        rcases Nat.lt_trichotomy i j with h | h | h
        · have := hR i j h hj; rw [hm, strictS.irrefl] at this; cases this
        · exact h
        · have := hR j i h h2; rw [hm, strictS.irrefl] at this; cases this
      subst hij
      rfl
  no := fun x h => by
    unfold getG
    rw [List.find?_eq_none.2 (fun j hj => by simpa using h j (List.mem_range.1 hj))]
  fit := fun x v h => by
    unfold getG at h
    split at h
    · rename_i j hf
      have h2 := List.mem_range.1 (List.mem_of_find?_eq_some hf)
      split at h
      · cases h; exact hN j h2
      · cases h
    · cases h

end Go.Proofs.Ytcmcnmmhkpolcaa
