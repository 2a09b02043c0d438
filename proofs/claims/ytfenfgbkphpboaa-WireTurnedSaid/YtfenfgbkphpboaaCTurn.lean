/-
  No statement: bytes of which four are turned, one after the other.
-/
import Derived.Test.YtfenfgbkphpboaaCRSeal
namespace Go.Proofs.Ytfenfgbkphpboaa
open Go.RowKit

/-- The first i of four bytes from the k-th on turned. -/
def tk (S : List UInt8) (k t : Nat) : Nat → List UInt8
  | 0 => S
  | i + 1 => (tk S k t i).set (k + i) ((tk S k t i).getD (k + i) 0 ^^^ (le4 t).getD i 0)

theorem tk_len (S : List UInt8) (k t : Nat) : ∀ i, (tk S k t i).length = S.length
  | 0 => rfl
  | i + 1 => by unfold tk; rw [List.length_set, tk_len S k t i]

theorem xorB_app : ∀ (A Z L M : List UInt8), A.length = Z.length → xorB (A ++ L) (Z ++ M) = xorB A Z ++ xorB L M
  | [], [], _, _, _ => rfl
  | [], _ :: _, _, _, h => by cases h
  | _ :: _, [], _, _, h => by cases h
  | a :: A, z :: Z, L, M, h => by
    rw [List.cons_append, List.cons_append, xorB, xorB_app A Z L M (by simpa using h), xorB, List.cons_append]

theorem xorB_zero : ∀ (A : List UInt8), xorB A (List.replicate A.length 0) = A
  | [] => rfl
  | a :: A => by rw [List.length_cons, List.replicate_succ, xorB, xorB_zero A]; simp

theorem four_parts {S : List UInt8} {k : Nat} (h : k + 4 ≤ S.length) : ∃ A s0 s1 s2 s3 B, S = A ++ s0 :: s1 :: s2 :: s3 :: B ∧ A.length = k := by
  refine ⟨S.take k, S[k], S[k + 1], S[k + 2], S[k + 3], S.drop (k + 4), ?_, by rw [List.length_take]; omega⟩
  rw [← List.drop_eq_getElem_cons, ← List.drop_eq_getElem_cons, ← List.drop_eq_getElem_cons, ← List.drop_eq_getElem_cons, List.take_append_drop]

theorem set_app (A L : List UInt8) (i : Nat) (v : UInt8) : (A ++ L).set (A.length + i) v = A ++ L.set i v := by
  rw [List.set_append_right _ _ (by omega)]
  congr 2; omega

theorem getD_app (A L : List UInt8) (i : Nat) : (A ++ L).getD (A.length + i) 0 = L.getD i 0 := by
  rw [List.getD_eq_getElem?_getD, List.getD_eq_getElem?_getD, List.getElem?_append_right (by omega), show A.length + i - A.length = i by omega]

theorem tk_turn {S : List UInt8} {k t : Nat} (h : k + 4 ≤ S.length) : tk S k t 4 = turn4 S k t := by
  obtain ⟨A, s0, s1, s2, s3, B, rfl, rfl⟩ := four_parts h
  have e1 : tk (A ++ s0 :: s1 :: s2 :: s3 :: B) A.length t 4 = A ++ (s0 ^^^ (le4 t).getD 0 0) :: (s1 ^^^ (le4 t).getD 1 0) :: (s2 ^^^ (le4 t).getD 2 0) :: (s3 ^^^ (le4 t).getD 3 0) :: B := by
    simp only [tk, set_app, getD_app]
    rfl
  rw [e1]
  unfold turn4
  rw [List.append_assoc, xorB_app _ _ _ _ (by simp), xorB_zero]
  congr 1
  have hB : (A ++ s0 :: s1 :: s2 :: s3 :: B).length - A.length - 4 = B.length := by simp
  rw [hB]
  show _ = (s0 ^^^ _) :: (s1 ^^^ _) :: (s2 ^^^ _) :: (s3 ^^^ _) :: xorB B (List.replicate B.length 0)
  rw [xorB_zero]
  rfl

theorem xor_u8 (a b : UInt8) : bits .xor .u8 ((a.toNat : Nat) : Int) ((b.toNat : Nat) : Int) = ((a ^^^ b).toNat : Nat) := by
  have ha := byte_lt a
  have hb := byte_lt b
  have hx : a.toNat ^^^ b.toNat < 2 ^ 8 := Nat.xor_lt_two_pow (by omega) (by omega)
  have h1 : (BitVec.ofInt 8 (a.toNat : Int)).toNat = a.toNat := by
    rw [BitVec.ofInt_natCast, BitVec.toNat_ofNat]; exact Nat.mod_eq_of_lt (by omega)
  have h2 : (BitVec.ofInt 8 (b.toNat : Int)).toNat = b.toNat := by
    rw [BitVec.ofInt_natCast, BitVec.toNat_ofNat]; exact Nat.mod_eq_of_lt (by omega)
  show IntKind.u8.wrap ((BitVec.ofInt 8 (a.toNat : Int) ^^^ BitVec.ofInt 8 (b.toNat : Int)).toNat : Int) = _
  rw [BitVec.toNat_xor, h1, h2, UInt8.toNat_xor, IntKind.wrap_u8]
  omega

theorem OwnB.set {w : World} {B g c : Nat} {l : List UInt8} (h : OwnB w B (.slice (some ⟨g, 0, none⟩) l.length c) l) (i : Nat) (y : UInt8) :
    OwnB (w.setCell ⟨g, i, none⟩ (.int .u8 (y.toNat : Nat))) B (.slice (some ⟨g, 0, none⟩) l.length c) (l.set i y) := by
  have hx : bC (l.set i y) = (bC l).set i (.int .u8 (y.toNat : Nat)) := by simp [Lib.byteCells, List.map_set]
  refine ⟨by rw [bC_len]; simp, ?_⟩
  rcases h.2 with ⟨h1, _⟩ | ⟨g', cap', cur, h1, hb, hg, hn, hm, hs, ht⟩
  · simp at h1
  · simp only [Value.slice.injEq, Option.some.injEq, Addr.mk.injEq] at h1
    obtain ⟨⟨rfl, -⟩, -, rfl⟩ := h1
    refine .inr ⟨g, c, cur.setIfInBounds i _, by rw [List.length_set], hb, heap_setCell_same w g i cur _ _ hg, by rw [List.length_set]; exact hn, hm, by simpa using hs, ?_⟩
    rw [hx, ← ht, List.length_set]
    simp [List.take_set]

theorem OwnB.at {w : World} {B g c : Nat} {l : List UInt8} (h : OwnB w B (.slice (some ⟨g, 0, none⟩) l.length c) l) {j : Nat} (hj : j < l.length) : w.cell? ⟨g, j, none⟩ = some (.int .u8 (l.getD j 0).toNat) ∧ w.frozen? ⟨g, j, none⟩ = false ∧ B ≤ g := by
  rcases h.2 with ⟨h1, _⟩ | ⟨g', cap', cur, h1, hb, hg, hn, hm, hs, ht⟩
  · simp at h1
  · simp only [Value.slice.injEq, Option.some.injEq, Addr.mk.injEq] at h1
    obtain ⟨⟨rfl, -⟩, -, rfl⟩ := h1
    rw [Nat.mul_one] at ht
    refine ⟨owns_cell hg ht ?_, frozen_of_row w g j _ _ hg, hb⟩
    rw [bC_at l hj, List.getD_eq_getElem?_getD, List.getElem?_eq_getElem hj]; rfl

/-- What is sealed and turned is sealed no more: in the form that Open asks. -/
theorem turned_open {b : List UInt8} {k t : Nat} (ht : t < 4294967296) (h0 : t ≠ 0) (hk : k + 4 ≤ (sealB b).length) {p q : List UInt8} (hpq : p ++ q = tk (sealB b) k t 4) (hq : q.length = 4) : ¬ valB q = crc p := fun h => by
  rw [tk_turn hk] at hpq
  have h2 := seal_iff p q hq
  rw [decide_eq_true h, beq_iff_eq] at h2
  exact turned_breaks b p k t ht h0 hk (by rw [h2, hpq])

end Go.Proofs.Ytfenfgbkphpboaa
