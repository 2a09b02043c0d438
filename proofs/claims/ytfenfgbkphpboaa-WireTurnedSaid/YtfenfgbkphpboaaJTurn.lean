/-
  No statement: what is sealed, one byte turned, is none.
-/
import Derived.Test.YtfenfgbkphpboaaCTurn
import Derived.Test.YtfenfgbkphpboaaJBook
namespace Go.Proofs.Ytfenfgbkphpboaa
open Go.RowKit

theorem u8_of {n : Int} (h : (Lit.int .u8 n).wf = true) : ∃ t : UInt8, n = (t.toNat : Nat) := by
  simp [Lit.wf, IntKind.min, IntKind.max, IntKind.bits, IntKind.signed] at h
  refine ⟨n.toNat.toUInt8, ?_⟩
  rw [u8_nat (by omega)]
  omega

theorem same_set (S : List UInt8) (j : Nat) : S.set j (S.getD j 0 ^^^ 0) = S := by
  by_cases h : j < S.length
  · rw [List.getD_eq_getElem?_getD, List.getElem?_eq_getElem h]
    simp
  · exact List.set_eq_of_length_le (by omega)

theorem of4_none {a b c d x : UInt8} (h : of4 a b c d = 0) (hx : x = a ∨ x = b ∨ x = c ∨ x = d) : x.toNat = 0 := by
  have e : [a, b, c, d] = [0, 0, 0, 0] := by rw [← le4_of4, h]; rfl
  simp only [List.cons.injEq, and_true] at e
  obtain ⟨rfl, rfl, rfl, rfl⟩ := e
  rcases hx with rfl | rfl | rfl | rfl <;> rfl

/-- One byte turned is a burst of four. -/
theorem turn1 {S : List UInt8} {k : Nat} {x : UInt8} (hk : k < S.length) (h4 : 4 ≤ S.length) (hx : x.toNat ≠ 0) : ∃ k' t, t < 4294967296 ∧ t ≠ 0 ∧ k' + 4 ≤ S.length ∧ tk S k' t 4 = S.set k (S.getD k 0 ^^^ x) := by
  obtain ⟨k', i, rfl, hi, hk'⟩ : ∃ k' i, k = k' + i ∧ i < 4 ∧ k' + 4 ≤ S.length := by
    by_cases h : k + 4 ≤ S.length
    · exact ⟨k, 0, rfl, by omega, h⟩
    · exact ⟨S.length - 4, k - (S.length - 4), by omega, by omega, by omega⟩
  rcases (show i = 0 ∨ i = 1 ∨ i = 2 ∨ i = 3 by omega) with rfl | rfl | rfl | rfl
  · refine ⟨k', of4 x 0 0 0, of4_lt _ _ _ _, fun h => hx (of4_none h (by simp)), hk', ?_⟩
    simp only [tk, le4_of4, List.getD_cons_zero, List.getD_cons_succ, same_set]
  · refine ⟨k', of4 0 x 0 0, of4_lt _ _ _ _, fun h => hx (of4_none h (by simp)), hk', ?_⟩
    simp only [tk, le4_of4, List.getD_cons_zero, List.getD_cons_succ, same_set]
  · refine ⟨k', of4 0 0 x 0, of4_lt _ _ _ _, fun h => hx (of4_none h (by simp)), hk', ?_⟩
    simp only [tk, le4_of4, List.getD_cons_zero, List.getD_cons_succ, same_set]
  · refine ⟨k', of4 0 0 0 x, of4_lt _ _ _ _, fun h => hx (of4_none h (by simp)), hk', ?_⟩
    simp only [tk, le4_of4, List.getD_cons_zero, List.getD_cons_succ, same_set]

theorem decodeR_turned {b : List UInt8} {k : Nat} {x : UInt8} (hk : k < (sealB b).length) (hx : x.toNat ≠ 0) : decodeR ((sealB b).set k ((sealB b).getD k 0 ^^^ x)) = (zR, 10) := by
  have hl := sealB_len b
  obtain ⟨k', t, ht, h0, hk', e⟩ := turn1 hk (by omega) hx
  rw [← e]
  have hO : openF (tk (sealB b) k' t 4) = ([], 10) := by
    unfold openF
    rw [tk_len, if_neg (by omega), if_neg (turned_open ht h0 hk' (List.take_append_drop _ _) (by rw [List.length_drop, tk_len]; omega))]
  unfold decodeR
  rw [hO, if_neg (by decide)]

end Go.Proofs.Ytfenfgbkphpboaa
