/-
  No statement: the document's own Seal and Open.
-/
import Derived.Test.YtfenfgbkphpboaaCSeal
import Derived.Test.YtfenfgbkphpboaaCOpen
import Derived.Test.YtfenfgbkphpboaaCRSum
import Derived.Laws.IdiomStrings
import Derived.Laws.BytesArg
import Derived.Deep.RegionWith
namespace Go.Proofs.Ytfenfgbkphpboaa
open Go.RowKit

theorem strB {w : World} {a : Option Addr} {c : Nat} {l : List UInt8} (h : BR w a c l) : (convert 36 9 (.slice a l.length c)).run Try.prog w = .ok (.string ⟨l.toArray⟩) w := by
  rcases h.2.2 with ⟨rfl, rfl⟩ | ⟨rfl, x, rfl⟩ | ⟨b, off, rfl, hc⟩
  · have h0 : l = [] := List.length_eq_zero_iff.1 (by have := h.1; omega)
    subst h0
    exact run_convert_bytes_nil w 36 5 undB Try.underlying5 0 0 9 Try.underlying9
  · exact run_convert_bytes_back w 36 9 5 x c [] undB Try.underlying5 Try.underlying9 (fun j hj => by simp at hj)
  · exact run_convert_bytes_back w 36 9 5 ⟨b, off, none⟩ c l undB Try.underlying5 Try.underlying9 (fun j hj => by rw [Addr.add_lit]; exact hc j hj)

theorem from_four {w : World} {x0 x1 x2 x3 : Value} {t : TypeId} {W : World} (hW : W = w.alloc (.cells #[x0, x1, x2, x3] t)) : From W (.slice (some ⟨w.heap.size, 0, none⟩) 4 4) 4 [x0, x1, x2, x3] := by
  subst hW
  refine .inr ⟨_, _, rfl, rfl, fun j u hj => ?_⟩
  rw [Addr.add_lit, Nat.zero_add, cell_of_row _ _ _ _ _ (0, 0) (heap_alloc_new w _)]
  simpa using hj

theorem le4_cells (s : Nat) (h : s < 4294967296) : [Value.int .u8 ((s : Int) % 256), .int .u8 ((s : Int) / 256 % 256), .int .u8 ((s : Int) / 65536 % 256), .int .u8 ((s : Int) / 16777216)] = bC (le4 s) := by
  have e : ∀ x : Nat, x < 256 → ((x.toUInt8).toNat : Int) = (x : Int) := fun x h => by rw [u8_nat h]
  simp only [le4, Lib.byteCells, List.map_cons, List.map_nil]
  rw [e _ (by omega), e _ (by omega), e _ (by omega), e _ (by omega), show ((s / 16777216 % 256 : Nat) : Int) = (s : Int) / 16777216 by omega]
  rfl

theorem valB_le4 {s : Nat} (h : s < 4294967296) : valB (le4 s) = s := by
  unfold le4 valB valB valB valB valB
  rw [u8_nat (by omega), u8_nat (by omega), u8_nat (by omega), u8_nat (by omega)]
  omega

theorem valB_inj : ∀ {l m : List UInt8}, l.length = m.length → valB l = valB m → l = m
  | [], [], _, _ => rfl
  | [], _ :: _, h, _ => by cases h
  | _ :: _, [], h, _ => by cases h
  | c :: l, d :: m, h, hv => by
    have hc := byte_lt c
    have hd := byte_lt d
    unfold valB at hv
    have h1 : c = d := UInt8.toNat_inj.1 (by omega)
    have h2 : l = m := valB_inj (by simpa using h) (by omega)
    rw [h1, h2]

/-- The four bytes behind are the sum just where the number is. -/
theorem seal_iff (p q : List UInt8) (hq : q.length = 4) : (sealB p == p ++ q) = decide (valB q = crc p) := by
  rw [Bool.eq_iff_iff, beq_iff_eq, decide_eq_true_iff]
  unfold sealB
  refine ⟨fun h => ?_, fun h => congrArg (p ++ ·) ?_⟩
  · have h2 : le4 (crc p) = q := List.append_cancel_left h
    rw [← h2, valB_le4 (crc_lt p)]
  · exact valB_inj (by rw [le4_len, hq]) (by rw [valB_le4 (crc_lt p), h])

end Go.Proofs.Ytfenfgbkphpboaa
