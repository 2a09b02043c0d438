/-
  No statement: arguments that came in: bytes, numbers.
-/
import Derived.Test.YtfenfgbkphpboaaCSum
import Derived.Test.YtfenfgbkphpboaaCBuf
import Derived.OpenShut
import Derived.ProofKit
import Derived.ChangeSlices
import Derived.Deep.Slices
namespace Go.Proofs.Ytfenfgbkphpboaa
open Go.RowKit Go.ChangeShapes Go.WideShapes Go.Deep

theorem u16_of {n : Int} (h : (Lit.int .u16 n).wf = true) : ∃ t : Nat, t < 65536 ∧ n = (t : Int) := by
  simp [Lit.wf, IntKind.min, IntKind.max, IntKind.bits, IntKind.signed] at h
  exact ⟨n.toNat, by omega, by omega⟩
theorem u32_of {n : Int} (h : (Lit.int .u32 n).wf = true) : ∃ t : Nat, t < 4294967296 ∧ n = (t : Int) := by
  simp [Lit.wf, IntKind.min, IntKind.max, IntKind.bits, IntKind.signed] at h
  exact ⟨n.toNat, by omega, by omega⟩
theorem i64_of {n : Int} (h : (Lit.int .i64 n).wf = true) : -9223372036854775808 ≤ n ∧ n ≤ 9223372036854775807 := by
  simp [Lit.wf, IntKind.min, IntKind.max, IntKind.bits, IntKind.signed] at h
  omega
theorem u8_of {n : Int} (h : (Lit.int .u8 n).wf = true) : ∃ t : UInt8, n = (t.toNat : Nat) := by
  simp [Lit.wf, IntKind.min, IntKind.max, IntKind.bits, IntKind.signed] at h
  exact ⟨n.toNat.toUInt8, by rw [u8_nat (by omega)]; omega⟩

set_option maxRecDepth 100000 in
/-- Bytes that came in. -/
theorem bytes_of {H : Type} {enc : TypeId × Value → H} {W : World} {base : Nat} {v : Value} {d : DataW H} {p : List MemPlace} (hv : Value.okWide Try.prog W .any base 36 v) (h : DataW.Trod enc Try.prog W 0 (fun _ => true) true 36 v d p) :
    ∃ (l : List UInt8) (a : Option Addr) (c : Nat), v = .slice a l.length c ∧ BR W a c l := by
  obtain ⟨a0, len0, cap0, rfl⟩ := okWide_slice undB hv
  obtain ⟨fuel, hf⟩ := h
  rcases open_ints undB Try.underlying5 (by kernel_rfl) hf with ⟨hcs, _⟩ | ⟨x, l, c, zs, hcs, _, hl, hm, hz, _, hcell, hwz⟩
  · simp [Value.cells] at hcs
    obtain ⟨rfl, rfl, rfl⟩ := hcs
    exact ⟨[], none, 0, rfl, BR.nil' W⟩
  · simp [Value.cells] at hcs
    obtain ⟨rfl, rfl, rfl⟩ := hcs
    simp only [if_true] at hz
    have hb : ∀ j, j < cap0 → ∃ t : UInt8, zs.getD j 0 = (t.toNat : Nat) := fun j hj => by
      have hj' : j < zs.length := by omega
      rw [List.getD_eq_getElem?_getD, List.getElem?_eq_getElem hj']
      exact u8_of (hwz _ (List.getElem_mem hj'))
    obtain ⟨B, hB⟩ := Go.Deep.choose_lt hb
    refine ⟨(List.range len0).map B, some x, cap0, by simp, by simpa using hl, hm, ?_⟩
    by_cases h0 : len0 = 0
    · subst h0
      exact .inr (.inl ⟨rfl, _, rfl⟩)
    · obtain ⟨b, off, spot⟩ := x
      have hspot : spot = none := by simpa [Addr.add] using World.cell?_spot (hcell 0 (by omega))
      subst hspot
      refine .inr (.inr ⟨b, off, rfl, fun j hj => ?_⟩)
      have hj' : j < len0 := by simpa using hj
      have := hcell j (by omega)
      rw [Addr.add_lit, hB j (by omega)] at this
      rw [this]
      simp

end Go.Proofs.Ytfenfgbkphpboaa
