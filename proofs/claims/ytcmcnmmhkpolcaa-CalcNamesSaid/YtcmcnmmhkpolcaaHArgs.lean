/-
  No statement: arguments that came in: numbers, rows of numbers, attributes.
-/
import Derived.Test.YtcmcnmmhkpolcaaHW6
import Derived.Test.YtcmcnmmhkpolcaaHE4
import Derived.Test.YtcmcnmmhkpolcaaNodeOf
import Derived.OpenShut
import Derived.ProofKit
import Derived.ChangeSlices
import Derived.Deep.Slices
namespace Go.Proofs.Ytcmcnmmhkpolcaa
open Go.RowKit Go.ChangeShapes Go.WideShapes Go.Deep

theorem u16_of {n : Int} (h : (Lit.int .u16 n).wf = true) : ∃ t : Nat, t < 65536 ∧ n = (t : Int) := by
  simp [Lit.wf, IntKind.min, IntKind.max, IntKind.bits, IntKind.signed] at h
  exact ⟨n.toNat, by omega, by omega⟩
theorem i64_of {n : Int} (h : (Lit.int .i64 n).wf = true) : In64 n := in64_of_wfS h

set_option maxRecDepth 100000 in
/-- Attributes that came in. -/
theorem attrs_arg {H : Type} {enc : TypeId × Value → H} {W : World} {base : Nat} {v : Value} {d : DataW H} {p : List MemPlace} (hv : Value.okWide Try.prog W .any base 25 v) (h : DataW.Trod enc Try.prog W 0 (fun _ => true) true 25 v d p) :
    ∃ (A : Nat → Wr.AD) (n : Nat) (a : Option Addr) (c : Nat), v = .slice a n c ∧ (∀ j, Wr.SizA (A j) ∧ Wr.NumA (A j)) ∧ Wr.ReadsA W a n A := by
  obtain ⟨a0, len0, cap0, rfl⟩ := okWide_slice Try.underlying25 hv
  obtain ⟨fuel, hf⟩ := h
  have hf' : DataW.trod enc Try.prog W 0 (fun _ => true) true fuel 25 [.slice a0 len0 cap0] = some (d, p) := hf
  obtain ⟨a', l', c', A, e, hS, hN, hr⟩ := Wr.attrs_of hf'
  cases e
  exact ⟨A, len0, a0, cap0, rfl, fun j => ⟨hS j, hN j⟩, hr⟩

set_option maxRecDepth 100000 in
/-- Numbers that came in. -/
theorem ints_arg {H : Type} {enc : TypeId × Value → H} {W : World} {base : Nat} {v : Value} {d : DataW H} {p : List MemPlace} (hv : Value.okWide Try.prog W .any base 43 v) (h : DataW.Trod enc Try.prog W 0 (fun _ => true) true 43 v d p) :
    ∃ (z : Nat → Int) (n : Nat) (a : Option Addr) (c : Nat), v = .slice a n c ∧ (∀ j, In64 (z j)) ∧ Wr.Reads W a n z := by
  obtain ⟨a0, len0, cap0, rfl⟩ := okWide_slice Try.underlying43 hv
  obtain ⟨fuel, hf⟩ := h
  have hf' : DataW.trod enc Try.prog W 0 (fun _ => true) true fuel 43 [.slice a0 len0 cap0] = some (d, p) := hf
  rcases open_ints Try.underlying43 Try.underlying2 (by kernel_rfl) hf' with ⟨hcs, _⟩ | ⟨x, l, c, zs, hcs, _, hl, hm, hz, _, hcell, hwz⟩
  · cases hcs
    exact ⟨fun _ => 0, 0, none, 0, rfl, fun _ => Wr.in64_zero, Nat.zero_le _, .inl rfl⟩
  · cases hcs
    simp only [if_true] at hz
    refine ⟨fun j => zs.getD j 0, len0, some x, cap0, rfl, Wr.in64_getD hwz, Nat.le_trans hl hm, ?_⟩
    by_cases hl0 : len0 = 0
    · exact .inl hl0
    · right
      obtain ⟨b, off, spot⟩ := x
      have hspot : spot = none := by simpa [Addr.add] using World.cell?_spot (hcell 0 (by omega))
      subst hspot
      exact ⟨b, off, rfl, fun j hj => by rw [← Addr.add_lit]; exact hcell j (by omega)⟩

end Go.Proofs.Ytcmcnmmhkpolcaa
