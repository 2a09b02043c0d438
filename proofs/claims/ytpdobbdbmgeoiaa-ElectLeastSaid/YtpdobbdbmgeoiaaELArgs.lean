/-
  No statement: numbers that came in.
-/
import Derived.Test.YtpdobbdbmgeoiaaDgArgs
import Derived.OpenShut
import Derived.ProofKit
import Derived.ChangeSlices
import Derived.Deep.Slices
namespace Go.Proofs.Ytpdobbdbmgeoiaa
open Go.RowKit Go.ChangeShapes Go.WideShapes Go.Deep

set_option maxRecDepth 100000 in
/-- Numbers that came in. -/
theorem ints_arg {H : Type} {enc : TypeId × Value → H} {W : World} {base : Nat} {v : Value} {d : DataW H} {p : List MemPlace} (hv : Value.okWide Try.prog W .any base 44 v) (h : DataW.Trod enc Try.prog W 0 (fun _ => true) true 44 v d p) :
    ∃ (z : Nat → Int) (n : Nat) (a : Option Addr) (c : Nat), v = .slice a n c ∧ (∀ j, In64 (z j)) ∧ Reads W a n z := by
  obtain ⟨a0, len0, cap0, rfl⟩ := okWide_slice Try.underlying44 hv
  obtain ⟨fuel, hf⟩ := h
  have hf' : DataW.trod enc Try.prog W 0 (fun _ => true) true fuel 44 [.slice a0 len0 cap0] = some (d, p) := hf
  rcases open_ints Try.underlying44 Try.underlying2 (by kernel_rfl) hf' with ⟨hcs, _⟩ | ⟨x, l, c, zs, hcs, _, hl, hm, hz, _, hcell, hwz⟩
  · cases hcs
    exact ⟨fun _ => 0, 0, none, 0, rfl, fun _ => in64_zero, Nat.zero_le _, .inl rfl⟩
  · cases hcs
    simp only [if_true] at hz
    refine ⟨fun j => zs.getD j 0, len0, some x, cap0, rfl, in64_getD hwz, Nat.le_trans hl hm, ?_⟩
    by_cases hl0 : len0 = 0
    · exact .inl hl0
    · right
      obtain ⟨b, off, spot⟩ := x
      have hspot : spot = none := by simpa [Addr.add] using World.cell?_spot (hcell 0 (by omega))
      subst hspot
      exact ⟨b, off, rfl, fun j hj => by rw [← Addr.add_lit]; exact hcell j (by omega)⟩

end Go.Proofs.Ytpdobbdbmgeoiaa
