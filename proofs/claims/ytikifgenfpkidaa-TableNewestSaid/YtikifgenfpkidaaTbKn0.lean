/-
  No statement: the rows of known, and what becomes of them.
-/
import Derived.Test.YtikifgenfpkidaaTbTwinT
import Derived.Test.YtikifgenfpkidaaTbAttrs
import Derived.KernelRfl
set_option linter.unusedVariables false
set_option linter.unusedSimpArgs false
namespace Go.Proofs.Ytikifgenfpkidaa
open Go.RowKit

/-- A row without attributes. -/
def bareR (key : ByteArray) (n s : Int) : RD := ⟨key, n, 0, s, ⟨#[47, 122]⟩, 0, zeroR.A⟩
theorem twF_zero : twF zeroR.A = zeroR.A := rfl
theorem bareR_tw (key : ByteArray) (n s : Int) : twR (bareR key n s) = bareR key n s := rfl
theorem bareR_fine (key : ByteArray) (n s : Int) : FineR (bareR key n s) := ⟨Nat.zero_le _, fun j hj => absurd hj (Nat.not_lt_zero j), fun i j _ hj => absurd hj (Nat.not_lt_zero j)⟩
theorem bareR_bound (key : ByteArray) (n s : Int) (h : key.size ≤ 1000) : BoundR (bareR key n s) := ⟨⟨h, by show (2 : Nat) ≤ 1000; omega, fun j hj => absurd hj (Nat.not_lt_zero j)⟩, fun j hj => absurd hj (Nat.not_lt_zero j)⟩
theorem bareR_reads (G : Nat → Prop) (w : World) (key : ByteArray) (n s : Int) : ReadsAG G w none (bareR key n s).len (bareR key n s).A := ⟨Nat.zero_le _, .inl rfl⟩

def kB5 : RD := bareR ⟨#[98]⟩ 5 0
def kB4 : RD := bareR ⟨#[98]⟩ 4 0
def kA6 : RD := bareR ⟨#[97]⟩ 6 0
def kC7 : RD := bareR ⟨#[99]⟩ 7 0
theorem kP1 : putX 2 [] kB5 = (0, [kB5]) := by kernel_rfl
theorem kP2 : putX 2 [kB5] kB4 = (11, [kB5]) := by kernel_rfl
theorem kP3 : putX 2 [kB5] kA6 = (0, [kA6, kB5]) := by kernel_rfl
theorem kP4 : putX 2 [kA6, kB5] kC7 = (0, [kA6, kC7]) := by kernel_rfl
theorem kP5 : isT [kA6, kC7] ⟨#[98]⟩ = false := by kernel_rfl
theorem kP6 : goneT (10 - 3) ⟨#[120]⟩ [kA6, kC7] = [⟨#[97]⟩] := by kernel_rfl
theorem kP7 : dropsT [kA6, kC7] [⟨#[97]⟩] = [kC7] := by kernel_rfl
theorem kP8 : has (kyR [kC7]) ⟨#[99]⟩ = true := by kernel_rfl

end Go.Proofs.Ytikifgenfpkidaa
