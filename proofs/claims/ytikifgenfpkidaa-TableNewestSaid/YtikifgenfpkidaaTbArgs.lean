/-
  No statement: bytes and numbers that came in.
-/
import Derived.Test.YtikifgenfpkidaaBase
import Derived.Test.YtikifgenfpkidaaProg
import Derived.OpenShut
import Derived.ProofKit
import Derived.ChangeSlices
import Derived.Deep.Slices
namespace Go.Proofs.Ytikifgenfpkidaa
open Go.RowKit Go.ChangeShapes Go.WideShapes Go.Deep

theorem u8_nat {a : Nat} (h : a < 256) : (a.toUInt8).toNat = a := by
  simp [Nat.toUInt8, UInt8.toNat_ofNat']
  omega

/-- A []byte reads as bytes. -/
def BR (w : World) (a : Option Addr) (c : Nat) (l : List UInt8) : Prop :=
  l.length ≤ c ∧ c ≤ maxLen ∧ ((a = none ∧ c = 0) ∨ (l = [] ∧ ∃ x, a = some x) ∨ ∃ b off, a = some ⟨b, off, none⟩ ∧ ∀ j (h : j < l.length), w.cell? ⟨b, off + j, none⟩ = some (.int .u8 l[j].toNat))

theorem BR.kept {w w' : World} {a : Option Addr} {c : Nat} {l : List UInt8} (h : BR w a c l) (hb : Below w.heap.size w w') : BR w' a c l := by
  refine ⟨h.1, h.2.1, ?_⟩
  rcases h.2.2 with h | h | ⟨b, off, rfl, hc⟩
  · exact .inl h
  · exact .inr (.inl h)
  · refine .inr (.inr ⟨b, off, rfl, fun j hj => (hb.cell (p := ⟨b, _, none⟩) ?_).trans (hc j hj)⟩)
    have := World.block_lt_of_cell? w _ (hc j hj)
    simpa using this

theorem BR.nil' (w : World) : BR w none 0 [] := ⟨Nat.le_refl _, Nat.zero_le _, .inl ⟨rfl, rfl⟩⟩

theorem undB : Try.prog.underlying 48 = some (.slice 5) := Try.underlying48

theorem u8_of {n : Int} (h : (Lit.int .u8 n).wf = true) : ∃ t : UInt8, n = (t.toNat : Nat) := by
  simp [Lit.wf, IntKind.min, IntKind.max, IntKind.bits, IntKind.signed] at h
  exact ⟨n.toNat.toUInt8, by rw [u8_nat (by omega)]; omega⟩

set_option maxRecDepth 100000 in
/-- Bytes that came in. -/
theorem bytes_of {H : Type} {enc : TypeId × Value → H} {W : World} {base : Nat} {v : Value} {d : DataW H} {p : List MemPlace} (hv : Value.okWide Try.prog W .any base 48 v) (h : DataW.Trod enc Try.prog W 0 (fun _ => true) true 48 v d p) :
    ∃ (l : List UInt8) (a : Option Addr) (c : Nat), v = .slice a l.length c ∧ BR W a c l := by
  obtain ⟨a0, len0, cap0, rfl⟩ := okWide_slice undB hv
  obtain ⟨fuel, hf⟩ := h
  rcases open_ints undB Try.underlying5 (by kernel_rfl) hf with ⟨hcs, _⟩ | ⟨x, l, c, zs, hcs, _, hl, hm, hz, _, hcell, hwz⟩
  · simp [Value.cells] at hcs
    obtain ⟨rfl, rfl, rfl⟩ := hcs
    exact ⟨[], none, 0, rfl, BR.nil' W⟩
  · simp [Value.cells] at hcs
    obtain ⟨rfl, rfl, rfl⟩ := hcs
    simp only [if_true] at hz
    have hb : ∀ j, j < cap0 → ∃ t : UInt8, zs.getD j 0 = (t.toNat : Nat) := fun j hj => by
      have hj' : j < zs.length := by omega
      rw [List.getD_eq_getElem?_getD, List.getElem?_eq_getElem hj']
      exact u8_of (hwz _ (List.getElem_mem hj'))
    obtain ⟨B, hB⟩ := Go.Deep.choose_lt hb
    refine ⟨(List.range len0).map B, some x, cap0, by simp, by simpa using hl, hm, ?_⟩
    by_cases h0 : len0 = 0
    · subst h0
      exact .inr (.inl ⟨rfl, _, rfl⟩)
    · obtain ⟨b, off, spot⟩ := x
      have hspot : spot = none := by simpa [Addr.add] using World.cell?_spot (hcell 0 (by omega))
      subst hspot
      refine .inr (.inr ⟨b, off, rfl, fun j hj => ?_⟩)
      have hj' : j < len0 := by simpa using hj
      have := hcell j (by omega)
      rw [Addr.add_lit, hB j (by omega)] at this
      rw [this]
      simp


end Go.Proofs.Ytikifgenfpkidaa
