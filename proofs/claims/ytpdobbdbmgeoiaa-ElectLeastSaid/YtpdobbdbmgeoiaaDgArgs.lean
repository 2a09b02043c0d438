/-
  No statement: rows that came in, as a list.
-/
import Derived.Test.YtpdobbdbmgeoiaaDgRow
import Derived.OpenShut
import Derived.ProofKit
import Derived.ChangeSlices
import Derived.Deep.Slices
import Derived.Deep.Fields
set_option linter.unusedVariables false
set_option linter.unusedSimpArgs false
namespace Go.Proofs.Ytpdobbdbmgeoiaa
open Go.RowKit Go.ChangeShapes Go.WideShapes Go.Deep

set_option maxRecDepth 100000 in
theorem cap_of {H : Type} {enc : TypeId × Value → H} {W : World} {base : Nat} {e t : TypeId} (hu : Try.prog.underlying t = some (.slice e)) {v : Value} {d : DataW H} {p : List MemPlace} (hv : Value.okWide Try.prog W .any base t v) (h : DataW.Trod enc Try.prog W 0 (fun _ => true) true t v d p) :
    ∀ a n c, v = .slice a n c → n ≤ c := by
  intro a n c hvv
  subst hvv
  obtain ⟨fuel, hf⟩ := h
  rcases open_slice hu hf with ⟨hcs, _⟩ | ⟨x, l, c', m, n', D, Pl, hcs, _, hl, hm, hmm, _, hi⟩
  · simp [Value.cells] at hcs
    obtain ⟨rfl, rfl, rfl⟩ := hcs
    exact Nat.le_refl _
  · simp [Value.cells] at hcs
    obtain ⟨rfl, rfl, rfl⟩ := hcs
    exact hl

theorem u16_of {n : Int} (h : (Lit.int .u16 n).wf = true) : ∃ t : Nat, t < 65536 ∧ n = (t : Int) := by
  simp [Lit.wf, IntKind.min, IntKind.max, IntKind.bits, IntKind.signed] at h
  exact ⟨n.toNat, by omega, by omega⟩

theorem fromR_at (R : Nat → RD) (n : Nat) {j : Nat} (hj : j < n) : atD ((List.range n).map R) j = R j := by
  rw [atD_lt (by simpa using hj)]; simp

set_option maxRecDepth 100000 in
theorem rowsL_of {H : Type} {enc : TypeId × Value → H} {W : World} {base : Nat} {v : Value} {d : DataW H} {p : List MemPlace} (hv : Value.okWide Try.prog W .any base 22 v) (h : DataW.Trod enc Try.prog W 0 (fun _ => true) true 22 v d p) :
    ∃ (a : Option Addr) (c : Nat) (al : List RD), v = .slice a al.length c ∧ al.length ≤ c ∧ (∀ x ∈ al, GoR x) ∧ ReadsRG (fun q => q < W.heap.size) W a al.length (atD al) := by
  obtain ⟨a, n, c, R, rfl, hg, hr⟩ := rows_of hv h
  have hc := cap_of Try.underlying22 hv h a n c rfl
  have hl : ((List.range n).map R).length = n := by simp
  refine ⟨a, c, (List.range n).map R, by rw [hl], by rw [hl]; exact hc, fun x hx => ?_, ?_⟩
  · obtain ⟨j, hj, rfl⟩ := List.mem_map.1 hx
    exact hg j (List.mem_range.1 hj)
  · rw [hl]
    exact ReadsRG.congD hr (fun j hj => (fromR_at R n hj).symm)

end Go.Proofs.Ytpdobbdbmgeoiaa
