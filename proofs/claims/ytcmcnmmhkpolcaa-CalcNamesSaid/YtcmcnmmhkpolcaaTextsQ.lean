/-
  No statement: the contract of cantonlaw6's Texts at two rows of the same texts.
-/
import Derived.Test.YtcmcnmmhkpolcaaHE4
import Derived.Test.YtcmcnmmhkpolcaaHE3
import Derived.Deep.QuietTactic
import Derived.BigQuiet
import Derived.WalkLawsBesides
namespace Go.Proofs.Ytcmcnmmhkpolcaa
open Go.RowKit

/-- A slice that reads as texts. -/
def RowS (w : World) (a : Option Addr) (l : List ByteArray) : Prop := l = [] ∨ ∃ g, a = some ⟨g, 0, none⟩ ∧ g < w.heap.size ∧ ∀ j x, l[j]? = some x → w.cell? ⟨g, j, none⟩ = some (.string x)

theorem RowS.kept {w w' : World} {a : Option Addr} {l : List ByteArray} (h : RowS w a l) (hb : Below w.heap.size w w') : RowS w' a l :=
  Or.imp id (fun ⟨g, e, hg, hc⟩ => ⟨g, e, Nat.lt_of_lt_of_le hg hb.size, fun j x hj => (hb.cell (p := ⟨g, j, none⟩) hg).trans (hc j x hj)⟩) h

theorem rowS_own {w : World} {B : Nat} {a : Option Addr} {c n : Nat} {l : List ByteArray} (hn : n = l.length) (h : w.ownsRow B 9 1 (.slice a n c) n (l.map Value.string)) : RowS w a l := by
  subst hn
  by_cases h0 : l = []
  · exact .inl h0
  · right
    obtain ⟨g, cc, hv, -, -, hc⟩ := own_full h (fun e => h0 (List.length_eq_zero_iff.1 e))
    simp only [Value.slice.injEq, true_and] at hv
    obtain ⟨rfl, rfl⟩ := hv
    exact ⟨g, rfl, (h.lt g rfl).2, fun j x hj => hc j _ (by rw [List.getElem?_map, hj]; rfl)⟩

end Go.Proofs.Ytcmcnmmhkpolcaa
