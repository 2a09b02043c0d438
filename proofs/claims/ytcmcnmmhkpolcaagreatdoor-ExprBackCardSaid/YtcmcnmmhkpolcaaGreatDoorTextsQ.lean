/-
  No statement: the contract of cantonlaw6's Texts at two rows of the same texts.
-/
import Derived.Test.YtcmcnmmhkpolcaaGreatDoorHZ9
import Derived.Test.YtcmcnmmhkpolcaaGreatDoorHZ10
import Derived.Deep.QuietTactic
import Derived.BigQuiet
import Derived.WalkLawsBesides
namespace Go.Proofs.YtcmcnmmhkpolcaaGreatDoor
open Go.RowKit

/-- A slice that reads as texts. -/
def RowS (w : World) (a : Option Addr) (l : List ByteArray) : Prop := l = [] ∨ ∃ g, a = some ⟨g, 0, none⟩ ∧ g < w.heap.size ∧ ∀ j x, l[j]? = some x → w.cell? ⟨g, j, none⟩ = some (.string x)

theorem RowS.kept {w w' : World} {a : Option Addr} {l : List ByteArray} (h : RowS w a l) (hb : Below w.heap.size w w') : RowS w' a l :=
  Or.imp id (fun ⟨g, e, hg, hc⟩ => ⟨g, e, Nat.lt_of_lt_of_le hg hb.size, fun j x hj => (hb.cell (p := ⟨g, j, none⟩) hg).trans (hc j x hj)⟩) h

theorem rowS_own {w : World} {B : Nat} {a : Option Addr} {c n : Nat} {l : List ByteArray} (hn : n = l.length) (h : w.ownsRow B 9 1 (.slice a n c) n (l.map Value.string)) : RowS w a l := by
  subst hn
  by_cases h0 : l = []
  · exact .inl h0
  · right
    obtain ⟨g, cc, hv, -, -, hc⟩ := own_full h (fun e => h0 (List.length_eq_zero_iff.1 e))
    simp only [Value.slice.injEq, true_and] at hv
    obtain ⟨rfl, rfl⟩ := hv
    exact ⟨g, rfl, (h.lt g rfl).2, fun j x hj => hc j _ (by rw [List.getElem?_map, hj]; rfl)⟩

set_option maxHeartbeats 4000000 in
theorem texts_own (a b : Option Addr) (c d : Nat) (l : List ByteArray) (hl : l.length ≤ 1000) (w : World) (h : RowS w a l) (k : RowS w b l) :
    Calls Tryz.prog 15 #[.slice a l.length c, .slice b l.length d] w fun e w' => e = .returned (.bool true) ∧ Below w.heap.size w w' := by
  have H := Lib.hid h
  have K := Lib.hid k
  have B0 := Lib.hid (Below.refl w.heap.size w)
  clear h k
  go_enter Tryz.func15, Tryz.ntmps15
  go_wp2_with fail
  go_loopw [5] (fun i wr => ∃ k : Nat, i = .int .i64 k ∧ k ≤ l.length ∧ Hid (Below w.heap.size w wr)) (fun i _ => l.length - (intOf i).toNat)
  case atStart => exact ⟨0, rfl, Nat.zero_le _, B0⟩
  case round =>
    obtain ⟨k, rfl, hk, HB⟩ := hrel
    by_cases hlt : k < l.length
    · obtain ⟨x, hx⟩ : ∃ x, l[k]? = some x := ⟨_, List.getElem?_eq_getElem hlt⟩
      have hne : ¬ l = [] := fun e => by rw [e] at hlt; simp at hlt
      obtain ⟨g, rfl, -, hc⟩ := (H.out.kept HB.out).resolve_left hne
      obtain ⟨g2, rfl, -, hc2⟩ := (K.out.kept HB.out).resolve_left hne
      have p0 := hc k x hx
      have q0 := hc2 k x hx
      have a1 : (k : Int) < (l.length : Int) := by omega
      have a2 : (0 : Int) ≤ (k : Int) := by omega
      have a3 : ((k : Int)).toNat = k := by omega
      clear hc hc2 hx hne
      go_wp2_with fail
      go_quiet (fail)
      go_wp2_with fail
      go_roundw
      case rel => exact ⟨k + 1, by go_num, by omega, Lib.hid (below_drewN HB.out _)⟩
      case measure => simp [intOf]; omega
    · obtain rfl : k = l.length := by omega
      have a1 : ¬ (l.length : Int) < (l.length : Int) := by omega
      go_wp2_with fail
      go_ret
      exact ⟨rfl, HB.out⟩

end Go.Proofs.YtcmcnmmhkpolcaaGreatDoor
