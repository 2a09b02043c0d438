/-
  No statement: the calls of sorted.Map[string, bool] as a caller sees them: maps and slices that lie apart, and what becomes of them.
-/
import Derived.Test.YtbfnoflemmneoaaSep
import Derived.Test.YtbfnoflemmneoaaWriteSB
namespace Go.Proofs.Ytbfnoflemmneoaa
open Go.RowKit

/-- This seat's map, as a thing in memory. -/
def ObSB (p : Nat) (ks : List ByteArray) (vs : List Bool) : Ob := MapOb 74 9 4 p (ks.map (Value.string)) (vs.map (Value.bool))

theorem ObSB.len {W w : World} {os : List Ob} {p : Nat} {ks : List ByteArray} {vs : List Bool} (h : Sep W w os) (hm : ObSB p ks vs ∈ os) : vs.length = ks.length := by
  obtain ⟨F, ho⟩ := h.map hm
  simpa using ho.len

theorem sNewSB {W w : World} {os : List Ob} (h : Sep W w os) : Calls Try.prog 24 #[] w fun e w' => ∃ p, e = .returned (.pointer (some ⟨p, 0, none⟩)) ∧ Sep W w' (ObSB p [] [] :: os) := by
  refine (newSB w).mono fun e w' ⟨he, hm, hk⟩ => ⟨_, he, h.push (F := fun k => k = w.heap.size) hk hm (fun k hf => ⟨by omega, MapIn.lt hm k hf⟩)⟩

theorem sPutSB {W w : World} {os : List Ob} {p : Nat} {ks : List ByteArray} {vs : List Bool} (x : ByteArray) (v : Bool) (h : Sep W w (ObSB p ks vs :: os)) (hn : ks.length ≤ 1000000) (hr : Rising lsS ks) :
    Calls Try.prog 25 #[.pointer (some ⟨p, 0, none⟩), .string x, .bool v] w fun e w' => e = .returned (.bool (!has ks x)) ∧ Sep W w' (ObSB p (putK lsS ks x) (putV lsS ks vs x v) :: os) := by
  obtain ⟨F, ho, hl, hf⟩ := h.head
  refine (putSB w p F ks vs x v hn hr ho).mono fun e w' ⟨he, F', hm, hg, hk⟩ => ⟨he, hf w' (ObSB p _ _) F' hk hm hg hm.lt⟩

theorem sKeysSB {W w : World} {os : List Ob} {p : Nat} {ks : List ByteArray} {vs : List Bool} (h : Sep W w os) (hm : ObSB p ks vs ∈ os) (hn : ks.length ≤ 1000000) :
    Calls Try.prog 26 #[.pointer (some ⟨p, 0, none⟩)] w fun e w' => ∃ g c, e = .returned (.slice (some ⟨g, 0, none⟩) ks.length c) ∧ Sep W w' (RowOb 9 (.slice (some ⟨g, 0, none⟩) ks.length c) ks.length (ks.map (Value.string)) :: os) := by
  obtain ⟨F, ho⟩ := h.map hm
  refine (keysSB w p F ks vs hn ho).mono fun e w' ⟨v', he, hr, hg, b, hb, hl⟩ => ?_
  rcases owns_cases hr with ⟨rfl, _, _⟩ | ⟨g, cap, cur, rfl, _⟩
  · simp [Value.ownBlock] at hb
  · simp only [List.length_map] at he hr hb
    exact ⟨g, cap, he, h.pushRow hg hr hb hl⟩

theorem sAtSB {W w : World} {os : List Ob} {p i : Nat} {ks : List ByteArray} {vs : List Bool} {k : ByteArray} {v : Bool} (h : Sep W w os) (hm : ObSB p ks vs ∈ os) (hn : ks.length ≤ 1000000) (hk : ks[i]? = some k) (hv : vs[i]? = some v) :
    Calls Try.prog 27 #[.pointer (some ⟨p, 0, none⟩), .int .i64 i] w fun e w' => e = .returned (.tuple #[.string k, .bool v, .bool true]) ∧ Sep W w' os := by
  obtain ⟨F, ho⟩ := h.map hm
  refine (atInSB w p F ks vs i k v hk hv hn ho).mono fun e w' ⟨he, q, hw⟩ => ⟨he, ?_⟩
  subst hw
  exact h.drewN q

theorem sAtOutSB {W w : World} {os : List Ob} {p : Nat} {i : Int} {ks : List ByteArray} {vs : List Bool} (h : Sep W w os) (hm : ObSB p ks vs ∈ os) (hn : ks.length ≤ 1000000) (hi : i < 0 ∨ (ks.length : Int) ≤ i) :
    Calls Try.prog 27 #[.pointer (some ⟨p, 0, none⟩), .int .i64 i] w fun e w' => e = .returned (.tuple #[.string ⟨#[]⟩, .bool false, .bool false]) ∧ Sep W w' os := by
  obtain ⟨F, ho⟩ := h.map hm
  refine (atOutSB w p F ks vs i hi hn ho).mono fun e w' ⟨he, q, hw⟩ => ⟨he, ?_⟩
  subst hw
  exact h.drewN q
theorem sFloorSB {W w : World} {os : List Ob} {p : Nat} {ks : List ByteArray} {vs : List Bool} {x : ByteArray} (h : Sep W w os) (hm : ObSB p ks vs ∈ os) (hn : ks.length ≤ 1000000) (hr : Rising lsS ks) :
    Calls Try.prog 28 #[.pointer (some ⟨p, 0, none⟩), .string x] w fun e w' => e = .returned (match belowK lsS ks x with | some k => .tuple #[.string k, .bool true] | Option.none => .tuple #[.string ⟨#[]⟩, .bool false]) ∧ Sep W w' os := by
  obtain ⟨F, ho⟩ := h.map hm
  unfold belowK
  by_cases hx : x ∈ ks
  · rw [if_pos ((has_iff ks x).2 hx)]
    refine (floorAtSB w p F ks vs x hn hr hx ho).mono fun e w' ⟨he, q, hw⟩ => ⟨he, ?_⟩
    subst hw
    exact h.drewN q
  · rw [if_neg (by rw [has_no hx]; simp)]
    by_cases h0 : pos lsS ks x = 0
    · rw [if_pos h0]
      refine (floorOutSB w p F ks vs x hn hr hx h0 ho).mono fun e w' ⟨he, q, hw⟩ => ⟨he, ?_⟩
      subst hw
      exact h.drewN q
    · rw [if_neg h0]
      have hl := pos_le (less := lsS) ks x
      have hk : ks[pos lsS ks x - 1]? = some (ks[pos lsS ks x - 1]'(by omega)) := List.getElem?_eq_getElem (by omega)
      rw [hk]
      refine (floorInSB w p F ks vs x _ (pos lsS ks x - 1) hn hr hx (by omega) hk ho).mono fun e w' ⟨he, q, hw⟩ => ⟨he, ?_⟩
      subst hw
      exact h.drewN q
theorem sCeilSB {W w : World} {os : List Ob} {p : Nat} {ks : List ByteArray} {vs : List Bool} {x : ByteArray} (h : Sep W w os) (hm : ObSB p ks vs ∈ os) (hn : ks.length ≤ 1000000) (hr : Rising lsS ks) :
    Calls Try.prog 29 #[.pointer (some ⟨p, 0, none⟩), .string x] w fun e w' => e = .returned (match ks[pos lsS ks x]? with | some k => .tuple #[.string k, .bool true] | Option.none => .tuple #[.string ⟨#[]⟩, .bool false]) ∧ Sep W w' os := by
  obtain ⟨F, ho⟩ := h.map hm
  cases hk : ks[pos lsS ks x]? with
  | some k =>
    refine (ceilInSB w p F ks vs x k hn hr hk ho).mono fun e w' ⟨he, q, hw⟩ => ⟨he, ?_⟩
    subst hw
    exact h.drewN q
  | none =>
    refine (ceilOutSB w p F ks vs x hn hr (by simpa using hk) ho).mono fun e w' ⟨he, q, hw⟩ => ⟨he, ?_⟩
    subst hw
    exact h.drewN q

end Go.Proofs.Ytbfnoflemmneoaa
