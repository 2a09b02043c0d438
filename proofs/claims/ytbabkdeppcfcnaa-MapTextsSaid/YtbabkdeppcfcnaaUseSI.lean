/-
  No statement: the calls of sorted.Map[string, int] as a caller sees them: maps and slices that lie apart, and what becomes of them.
-/
import Derived.Test.YtbabkdeppcfcnaaSep
import Derived.Test.YtbabkdeppcfcnaaDropSI
namespace Go.Proofs.Ytbabkdeppcfcnaa
open Go.RowKit

/-- This seat's map, as a thing in memory. -/
def ObSI (p : Nat) (ks : List ByteArray) (vs : List Int) : Ob := MapOb 43 9 3 p (ks.map (Value.string)) (vs.map (Value.int .i64))

theorem ObSI.len {W w : World} {os : List Ob} {p : Nat} {ks : List ByteArray} {vs : List Int} (h : Sep W w os) (hm : ObSI p ks vs ∈ os) : vs.length = ks.length := by
  obtain ⟨F, ho⟩ := h.map hm
  simpa using ho.len

theorem sNewSI {W w : World} {os : List Ob} (h : Sep W w os) : Calls Try.prog 5 #[] w fun e w' => ∃ p, e = .returned (.pointer (some ⟨p, 0, none⟩)) ∧ Sep W w' (ObSI p [] [] :: os) := by
  refine (newSI w).mono fun e w' ⟨he, hm, hk⟩ => ⟨_, he, h.push (F := fun k => k = w.heap.size) hk hm (fun k hf => ⟨by omega, MapIn.lt hm k hf⟩)⟩

theorem sPutSI {W w : World} {os : List Ob} {p : Nat} {ks : List ByteArray} {vs : List Int} (x : ByteArray) (v : Int) (h : Sep W w (ObSI p ks vs :: os)) (hn : ks.length ≤ 1000000) (hr : Rising lsS ks) :
    Calls Try.prog 7 #[.pointer (some ⟨p, 0, none⟩), .string x, .int .i64 v] w fun e w' => e = .returned (.bool (!has ks x)) ∧ Sep W w' (ObSI p (putK lsS ks x) (putV lsS ks vs x v) :: os) := by
  obtain ⟨F, ho, hl, hf⟩ := h.head
  refine (putSI w p F ks vs x v hn hr ho).mono fun e w' ⟨he, F', hm, hg, hk⟩ => ⟨he, hf w' (ObSI p _ _) F' hk hm hg hm.lt⟩

theorem sKeysSI {W w : World} {os : List Ob} {p : Nat} {ks : List ByteArray} {vs : List Int} (h : Sep W w os) (hm : ObSI p ks vs ∈ os) (hn : ks.length ≤ 1000000) :
    Calls Try.prog 10 #[.pointer (some ⟨p, 0, none⟩)] w fun e w' => ∃ g c, e = .returned (.slice (some ⟨g, 0, none⟩) ks.length c) ∧ Sep W w' (RowOb 9 (.slice (some ⟨g, 0, none⟩) ks.length c) ks.length (ks.map (Value.string)) :: os) := by
  obtain ⟨F, ho⟩ := h.map hm
  refine (keysSI w p F ks vs hn ho).mono fun e w' ⟨v', he, hr, hg, b, hb, hl⟩ => ?_
  rcases owns_cases hr with ⟨rfl, _, _⟩ | ⟨g, cap, cur, rfl, _⟩
  · simp [Value.ownBlock] at hb
  · simp only [List.length_map] at he hr hb
    exact ⟨g, cap, he, h.pushRow hg hr hb hl⟩

theorem sLenSI {W w : World} {os : List Ob} {p : Nat} {ks : List ByteArray} {vs : List Int} (h : Sep W w os) (hm : ObSI p ks vs ∈ os) :
    Calls Try.prog 11 #[.pointer (some ⟨p, 0, none⟩)] w fun e w' => e = .returned (.int .i64 (ks.length : Nat)) ∧ w = w' := by
  obtain ⟨F, ho⟩ := h.map hm
  exact lenSI w p F ks vs ho
theorem sGetSI {W w : World} {os : List Ob} {p : Nat} {ks : List ByteArray} {vs : List Int} {x : ByteArray} {v : Int} (h : Sep W w os) (hm : ObSI p ks vs ∈ os) (hn : ks.length ≤ 1000000) (hr : Rising lsS ks) (hx : x ∈ ks) (hv : vs[pos lsS ks x]? = some v) :
    Calls Try.prog 12 #[.pointer (some ⟨p, 0, none⟩), .string x] w fun e w' => e = .returned (.tuple #[.int .i64 v, .bool true]) ∧ Sep W w' os := by
  obtain ⟨F, ho⟩ := h.map hm
  refine (getInSI w p F ks vs x v hn hr hx hv ho).mono fun e w' ⟨he, q, hw⟩ => ⟨he, ?_⟩
  subst hw
  exact h.drewN q

theorem sGetOutSI {W w : World} {os : List Ob} {p : Nat} {ks : List ByteArray} {vs : List Int} {x : ByteArray} (h : Sep W w os) (hm : ObSI p ks vs ∈ os) (hn : ks.length ≤ 1000000) (hr : Rising lsS ks) (hx : x ∉ ks) :
    Calls Try.prog 12 #[.pointer (some ⟨p, 0, none⟩), .string x] w fun e w' => e = .returned (.tuple #[.int .i64 0, .bool false]) ∧ Sep W w' os := by
  obtain ⟨F, ho⟩ := h.map hm
  refine (getOutSI w p F ks vs x hn hr hx ho).mono fun e w' ⟨he, q, hw⟩ => ⟨he, ?_⟩
  subst hw
  exact h.drewN q
theorem sAtSI {W w : World} {os : List Ob} {p i : Nat} {ks : List ByteArray} {vs : List Int} {k : ByteArray} {v : Int} (h : Sep W w os) (hm : ObSI p ks vs ∈ os) (hn : ks.length ≤ 1000000) (hk : ks[i]? = some k) (hv : vs[i]? = some v) :
    Calls Try.prog 13 #[.pointer (some ⟨p, 0, none⟩), .int .i64 i] w fun e w' => e = .returned (.tuple #[.string k, .int .i64 v, .bool true]) ∧ Sep W w' os := by
  obtain ⟨F, ho⟩ := h.map hm
  refine (atInSI w p F ks vs i k v hk hv hn ho).mono fun e w' ⟨he, q, hw⟩ => ⟨he, ?_⟩
  subst hw
  exact h.drewN q

theorem sAtOutSI {W w : World} {os : List Ob} {p : Nat} {i : Int} {ks : List ByteArray} {vs : List Int} (h : Sep W w os) (hm : ObSI p ks vs ∈ os) (hn : ks.length ≤ 1000000) (hi : i < 0 ∨ (ks.length : Int) ≤ i) :
    Calls Try.prog 13 #[.pointer (some ⟨p, 0, none⟩), .int .i64 i] w fun e w' => e = .returned (.tuple #[.string ⟨#[]⟩, .int .i64 0, .bool false]) ∧ Sep W w' os := by
  obtain ⟨F, ho⟩ := h.map hm
  refine (atOutSI w p F ks vs i hi hn ho).mono fun e w' ⟨he, q, hw⟩ => ⟨he, ?_⟩
  subst hw
  exact h.drewN q
theorem sFloorSI {W w : World} {os : List Ob} {p : Nat} {ks : List ByteArray} {vs : List Int} {x : ByteArray} (h : Sep W w os) (hm : ObSI p ks vs ∈ os) (hn : ks.length ≤ 1000000) (hr : Rising lsS ks) :
    Calls Try.prog 14 #[.pointer (some ⟨p, 0, none⟩), .string x] w fun e w' => e = .returned (match belowK lsS ks x with | some k => .tuple #[.string k, .bool true] | Option.none => .tuple #[.string ⟨#[]⟩, .bool false]) ∧ Sep W w' os := by
  obtain ⟨F, ho⟩ := h.map hm
  unfold belowK
  by_cases hx : x ∈ ks
  · rw [if_pos ((has_iff ks x).2 hx)]
    refine (floorAtSI w p F ks vs x hn hr hx ho).mono fun e w' ⟨he, q, hw⟩ => ⟨he, ?_⟩
    subst hw
    exact h.drewN q
  · rw [if_neg (by rw [has_no hx]; simp)]
    by_cases h0 : pos lsS ks x = 0
    · rw [if_pos h0]
      refine (floorOutSI w p F ks vs x hn hr hx h0 ho).mono fun e w' ⟨he, q, hw⟩ => ⟨he, ?_⟩
      subst hw
      exact h.drewN q
    · rw [if_neg h0]
      have hl := pos_le (less := lsS) ks x
      have hk : ks[pos lsS ks x - 1]? = some (ks[pos lsS ks x - 1]'(by omega)) := List.getElem?_eq_getElem (by omega)
      rw [hk]
      refine (floorInSI w p F ks vs x _ (pos lsS ks x - 1) hn hr hx (by omega) hk ho).mono fun e w' ⟨he, q, hw⟩ => ⟨he, ?_⟩
      subst hw
      exact h.drewN q
theorem sCeilSI {W w : World} {os : List Ob} {p : Nat} {ks : List ByteArray} {vs : List Int} {x : ByteArray} (h : Sep W w os) (hm : ObSI p ks vs ∈ os) (hn : ks.length ≤ 1000000) (hr : Rising lsS ks) :
    Calls Try.prog 15 #[.pointer (some ⟨p, 0, none⟩), .string x] w fun e w' => e = .returned (match ks[pos lsS ks x]? with | some k => .tuple #[.string k, .bool true] | Option.none => .tuple #[.string ⟨#[]⟩, .bool false]) ∧ Sep W w' os := by
  obtain ⟨F, ho⟩ := h.map hm
  cases hk : ks[pos lsS ks x]? with
  | some k =>
    refine (ceilInSI w p F ks vs x k hn hr hk ho).mono fun e w' ⟨he, q, hw⟩ => ⟨he, ?_⟩
    subst hw
    exact h.drewN q
  | none =>
    refine (ceilOutSI w p F ks vs x hn hr (by simpa using hk) ho).mono fun e w' ⟨he, q, hw⟩ => ⟨he, ?_⟩
    subst hw
    exact h.drewN q
theorem sDropSI {W w : World} {os : List Ob} {p : Nat} {ks : List ByteArray} {vs : List Int} (x : ByteArray) (h : Sep W w (ObSI p ks vs :: os)) (hn : ks.length ≤ 1000000) (hr : Rising lsS ks) :
    Calls Try.prog 8 #[.pointer (some ⟨p, 0, none⟩), .string x] w fun e w' => e = .returned (.bool (has ks x)) ∧ Sep W w' (ObSI p (dropK lsS ks x) (dropV lsS ks vs x) :: os) := by
  obtain ⟨F, ho, hl, hf⟩ := h.head
  refine (dropSI w p F ks vs x hn hr ho).mono fun e w' ⟨he, F', hm, hg, hk⟩ => ⟨he, hf w' (ObSI p _ _) F' hk hm hg hm.lt⟩
theorem sTwinSI {W w : World} {os : List Ob} {p : Nat} {ks : List ByteArray} {vs : List Int} (h : Sep W w os) (hm : ObSI p ks vs ∈ os) (hn : ks.length ≤ 1000000) :
    Calls Try.prog 9 #[.pointer (some ⟨p, 0, none⟩)] w fun e w' => ∃ b, e = .returned (.pointer (some ⟨b, 0, none⟩)) ∧ Sep W w' (ObSI b ks vs :: os) := by
  obtain ⟨F, ho⟩ := h.map hm
  refine (twinSI w p F ks vs hn ho).mono fun e w' ⟨b, F', he, hm', hl, hk⟩ => ⟨b, he, h.push (F := F') hk hm' (fun k hf => ⟨hl k hf, MapIn.lt hm' k hf⟩)⟩

end Go.Proofs.Ytbabkdeppcfcnaa
