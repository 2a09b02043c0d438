/-
  No statement: the calls of sorted.Map[int64, string] as a caller sees them: maps and slices that lie apart, and what becomes of them.
-/
import Derived.Test.YtbfnoflemmneoaaSep
import Derived.Test.YtbfnoflemmneoaaWriteLS
namespace Go.Proofs.Ytbfnoflemmneoaa
open Go.RowKit

/-- This seat's map, as a thing in memory. -/
def ObLS (p : Nat) (ks : List Int) (vs : List ByteArray) : Ob := MapOb 67 2 9 p (ks.map (Value.int .i64)) (vs.map (Value.string))

theorem ObLS.len {W w : World} {os : List Ob} {p : Nat} {ks : List Int} {vs : List ByteArray} (h : Sep W w os) (hm : ObLS p ks vs ∈ os) : vs.length = ks.length := by
  obtain ⟨F, ho⟩ := h.map hm
  simpa using ho.len

theorem sNewLS {W w : World} {os : List Ob} (h : Sep W w os) : Calls Try.prog 19 #[] w fun e w' => ∃ p, e = .returned (.pointer (some ⟨p, 0, none⟩)) ∧ Sep W w' (ObLS p [] [] :: os) := by
  refine (newLS w).mono fun e w' ⟨he, hm, hk⟩ => ⟨_, he, h.push (F := fun k => k = w.heap.size) hk hm (fun k hf => ⟨by omega, MapIn.lt hm k hf⟩)⟩

theorem sPutLS {W w : World} {os : List Ob} {p : Nat} {ks : List Int} {vs : List ByteArray} (x : Int) (v : ByteArray) (h : Sep W w (ObLS p ks vs :: os)) (hn : ks.length ≤ 1000000) (hr : Rising lsL ks) :
    Calls Try.prog 20 #[.pointer (some ⟨p, 0, none⟩), .int .i64 x, .string v] w fun e w' => e = .returned (.bool (!has ks x)) ∧ Sep W w' (ObLS p (putK lsL ks x) (putV lsL ks vs x v) :: os) := by
  obtain ⟨F, ho, hl, hf⟩ := h.head
  refine (putLS w p F ks vs x v hn hr ho).mono fun e w' ⟨he, F', hm, hg, hk⟩ => ⟨he, hf w' (ObLS p _ _) F' hk hm hg hm.lt⟩

theorem sKeysLS {W w : World} {os : List Ob} {p : Nat} {ks : List Int} {vs : List ByteArray} (h : Sep W w os) (hm : ObLS p ks vs ∈ os) (hn : ks.length ≤ 1000000) :
    Calls Try.prog 22 #[.pointer (some ⟨p, 0, none⟩)] w fun e w' => ∃ g c, e = .returned (.slice (some ⟨g, 0, none⟩) ks.length c) ∧ Sep W w' (RowOb 2 (.slice (some ⟨g, 0, none⟩) ks.length c) ks.length (ks.map (Value.int .i64)) :: os) := by
  obtain ⟨F, ho⟩ := h.map hm
  refine (keysLS w p F ks vs hn ho).mono fun e w' ⟨v', he, hr, hg, b, hb, hl⟩ => ?_
  rcases owns_cases hr with ⟨rfl, _, _⟩ | ⟨g, cap, cur, rfl, _⟩
  · simp [Value.ownBlock] at hb
  · simp only [List.length_map] at he hr hb
    exact ⟨g, cap, he, h.pushRow hg hr hb hl⟩

theorem sGetLS {W w : World} {os : List Ob} {p : Nat} {ks : List Int} {vs : List ByteArray} {x : Int} {v : ByteArray} (h : Sep W w os) (hm : ObLS p ks vs ∈ os) (hn : ks.length ≤ 1000000) (hr : Rising lsL ks) (hx : x ∈ ks) (hv : vs[pos lsL ks x]? = some v) :
    Calls Try.prog 23 #[.pointer (some ⟨p, 0, none⟩), .int .i64 x] w fun e w' => e = .returned (.tuple #[.string v, .bool true]) ∧ Sep W w' os := by
  obtain ⟨F, ho⟩ := h.map hm
  refine (getInLS w p F ks vs x v hn hr hx hv ho).mono fun e w' ⟨he, q, hw⟩ => ⟨he, ?_⟩
  subst hw
  exact h.drewN q

theorem sGetOutLS {W w : World} {os : List Ob} {p : Nat} {ks : List Int} {vs : List ByteArray} {x : Int} (h : Sep W w os) (hm : ObLS p ks vs ∈ os) (hn : ks.length ≤ 1000000) (hr : Rising lsL ks) (hx : x ∉ ks) :
    Calls Try.prog 23 #[.pointer (some ⟨p, 0, none⟩), .int .i64 x] w fun e w' => e = .returned (.tuple #[.string ⟨#[]⟩, .bool false]) ∧ Sep W w' os := by
  obtain ⟨F, ho⟩ := h.map hm
  refine (getOutLS w p F ks vs x hn hr hx ho).mono fun e w' ⟨he, q, hw⟩ => ⟨he, ?_⟩
  subst hw
  exact h.drewN q

end Go.Proofs.Ytbfnoflemmneoaa
