/-
  No statement: what sorted.Map[int64, string] tells of itself, over a map that lies in memory: New, Len, Get, key, At, Floor, Ceil.
-/
import Derived.Test.YtbfnoflemmneoaaMapDef
import Derived.Test.YtbfnoflemmneoaaSearchL
import Derived.Deep.QuietTactic
import Derived.BigQuiet
namespace Go.Proofs.Ytbfnoflemmneoaa
open Go.RowKit

/-- This seat's map. -/
def MLS (w : World) (p : Nat) (F : Nat → Prop) (ks : List Int) (vs : List ByteArray) : Prop :=
  MapIn w 67 2 9 p F (ks.map (Value.int .i64)) (vs.map (Value.string))

theorem MLS.kept {w w' : World} {p : Nat} {F S : Nat → Prop} {ks : List Int} {vs : List ByteArray} (h : MLS w p F ks vs) (hk : Kept S w w') (hS : ∀ k, F k → ¬ S k) : MLS w' p F ks vs := MapIn.kept h hk hS
theorem MLS.lt {w : World} {p : Nat} {F : Nat → Prop} {ks : List Int} {vs : List ByteArray} (h : MLS w p F ks vs) : ∀ k, F k → k < w.heap.size := MapIn.lt h
theorem MLS.len {w : World} {p : Nat} {F : Nat → Prop} {ks : List Int} {vs : List ByteArray} (h : MLS w p F ks vs) : vs.length = ks.length := by simpa using MapIn.len h

set_option maxHeartbeats 1000000 in
theorem newLS (w : World) : Calls Try.prog 19 #[] w fun e w' =>
    e = .returned (.pointer (some ⟨w.heap.size, 0, none⟩)) ∧ MLS w' w.heap.size (fun k => k = w.heap.size) [] [] ∧ Kept (fun _ => False) w w' := by
  have H : Calls Try.prog 19 #[] w fun e w' => e = .returned (.pointer (some ⟨w.heap.size, 0, none⟩)) ∧ w' = w.alloc (.cells #[.slice none 0 0, .slice none 0 0] 67) := by
    go_enter Try.func19, Try.ntmps19
    go_wp2
    go_ret
    exact ⟨rfl, rfl⟩
  refine H.mono ?_
  rintro e w' ⟨rfl, rfl⟩
  refine ⟨rfl, ⟨_, _, heap_alloc_new w _, World.ownsRow_nil _ _ _ _, World.ownsRow_nil _ _ _ _, ?_, ?_, ?_, rfl, ?_, ?_, ?_⟩, (Kept.refl _ w).alloc _⟩
  · simp [Value.ownBlock]
  · simp [Value.ownBlock]
  · simp [Value.ownBlock]
  · simp [Value.ownBlock]
  · simp [Value.ownBlock]
  · intro k hk; subst hk; simp




/-- The search over a map's keys, under names. -/
theorem lookLS {w : World} {p : Nat} {F : Nat → Prop} {ks : List Int} {vs : List ByteArray} (h : MLS w p F ks vs) (hn : ks.length ≤ 1000000) (hr : Rising lsL ks) (x : Int) :
    ∃ ka kc, w.cell? ⟨p, 0, none⟩ = some (.slice ka ks.length kc) ∧ ∀ (I : Nat) (B : Bool), pos lsL ks x = I → has ks x = B →
      Calls Try.prog 38 #[.slice ka ks.length kc, .int .i64 x] w fun e w' => e = .returned (.tuple #[.int .i64 I, .bool B]) ∧ ∃ q, w' = w.drewN q := by
  obtain ⟨kv, vv, h0, h1, h2, _⟩ := h
  obtain ⟨ka, kc, rfl⟩ := owns_slice h1
  have c0 := cell0_of_two h0
  simp only [List.length_map] at c0 h1
  exact ⟨ka, kc, c0, fun I B hI hB => by rw [← hI, ← hB]; exact searchL _ _ ks x w hn h1 hr⟩

set_option maxHeartbeats 1000000 in
theorem getInLS (w : World) (p : Nat) (F : Nat → Prop) (ks : List Int) (vs : List ByteArray) (x : Int) (v : ByteArray) (hn : ks.length ≤ 1000000) (hr : Rising lsL ks) (hx : x ∈ ks) (hv : vs[pos lsL ks x]? = some v) (h : MLS w p F ks vs) :
    Calls Try.prog 23 #[.pointer (some ⟨p, 0, none⟩), .int .i64 x] w fun e w' => e = .returned (.tuple #[.string v, .bool true]) ∧ ∃ q, w' = w.drewN q := by
  obtain ⟨ka, kc, c0, hL⟩ := lookLS h hn hr x
  obtain ⟨I, hI⟩ : ∃ I, pos lsL ks x = I := ⟨_, rfl⟩
  have HL := Lib.hid (hL I true hI ((has_iff ks x).2 hx))
  rw [hI] at hv
  have hl := h.len
  obtain ⟨kv, vv, h0, h1, h2, _⟩ := h
  have hi := (List.getElem?_eq_some_iff.1 hv).1
  obtain ⟨g, c, cur, rfl, hg, hs, hnc, hm, ht, hx2⟩ := owns_block h2 (by simp; omega)
  have c1 := cell1_of_two h0
  simp only [List.length_map] at c1
  have ci : w.cell? ⟨g, I, none⟩ = some (.string v) := owns_cell hg ht (by rw [List.getElem?_map, hv]; rfl)
  have hi' : (I : Int) < (ks.length : Int) := by omega
  have h0i : (0 : Int) ≤ (I : Int) := by omega
  clear h0 h1 h2 hI hv hg hs ht hx hnc hm hL hi hl hx2
  generalize ks.length = n at *
  go_enter Try.func23, Try.ntmps23
  go_wp2_with (go_at_call 38; refine HL.out.mono ?_; rintro e w' ⟨rfl, q, rfl⟩)
  go_ret2
  exact ⟨rfl, _, rfl⟩

set_option maxHeartbeats 1000000 in
theorem getOutLS (w : World) (p : Nat) (F : Nat → Prop) (ks : List Int) (vs : List ByteArray) (x : Int) (hn : ks.length ≤ 1000000) (hr : Rising lsL ks) (hx : x ∉ ks) (h : MLS w p F ks vs) :
    Calls Try.prog 23 #[.pointer (some ⟨p, 0, none⟩), .int .i64 x] w fun e w' => e = .returned (.tuple #[.string ⟨#[]⟩, .bool false]) ∧ ∃ q, w' = w.drewN q := by
  obtain ⟨ka, kc, c0, hL⟩ := lookLS h hn hr x
  obtain ⟨I, hI⟩ : ∃ I, pos lsL ks x = I := ⟨_, rfl⟩
  have HL := Lib.hid (hL I false hI (has_no hx))
  clear h hI hx hL hr
  generalize ks.length = n at *
  go_enter Try.func23, Try.ntmps23
  go_wp2_with (go_at_call 38; refine HL.out.mono ?_; rintro e w' ⟨rfl, q, rfl⟩)
  go_ret2
  exact ⟨rfl, _, rfl⟩








end Go.Proofs.Ytbfnoflemmneoaa
