/-
  No statement: what sorted.Map[string, bool] tells of itself, over a map that lies in memory: New, Len, Get, key, At, Floor, Ceil.
-/
import Derived.Test.YtbfnoflemmneoaaMapDef
import Derived.Test.YtbfnoflemmneoaaSearchS
import Derived.Deep.QuietTactic
import Derived.BigQuiet
namespace Go.Proofs.Ytbfnoflemmneoaa
open Go.RowKit

/-- This seat's map. -/
def MSB (w : World) (p : Nat) (F : Nat → Prop) (ks : List ByteArray) (vs : List Bool) : Prop :=
  MapIn w 74 9 4 p F (ks.map (Value.string)) (vs.map (Value.bool))

theorem MSB.kept {w w' : World} {p : Nat} {F S : Nat → Prop} {ks : List ByteArray} {vs : List Bool} (h : MSB w p F ks vs) (hk : Kept S w w') (hS : ∀ k, F k → ¬ S k) : MSB w' p F ks vs := MapIn.kept h hk hS
theorem MSB.lt {w : World} {p : Nat} {F : Nat → Prop} {ks : List ByteArray} {vs : List Bool} (h : MSB w p F ks vs) : ∀ k, F k → k < w.heap.size := MapIn.lt h
theorem MSB.len {w : World} {p : Nat} {F : Nat → Prop} {ks : List ByteArray} {vs : List Bool} (h : MSB w p F ks vs) : vs.length = ks.length := by simpa using MapIn.len h

set_option maxHeartbeats 1000000 in
theorem newSB (w : World) : Calls Try.prog 24 #[] w fun e w' =>
    e = .returned (.pointer (some ⟨w.heap.size, 0, none⟩)) ∧ MSB w' w.heap.size (fun k => k = w.heap.size) [] [] ∧ Kept (fun _ => False) w w' := by
  have H : Calls Try.prog 24 #[] w fun e w' => e = .returned (.pointer (some ⟨w.heap.size, 0, none⟩)) ∧ w' = w.alloc (.cells #[.slice none 0 0, .slice none 0 0] 74) := by
    go_enter Try.func24, Try.ntmps24
    go_wp2
    go_ret
    exact ⟨rfl, rfl⟩
  refine H.mono ?_
  rintro e w' ⟨rfl, rfl⟩
  refine ⟨rfl, ⟨_, _, heap_alloc_new w _, World.ownsRow_nil _ _ _ _, World.ownsRow_nil _ _ _ _, ?_, ?_, ?_, rfl, ?_, ?_, ?_⟩, (Kept.refl _ w).alloc _⟩
  · simp [Value.ownBlock]
  · simp [Value.ownBlock]
  · simp [Value.ownBlock]
  · simp [Value.ownBlock]
  · simp [Value.ownBlock]
  · intro k hk; subst hk; simp


set_option maxHeartbeats 1000000 in
theorem keyInSB (w : World) (p : Nat) (F : Nat → Prop) (ks : List ByteArray) (vs : List Bool) (i : Nat) (k : ByteArray) (hn : ks.length ≤ 1000000) (hk : ks[i]? = some k) (h : MSB w p F ks vs) :
    Calls Try.prog 42 #[.pointer (some ⟨p, 0, none⟩), .int .i64 i] w fun e w' => e = .returned (.tuple #[.string k, .bool true]) ∧ w = w' := by
  obtain ⟨kv, vv, h0, h1, h2, _⟩ := h
  have hi := (List.getElem?_eq_some_iff.1 hk).1
  obtain ⟨g, c, cur, rfl, hg, hs, hnc, hm, ht, hx⟩ := owns_block h1 (by simp; omega)
  have c0 := cell0_of_two h0
  simp only [List.length_map] at c0
  have ci : w.cell? ⟨g, i, none⟩ = some (.string k) := owns_cell hg ht (by rw [List.getElem?_map, hk]; rfl)
  have hi' : (i : Int) < (ks.length : Int) := by omega
  generalize ks.length = n at *
  have h0i : (0 : Int) ≤ (i : Int) := by omega
  clear h0 h1 h2 hk hg hs ht hx hnc hm
  go_enter Try.func42, Try.ntmps42
  go_wp2
  go_ret2
  exact ⟨rfl, rfl⟩

set_option maxHeartbeats 1000000 in
theorem keyOutSB (w : World) (p : Nat) (F : Nat → Prop) (ks : List ByteArray) (vs : List Bool) (i : Int) (hi : i < 0 ∨ (ks.length : Int) ≤ i) (hn : ks.length ≤ 1000000) (h : MSB w p F ks vs) :
    Calls Try.prog 42 #[.pointer (some ⟨p, 0, none⟩), .int .i64 i] w fun e w' => e = .returned (.tuple #[.string ⟨#[]⟩, .bool false]) ∧ w = w' := by
  obtain ⟨kv, vv, h0, h1, h2, _⟩ := h
  obtain ⟨ka, kc, rfl⟩ := owns_slice h1
  have c0 := cell0_of_two h0
  simp only [List.length_map] at c0
  generalize ks.length = n at *
  clear h0 h1 h2
  rcases hi with hi | hi
  · go_enter Try.func42, Try.ntmps42
    go_wp2
    go_ret2
    exact ⟨rfl, rfl⟩
  · have h0i : ¬ i < 0 := by omega
    go_enter Try.func42, Try.ntmps42
    go_wp2
    go_ret2
    exact ⟨rfl, rfl⟩

/-- The search over a map's keys, under names. -/
theorem lookSB {w : World} {p : Nat} {F : Nat → Prop} {ks : List ByteArray} {vs : List Bool} (h : MSB w p F ks vs) (hn : ks.length ≤ 1000000) (hr : Rising lsS ks) (x : ByteArray) :
    ∃ ka kc, w.cell? ⟨p, 0, none⟩ = some (.slice ka ks.length kc) ∧ ∀ (I : Nat) (B : Bool), pos lsS ks x = I → has ks x = B →
      Calls Try.prog 30 #[.slice ka ks.length kc, .string x] w fun e w' => e = .returned (.tuple #[.int .i64 I, .bool B]) ∧ ∃ q, w' = w.drewN q := by
  obtain ⟨kv, vv, h0, h1, h2, _⟩ := h
  obtain ⟨ka, kc, rfl⟩ := owns_slice h1
  have c0 := cell0_of_two h0
  simp only [List.length_map] at c0 h1
  exact ⟨ka, kc, c0, fun I B hI hB => by rw [← hI, ← hB]; exact searchS _ _ ks x w hn h1 hr⟩



set_option maxHeartbeats 1000000 in
theorem ceilInSB (w : World) (p : Nat) (F : Nat → Prop) (ks : List ByteArray) (vs : List Bool) (x k : ByteArray) (hn : ks.length ≤ 1000000) (hr : Rising lsS ks) (hk : ks[pos lsS ks x]? = some k) (h : MSB w p F ks vs) :
    Calls Try.prog 29 #[.pointer (some ⟨p, 0, none⟩), .string x] w fun e w' => e = .returned (.tuple #[.string k, .bool true]) ∧ ∃ q, w' = w.drewN q := by
  obtain ⟨ka, kc, c0, hL⟩ := lookSB h hn hr x
  obtain ⟨I, hI⟩ : ∃ I, pos lsS ks x = I := ⟨_, rfl⟩
  obtain ⟨B, hB⟩ : ∃ B, has ks x = B := ⟨_, rfl⟩
  have HL := Lib.hid (hL I B hI hB)
  rw [hI] at hk
  have HK := Lib.hid (p := ∀ q, Calls Try.prog 42 #[.pointer (some ⟨p, 0, none⟩), .int .i64 I] (w.drewN q) fun e w' => e = .returned (.tuple #[.string k, .bool true]) ∧ w.drewN q = w') (fun q => keyInSB _ p F ks vs I k hn hk (MapIn.drewN h q))
  clear h hI hk hL hr hB
  generalize ks.length = n at *
  go_enter Try.func29, Try.ntmps29
  go_wp2_with (first | (go_at_call 30; refine HL.out.mono ?_; rintro e w' ⟨rfl, q, rfl⟩) | (go_at_call 42; refine (HK.out _).mono ?_; rintro e w' ⟨rfl, rfl⟩))
  go_ret2
  exact ⟨rfl, _, rfl⟩

set_option maxHeartbeats 1000000 in
theorem ceilOutSB (w : World) (p : Nat) (F : Nat → Prop) (ks : List ByteArray) (vs : List Bool) (x : ByteArray) (hn : ks.length ≤ 1000000) (hr : Rising lsS ks) (hk : ks.length ≤ pos lsS ks x) (h : MSB w p F ks vs) :
    Calls Try.prog 29 #[.pointer (some ⟨p, 0, none⟩), .string x] w fun e w' => e = .returned (.tuple #[.string ⟨#[]⟩, .bool false]) ∧ ∃ q, w' = w.drewN q := by
  obtain ⟨ka, kc, c0, hL⟩ := lookSB h hn hr x
  obtain ⟨I, hI⟩ : ∃ I, pos lsS ks x = I := ⟨_, rfl⟩
  obtain ⟨B, hB⟩ : ∃ B, has ks x = B := ⟨_, rfl⟩
  have HL := Lib.hid (hL I B hI hB)
  rw [hI] at hk
  have HK := Lib.hid (p := ∀ q, Calls Try.prog 42 #[.pointer (some ⟨p, 0, none⟩), .int .i64 I] (w.drewN q) fun e w' => e = .returned (.tuple #[.string ⟨#[]⟩, .bool false]) ∧ w.drewN q = w') (fun q => keyOutSB _ p F ks vs I (Or.inr (by omega)) hn (MapIn.drewN h q))
  clear h hI hk hL hr hB
  generalize ks.length = n at *
  go_enter Try.func29, Try.ntmps29
  go_wp2_with (first | (go_at_call 30; refine HL.out.mono ?_; rintro e w' ⟨rfl, q, rfl⟩) | (go_at_call 42; refine (HK.out _).mono ?_; rintro e w' ⟨rfl, rfl⟩))
  go_ret2
  exact ⟨rfl, _, rfl⟩

set_option maxHeartbeats 1000000 in
/-- Floor where the key itself is there. -/
theorem floorAtSB (w : World) (p : Nat) (F : Nat → Prop) (ks : List ByteArray) (vs : List Bool) (x : ByteArray) (hn : ks.length ≤ 1000000) (hr : Rising lsS ks) (hx : x ∈ ks) (h : MSB w p F ks vs) :
    Calls Try.prog 28 #[.pointer (some ⟨p, 0, none⟩), .string x] w fun e w' => e = .returned (.tuple #[.string x, .bool true]) ∧ ∃ q, w' = w.drewN q := by
  obtain ⟨ka, kc, c0, hL⟩ := lookSB h hn hr x
  have hk := (mem_iff_pos strictS hr).1 hx
  obtain ⟨I, hI⟩ : ∃ I, pos lsS ks x = I := ⟨_, rfl⟩
  have HL := Lib.hid (hL I true hI ((has_iff ks x).2 hx))
  rw [hI] at hk
  have HK := Lib.hid (p := ∀ q, Calls Try.prog 42 #[.pointer (some ⟨p, 0, none⟩), .int .i64 I] (w.drewN q) fun e w' => e = .returned (.tuple #[.string x, .bool true]) ∧ w.drewN q = w') (fun q => keyInSB _ p F ks vs I x hn hk (MapIn.drewN h q))
  clear h hI hk hL hr hx
  generalize ks.length = n at *
  go_enter Try.func28, Try.ntmps28
  go_wp2_with (first | (go_at_call 30; refine HL.out.mono ?_; rintro e w' ⟨rfl, q, rfl⟩) | (go_at_call 42; refine (HK.out _).mono ?_; rintro e w' ⟨rfl, rfl⟩))
  go_ret2
  exact ⟨rfl, _, rfl⟩

set_option maxHeartbeats 1000000 in
/-- Floor where the key is not there, but one below it. -/
theorem floorInSB (w : World) (p : Nat) (F : Nat → Prop) (ks : List ByteArray) (vs : List Bool) (x k : ByteArray) (j : Nat) (hn : ks.length ≤ 1000000) (hr : Rising lsS ks) (hx : x ∉ ks) (hj : pos lsS ks x = j + 1) (hk : ks[j]? = some k) (h : MSB w p F ks vs) :
    Calls Try.prog 28 #[.pointer (some ⟨p, 0, none⟩), .string x] w fun e w' => e = .returned (.tuple #[.string k, .bool true]) ∧ ∃ q, w' = w.drewN q := by
  obtain ⟨ka, kc, c0, hL⟩ := lookSB h hn hr x
  have HL := Lib.hid (hL (j + 1) false hj (has_no hx))
  have hjn := (List.getElem?_eq_some_iff.1 hk).1
  have hj1 : j ≤ 1000000 := by omega
  have HK := Lib.hid (p := ∀ (q : Nat) (z : Int), z = j → Calls Try.prog 42 #[.pointer (some ⟨p, 0, none⟩), .int .i64 z] (w.drewN q) fun e w' => e = .returned (.tuple #[.string k, .bool true]) ∧ w.drewN q = w') (fun q z hz => by rw [hz]; exact keyInSB _ p F ks vs j k hn hk (MapIn.drewN h q))
  clear h hj hk hL hr hx hjn
  generalize ks.length = n at *
  go_enter Try.func28, Try.ntmps28
  go_wp2_with (first | (go_at_call 30; refine HL.out.mono ?_; rintro e w' ⟨rfl, q, rfl⟩) | (go_at_call 42; refine (HK.out _ _ (by omega)).mono ?_; rintro e w' ⟨rfl, rfl⟩))
  go_ret2
  exact ⟨rfl, _, rfl⟩

set_option maxHeartbeats 1000000 in
/-- Floor where none is below. -/
theorem floorOutSB (w : World) (p : Nat) (F : Nat → Prop) (ks : List ByteArray) (vs : List Bool) (x : ByteArray) (hn : ks.length ≤ 1000000) (hr : Rising lsS ks) (hx : x ∉ ks) (hj : pos lsS ks x = 0) (h : MSB w p F ks vs) :
    Calls Try.prog 28 #[.pointer (some ⟨p, 0, none⟩), .string x] w fun e w' => e = .returned (.tuple #[.string ⟨#[]⟩, .bool false]) ∧ ∃ q, w' = w.drewN q := by
  obtain ⟨ka, kc, c0, hL⟩ := lookSB h hn hr x
  have HL := Lib.hid (hL 0 false hj (has_no hx))
  have HK := Lib.hid (p := ∀ q, Calls Try.prog 42 #[.pointer (some ⟨p, 0, none⟩), .int .i64 (-1)] (w.drewN q) fun e w' => e = .returned (.tuple #[.string ⟨#[]⟩, .bool false]) ∧ w.drewN q = w') (fun q => keyOutSB _ p F ks vs (-1) (Or.inl (by omega)) hn (MapIn.drewN h q))
  clear h hj hL hr hx
  generalize ks.length = n at *
  go_enter Try.func28, Try.ntmps28
  go_wp2_with (first | (go_at_call 30; refine HL.out.mono ?_; rintro e w' ⟨rfl, q, rfl⟩) | (go_at_call 42; refine (HK.out _).mono ?_; rintro e w' ⟨rfl, rfl⟩))
  go_ret2
  exact ⟨rfl, _, rfl⟩

set_option maxHeartbeats 1000000 in
theorem atOutSB (w : World) (p : Nat) (F : Nat → Prop) (ks : List ByteArray) (vs : List Bool) (i : Int) (hi : i < 0 ∨ (ks.length : Int) ≤ i) (hn : ks.length ≤ 1000000) (h : MSB w p F ks vs) :
    Calls Try.prog 27 #[.pointer (some ⟨p, 0, none⟩), .int .i64 i] w fun e w' => e = .returned (.tuple #[.string ⟨#[]⟩, .bool false, .bool false]) ∧ ∃ q, w' = w.drewN q := by
  have HK := Lib.hid (keyOutSB w p F ks vs i hi hn h)
  clear h hi
  go_enter Try.func27, Try.ntmps27
  go_wp2_with (go_at_call 42; refine HK.out.mono ?_; rintro e w' ⟨rfl, rfl⟩)
  go_ret3
  exact ⟨rfl, 0, rfl⟩

set_option maxHeartbeats 1000000 in
theorem atInSB (w : World) (p : Nat) (F : Nat → Prop) (ks : List ByteArray) (vs : List Bool) (i : Nat) (k : ByteArray) (v : Bool) (hk : ks[i]? = some k) (hv : vs[i]? = some v) (hn : ks.length ≤ 1000000) (h : MSB w p F ks vs) :
    Calls Try.prog 27 #[.pointer (some ⟨p, 0, none⟩), .int .i64 i] w fun e w' => e = .returned (.tuple #[.string k, .bool v, .bool true]) ∧ ∃ q, w' = w.drewN q := by
  have HK := Lib.hid (keyInSB w p F ks vs i k hn hk h)
  have hi := (List.getElem?_eq_some_iff.1 hk).1
  obtain ⟨kv, vv, h0, h1, h2, _⟩ := h
  obtain ⟨g, c, cur, rfl, hg, hs, hnc, hm, ht, hx2⟩ := owns_block h2 (by simp; omega)
  have c1 := cell1_of_two h0
  simp only [List.length_map] at c1
  have ci : w.cell? ⟨g, i, none⟩ = some (.bool v) := owns_cell hg ht (by rw [List.getElem?_map, hv]; rfl)
  have hi' : (i : Int) < (ks.length : Int) := by omega
  have h0i : (0 : Int) ≤ (i : Int) := by omega
  clear h0 h1 h2 hv hg hs ht hnc hm hi hx2 hk
  generalize ks.length = n at *
  go_enter Try.func27, Try.ntmps27
  go_wp2_with (go_at_call 42; refine HK.out.mono ?_; rintro e w' ⟨rfl, rfl⟩)
  go_quiet (fail)
  go_wp2
  go_ret3
  exact ⟨rfl, _, rfl⟩

end Go.Proofs.Ytbfnoflemmneoaa
