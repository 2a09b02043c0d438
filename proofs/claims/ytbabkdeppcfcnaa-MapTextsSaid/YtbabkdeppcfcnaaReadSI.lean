/-
  No statement: what sorted.Map[string, int] tells of itself, over a map that lies in memory: New, Len, Get, key, At, Floor, Ceil.
-/
import Derived.Test.YtbabkdeppcfcnaaMapDef
import Derived.Test.YtbabkdeppcfcnaaSearchS
import Derived.Deep.QuietTactic
import Derived.BigQuiet
namespace Go.Proofs.Ytbabkdeppcfcnaa
open Go.RowKit

/-- This seat's map. -/
def MSI (w : World) (p : Nat) (F : Nat → Prop) (ks : List ByteArray) (vs : List Int) : Prop :=
  MapIn w 43 9 3 p F (ks.map (Value.string)) (vs.map (Value.int .i64))

theorem MSI.kept {w w' : World} {p : Nat} {F S : Nat → Prop} {ks : List ByteArray} {vs : List Int} (h : MSI w p F ks vs) (hk : Kept S w w') (hS : ∀ k, F k → ¬ S k) : MSI w' p F ks vs := MapIn.kept h hk hS
theorem MSI.lt {w : World} {p : Nat} {F : Nat → Prop} {ks : List ByteArray} {vs : List Int} (h : MSI w p F ks vs) : ∀ k, F k → k < w.heap.size := MapIn.lt h
theorem MSI.len {w : World} {p : Nat} {F : Nat → Prop} {ks : List ByteArray} {vs : List Int} (h : MSI w p F ks vs) : vs.length = ks.length := by simpa using MapIn.len h

set_option maxHeartbeats 1000000 in
theorem newSI (w : World) : Calls Try.prog 5 #[] w fun e w' =>
    e = .returned (.pointer (some ⟨w.heap.size, 0, none⟩)) ∧ MSI w' w.heap.size (fun k => k = w.heap.size) [] [] ∧ Kept (fun _ => False) w w' := by
  have H : Calls Try.prog 5 #[] w fun e w' => e = .returned (.pointer (some ⟨w.heap.size, 0, none⟩)) ∧ w' = w.alloc (.cells #[.slice none 0 0, .slice none 0 0] 43) := by
    go_enter Try.func5, Try.ntmps5
    go_wp2
    go_ret
    exact ⟨rfl, rfl⟩
  refine H.mono ?_
  rintro e w' ⟨rfl, rfl⟩
  refine ⟨rfl, ⟨_, _, heap_alloc_new w _, World.ownsRow_nil _ _ _ _, World.ownsRow_nil _ _ _ _, ?_, ?_, ?_, rfl, ?_, ?_, ?_⟩, (Kept.refl _ w).alloc _⟩
  · simp [Value.ownBlock]
  · simp [Value.ownBlock]
  · simp [Value.ownBlock]
  · simp [Value.ownBlock]
  · simp [Value.ownBlock]
  · intro k hk; subst hk; simp

set_option maxHeartbeats 1000000 in
theorem lenSI (w : World) (p : Nat) (F : Nat → Prop) (ks : List ByteArray) (vs : List Int) (h : MSI w p F ks vs) : Calls Try.prog 11 #[.pointer (some ⟨p, 0, none⟩)] w fun e w' =>
    e = .returned (.int .i64 (ks.length : Nat)) ∧ w = w' := by
  obtain ⟨kv, vv, h0, h1, h2, _⟩ := h
  obtain ⟨ka, kc, rfl⟩ := owns_slice h1
  have c0 := cell0_of_two h0
  simp only [List.length_map] at c0
  clear h0 h1 h2
  go_enter Try.func11, Try.ntmps11
  go_wp2
  go_ret
  exact ⟨rfl, rfl⟩

set_option maxHeartbeats 1000000 in
theorem keyInSI (w : World) (p : Nat) (F : Nat → Prop) (ks : List ByteArray) (vs : List Int) (i : Nat) (k : ByteArray) (hn : ks.length ≤ 1000000) (hk : ks[i]? = some k) (h : MSI w p F ks vs) :
    Calls Try.prog 23 #[.pointer (some ⟨p, 0, none⟩), .int .i64 i] w fun e w' => e = .returned (.tuple #[.string k, .bool true]) ∧ w = w' := by
  obtain ⟨kv, vv, h0, h1, h2, _⟩ := h
  have hi := (List.getElem?_eq_some_iff.1 hk).1
  obtain ⟨g, c, cur, rfl, hg, hs, hnc, hm, ht, hx⟩ := owns_block h1 (by simp; omega)
  have c0 := cell0_of_two h0
  simp only [List.length_map] at c0
  have ci : w.cell? ⟨g, i, none⟩ = some (.string k) := owns_cell hg ht (by rw [List.getElem?_map, hk]; rfl)
  have hi' : (i : Int) < (ks.length : Int) := by omega
  generalize ks.length = n at *
  have h0i : (0 : Int) ≤ (i : Int) := by omega
  clear h0 h1 h2 hk hg hs ht hx hnc hm
  go_enter Try.func23, Try.ntmps23
  go_wp2
  go_ret2
  exact ⟨rfl, rfl⟩

set_option maxHeartbeats 1000000 in
theorem keyOutSI (w : World) (p : Nat) (F : Nat → Prop) (ks : List ByteArray) (vs : List Int) (i : Int) (hi : i < 0 ∨ (ks.length : Int) ≤ i) (hn : ks.length ≤ 1000000) (h : MSI w p F ks vs) :
    Calls Try.prog 23 #[.pointer (some ⟨p, 0, none⟩), .int .i64 i] w fun e w' => e = .returned (.tuple #[.string ⟨#[]⟩, .bool false]) ∧ w = w' := by
  obtain ⟨kv, vv, h0, h1, h2, _⟩ := h
  obtain ⟨ka, kc, rfl⟩ := owns_slice h1
  have c0 := cell0_of_two h0
  simp only [List.length_map] at c0
  generalize ks.length = n at *
  clear h0 h1 h2
  rcases hi with hi | hi
  · go_enter Try.func23, Try.ntmps23
    go_wp2
    go_ret2
    exact ⟨rfl, rfl⟩
  · have h0i : ¬ i < 0 := by omega
    go_enter Try.func23, Try.ntmps23
    go_wp2
    go_ret2
    exact ⟨rfl, rfl⟩

/-- The search over a map's keys, under names. -/
theorem lookSI {w : World} {p : Nat} {F : Nat → Prop} {ks : List ByteArray} {vs : List Int} (h : MSI w p F ks vs) (hn : ks.length ≤ 1000000) (hr : Rising lsS ks) (x : ByteArray) :
    ∃ ka kc, w.cell? ⟨p, 0, none⟩ = some (.slice ka ks.length kc) ∧ ∀ (I : Nat) (B : Bool), pos lsS ks x = I → has ks x = B →
      Calls Try.prog 16 #[.slice ka ks.length kc, .string x] w fun e w' => e = .returned (.tuple #[.int .i64 I, .bool B]) ∧ ∃ q, w' = w.drewN q := by
  obtain ⟨kv, vv, h0, h1, h2, _⟩ := h
  obtain ⟨ka, kc, rfl⟩ := owns_slice h1
  have c0 := cell0_of_two h0
  simp only [List.length_map] at c0 h1
  exact ⟨ka, kc, c0, fun I B hI hB => by rw [← hI, ← hB]; exact searchS _ _ ks x w hn h1 hr⟩

set_option maxHeartbeats 1000000 in
theorem getInSI (w : World) (p : Nat) (F : Nat → Prop) (ks : List ByteArray) (vs : List Int) (x : ByteArray) (v : Int) (hn : ks.length ≤ 1000000) (hr : Rising lsS ks) (hx : x ∈ ks) (hv : vs[pos lsS ks x]? = some v) (h : MSI w p F ks vs) :
    Calls Try.prog 12 #[.pointer (some ⟨p, 0, none⟩), .string x] w fun e w' => e = .returned (.tuple #[.int .i64 v, .bool true]) ∧ ∃ q, w' = w.drewN q := by
  obtain ⟨ka, kc, c0, hL⟩ := lookSI h hn hr x
  obtain ⟨I, hI⟩ : ∃ I, pos lsS ks x = I := ⟨_, rfl⟩
  have HL := Lib.hid (hL I true hI ((has_iff ks x).2 hx))
  rw [hI] at hv
  have hl := h.len
  obtain ⟨kv, vv, h0, h1, h2, _⟩ := h
  have hi := (List.getElem?_eq_some_iff.1 hv).1
  obtain ⟨g, c, cur, rfl, hg, hs, hnc, hm, ht, hx2⟩ := owns_block h2 (by simp; omega)
  have c1 := cell1_of_two h0
  simp only [List.length_map] at c1
  have ci : w.cell? ⟨g, I, none⟩ = some (.int .i64 v) := owns_cell hg ht (by rw [List.getElem?_map, hv]; rfl)
  have hi' : (I : Int) < (ks.length : Int) := by omega
  have h0i : (0 : Int) ≤ (I : Int) := by omega
  clear h0 h1 h2 hI hv hg hs ht hx hnc hm hL hi hl hx2
  generalize ks.length = n at *
  go_enter Try.func12, Try.ntmps12
  go_wp2_with (go_at_call 16; refine HL.out.mono ?_; rintro e w' ⟨rfl, q, rfl⟩)
  go_ret2
  exact ⟨rfl, _, rfl⟩

set_option maxHeartbeats 1000000 in
theorem getOutSI (w : World) (p : Nat) (F : Nat → Prop) (ks : List ByteArray) (vs : List Int) (x : ByteArray) (hn : ks.length ≤ 1000000) (hr : Rising lsS ks) (hx : x ∉ ks) (h : MSI w p F ks vs) :
    Calls Try.prog 12 #[.pointer (some ⟨p, 0, none⟩), .string x] w fun e w' => e = .returned (.tuple #[.int .i64 0, .bool false]) ∧ ∃ q, w' = w.drewN q := by
  obtain ⟨ka, kc, c0, hL⟩ := lookSI h hn hr x
  obtain ⟨I, hI⟩ : ∃ I, pos lsS ks x = I := ⟨_, rfl⟩
  have HL := Lib.hid (hL I false hI (has_no hx))
  clear h hI hx hL hr
  generalize ks.length = n at *
  go_enter Try.func12, Try.ntmps12
  go_wp2_with (go_at_call 16; refine HL.out.mono ?_; rintro e w' ⟨rfl, q, rfl⟩)
  go_ret2
  exact ⟨rfl, _, rfl⟩

set_option maxHeartbeats 1000000 in
theorem ceilInSI (w : World) (p : Nat) (F : Nat → Prop) (ks : List ByteArray) (vs : List Int) (x k : ByteArray) (hn : ks.length ≤ 1000000) (hr : Rising lsS ks) (hk : ks[pos lsS ks x]? = some k) (h : MSI w p F ks vs) :
    Calls Try.prog 15 #[.pointer (some ⟨p, 0, none⟩), .string x] w fun e w' => e = .returned (.tuple #[.string k, .bool true]) ∧ ∃ q, w' = w.drewN q := by
  obtain ⟨ka, kc, c0, hL⟩ := lookSI h hn hr x
  obtain ⟨I, hI⟩ : ∃ I, pos lsS ks x = I := ⟨_, rfl⟩
  obtain ⟨B, hB⟩ : ∃ B, has ks x = B := ⟨_, rfl⟩
  have HL := Lib.hid (hL I B hI hB)
  rw [hI] at hk
  have HK := Lib.hid (p := ∀ q, Calls Try.prog 23 #[.pointer (some ⟨p, 0, none⟩), .int .i64 I] (w.drewN q) fun e w' => e = .returned (.tuple #[.string k, .bool true]) ∧ w.drewN q = w') (fun q => keyInSI _ p F ks vs I k hn hk (MapIn.drewN h q))
  clear h hI hk hL hr hB
  generalize ks.length = n at *
  go_enter Try.func15, Try.ntmps15
  go_wp2_with (first | (go_at_call 16; refine HL.out.mono ?_; rintro e w' ⟨rfl, q, rfl⟩) | (go_at_call 23; refine (HK.out _).mono ?_; rintro e w' ⟨rfl, rfl⟩))
  go_ret2
  exact ⟨rfl, _, rfl⟩

set_option maxHeartbeats 1000000 in
theorem ceilOutSI (w : World) (p : Nat) (F : Nat → Prop) (ks : List ByteArray) (vs : List Int) (x : ByteArray) (hn : ks.length ≤ 1000000) (hr : Rising lsS ks) (hk : ks.length ≤ pos lsS ks x) (h : MSI w p F ks vs) :
    Calls Try.prog 15 #[.pointer (some ⟨p, 0, none⟩), .string x] w fun e w' => e = .returned (.tuple #[.string ⟨#[]⟩, .bool false]) ∧ ∃ q, w' = w.drewN q := by
  obtain ⟨ka, kc, c0, hL⟩ := lookSI h hn hr x
  obtain ⟨I, hI⟩ : ∃ I, pos lsS ks x = I := ⟨_, rfl⟩
  obtain ⟨B, hB⟩ : ∃ B, has ks x = B := ⟨_, rfl⟩
  have HL := Lib.hid (hL I B hI hB)
  rw [hI] at hk
  have HK := Lib.hid (p := ∀ q, Calls Try.prog 23 #[.pointer (some ⟨p, 0, none⟩), .int .i64 I] (w.drewN q) fun e w' => e = .returned (.tuple #[.string ⟨#[]⟩, .bool false]) ∧ w.drewN q = w') (fun q => keyOutSI _ p F ks vs I (Or.inr (by omega)) hn (MapIn.drewN h q))
  clear h hI hk hL hr hB
  generalize ks.length = n at *
  go_enter Try.func15, Try.ntmps15
  go_wp2_with (first | (go_at_call 16; refine HL.out.mono ?_; rintro e w' ⟨rfl, q, rfl⟩) | (go_at_call 23; refine (HK.out _).mono ?_; rintro e w' ⟨rfl, rfl⟩))
  go_ret2
  exact ⟨rfl, _, rfl⟩

set_option maxHeartbeats 1000000 in
/-- Floor where the key itself is there. -/
theorem floorAtSI (w : World) (p : Nat) (F : Nat → Prop) (ks : List ByteArray) (vs : List Int) (x : ByteArray) (hn : ks.length ≤ 1000000) (hr : Rising lsS ks) (hx : x ∈ ks) (h : MSI w p F ks vs) :
    Calls Try.prog 14 #[.pointer (some ⟨p, 0, none⟩), .string x] w fun e w' => e = .returned (.tuple #[.string x, .bool true]) ∧ ∃ q, w' = w.drewN q := by
  obtain ⟨ka, kc, c0, hL⟩ := lookSI h hn hr x
  have hk := (mem_iff_pos strictS hr).1 hx
  obtain ⟨I, hI⟩ : ∃ I, pos lsS ks x = I := ⟨_, rfl⟩
  have HL := Lib.hid (hL I true hI ((has_iff ks x).2 hx))
  rw [hI] at hk
  have HK := Lib.hid (p := ∀ q, Calls Try.prog 23 #[.pointer (some ⟨p, 0, none⟩), .int .i64 I] (w.drewN q) fun e w' => e = .returned (.tuple #[.string x, .bool true]) ∧ w.drewN q = w') (fun q => keyInSI _ p F ks vs I x hn hk (MapIn.drewN h q))
  clear h hI hk hL hr hx
  generalize ks.length = n at *
  go_enter Try.func14, Try.ntmps14
  go_wp2_with (first | (go_at_call 16; refine HL.out.mono ?_; rintro e w' ⟨rfl, q, rfl⟩) | (go_at_call 23; refine (HK.out _).mono ?_; rintro e w' ⟨rfl, rfl⟩))
  go_ret2
  exact ⟨rfl, _, rfl⟩

set_option maxHeartbeats 1000000 in
/-- Floor where the key is not there, but one below it. -/
theorem floorInSI (w : World) (p : Nat) (F : Nat → Prop) (ks : List ByteArray) (vs : List Int) (x k : ByteArray) (j : Nat) (hn : ks.length ≤ 1000000) (hr : Rising lsS ks) (hx : x ∉ ks) (hj : pos lsS ks x = j + 1) (hk : ks[j]? = some k) (h : MSI w p F ks vs) :
    Calls Try.prog 14 #[.pointer (some ⟨p, 0, none⟩), .string x] w fun e w' => e = .returned (.tuple #[.string k, .bool true]) ∧ ∃ q, w' = w.drewN q := by
  obtain ⟨ka, kc, c0, hL⟩ := lookSI h hn hr x
  have HL := Lib.hid (hL (j + 1) false hj (has_no hx))
  have hjn := (List.getElem?_eq_some_iff.1 hk).1
  have hj1 : j ≤ 1000000 := by omega
  have HK := Lib.hid (p := ∀ (q : Nat) (z : Int), z = j → Calls Try.prog 23 #[.pointer (some ⟨p, 0, none⟩), .int .i64 z] (w.drewN q) fun e w' => e = .returned (.tuple #[.string k, .bool true]) ∧ w.drewN q = w') (fun q z hz => by rw [hz]; exact keyInSI _ p F ks vs j k hn hk (MapIn.drewN h q))
  clear h hj hk hL hr hx hjn
  generalize ks.length = n at *
  go_enter Try.func14, Try.ntmps14
  go_wp2_with (first | (go_at_call 16; refine HL.out.mono ?_; rintro e w' ⟨rfl, q, rfl⟩) | (go_at_call 23; refine (HK.out _ _ (by omega)).mono ?_; rintro e w' ⟨rfl, rfl⟩))
  go_ret2
  exact ⟨rfl, _, rfl⟩

set_option maxHeartbeats 1000000 in
/-- Floor where none is below. -/
theorem floorOutSI (w : World) (p : Nat) (F : Nat → Prop) (ks : List ByteArray) (vs : List Int) (x : ByteArray) (hn : ks.length ≤ 1000000) (hr : Rising lsS ks) (hx : x ∉ ks) (hj : pos lsS ks x = 0) (h : MSI w p F ks vs) :
    Calls Try.prog 14 #[.pointer (some ⟨p, 0, none⟩), .string x] w fun e w' => e = .returned (.tuple #[.string ⟨#[]⟩, .bool false]) ∧ ∃ q, w' = w.drewN q := by
  obtain ⟨ka, kc, c0, hL⟩ := lookSI h hn hr x
  have HL := Lib.hid (hL 0 false hj (has_no hx))
  have HK := Lib.hid (p := ∀ q, Calls Try.prog 23 #[.pointer (some ⟨p, 0, none⟩), .int .i64 (-1)] (w.drewN q) fun e w' => e = .returned (.tuple #[.string ⟨#[]⟩, .bool false]) ∧ w.drewN q = w') (fun q => keyOutSI _ p F ks vs (-1) (Or.inl (by omega)) hn (MapIn.drewN h q))
  clear h hj hL hr hx
  generalize ks.length = n at *
  go_enter Try.func14, Try.ntmps14
  go_wp2_with (first | (go_at_call 16; refine HL.out.mono ?_; rintro e w' ⟨rfl, q, rfl⟩) | (go_at_call 23; refine (HK.out _).mono ?_; rintro e w' ⟨rfl, rfl⟩))
  go_ret2
  exact ⟨rfl, _, rfl⟩

set_option maxHeartbeats 1000000 in
theorem atOutSI (w : World) (p : Nat) (F : Nat → Prop) (ks : List ByteArray) (vs : List Int) (i : Int) (hi : i < 0 ∨ (ks.length : Int) ≤ i) (hn : ks.length ≤ 1000000) (h : MSI w p F ks vs) :
    Calls Try.prog 13 #[.pointer (some ⟨p, 0, none⟩), .int .i64 i] w fun e w' => e = .returned (.tuple #[.string ⟨#[]⟩, .int .i64 0, .bool false]) ∧ ∃ q, w' = w.drewN q := by
  have HK := Lib.hid (keyOutSI w p F ks vs i hi hn h)
  clear h hi
  go_enter Try.func13, Try.ntmps13
  go_wp2_with (go_at_call 23; refine HK.out.mono ?_; rintro e w' ⟨rfl, rfl⟩)
  go_ret3
  exact ⟨rfl, 0, rfl⟩

set_option maxHeartbeats 1000000 in
theorem atInSI (w : World) (p : Nat) (F : Nat → Prop) (ks : List ByteArray) (vs : List Int) (i : Nat) (k : ByteArray) (v : Int) (hk : ks[i]? = some k) (hv : vs[i]? = some v) (hn : ks.length ≤ 1000000) (h : MSI w p F ks vs) :
    Calls Try.prog 13 #[.pointer (some ⟨p, 0, none⟩), .int .i64 i] w fun e w' => e = .returned (.tuple #[.string k, .int .i64 v, .bool true]) ∧ ∃ q, w' = w.drewN q := by
  have HK := Lib.hid (keyInSI w p F ks vs i k hn hk h)
  have hi := (List.getElem?_eq_some_iff.1 hk).1
  obtain ⟨kv, vv, h0, h1, h2, _⟩ := h
  obtain ⟨g, c, cur, rfl, hg, hs, hnc, hm, ht, hx2⟩ := owns_block h2 (by simp; omega)
  have c1 := cell1_of_two h0
  simp only [List.length_map] at c1
  have ci : w.cell? ⟨g, i, none⟩ = some (.int .i64 v) := owns_cell hg ht (by rw [List.getElem?_map, hv]; rfl)
  have hi' : (i : Int) < (ks.length : Int) := by omega
  have h0i : (0 : Int) ≤ (i : Int) := by omega
  clear h0 h1 h2 hv hg hs ht hnc hm hi hx2 hk
  generalize ks.length = n at *
  go_enter Try.func13, Try.ntmps13
  go_wp2_with (go_at_call 23; refine HK.out.mono ?_; rintro e w' ⟨rfl, rfl⟩)
  go_quiet (fail)
  go_wp2
  go_ret3
  exact ⟨rfl, _, rfl⟩

end Go.Proofs.Ytbabkdeppcfcnaa
