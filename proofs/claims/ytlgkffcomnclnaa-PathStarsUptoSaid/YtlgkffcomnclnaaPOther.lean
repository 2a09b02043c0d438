/-
  No statement: the contracts of Depth, Parent, Last, Zones of package path.
-/
import Derived.Test.YtlgkffcomnclnaaPParse
namespace Go.Proofs.Ytlgkffcomnclnaa
open Go.RowKit

theorem last_get {q : List (List UInt8)} (h : ¬ q = []) : ∃ hi : q.length - 1 < q.length, q[q.length - 1] = q.getLast?.getD [] := by
  have hl : q.length - 1 < q.length := by
    have : 0 < q.length := List.length_pos_iff.2 h
    omega
  refine ⟨hl, ?_⟩
  rw [List.getLast?_eq_getElem?, List.getElem?_eq_getElem hl]; rfl

set_option maxRecDepth 100000 in
set_option maxHeartbeats 2000000 in
theorem depth_any (s : ByteArray) (hm : s.size ≤ 281474976710656) (w : World) : Calls Try.prog 14 #[.string s] w fun e w' => e = .returned (.int .i64 (depthP s.data.toList)) ∧ Below w.heap.size w w' := by
  have CU := Lib.hid (fun w => cut_any s hm w)
  obtain ⟨t, ht, I⟩ := cutV_is s hm
  rw [ht] at CU
  clear ht I
  unfold depthP
  obtain ⟨q, hq⟩ : ∃ q, partsP s.data.toList = q := ⟨_, rfl⟩
  obtain ⟨x, hx⟩ : ∃ x, errP s.data.toList = x := ⟨_, rfl⟩
  rw [hq, hx] at CU ⊢
  clear hq hx
  unfold cutsV at CU
  by_cases h0 : x = 0
  · subst h0
    rw [if_pos rfl]
    go_enter Try.func14, Try.ntmps14
    go_wp2_with fail
    refine (CU.out _).mono ?_
    rintro e w1 ⟨rfl, hb1⟩
    have B1 := Lib.hid hb1
    clear hb1 CU
    go_upto_region 2 with fail
    generalize hW : World.alloc w1 _ = w2
    have C2 := Lib.hid (show C7 w2 w1.heap.size t q.length (endN q 0) (endN q 1) (endN q 2) (endN q 3) (endN q 4) by rw [← hW]; exact C7.boxed w1 t q)
    have B2 := Lib.hid (show Below w.heap.size w w2 by rw [← hW]; exact B1.out.alloc B1.out.size _)
    clear hW
    obtain ⟨c0, c1, c2, c3, c4, c5, c6⟩ := C2.out.cells
    go_wp2_with fail
    go_ret
    exact ⟨rfl, B2.out⟩
  · have e0 : (x == 0) = false := beq_eq_false_iff_ne.2 h0
    rw [if_neg h0]
    go_enter Try.func14, Try.ntmps14
    go_wp2_with fail
    refine (CU.out _).mono ?_
    rintro e w1 ⟨rfl, hb1⟩
    have B1 := Lib.hid hb1
    clear hb1 CU
    go_upto_region 2 with fail
    generalize hW : World.alloc w1 _ = w2
    have C2 := Lib.hid (show C7 w2 w1.heap.size t q.length (endN q 0) (endN q 1) (endN q 2) (endN q 3) (endN q 4) by rw [← hW]; exact C7.boxed w1 t q)
    have B2 := Lib.hid (show Below w.heap.size w w2 by rw [← hW]; exact B1.out.alloc B1.out.size _)
    clear hW
    obtain ⟨c0, c1, c2, c3, c4, c5, c6⟩ := C2.out.cells
    go_wp2_with fail
    go_ret
    exact ⟨rfl, B2.out⟩

set_option maxRecDepth 100000 in
set_option maxHeartbeats 2000000 in
theorem parent_any (s : ByteArray) (hm : s.size ≤ 281474976710656) (w : World) : Calls Try.prog 16 #[.string s] w fun e w' => e = .returned (tv (parentP s.data.toList)) ∧ Below w.heap.size w w' := by
  have CU := Lib.hid (fun w => cut_any s hm w)
  obtain ⟨t, ht, I⟩ := cutV_is s hm
  rw [ht] at CU
  clear ht
  have I := Lib.hid I
  unfold parentP
  obtain ⟨q, hq⟩ : ∃ q, partsP s.data.toList = q := ⟨_, rfl⟩
  obtain ⟨x, hx⟩ : ∃ x, errP s.data.toList = x := ⟨_, rfl⟩
  rw [hq] at CU I ⊢
  rw [hx] at CU
  clear hq hx
  have h4 := I.out.few
  by_cases hq0 : q = []
  · subst hq0
    rw [if_pos rfl]
    unfold cutsV at CU
    rw [show (([] : List (List UInt8)).length) = 0 from rfl] at CU
    go_enter Try.func16, Try.ntmps16
    go_wp2_with fail
    refine (CU.out _).mono ?_
    rintro e w1 ⟨rfl, hb1⟩
    have B1 := Lib.hid hb1
    clear hb1 CU
    go_wp2_with fail
    go_ret
    exact ⟨rfl, B1.out.alloc B1.out.size _⟩
  · have F := Lib.hid (show ∀ w, Calls Try.prog 36 #[cutsV t q, .int .i64 ((q.length - 1 : Nat) : Int)] w fun e w' => e = .returned (tv (textP (q.take (q.length - 1)))) ∧ Below w.heap.size w w' from fun w => front_any t q I.out (q.length - 1) (by omega) w)
    have hpos : 0 < q.length := List.length_pos_iff.2 hq0
    have j1 : IntKind.i64.wrap ((q.length : Int) - 1) = ((q.length - 1 : Nat) : Int) := by rw [IntWalk.i64_in _ (by omega)]; omega
    have e0 : ((q.length : Int) == 0) = false := by rw [beq_eq_false_iff_ne]; omega
    rw [if_neg hq0]
    obtain ⟨T, hT⟩ : ∃ T : Value, tv (textP (q.take (q.length - 1))) = T := ⟨_, rfl⟩
    rw [hT] at F ⊢
    clear hT hq0
    unfold cutsV at CU F
    go_enter Try.func16, Try.ntmps16
    go_wp2_with fail
    refine (CU.out _).mono ?_
    rintro e w1 ⟨rfl, hb1⟩
    have B1 := Lib.hid hb1
    clear hb1 CU
    go_upto_region 2 with fail
    generalize hW : World.alloc w1 _ = w2
    have C2 := Lib.hid (show C7 w2 w1.heap.size t q.length (endN q 0) (endN q 1) (endN q 2) (endN q 3) (endN q 4) by rw [← hW]; exact C7.boxed w1 t q)
    have B2 := Lib.hid (show Below w.heap.size w w2 by rw [← hW]; exact B1.out.alloc B1.out.size _)
    clear hW
    obtain ⟨c0, c1, c2, c3, c4, c5, c6⟩ := C2.out.cells
    go_wp2_with fail
    refine (F.out _).mono ?_
    rintro e w3 ⟨rfl, hb3⟩
    have B3 := Lib.hid (B2.out.trans (hb3.mono B2.out.size))
    clear hb3
    go_wp2_with fail
    go_ret
    exact ⟨rfl, B3.out⟩

set_option maxRecDepth 100000 in
set_option maxHeartbeats 2000000 in
theorem last_any (s : ByteArray) (hm : s.size ≤ 281474976710656) (w : World) : Calls Try.prog 18 #[.string s] w fun e w' => e = .returned (tv (lastP s.data.toList)) ∧ Below w.heap.size w w' := by
  have CU := Lib.hid (fun w => cut_any s hm w)
  obtain ⟨t, ht, I⟩ := cutV_is s hm
  rw [ht] at CU
  clear ht
  have I := Lib.hid I
  unfold lastP
  obtain ⟨q, hq⟩ : ∃ q, partsP s.data.toList = q := ⟨_, rfl⟩
  obtain ⟨x, hx⟩ : ∃ x, errP s.data.toList = x := ⟨_, rfl⟩
  rw [hq] at CU I ⊢
  rw [hx] at CU
  clear hq hx
  have h4 := I.out.few
  by_cases hq0 : q = []
  · subst hq0
    rw [show (tv (([] : List (List UInt8)).getLast?.getD []) : Value) = .string ⟨#[]⟩ from rfl]
    unfold cutsV at CU
    rw [show (([] : List (List UInt8)).length) = 0 from rfl] at CU
    go_enter Try.func18, Try.ntmps18
    go_wp2_with fail
    refine (CU.out _).mono ?_
    rintro e w1 ⟨rfl, hb1⟩
    have B1 := Lib.hid hb1
    clear hb1 CU
    go_wp2_with fail
    go_ret
    exact ⟨rfl, B1.out.alloc B1.out.size _⟩
  · have F := Lib.hid (show ∀ w, Calls Try.prog 32 #[cutsV t q, .int .i64 ((q.length - 1 : Nat) : Int)] w fun e w' => e = .returned (tv (q.getLast?.getD [])) ∧ Below w.heap.size w w' from fun w => by have h := part_any t q I.out (q.length - 1) (last_get hq0).1 w; rw [(last_get hq0).2] at h; exact h)
    have hpos : 0 < q.length := List.length_pos_iff.2 hq0
    have j1 : IntKind.i64.wrap ((q.length : Int) - 1) = ((q.length - 1 : Nat) : Int) := by rw [IntWalk.i64_in _ (by omega)]; omega
    have e0 : ((q.length : Int) == 0) = false := by rw [beq_eq_false_iff_ne]; omega

    obtain ⟨T, hT⟩ : ∃ T : Value, tv (q.getLast?.getD []) = T := ⟨_, rfl⟩
    rw [hT] at F ⊢
    clear hT hq0
    unfold cutsV at CU F
    go_enter Try.func18, Try.ntmps18
    go_wp2_with fail
    refine (CU.out _).mono ?_
    rintro e w1 ⟨rfl, hb1⟩
    have B1 := Lib.hid hb1
    clear hb1 CU
    go_upto_region 2 with fail
    generalize hW : World.alloc w1 _ = w2
    have C2 := Lib.hid (show C7 w2 w1.heap.size t q.length (endN q 0) (endN q 1) (endN q 2) (endN q 3) (endN q 4) by rw [← hW]; exact C7.boxed w1 t q)
    have B2 := Lib.hid (show Below w.heap.size w w2 by rw [← hW]; exact B1.out.alloc B1.out.size _)
    clear hW
    obtain ⟨c0, c1, c2, c3, c4, c5, c6⟩ := C2.out.cells
    go_wp2_with fail
    refine (F.out _).mono ?_
    rintro e w3 ⟨rfl, hb3⟩
    have B3 := Lib.hid (B2.out.trans (hb3.mono B2.out.size))
    clear hb3
    go_wp2_with fail
    go_ret
    exact ⟨rfl, B3.out⟩

/-- The first k zones. -/
def zonesQ (q : List (List UInt8)) (k : Nat) : List (List UInt8) := (List.range k).map fun i => textP (q.take i)

theorem set_zone {xs : List Value} {q : List (List UInt8)} {k : Nat} (hl : xs.length = q.length) (h : xs.take k = (zonesQ q k).map tv) (hk : k < q.length) : (xs.set k (tv (textP (q.take k)))).take (k + 1) = (zonesQ q (k + 1)).map tv := by
  have h1 : k < (xs.set k (tv (textP (q.take k)))).length := by rw [List.length_set, hl]; exact hk
  rw [List.take_succ_eq_append_getElem h1, List.take_set_of_le (Nat.le_refl k), h]
  unfold zonesQ
  rw [List.range_succ, List.map_append, List.map_append]
  simp

set_option maxRecDepth 100000 in
set_option maxHeartbeats 4000000 in
theorem zones_any (s : ByteArray) (hm : s.size ≤ 281474976710656) (w : World) : Calls Try.prog 20 #[.string s] w fun e w' => (∃ v, e = .returned v ∧ OwnT w.heap.size w' v (zonesP s.data.toList)) ∧ Below w.heap.size w w' := by
  have CU := Lib.hid (fun w => cut_any s hm w)
  obtain ⟨t, ht, I⟩ := cutV_is s hm
  rw [ht] at CU
  clear ht
  have I := Lib.hid I
  unfold zonesP
  obtain ⟨q, hq⟩ : ∃ q, partsP s.data.toList = q := ⟨_, rfl⟩
  obtain ⟨x, hx⟩ : ∃ x, errP s.data.toList = x := ⟨_, rfl⟩
  rw [hq] at CU I ⊢
  rw [hx] at CU
  clear hq hx
  have h4 := I.out.few
  have PA := Lib.hid (fun i (hi : i < q.length) w => front_any t q I.out i (by omega) w)
  unfold cutsV at CU PA
  go_enter Try.func20, Try.ntmps20
  go_wp2_with fail
  refine (CU.out _).mono ?_
  rintro e w1 ⟨rfl, hb1⟩
  have B1 := Lib.hid hb1
  clear hb1 CU
  go_upto_region 2 with fail
  generalize hW : World.alloc w1 _ = w2
  have C2 := Lib.hid (show C7 w2 w1.heap.size t q.length (endN q 0) (endN q 1) (endN q 2) (endN q 3) (endN q 4) by rw [← hW]; exact C7.boxed w1 t q)
  have B2 := Lib.hid (show Below w.heap.size w w2 by rw [← hW]; exact B1.out.alloc B1.out.size _)
  have c1 := C2.out.cells.2.1
  clear hW
  obtain ⟨i0, hi0, hz0, hz1, hz2⟩ := info_parts infoStr
  obtain ⟨w3, hr3, ho3, hg3⟩ := run_makeSlice_full (P := Try.prog) w2 w.heap.size 23 9 i0 (.string ⟨#[]⟩) 1 Try.underlying23 hi0 hz0 hz1 .i64 .i64 q.length (by omega) (by rw [hz2]; omega) (by unfold maxLen; omega) B2.out.size
  obtain ⟨xs, hxs⟩ : ∃ xs, (madeCells (Value.string ⟨#[]⟩).cells (q.length * 1)).toList = xs := ⟨_, rfl⟩
  rw [hxs] at ho3
  have O3 := Lib.hid ho3
  have C3 := Lib.hid (show C7 w3 w1.heap.size t q.length (endN q 0) (endN q 1) (endN q 2) (endN q 3) (endN q 4) from (hg3.block _ (lt_of_block C2.out) (fun h => by cases h)).trans C2.out)
  have B3 := Lib.hid (B2.out.grown hg3 B2.out.size (fun k h => by cases h))
  have hlt2 : w1.heap.size < w2.heap.size := lt_of_block C2.out
  clear hxs ho3 hg3
  go_wp2_with fail
  clear hr3 C2 B2 c1
  go_loopw [17] (fun v wr => ∃ (k : Nat) (xs : List Value), v = .int .i64 k ∧ k ≤ q.length ∧ Hid (xs.take k = (zonesQ q k).map tv) ∧ Hid (wr.ownsRow w.heap.size 9 1 (.slice (some ⟨w2.heap.size, 0, none⟩) q.length q.length) q.length xs) ∧ Hid (C7 wr w1.heap.size t q.length (endN q 0) (endN q 1) (endN q 2) (endN q 3) (endN q 4)) ∧ Hid (Below w.heap.size w wr)) (fun v _ => q.length - (intOf v).toNat)
  case atStart => exact ⟨0, xs, rfl, Nat.zero_le _, Lib.hid rfl, O3, C3, B3⟩
  case round =>
    obtain ⟨k, ys, rfl, hk, hy, ho, hc, hb⟩ := hrel
    by_cases hlt : k < q.length
    · have A := Lib.hid (fun w => PA.out k hlt w)
      have hl : ys.length = q.length := by simpa using ho.out.1
      have hy1 := Lib.hid (set_zone hl hy.out hlt)
      obtain ⟨Z, hz⟩ : ∃ Z : ByteArray, tv (textP (q.take k)) = .string Z := ⟨_, rfl⟩
      rw [hz] at A hy1
      obtain ⟨u, hu⟩ : ∃ u, ys[k]? = some u := ⟨_, List.getElem?_eq_getElem (by omega)⟩
      have U := Lib.hid hu
      clear hz hl hu
      obtain ⟨c0, c1, c2, c3, c4, c5, c6⟩ := hc.out.cells
      go_upto_region 6 with fail
      go_wp2_with (go_at_call 36; refine (A.out _).mono ?_; rintro e w4 ⟨rfl, hb4⟩; have C4 := Lib.hid (hc.out.kept hb4); have O4 := Lib.hid (own_below ho.out hb4); have B4 := Lib.hid (hb.out.trans (hb4.mono hb.out.size)); obtain ⟨d1, d2⟩ := own_cell O4.out U.out; clear hb4 c0 c1 c2 c3 c4 c5 c6)
      have C5 := Lib.hid (C4.out.other (c := w2.heap.size) (j := k) (by omega) (.string Z))
      obtain ⟨o5, b5⟩ := own_set O4.out k hlt (.string Z)
      have O5 := Lib.hid o5
      have B5 := Lib.hid (B4.out.setCell (p := ⟨w2.heap.size, k, none⟩) b5 (.string Z))
      clear o5 b5
      go_roundw
      case rel => exact ⟨k + 1, _, by go_num, by omega, hy1, O5, C5, B5⟩
      case measure => simp [intOf]; omega
    · obtain rfl : k = q.length := by omega
      have O := Lib.hid (show OwnT w.heap.size wr (.slice (some ⟨w2.heap.size, 0, none⟩) q.length q.length) ((List.range q.length).map fun i => textP (q.take i)) by
        have h := hy.out
        have hl : ys.length = q.length := by simpa using ho.out.1
        rw [List.take_of_length_le (by omega)] at h
        unfold OwnT
        rw [List.length_map, List.length_range]
        exact h ▸ ho.out)
      go_wp2_with fail
      go_ret
      exact ⟨⟨_, rfl, O.out⟩, hb.out⟩

end Go.Proofs.Ytlgkffcomnclnaa
