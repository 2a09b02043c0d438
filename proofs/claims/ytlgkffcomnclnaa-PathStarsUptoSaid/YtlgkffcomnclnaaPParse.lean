/-
  No statement: the contracts of Parse, Depth, Parent, Last, Zones of package path.
-/
import Derived.Test.YtlgkffcomnclnaaPParts
import Derived.Maps.OwnIn
import Derived.Laws.OwnMore
namespace Go.Proofs.Ytlgkffcomnclnaa
open Go.RowKit

/-- A []string of the call's own, in blocks from B on. -/
def OwnT (B : Nat) (w : World) (v : Value) (q : List (List UInt8)) : Prop := w.ownsRow B 9 1 v q.length (q.map tv)

theorem OwnT.nil (B : Nat) (w : World) : OwnT B w (.slice none 0 0) [] := World.ownsRow_nil w B _ 1

theorem own_below {w w' : World} {base : Nat} {e : TypeId} {size : Nat} {v : Value} {n : Nat} {xs : List Value} (h : w.ownsRow base e size v n xs) (hb : Below w.heap.size w w') : w'.ownsRow base e size v n xs := by
  refine ⟨h.1, ?_⟩
  rcases h.2 with h2 | ⟨g, cap, cur, hv, hB, hg, rest⟩
  · exact .inl h2
  · exact .inr ⟨g, cap, cur, hv, hB, (hb.block _ (lt_of_block hg)).trans hg, rest⟩

theorem set_more {xs : List Value} {q : List (List UInt8)} {k : Nat} (hl : xs.length = q.length) (h : xs.take k = (q.take k).map tv) (hk : k < q.length) : (xs.set k (tv q[k])).take (k + 1) = (q.take (k + 1)).map tv := by
  have h1 : k < (xs.set k (tv q[k])).length := by rw [List.length_set, hl]; exact hk
  rw [List.take_succ_eq_append_getElem h1, List.take_succ_eq_append_getElem hk, List.map_append, List.take_set_of_le (Nat.le_refl k), h]
  simp

theorem IsC.none {s : ByteArray} (hm : s.size ≤ 281474976710656) : IsC s [] := ⟨Nat.zero_le _, fun h => absurd rfl h, hm⟩

/-- What cut answers, whatever it is: a text that is cut into parts. -/
theorem cutV_is (s : ByteArray) (hm : s.size ≤ 281474976710656) : ∃ t, cutV s = cutsV t (partsP s.data.toList) ∧ IsC t (partsP s.data.toList) := by
  by_cases h : errP s.data.toList = 0
  · exact ⟨s, cutV_ok h, IsC.of h hm⟩
  · rw [cutV_bad h, parts_bad h]
    exact ⟨⟨#[]⟩, rfl, IsC.none (by decide)⟩

set_option maxRecDepth 100000 in
set_option maxHeartbeats 4000000 in
theorem parse_any (s : ByteArray) (hm : s.size ≤ 281474976710656) (w : World) : Calls Try.prog 9 #[.string s] w fun e w' => (∃ v, e = .returned (.tuple #[v, .int .i64 (errP s.data.toList)]) ∧ OwnT w.heap.size w' v (partsP s.data.toList)) ∧ Below w.heap.size w w' := by
  have CU := Lib.hid (fun w => cut_any s hm w)
  by_cases h0 : errP s.data.toList = 0
  · have I := Lib.hid (IsC.of h0 hm)
    rw [cutV_ok h0] at CU
    have h4 := (parts_ok h0).2.1
    obtain ⟨q, hq⟩ : ∃ q, partsP s.data.toList = q := ⟨_, rfl⟩
    rw [hq] at CU I h4 ⊢
    rw [h0] at CU ⊢
    clear hq h0
    have PA := Lib.hid (fun i hi w => part_any s q I.out i hi w)
    unfold cutsV at CU PA
    go_enter Try.func9, Try.ntmps9
    go_wp2_with fail
    refine (CU.out _).mono ?_
    rintro e w1 ⟨rfl, hb1⟩
    have B1 := Lib.hid hb1
    clear hb1 CU
    go_upto_region 2 with fail
    generalize hW : World.alloc w1 _ = w2
    have C2 := Lib.hid (show C7 w2 w1.heap.size s q.length (endN q 0) (endN q 1) (endN q 2) (endN q 3) (endN q 4) by rw [← hW]; exact C7.boxed w1 s q)
    have B2 := Lib.hid (show Below w.heap.size w w2 by rw [← hW]; exact B1.out.alloc B1.out.size _)
    have c1 := C2.out.cells.2.1
    clear hW
    obtain ⟨i0, hi0, hz0, hz1, hz2⟩ := info_parts infoStr
    obtain ⟨w3, hr3, ho3, hg3⟩ := run_makeSlice_full (P := Try.prog) w2 w.heap.size 23 9 i0 (.string ⟨#[]⟩) 1 Try.underlying23 hi0 hz0 hz1 .i64 .i64 q.length (by omega) (by rw [hz2]; omega) (by unfold maxLen; omega) B2.out.size
    obtain ⟨xs, hxs⟩ : ∃ xs, (madeCells (Value.string ⟨#[]⟩).cells (q.length * 1)).toList = xs := ⟨_, rfl⟩
    rw [hxs] at ho3
    have O3 := Lib.hid ho3
    have C3 := Lib.hid (show C7 w3 w1.heap.size s q.length (endN q 0) (endN q 1) (endN q 2) (endN q 3) (endN q 4) from (hg3.block _ (lt_of_block C2.out) (fun h => by cases h)).trans C2.out)
    have B3 := Lib.hid (B2.out.grown hg3 B2.out.size (fun k h => by cases h))
    have hlt2 : w1.heap.size < w2.heap.size := lt_of_block C2.out
    clear hxs ho3 hg3
    go_wp2_with fail
    clear hr3 C2 B2 c1
    go_loopw [21] (fun v wr => ∃ (k : Nat) (xs : List Value), v = .int .i64 k ∧ k ≤ q.length ∧ Hid (xs.take k = (q.take k).map tv) ∧ Hid (wr.ownsRow w.heap.size 9 1 (.slice (some ⟨w2.heap.size, 0, none⟩) q.length q.length) q.length xs) ∧ Hid (C7 wr w1.heap.size s q.length (endN q 0) (endN q 1) (endN q 2) (endN q 3) (endN q 4)) ∧ Hid (Below w.heap.size w wr)) (fun v _ => q.length - (intOf v).toNat)
    case atStart => exact ⟨0, xs, rfl, Nat.zero_le _, Lib.hid rfl, O3, C3, B3⟩
    case round =>
      obtain ⟨k, ys, rfl, hk, hy, ho, hc, hb⟩ := hrel
      by_cases hlt : k < q.length
      · have A := Lib.hid (fun w => PA.out k hlt w)
        have hl : ys.length = q.length := by simpa using ho.out.1
        have hy1 := Lib.hid (set_more hl hy.out hlt)
        obtain ⟨Z, hz⟩ : ∃ Z : ByteArray, tv q[k] = .string Z := ⟨_, rfl⟩
        rw [hz] at A hy1
        obtain ⟨u, hu⟩ : ∃ u, ys[k]? = some u := ⟨_, List.getElem?_eq_getElem (by omega)⟩
        have U := Lib.hid hu
        clear hz hl hu
        obtain ⟨c0, c1, c2, c3, c4, c5, c6⟩ := hc.out.cells
        go_upto_region 8 with fail
        go_wp2_with (go_at_call 32; refine (A.out _).mono ?_; rintro e w4 ⟨rfl, hb4⟩; have C4 := Lib.hid (hc.out.kept hb4); have O4 := Lib.hid (own_below ho.out hb4); have B4 := Lib.hid (hb.out.trans (hb4.mono hb.out.size)); obtain ⟨d1, d2⟩ := own_cell O4.out U.out; clear hb4 c0 c1 c2 c3 c4 c5 c6)
        have C5 := Lib.hid (C4.out.other (c := w2.heap.size) (j := k) (by omega) (.string Z))
        obtain ⟨o5, b5⟩ := own_set O4.out k hlt (.string Z)
        have O5 := Lib.hid o5
        have B5 := Lib.hid (B4.out.setCell (p := ⟨w2.heap.size, k, none⟩) b5 (.string Z))
        clear o5 b5
        go_roundw
        case rel => exact ⟨k + 1, _, by go_num, by omega, hy1, O5, C5, B5⟩
        case measure => simp [intOf]; omega
      · obtain rfl : k = q.length := by omega
        have O := Lib.hid (show OwnT w.heap.size wr (.slice (some ⟨w2.heap.size, 0, none⟩) q.length q.length) q by
          have h := hy.out
          have hl : ys.length = q.length := by simpa using ho.out.1
          rw [List.take_of_length_le (by omega), List.take_length] at h
          unfold OwnT
          rw [← h]
          exact ho.out)
        go_wp2_with fail
        go_ret2
        exact ⟨⟨_, rfl, O.out⟩, hb.out⟩
  · have P := Lib.hid (parts_bad h0)
    have e0 : (errP s.data.toList == 0) = false := beq_eq_false_iff_ne.2 h0
    rw [cutV_bad h0] at CU
    obtain ⟨x, hx⟩ : ∃ x, errP s.data.toList = x := ⟨_, rfl⟩
    rw [hx] at CU h0 e0 ⊢
    clear hx
    unfold noCuts at CU
    go_enter Try.func9, Try.ntmps9
    go_wp2_with fail
    refine (CU.out _).mono ?_
    rintro e w1 ⟨rfl, hb1⟩
    have B1 := Lib.hid hb1
    clear hb1 CU
    go_wp2_with fail
    go_ret2
    rw [P.out]
    exact ⟨⟨_, rfl, OwnT.nil _ _⟩, B1.out.alloc B1.out.size _⟩

end Go.Proofs.Ytlgkffcomnclnaa
