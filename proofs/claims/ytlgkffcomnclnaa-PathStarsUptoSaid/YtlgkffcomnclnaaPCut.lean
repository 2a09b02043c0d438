/-
  No statement: the contract of cut of package path.
-/
import Derived.Test.YtlgkffcomnclnaaPFirst
import Derived.Deep.Cut
import Derived.Laws.ResultCell
import Derived.Laws.Rows
namespace Go.Proofs.Ytlgkffcomnclnaa
open Go.RowKit

/-- Where the first i parts end; 0: there are fewer. -/
def endN (q : List (List UInt8)) (i : Nat) : Nat := if i ≤ q.length then (joinT (q.take i)).length else 0
/-- A path and where it is cut, as a value. -/
abbrev cellsC (s : ByteArray) (d e0 e1 e2 e3 e4 : Nat) : Array Value := #[.string s, .int .i64 d, .int .i64 e0, .int .i64 e1, .int .i64 e2, .int .i64 e3, .int .i64 e4]
def cutsV (s : ByteArray) (q : List (List UInt8)) : Value := .agg (cellsC s q.length (endN q 0) (endN q 1) (endN q 2) (endN q 3) (endN q 4))
def noCuts : Value := .agg (cellsC ⟨#[]⟩ 0 0 0 0 0 0)
def cutV (s : ByteArray) : Value := if errP s.data.toList = 0 then cutsV s (partsP s.data.toList) else noCuts

/-- The seven cells of a block of cuts. -/
def C7 (w : World) (b : Nat) (s : ByteArray) (d e0 e1 e2 e3 e4 : Nat) : Prop := w.heap[b]? = some (.cells (cellsC s d e0 e1 e2 e3 e4) 45 (0, 0))

theorem C7.kept {w w' : World} {b : Nat} {s : ByteArray} {d e0 e1 e2 e3 e4 : Nat} (h : C7 w b s d e0 e1 e2 e3 e4) (hb : Below w.heap.size w w') : C7 w' b s d e0 e1 e2 e3 e4 := (hb.block _ (lt_of_block h)).trans h

theorem C7.cells {w : World} {b : Nat} {s : ByteArray} {d e0 e1 e2 e3 e4 : Nat} (h : C7 w b s d e0 e1 e2 e3 e4) :
    w.cell? ⟨b, 0, none⟩ = some (.string s) ∧ w.cell? ⟨b, 1, none⟩ = some (.int .i64 d) ∧ w.cell? ⟨b, 2, none⟩ = some (.int .i64 e0) ∧ w.cell? ⟨b, 3, none⟩ = some (.int .i64 e1) ∧ w.cell? ⟨b, 4, none⟩ = some (.int .i64 e2) ∧ w.cell? ⟨b, 5, none⟩ = some (.int .i64 e3) ∧ w.cell? ⟨b, 6, none⟩ = some (.int .i64 e4) := by
  refine ⟨?_, ?_, ?_, ?_, ?_, ?_, ?_⟩ <;> · rw [cell_of_row w b _ _ _ (0, 0) h]; rfl

theorem C7.free {w : World} {b : Nat} {s : ByteArray} {d e0 e1 e2 e3 e4 : Nat} (h : C7 w b s d e0 e1 e2 e3 e4) (j : Nat) : w.frozen? ⟨b, j, none⟩ = false := frozen_of_row w b _ _ _ h

/-- How far the parts are known, k of them being told. -/
def endK (L : List (List UInt8)) (k i : Nat) : Nat := if i ≤ k then (joinT (L.take i)).length else 0

theorem endK_end (L : List (List UInt8)) (i : Nat) : endK L L.length i = endN L i := rfl
theorem endK_zero (L : List (List UInt8)) (i : Nat) : endK L 0 i = 0 := by
  unfold endK
  split
  · next h =>
    have h0 : i = 0 := by omega
    rw [h0]; rfl
  · rfl
theorem endK_at (L : List (List UInt8)) (k i : Nat) (h : i = k + 1) : endK L (k + 1) i = (joinT (L.take i)).length := if_pos (by omega)
theorem endK_next (L : List (List UInt8)) (k i : Nat) (h : ¬ i = k + 1) : endK L (k + 1) i = endK L k i := by
  unfold endK
  by_cases h1 : i ≤ k
  · rw [if_pos h1, if_pos (by omega)]
  · rw [if_neg h1, if_neg (by omega)]

/-- What cut's walk keeps. -/
structure CM (w wr : World) (s : ByteArray) (L : List (List UInt8)) (k : Nat) : Prop where
  res : C7 wr w.heap.size ⟨#[]⟩ 0 0 0 0 0 0
  cut : C7 wr (w.heap.size + 1) s k (endK L k 0) (endK L k 1) (endK L k 2) (endK L k 3) (endK L k 4)
  bel : Below w.heap.size w wr

theorem CM.kept {w wr w' : World} {s : ByteArray} {L : List (List UInt8)} {k : Nat} (h : CM w wr s L k) (hb : Below wr.heap.size wr w') : CM w w' s L k :=
  ⟨h.res.kept hb, h.cut.kept hb, h.bel.trans (hb.mono h.bel.size)⟩

theorem CM.start (w : World) (s : ByteArray) (L : List (List UInt8)) : CM w ((w.alloc (.cells (cellsC ⟨#[]⟩ 0 0 0 0 0 0) 45)).alloc (.cells (cellsC s 0 0 0 0 0 0) 45)) s L 0 := by
  refine ⟨?_, ?_, ((Below.refl _ _).alloc (Nat.le_refl _) _).alloc (by simp) _⟩
  · exact (Below.heap_alloc _ _ _ (by simp)).trans (heap_alloc_new w _)
  · unfold C7
    rw [endK_zero, endK_zero, endK_zero, endK_zero, endK_zero]
    have := heap_alloc_new (w.alloc (.cells (cellsC ⟨#[]⟩ 0 0 0 0 0 0) 45)) (.cells (cellsC s 0 0 0 0 0 0) 45)
    rw [World.size_alloc] at this
    exact this

/-- A part more is counted. -/
theorem C7.count {w : World} {b : Nat} {s : ByteArray} {d e0 e1 e2 e3 e4 : Nat} (h : C7 w b s d e0 e1 e2 e3 e4) (d' : Nat) : C7 (w.setCell ⟨b, 1, none⟩ (.int .i64 d')) b s d' e0 e1 e2 e3 e4 := by
  have := heap_setCell_same w b 1 _ _ (.int .i64 d') h
  unfold C7
  simpa using this

theorem C7.other {w : World} {b c j : Nat} {s : ByteArray} {d e0 e1 e2 e3 e4 : Nat} (h : C7 w b s d e0 e1 e2 e3 e4) (hne : ¬ b = c) (u : Value) : C7 (w.setCell ⟨c, j, none⟩ u) b s d e0 e1 e2 e3 e4 :=
  (Below.heap_setCell w ⟨c, j, none⟩ u b hne).trans h

theorem CM.count {w wr : World} {s : ByteArray} {L : List (List UInt8)} {k : Nat} (h : CM w wr s L k) (hk : 4 ≤ k) : CM w (wr.setCell ⟨w.heap.size + 1, 1, none⟩ (.int .i64 ((k + 1 : Nat) : Int))) s L (k + 1) := by
  refine ⟨h.res.other (by omega) _, ?_, h.bel.setCell (p := ⟨w.heap.size + 1, 1, none⟩) (by show w.heap.size ≤ w.heap.size + 1; omega) _⟩
  rw [endK_next _ _ 0 (by omega), endK_next _ _ 1 (by omega), endK_next _ _ 2 (by omega), endK_next _ _ 3 (by omega), endK_next _ _ 4 (by omega)]
  exact h.cut.count _

theorem CM.more {w wr : World} {s : ByteArray} {L : List (List UInt8)} {k : Nat} (h : CM w wr s L k) (hk : k < 4) :
    CM w ((wr.setCell ⟨w.heap.size + 1, 1, none⟩ (.int .i64 ((k + 1 : Nat) : Int))).setCell ⟨w.heap.size + 1, 2 + (k + 1), none⟩ (.int .i64 (((joinT (L.take (k + 1))).length : Nat) : Int))) s L (k + 1) := by
  refine ⟨(h.res.other (by omega) _).other (by omega) _, ?_, (h.bel.setCell (p := ⟨w.heap.size + 1, 1, none⟩) (by show w.heap.size ≤ w.heap.size + 1; omega) _).setCell (p := ⟨w.heap.size + 1, 2 + (k + 1), none⟩) (by show w.heap.size ≤ w.heap.size + 1; omega) _⟩
  have h1 := h.cut.count (k + 1)
  have h2 := heap_setCell_same _ (w.heap.size + 1) (2 + (k + 1)) _ _ (.int .i64 (((joinT (L.take (k + 1))).length : Nat) : Int)) h1
  unfold C7
  obtain rfl | rfl | rfl | rfl : k = 0 ∨ k = 1 ∨ k = 2 ∨ k = 3 := by omega
  · rw [endK_next L 0 0 (by omega), endK_at L 0 1 rfl, endK_next L 0 2 (by omega), endK_next L 0 3 (by omega), endK_next L 0 4 (by omega)]
    simpa [cellsC] using h2
  · rw [endK_next L 1 0 (by omega), endK_next L 1 1 (by omega), endK_at L 1 2 rfl, endK_next L 1 3 (by omega), endK_next L 1 4 (by omega)]
    simpa [cellsC] using h2
  · rw [endK_next L 2 0 (by omega), endK_next L 2 1 (by omega), endK_next L 2 2 (by omega), endK_at L 2 3 rfl, endK_next L 2 4 (by omega)]
    simpa [cellsC] using h2
  · rw [endK_next L 3 0 (by omega), endK_next L 3 1 (by omega), endK_next L 3 2 (by omega), endK_next L 3 3 (by omega), endK_at L 3 4 rfl]
    simpa [cellsC] using h2

/-- The cells of a block, stored one behind the other. -/
theorem C7.set {w : World} {b : Nat} {s : ByteArray} {d e0 e1 e2 e3 e4 : Nat} (h : C7 w b s d e0 e1 e2 e3 e4) (s' : ByteArray) (d' f0 f1 f2 f3 f4 : Nat) :
    C7 (((((((w.setCell ⟨b, 0, none⟩ (.string s')).setCell ⟨b, 1, none⟩ (.int .i64 d')).setCell ⟨b, 2, none⟩ (.int .i64 f0)).setCell ⟨b, 3, none⟩ (.int .i64 f1)).setCell ⟨b, 4, none⟩ (.int .i64 f2)).setCell ⟨b, 5, none⟩ (.int .i64 f3)).setCell ⟨b, 6, none⟩ (.int .i64 f4)) b s' d' f0 f1 f2 f3 f4 := by
  have := heap_setCell_same _ b 6 _ _ (.int .i64 f4) (heap_setCell_same _ b 5 _ _ (.int .i64 f3) (heap_setCell_same _ b 4 _ _ (.int .i64 f2) (heap_setCell_same _ b 3 _ _ (.int .i64 f1) (heap_setCell_same _ b 2 _ _ (.int .i64 f0) (heap_setCell_same _ b 1 _ _ (.int .i64 d') (heap_setCell_same w b 0 _ _ (.string s') h))))))
  unfold C7
  simpa using this

theorem seven_below {B : Nat} {a w : World} {b : Nat} (h : Below B a w) (hb : B ≤ b) (v0 v1 v2 v3 v4 v5 v6 : Value) :
    Below B a (((((((w.setCell ⟨b, 0, none⟩ v0).setCell ⟨b, 1, none⟩ v1).setCell ⟨b, 2, none⟩ v2).setCell ⟨b, 3, none⟩ v3).setCell ⟨b, 4, none⟩ v4).setCell ⟨b, 5, none⟩ v5).setCell ⟨b, 6, none⟩ v6) :=
  ((((((h.setCell (p := ⟨b, 0, none⟩) hb v0).setCell (p := ⟨b, 1, none⟩) hb v1).setCell (p := ⟨b, 2, none⟩) hb v2).setCell (p := ⟨b, 3, none⟩) hb v3).setCell (p := ⟨b, 4, none⟩) hb v4).setCell (p := ⟨b, 5, none⟩) hb v5).setCell (p := ⟨b, 6, none⟩) hb v6

theorem results_row_tmp {P : Program} {fn : Func} {p u : Tmp} {ty : TypeId} (h : fn.results = #[.cell p ty, .tmp u]) (tmps : Array Value) (w : World) (g : Nat) (t : TypeId) (cs : Array Value) (fr : Nat × Nat) (d : TypeDesc)
    (hp : tmps.getD p undef = .pointer (some ⟨g, 0, none⟩)) (hg : w.heap[g]? = some (.cells cs t fr))
    (hu : P.underlying ty = some d) (hd : (match d with | .struct _ | .array _ _ => true | _ => false) = true) (hi : (P.info? ty).map (·.size) = some cs.size) :
    (results fn tmps).run P w = .ok (.tuple #[.agg cs, tmps.getD u undef]) w := by
  rw [results_cell_tmp h, hp]
  simp [asAddr, Result.andThen, run_loadVar_row w g t ty cs fr d hg hu hd hi]

theorem joinT_take_drop (L : List (List UInt8)) (k : Nat) : joinT L = joinT (L.take k) ++ joinT (L.drop k) := by
  rw [← joinT_app, List.take_append_drop]

theorem err_bad {q : List (List UInt8)} {a : List UInt8} (h : a ∈ q) (hb : goodB a = false) : errQ q = 2 := by
  unfold errQ
  rw [if_neg]
  intro e
  have := List.all_eq_true.1 e a h
  rw [hb] at this; cases this

theorem cutV_bad {s : ByteArray} (h : ¬ errP s.data.toList = 0) : cutV s = noCuts := if_neg h
theorem cutV_ok {s : ByteArray} (h : errP s.data.toList = 0) : cutV s = cutsV s (partsP s.data.toList) := if_pos h

theorem parts_many : ∀ L : List (List UInt8), L.length ≤ (joinT L).length
  | [] => Nat.le_refl _
  | a :: L => by
    have := parts_many L
    rw [joinT_cons]; simp; omega

set_option maxRecDepth 100000 in
set_option maxHeartbeats 4000000 in
theorem cut_good (s : ByteArray) (L : List (List UInt8)) (hL : s.data.toList = joinT L) (hf : Free L) (hne : ¬ L = []) (h1 : ¬ L = [[]]) (hm : s.size ≤ 281474976710656) (w : World) : Calls Try.prog 31 #[.string s] w fun e w' => e = .returned (.tuple #[cutV s, .int .i64 (errP s.data.toList)]) ∧ Below w.heap.size w w' := by
  have hl : s.data.toList.length = s.size := by simp
  have hcut : cutL s.data.toList = some L := by rw [hL]; exact cut_join hne h1 hf
  have E := Lib.hid (show errP s.data.toList = errQ L by unfold errP; rw [hcut])
  have PA := Lib.hid (show errQ L = 0 → partsP s.data.toList = L from fun h => by unfold partsP; rw [hcut]; exact if_pos h)
  have hs : 2 ≤ s.size := by
    rw [← hl, hL]
    match L, hne, h1 with
    | (c :: a) :: q, _, _ => rw [joinT_cons]; simp
    | [] :: b :: q, _, _ => rw [joinT_cons, joinT_cons]; simp
  have q0 : (s.toList == []) = false := by
    rw [beq_eq_false_iff_ne, Lib.toList_data]
    intro e
    rw [e] at hl; simp at hl; omega
  have q1 := not_one hs 47
  have HL := Lib.hid hL
  have HF := Lib.hid hf
  have ST := Lib.hid (CM.start w s L)
  clear hcut hL hf hne h1
  go_enter Try.func31, Try.ntmps31
  go_wp2_with fail
  go_loopw [5] (fun v wr => ∃ k : Nat, k ≤ L.length ∧ v = tv (joinT (L.drop k)) ∧ Hid ((L.take k).all goodB = true) ∧ Hid (CM w wr s L k)) (fun v _ => match v with | .string x => x.size | _ => 0)
  case atStart =>
    refine ⟨0, Nat.zero_le _, ?_, Lib.hid (by rfl), ST⟩
    rw [List.drop_zero, ← HL.out]
  case round =>
    obtain ⟨k, hk, rfl, hall, hcm⟩ := hrel
    by_cases hlt : k < L.length
    · obtain ⟨a, R, hdr⟩ : ∃ a R, L.drop k = a :: R := ⟨_, _, List.drop_eq_getElem_cons hlt⟩
      have hR : L.drop (k + 1) = R := by rw [← List.drop_drop, hdr]; rfl
      have ham : a ∈ L := List.mem_of_mem_drop (by rw [hdr]; simp)
      have hafree : ∀ c ∈ a, ¬ c = 47 := HF.out a ham
      have hhj := head_join (q := R) hafree
      have htk : L.take (k + 1) = L.take k ++ [a] := by
        have := List.drop_eq_getElem_cons hlt
        rw [hdr] at this
        rw [List.take_succ_eq_append_getElem hlt, (List.cons.inj this).1]
      have hlen : (joinT (L.drop k)).length ≤ s.size := by
        have := congrArg List.length (joinT_take_drop L k)
        rw [← HL.out, List.length_append] at this
        omega
      have hlenY : (joinT R).length + (joinT (L.take (k + 1))).length = s.size := by
        have := congrArg List.length (joinT_take_drop L (k + 1))
        rw [← HL.out, List.length_append, hR] at this
        omega
      have hsm : (joinT R).length < (joinT (L.drop k)).length := by rw [hdr, joinT_cons]; simp; omega
      have hal : a.length ≤ s.size := by
        have : a.length ≤ (joinT (L.drop k)).length := by rw [hdr, joinT_cons]; simp; omega
        omega
      have hjne : joinT (L.drop k) ≠ [] := by rw [hdr, joinT_cons]; simp
      obtain ⟨X, hX⟩ : ∃ X : ByteArray, ⟨(joinT (L.drop k)).toArray⟩ = X := ⟨_, rfl⟩
      obtain ⟨T, hT⟩ : ∃ X : ByteArray, ⟨a.toArray⟩ = X := ⟨_, rfl⟩
      obtain ⟨Y, hY⟩ : ∃ X : ByteArray, ⟨(joinT R).toArray⟩ = X := ⟨_, rfl⟩
      have hXl : X.data.toList = joinT (L.drop k) := by rw [← hX]
      have hTl : T.data.toList = a := by rw [← hT]
      have hYl : Y.data.toList = joinT R := by rw [← hY]
      have hXs : X.size = (joinT (L.drop k)).length := by rw [← hXl]; simp
      have hTs : T.size = a.length := by rw [← hTl]; simp
      have hYs : Y.size = (joinT R).length := by rw [← hYl]; simp
      have qx : (X.toList == []) = false := by rw [beq_eq_false_iff_ne, Lib.toList_data, hXl]; exact hjne
      have FC := Lib.hid (show ∀ w, Calls Try.prog 39 #[.string X] w fun e w' => e = .returned (.tuple #[.string T, .string Y]) ∧ Below w.heap.size w w' from fun w => by
        have h := first_any X (by omega) w
        rw [hXl, hdr, hhj.1, hhj.2] at h
        unfold tv at h
        rw [hT, hY] at h
        exact h)
      have NC := Lib.hid (show ∀ w, Calls Try.prog 35 #[.string T] w fun e w' => e = .returned (.bool (goodB a)) ∧ w = w' from fun w => by
        have h := wName_any T (by omega) w
        rw [hTl] at h
        exact h)
      have HY := Lib.hid (show tv (joinT (L.drop (k + 1))) = .string Y by rw [hR]; unfold tv; rw [hY])
      unfold tv
      rw [hX]
      have hYle : Y.size ≤ 281474976710656 := by omega
      have hYX : Y.size < X.size := by omega
      cases hg : goodB a with
      | false =>
        have E2 := Lib.hid (show errP s.data.toList = 2 by rw [E.out]; exact err_bad ham hg)
        rw [hg] at NC
        clear hg htk hlen hlenY hsm hal hjne hX hT hY hXl hTl hYl hXs hTs hYs hdr hR hhj hafree
        go_wp2_with fail
        refine (FC.out _).mono ?_
        rintro e w2 ⟨rfl, hb2⟩
        have H2 := Lib.hid (hcm.out.kept hb2)
        clear hb2 hcm
        go_wp2_with fail
        refine (NC.out _).mono ?_
        rintro e w3 ⟨rfl, rfl⟩
        obtain ⟨r0, r1, r2, r3, r4, r5, r6⟩ := H2.out.res.cells
        have f := H2.out.res.free
        have f0 := f 0
        have f1 := f 1
        have f2 := f 2
        have f3 := f 3
        have f4 := f 4
        have f5 := f 5
        have f6 := f 6
        clear f
        go_wp2_with fail
        refine bodyPost_ret (results_row_tmp rfl _ _ w.heap.size 45 (cellsC ⟨#[]⟩ 0 0 0 0 0 0) (0, 0) _ rfl (H2.out.res.set ⟨#[]⟩ 0 0 0 0 0 0) Try.underlying45 rfl (by kernel_rfl)) rfl ?_
        rw [cutV_bad (by rw [E2.out]; decide), E2.out]
        exact ⟨rfl, seven_below H2.out.bel (Nat.le_refl _) _ _ _ _ _ _ _⟩
      | true =>
        rw [hg] at NC
        have hall1 := Lib.hid (show (L.take (k + 1)).all goodB = true by rw [htk, List.all_append, hall.out]; simp [hg])
        have hln := parts_many L
        have hend : (s.size : Int) - (Y.size : Int) = (((joinT (L.take (k + 1))).length : Nat) : Int) := by omega
        have hsk : k < 281474976710656 := by
          have := congrArg List.length HL.out
          omega
        clear hg htk hlen hlenY hsm hal hjne hX hT hY hXl hTl hYl hXs hTs hYs hdr hR hhj hafree hall hln
        have j1 : IntKind.i64.wrap ((k : Int) + 1) = (k : Int) + 1 := IntWalk.i64_in _ (by omega)
        go_upto_region 11 with (first | (go_at_call 39; refine (FC.out _).mono ?_; rintro e w2 ⟨rfl, hb2⟩; have H2 := Lib.hid (hcm.out.kept hb2); clear hb2) | (go_at_call 35; refine (NC.out _).mono ?_; rintro e w3 ⟨rfl, rfl⟩))
        clear hcm FC NC
        obtain ⟨r0, r1, r2, r3, r4, r5, r6⟩ := H2.out.cut.cells
        have f1 := H2.out.cut.free 1
        clear r0 r2 r3 r4 r5 r6
        go_upto_region 12 with fail
        generalize hW : World.setCell w2 _ _ = w3
        have h3 : C7 w3 (w.heap.size + 1) s (k + 1) (endK L k 0) (endK L k 1) (endK L k 2) (endK L k 3) (endK L k 4) := by rw [← hW]; exact H2.out.cut.count (k + 1)
        have j2 : w3.cell? ⟨w.heap.size + 1, 1, none⟩ = some (.int .i64 ((k : Int) + 1)) := h3.cells.2.1
        clear f1 r1
        by_cases h4 : k < 4
        · have M := Lib.hid (H2.out.more h4)
          have M := Lib.hid (show CM w (w3.setCell ⟨w.heap.size + 1, 2 + (k + 1), none⟩ (.int .i64 (((joinT (L.take (k + 1))).length : Nat) : Int))) s L (k + 1) by rw [← hW]; exact M.out)
          have f3 := h3.free (2 + (k + 1))
          have c3 : ∃ u, w3.cell? ⟨w.heap.size + 1, 2 + (k + 1), none⟩ = some u := by
            rw [cell_of_row w3 _ _ _ _ (0, 0) h3]
            exact ⟨_, Array.getElem?_eq_getElem (by show 2 + (k + 1) < 7; omega)⟩
          obtain ⟨u, c3⟩ := c3
          have a1 : (0 : Int) ≤ (k : Int) + 1 := by omega
          have a2 : (k : Int) + 1 < 5 := by omega
          have a3 : ((k : Int) + 1).toNat = k + 1 := by omega
          have a4 : (k : Int) + 1 ≤ 4 := by omega
          clear hW h3 H2
          go_wp2_with fail
          exact ⟨⟨k + 1, by omega, HY.out.symm, hall1, M⟩, hYX⟩
        · have M := Lib.hid (H2.out.count (by omega))
          have M := Lib.hid (show CM w w3 s L (k + 1) by rw [← hW]; exact M.out)
          have a4 : (4 : Int) < (k : Int) + 1 := by omega
          clear hW h3 H2
          go_wp2_with fail
          exact ⟨⟨k + 1, by omega, HY.out.symm, hall1, M⟩, hYX⟩
    · obtain rfl : k = L.length := by omega
      have hg : L.all goodB = true := by have := hall.out; rwa [List.take_length] at this
      rw [List.drop_length, joinT_nil]
      obtain ⟨r0, r1, r2, r3, r4, r5, r6⟩ := hcm.out.res.cells
      obtain ⟨c0, c1, c2, c3, c4, c5, c6⟩ := hcm.out.cut.cells
      have f := hcm.out.res.free
      have f0 := f 0
      have f1 := f 1
      have f2 := f 2
      have f3 := f 3
      have f4 := f 4
      have f5 := f 5
      have f6 := f 6
      clear f
      unfold tv
      by_cases h4 : L.length ≤ 4
      · have E2 := Lib.hid (show errP s.data.toList = 0 by rw [E.out]; exact errQ_zero.2 ⟨hg, h4⟩)
        have E3 := Lib.hid (show cutV s = cutsV s L by rw [cutV_ok E2.out, PA.out (errQ_zero.2 ⟨hg, h4⟩)])
        have a4 : (L.length : Int) ≤ 4 := by omega
        clear hg
        go_wp2_with fail
        refine bodyPost_ret (results_row_tmp rfl _ _ w.heap.size 45 _ (0, 0) _ rfl (hcm.out.res.set s L.length (endN L 0) (endN L 1) (endN L 2) (endN L 3) (endN L 4)) Try.underlying45 rfl (by kernel_rfl)) rfl ?_
        rw [E3.out, E2.out]
        exact ⟨rfl, seven_below hcm.out.bel (Nat.le_refl _) _ _ _ _ _ _ _⟩
      · have E2 := Lib.hid (show errP s.data.toList = 4 by rw [E.out]; unfold errQ; rw [if_pos hg, if_neg h4])
        have a4 : (4 : Int) < (L.length : Int) := by omega
        clear hg
        go_wp2_with fail
        refine bodyPost_ret (results_row_tmp rfl _ _ w.heap.size 45 (cellsC ⟨#[]⟩ 0 0 0 0 0 0) (0, 0) _ rfl (hcm.out.res.set ⟨#[]⟩ 0 0 0 0 0 0) Try.underlying45 rfl (by kernel_rfl)) rfl ?_
        rw [cutV_bad (by rw [E2.out]; decide), E2.out]
        exact ⟨rfl, seven_below hcm.out.bel (Nat.le_refl _) _ _ _ _ _ _ _⟩

theorem C7.new (w : World) (s : ByteArray) (d e0 e1 e2 e3 e4 : Nat) : C7 (w.alloc (.cells (cellsC s d e0 e1 e2 e3 e4) 45)) w.heap.size s d e0 e1 e2 e3 e4 := heap_alloc_new w _

theorem errP_empty : errP [] = 2 := rfl
theorem errP_root : errP [47] = 0 := rfl

set_option maxRecDepth 100000 in
set_option maxHeartbeats 4000000 in
theorem cut_any (s : ByteArray) (hm : s.size ≤ 281474976710656) (w : World) : Calls Try.prog 31 #[.string s] w fun e w' => e = .returned (.tuple #[cutV s, .int .i64 (errP s.data.toList)]) ∧ Below w.heap.size w w' := by
  have hl : s.data.toList.length = s.size := by simp
  by_cases h0 : s.data.toList = []
  · have E2 := Lib.hid (show errP s.data.toList = 2 by rw [h0]; rfl)
    obtain rfl : s = ⟨#[]⟩ := text_eq h0
    clear h0 hl
    go_enter Try.func31, Try.ntmps31
    go_upto_region 1 with fail
    generalize hW : World.alloc w _ = w1
    have N := Lib.hid (show C7 w1 w.heap.size ⟨#[]⟩ 0 0 0 0 0 0 by rw [← hW]; exact C7.new w ⟨#[]⟩ 0 0 0 0 0 0)
    have bel := Lib.hid (show Below w.heap.size w w1 by rw [← hW]; exact (Below.refl w.heap.size w).alloc (Nat.le_refl _) _)
    obtain ⟨r0, r1, r2, r3, r4, r5, r6⟩ := N.out.cells
    have f := N.out.free
    have f0 := f 0
    have f1 := f 1
    have f2 := f 2
    have f3 := f 3
    have f4 := f 4
    have f5 := f 5
    have f6 := f 6
    clear f hW
    go_wp2_with fail
    refine bodyPost_ret (results_row_tmp rfl _ _ w.heap.size 45 (cellsC ⟨#[]⟩ 0 0 0 0 0 0) (0, 0) _ rfl (N.out.set ⟨#[]⟩ 0 0 0 0 0 0) Try.underlying45 rfl (by kernel_rfl)) rfl ?_
    rw [cutV_bad (by rw [E2.out]; decide), E2.out]
    exact ⟨rfl, seven_below bel.out (Nat.le_refl _) _ _ _ _ _ _ _⟩
  by_cases h1 : s.data.toList = [47]
  · have E2 := Lib.hid (show errP s.data.toList = 0 by rw [h1]; rfl)
    have E3 := Lib.hid (show cutV s = cutsV s [] by rw [cutV_ok E2.out, h1]; rfl)
    obtain rfl : s = ⟨#[47]⟩ := text_eq h1
    clear h0 h1 hl
    go_enter Try.func31, Try.ntmps31
    go_upto_region 1 with fail
    generalize hW : World.alloc w _ = w1
    have N := Lib.hid (show C7 w1 w.heap.size ⟨#[]⟩ 0 0 0 0 0 0 by rw [← hW]; exact C7.new w ⟨#[]⟩ 0 0 0 0 0 0)
    have bel := Lib.hid (show Below w.heap.size w w1 by rw [← hW]; exact (Below.refl w.heap.size w).alloc (Nat.le_refl _) _)
    obtain ⟨r0, r1, r2, r3, r4, r5, r6⟩ := N.out.cells
    have f := N.out.free
    have f0 := f 0
    have f1 := f 1
    have f2 := f 2
    have f3 := f 3
    have f4 := f 4
    have f5 := f 5
    have f6 := f 6
    clear f hW
    go_wp2_with fail
    refine bodyPost_ret (results_row_tmp rfl _ _ w.heap.size 45 (cellsC ⟨#[47]⟩ 0 0 0 0 0 0) (0, 0) _ rfl (N.out.set ⟨#[47]⟩ 0 0 0 0 0 0) Try.underlying45 rfl (by kernel_rfl)) rfl ?_
    rw [E3.out, E2.out]
    exact ⟨rfl, seven_below bel.out (Nat.le_refl _) _ _ _ _ _ _ _⟩
  cases e : s.data.toList with
  | nil => exact absurd e h0
  | cons c r =>
    by_cases hc : c = 47
    · subst hc
      have hr : ¬ r = [] := by rintro rfl; exact h1 e
      rw [← e]
      refine cut_good s (segs r) (by rw [e, joinT_segs]) (segs_free r) (segs_ne r) ?_ hm w
      intro h
      have := joinT_segs r
      rw [h, joinT_one] at this
      exact hr (List.cons.inj this).2.symm
    · have E2 := Lib.hid (show errP s.data.toList = 2 by rw [e]; unfold errP; rw [cutL_not hc])
      have hsz : 1 ≤ s.size := by rw [e] at hl; simp at hl; omega
      have q0 : (s.toList == []) = false := by rw [beq_eq_false_iff_ne, Lib.toList_data]; exact h0
      have q1 : (s.toList == [47]) = false := by rw [beq_eq_false_iff_ne, Lib.toList_data]; exact h1
      have hnot : ¬ ∃ h : 0 < s.size, s[0] = 47 := by
        rintro ⟨h, h'⟩
        have h00 : s.data.toList[0]? = some s[0] := List.getElem?_eq_getElem (by omega)
        rw [e] at h00
        have : c = s[0] := by simpa using h00
        exact hc (this.trans h')
      have FC := Lib.hid (show ∀ w, Calls Try.prog 39 #[.string s] w fun e w' => e = .returned (.tuple #[.string ⟨#[]⟩, .string ⟨#[]⟩]) ∧ Below w.heap.size w w' from fun w => by
        have h := first_any s hm w
        rw [(head_not hnot).1, (head_not hnot).2] at h
        exact h)
      have NC := Lib.hid (show ∀ w, Calls Try.prog 35 #[.string ⟨#[]⟩] w fun e w' => e = .returned (.bool false) ∧ w = w' from fun w => wName_any ⟨#[]⟩ (by decide) w)
      rw [← e]
      have N2 := Lib.hid (show C7 ((w.alloc (.cells (cellsC ⟨#[]⟩ 0 0 0 0 0 0) 45)).alloc (.cells (cellsC s 0 0 0 0 0 0) 45)) w.heap.size ⟨#[]⟩ 0 0 0 0 0 0 from (Below.heap_alloc _ _ _ (by simp)).trans (C7.new w ⟨#[]⟩ 0 0 0 0 0 0))
      have bel2 := Lib.hid (((Below.refl w.heap.size w).alloc (Nat.le_refl _) (.cells (cellsC ⟨#[]⟩ 0 0 0 0 0 0) 45)).alloc (by simp) (.cells (cellsC s 0 0 0 0 0 0) 45))
      clear hnot hc e h0 h1
      go_enter Try.func31, Try.ntmps31
      go_wp2_with fail
      go_loopw [5] (fun v wr => v = .string s ∧ Hid (C7 wr w.heap.size ⟨#[]⟩ 0 0 0 0 0 0) ∧ Hid (Below w.heap.size w wr)) (fun _ _ => 0)
      case atStart => exact ⟨rfl, N2, bel2⟩
      case round =>
        obtain ⟨rfl, hN, hb⟩ := hrel
        go_wp2_with fail
        refine (FC.out _).mono ?_
        rintro e w2 ⟨rfl, hb2⟩
        have N3 := Lib.hid (hN.out.kept hb2)
        have bel3 := Lib.hid (hb.out.trans (hb2.mono hb.out.size))
        clear hb2 hN hb
        go_wp2_with fail
        refine (NC.out _).mono ?_
        rintro e w3 ⟨rfl, rfl⟩
        obtain ⟨r0, r1, r2, r3, r4, r5, r6⟩ := N3.out.cells
        have f := N3.out.free
        have f0 := f 0
        have f1 := f 1
        have f2 := f 2
        have f3 := f 3
        have f4 := f 4
        have f5 := f 5
        have f6 := f 6
        clear f
        go_wp2_with fail
        refine bodyPost_ret (results_row_tmp rfl _ _ w.heap.size 45 (cellsC ⟨#[]⟩ 0 0 0 0 0 0) (0, 0) _ rfl (N3.out.set ⟨#[]⟩ 0 0 0 0 0 0) Try.underlying45 rfl (by kernel_rfl)) rfl ?_
        rw [cutV_bad (by rw [E2.out]; decide), E2.out]
        exact ⟨rfl, seven_below bel3.out (Nat.le_refl _) _ _ _ _ _ _ _⟩

end Go.Proofs.Ytlgkffcomnclnaa
