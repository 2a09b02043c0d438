/-
  No statement: the first test of each law of cantonlaw1, 'known': it returns true and turns nothing that was there.
-/
import Derived.Test.YtbabkdeppcfcnaaUseSI
namespace Go.Proofs.Ytbabkdeppcfcnaa
open Go.RowKit

theorem kn_has0 : has [] (⟨#[98]⟩ : ByteArray) = false := rfl
theorem kn_hasBA : has [(⟨#[98]⟩ : ByteArray)] ⟨#[97]⟩ = false := by decide
theorem kn_lsBA : lsS ⟨#[98]⟩ ⟨#[97]⟩ = false := by simp [lsS, Lib.toList_data, Op.bytesLess]
theorem kn_lsAB : lsS ⟨#[97]⟩ ⟨#[98]⟩ = true := by simp [lsS, Lib.toList_data, Op.bytesLess]
theorem kn_lsA1 : lsS ⟨#[97]⟩ ⟨#[97, 98]⟩ = true := by simp [lsS, Lib.toList_data, Op.bytesLess]
theorem kn_lsB1 : lsS ⟨#[98]⟩ ⟨#[97, 98]⟩ = false := by simp [lsS, Lib.toList_data, Op.bytesLess]
theorem kn_lsAC : lsS ⟨#[97]⟩ ⟨#[99]⟩ = true := by simp [lsS, Lib.toList_data, Op.bytesLess]
theorem kn_lsBC : lsS ⟨#[98]⟩ ⟨#[99]⟩ = true := by simp [lsS, Lib.toList_data, Op.bytesLess]
theorem kn_lsBB : lsS ⟨#[98]⟩ ⟨#[98]⟩ = false := strictS.irrefl _

theorem kn_posB : pos lsS [(⟨#[97]⟩ : ByteArray), ⟨#[98]⟩] ⟨#[98]⟩ = 1 := by simp [pos_cons, kn_lsAB, kn_lsBB]
theorem kn_pos1 : pos lsS [(⟨#[97]⟩ : ByteArray), ⟨#[98]⟩] ⟨#[97, 98]⟩ = 1 := by simp [pos_cons, kn_lsA1, kn_lsB1]
theorem kn_posC : pos lsS [(⟨#[97]⟩ : ByteArray), ⟨#[98]⟩] ⟨#[99]⟩ = 2 := by simp [kn_lsAC, kn_lsBC, pos]
theorem kn_hasB : has [(⟨#[97]⟩ : ByteArray), ⟨#[98]⟩] ⟨#[98]⟩ = true := by decide
theorem kn_has1 : has [(⟨#[97]⟩ : ByteArray), ⟨#[98]⟩] ⟨#[97, 98]⟩ = false := by decide

theorem kn_k1 : putK lsS [] ⟨#[98]⟩ = [⟨#[98]⟩] := rfl
theorem kn_v1 : putV lsS [] [] ⟨#[98]⟩ (1 : Int) = [1] := rfl
theorem kn_k2 : putK lsS [⟨#[98]⟩] ⟨#[97]⟩ = [⟨#[97]⟩, ⟨#[98]⟩] := by simp [putK, kn_hasBA, pos_cons, kn_lsBA]
theorem kn_v2 : putV lsS [⟨#[98]⟩] [(1 : Int)] ⟨#[97]⟩ 2 = [2, 1] := by simp [putV, kn_hasBA, pos_cons, kn_lsBA]
theorem kn_k3 : putK lsS [⟨#[97]⟩, ⟨#[98]⟩] ⟨#[98]⟩ = [⟨#[97]⟩, ⟨#[98]⟩] := by simp [putK, kn_hasB]
theorem kn_v3 : putV lsS [⟨#[97]⟩, ⟨#[98]⟩] [(2 : Int), 1] ⟨#[98]⟩ 3 = [2, 3] := by simp [putV, kn_hasB, kn_posB]
theorem kn_r1 : Rising lsS [(⟨#[98]⟩ : ByteArray)] := by simp [Rising]
theorem kn_r2 : Rising lsS [(⟨#[97]⟩ : ByteArray), ⟨#[98]⟩] := by simp [Rising, kn_lsAB]
theorem kn_k4 : dropK lsS [(⟨#[97]⟩ : ByteArray), ⟨#[98]⟩] ⟨#[98]⟩ = [⟨#[97]⟩] := by simp [dropK, kn_hasB, kn_posB]
theorem kn_v4 : dropV lsS [(⟨#[97]⟩ : ByteArray), ⟨#[98]⟩] [(2 : Int), 3] ⟨#[98]⟩ = [2] := by simp [dropV, kn_hasB, kn_posB]
theorem kn_low : belowK lsS [⟨#[97]⟩, ⟨#[98]⟩] ⟨#[97, 98]⟩ = some ⟨#[97]⟩ := by simp [belowK, kn_has1, kn_pos1]

set_option maxHeartbeats 2000000 in
set_option maxRecDepth 100000 in
theorem known_any (W : World) : Calls Try.prog 4 #[] W fun e w' => e = .returned (.bool true) ∧ Kept (fun _ => False) W w' := by
  go_enter Try.func4, Try.ntmps4
  go_wp2_with fail
  refine (sNewSI (Sep.start W)).mono ?_
  rintro e w1 ⟨p, rfl, S⟩
  have S1 := Lib.hid S
  clear S
  go_wp2_with fail
  have c := sPutSI ⟨#[98]⟩ 1 S1.out (by simp) List.Pairwise.nil
  rw [kn_k1, kn_v1, kn_has0] at c
  refine c.mono ?_
  clear c
  rintro e w2 ⟨rfl, S⟩
  have S2 := Lib.hid S
  clear S S1
  go_wp2_with fail
  have c := sPutSI ⟨#[97]⟩ 2 S2.out (by simp) kn_r1
  rw [kn_k2, kn_v2, kn_hasBA] at c
  refine c.mono ?_
  clear c
  rintro e w3 ⟨rfl, S⟩
  have S3 := Lib.hid S
  clear S S2
  go_wp2_with fail
  have c := sPutSI ⟨#[98]⟩ 3 S3.out (by simp) kn_r2
  rw [kn_k3, kn_v3, kn_hasB] at c
  refine c.mono ?_
  clear c
  rintro e w4 ⟨rfl, S⟩
  have S4 := Lib.hid S
  clear S S3
  go_wp2_with fail
  refine (sGetSI (v := 3) S4.out (List.Mem.head _) (by simp) kn_r2 ((has_iff _ _).1 kn_hasB) (by rw [kn_posB]; rfl)).mono ?_
  rintro e w5 ⟨rfl, S⟩
  have S5 := Lib.hid S
  clear S S4
  go_wp2_with fail
  refine (sKeysSI S5.out (List.Mem.head _) (by simp)).mono ?_
  rintro e w6 ⟨g, c, rfl, S⟩
  have S6 := Lib.hid S
  clear S S5
  go_wp2_with fail
  refine (sAtSI (i := 1) (k := ⟨#[98]⟩) (v := 3) S6.out (List.Mem.tail _ (List.Mem.head _)) (by simp) rfl rfl).mono ?_
  rintro e w7 ⟨rfl, S⟩
  have S7 := Lib.hid S
  clear S S6
  go_wp2_with fail
  have c := sFloorSI (x := ⟨#[97, 98]⟩) S7.out (List.Mem.tail _ (List.Mem.head _)) (by simp) kn_r2
  rw [kn_low] at c
  refine c.mono ?_
  clear c
  rintro e w8 ⟨rfl, S⟩
  have S8 := Lib.hid S
  clear S S7
  go_wp2_with fail
  have c := sCeilSI (x := ⟨#[99]⟩) S8.out (List.Mem.tail _ (List.Mem.head _)) (by simp) kn_r2
  rw [kn_posC] at c
  refine c.mono ?_
  clear c
  rintro e w9 ⟨rfl, S⟩
  have S9 := Lib.hid S
  clear S S8
  go_wp2_with fail
  refine (sTwinSI S9.out (List.Mem.tail _ (List.Mem.head _)) (by simp)).mono ?_
  rintro e w10 ⟨t, rfl, S⟩
  have S10 := Lib.hid S.third
  clear S S9
  go_wp2_with fail
  have c := sDropSI ⟨#[98]⟩ S10.out (by simp) kn_r2
  rw [kn_k4, kn_v4, kn_hasB] at c
  refine c.mono ?_
  clear c
  rintro e w11 ⟨rfl, S⟩
  have S11 := Lib.hid S
  clear S S10
  have hl := S11.out.row (List.Mem.tail _ (List.Mem.tail _ (List.Mem.head _)))
  have hc : w11.cell? ⟨g, 0, none⟩ = some (.string ⟨#[97]⟩) := by
    rcases owns_cases hl with ⟨h, _⟩ | ⟨g', cap, cur, h, _, hg, _, _, _, ht, _⟩
    · cases h
    · simp only [Value.slice.injEq, Option.some.injEq, Addr.mk.injEq] at h
      obtain ⟨⟨rfl, _⟩, _⟩ := h
      exact owns_cell hg ht rfl
  clear hl
  go_wp2_with (go_at_call 11; first | ((with_reducible refine (sLenSI S11.out (List.Mem.head _)).mono ?_); rintro e w' ⟨rfl, rfl⟩) | ((with_reducible refine (sLenSI S11.out (List.Mem.tail _ (List.Mem.head _))).mono ?_); rintro e w' ⟨rfl, rfl⟩))
  go_ret
  exact ⟨rfl, S11.out.1⟩

end Go.Proofs.Ytbabkdeppcfcnaa
