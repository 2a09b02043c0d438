/-
  No statement: the walk of StampAny (P301), where the places part.
-/
import Derived.Test.YtdghknmlleffbaaDoorSAnyBase
import Derived.Test.YtdghknmlleffbaaDoorStAt
import Derived.Test.YtdghknmlleffbaaDoorRStamp
import Derived.Deep.RegionHeld3
import Derived.IntWalk
import Derived.Laws.StructEq
namespace Go.Proofs.YtdghknmlleffbaaDoor
open Go.RowKit

set_option maxRecDepth 100000 in
set_option maxHeartbeats 4000000 in
theorem stampAny_walk3 (t1 i1 q1 : Int) (o1 : ByteArray) (q2 : Int) (o2 : ByteArray) (_h1 : In64 t1) (_h2 : In64 i1) (_h3 : In64 q1) (hs1 : o1.size ≤ maxLen) (_h4 : In64 t1) (_h5 : In64 i1) (_h6 : In64 q2) (hs2 : o2.size ≤ maxLen) (hne : ¬ q1 = q2) (w : World) (hw : LaidT w) :
    Calls Tryd.prog 5 #[.agg #[.int .i64 t1, .int .i64 i1, .int .i64 q1, .string o1], .agg #[.int .i64 t1, .int .i64 i1, .int .i64 q2, .string o2]] w fun e w' => e = .returned (.bool true) ∧ Below w.heap.size w w' := by
  unfold maxLen at hs1 hs2
  have F := cmpSt_bounds t1 i1 q1 o1 t1 i1 q2 o2
  have C0 := fun w => rCompare_any t1 i1 q1 o1 t1 i1 q2 o2 w
  have C1 := fun w => stampCompare_any t1 i1 q1 o1 t1 i1 q2 o2 w
  have C2 := fun w => stampCompare_any t1 i1 q2 o2 t1 i1 q1 o1 w
  have C3 := fun w => stampNewer_any t1 i1 q1 o1 t1 i1 q2 o2 w
  have Z : cmpSt t1 i1 q1 o1 t1 i1 q2 o2 = 0 ↔ t1 = t1 ∧ i1 = i1 ∧ q1 = q2 ∧ o1 = o2 := cmpSt_zero
  rw [cmpSt_turn t1 i1 q1 o1 t1 i1 q2 o2] at C2
  obtain ⟨c, hc⟩ : ∃ x, cmpSt t1 i1 q1 o1 t1 i1 q2 o2 = x := ⟨_, rfl⟩
  rw [hc] at C0 C1 C2 C3 Z F
  have O1 := Lib.hid (fun w => ofS_any t1 i1 q1 o1 w)
  have O2 := Lib.hid (fun w => ofS_any t1 i1 q2 o2 w)
  have C0 := Lib.hid C0
  have C1 := Lib.hid C1
  have C2 := Lib.hid C2
  have C3 := Lib.hid C3
  have ZZ := Lib.hid Z
  clear Z
  have LW := Lib.hid hw
  have T1 := Lib.hid (show In64 t1 ∧ In64 i1 ∧ In64 q1 from ⟨_h1, _h2, _h3⟩)
  have HNE := Lib.hid hne
  have hc0 : ¬ c = 0 := fun e => hne (ZZ.out.1 e).2.2.1
  clear hne
  clear hc hw _h1 _h2 _h3 _h4 _h5 _h6
  go_enter Tryd.func5, Tryd.ntmps5
  go_wp2_with fail
  generalize hW : World.alloc (World.alloc w _) _ = W
  have bl : Below w.heap.size w W := by rw [← hW]; exact ((Below.refl _ _).alloc (Nat.le_refl _) _).alloc (by simp) _
  have D0 := Lib.hid bl
  have A0 : Hid (StAt w.heap.size t1 i1 q1 o1 W) := Lib.hid (by
    rw [← hW]; exact (Below.heap_alloc _ _ _ (by simp)).trans (World.alloc_heap_new w _))
  have B0 : Hid (StAt (w.heap.size + 1) t1 i1 q2 o2 W) := Lib.hid (by
    rw [← hW]
    have := World.alloc_heap_new (w.alloc (.cells #[.int .i64 t1, .int .i64 i1, .int .i64 q1, .string o1] 43)) (.cells #[.int .i64 t1, .int .i64 i1, .int .i64 q2, .string o2] 43)
    rwa [World.size_alloc] at this)
  clear hW bl
  refine (knownS_any _ (LW.out.step D0.out)).mono ?_
  rintro e w1 ⟨rfl, hb⟩
  have A1 := Lib.hid (A0.out.kept hb)
  have B1 := Lib.hid (B0.out.kept hb)
  have D1 := Lib.hid (D0.out.trans (hb.mono D0.out.size))
  clear hb A0 B0 D0
  obtain ⟨⟨x0, x1, x2, x3⟩, -, -, -, -⟩ := four A1.out
  obtain ⟨⟨y0, y1, y2, y3⟩, -, -, -, -⟩ := four B1.out
  by_cases hl : o1.size ≤ 100 ∧ o2.size ≤ 100
  · obtain ⟨l1, l2⟩ := hl
    go_wp2_with fail
    go_region_held3 (fun w' => (w'.cell? ⟨w.heap.size, 0, none⟩ = some (.int .i64 t1) ∧ w'.cell? ⟨w.heap.size, 1, none⟩ = some (.int .i64 i1) ∧ w'.cell? ⟨w.heap.size, 2, none⟩ = some (.int .i64 q1) ∧ w'.cell? ⟨w.heap.size, 3, none⟩ = some (.string o1)) ∧ (w'.cell? ⟨w.heap.size + 1, 0, none⟩ = some (.int .i64 t1) ∧ w'.cell? ⟨w.heap.size + 1, 1, none⟩ = some (.int .i64 i1) ∧ w'.cell? ⟨w.heap.size + 1, 2, none⟩ = some (.int .i64 q2) ∧ w'.cell? ⟨w.heap.size + 1, 3, none⟩ = some (.string o2))) (first | assumption | (refine ⟨⟨?_, ?_, ?_, ?_⟩, ⟨?_, ?_, ?_, ?_⟩⟩ <;> (first | assumption | (go_keep; done)))) (first
      | (go_at_call 22
         with_reducible refine (O1.out _).mono ?_
         rintro e w2 ⟨rfl, hb⟩
         have D2 := Lib.hid (D1.out.drew.trans (hb.mono (by show _ ≤ w1.heap.size; exact D1.out.size)))
         have A2 := Lib.hid ((hb.block w.heap.size (by show _ < w1.heap.size; exact lt_of_block A1.out)).trans A1.out)
         have B2 := Lib.hid ((hb.block (w.heap.size + 1) (by show _ < w1.heap.size; exact lt_of_block B1.out)).trans B1.out)
         have cc := And.intro (four A2.out).1 (four B2.out).1
         clear hb)
      | (go_at_call 22
         with_reducible refine (O2.out _).mono ?_
         rintro e w3 ⟨rfl, hb⟩
         have D3 := Lib.hid (D2.out.trans (hb.mono D2.out.size))
         have A3 := Lib.hid ((hb.block w.heap.size (lt_of_block A2.out)).trans A2.out)
         have B3 := Lib.hid ((hb.block (w.heap.size + 1) (lt_of_block B2.out)).trans B2.out)
         have cc := And.intro (four A3.out).1 (four B3.out).1
         clear hb)
      | (go_at_call 21
         refine (C0.out _).mono ?_
         rintro e w4 ⟨rfl, hb⟩
         have D4 := Lib.hid (D3.out.trans (hb.mono D3.out.size))
         have A4 : Hid (StAt w.heap.size t1 i1 q1 o1 w4) := Lib.hid ((hb.block w.heap.size (lt_of_block A3.out)).trans A3.out)
         have B4 : Hid (StAt (w.heap.size + 1) t1 i1 q2 o2 w4) := Lib.hid ((hb.block (w.heap.size + 1) (lt_of_block B3.out)).trans B3.out)
         have cc := And.intro (four A4.out).1 (four B4.out).1
         clear hb))
    clear D1 A1 B1 D2 A2 B2 D3 A3 B3 x0 x1 x2 x3 y0 y1 y2 y3
    obtain ⟨⟨x0, x1, x2, x3⟩, -, -, -, -⟩ := four A4.out
    obtain ⟨⟨y0, y1, y2, y3⟩, -, -, -, -⟩ := four B4.out
    have j1 : IntKind.i64.wrap (0 - c) = -c := by rw [IntWalk.i64_in _ (by omega)]; omega
    have j2 : IntKind.i64.wrap (-c) = -c := IntWalk.i64_in _ (by omega)
    have TX := Lib.hid (fun w h => stampText_any t1 i1 q1 o1 T1.out.1 T1.out.2.1 T1.out.2.2 (by omega) w h)
    have TY := Lib.hid (fun w => rStampText_any t1 i1 q1 o1 T1.out.1 T1.out.2.1 T1.out.2.2 (by omega) w)
    have K1 := fun w => stampCheck_any t1 i1 q1 o1 (by omega) w
    have K2 := fun w => rCheckStamp_any t1 i1 q1 o1 (by omega) w
    obtain ⟨E, hE⟩ : ∃ E, errS t1 i1 q1 o1 = E := ⟨_, rfl⟩
    obtain ⟨X, hX⟩ : ∃ X : ByteArray, ⟨(textSt t1 i1 q1 o1).toArray⟩ = X := ⟨_, rfl⟩
    rw [hE] at K1 K2
    rw [hX] at TX TY
    have K1 := Lib.hid K1
    have K2 := Lib.hid K2
    clear hE hX
    have hc1 : (c == 0) = false := by rw [beq_eq_false_iff_ne]; exact hc0
    have hq : (q1 == q2) = false := by rw [beq_eq_false_iff_ne]; exact HNE.out
    go_wp2_with fail
    go_region_held3 (fun w' => (w'.cell? ⟨w.heap.size, 0, none⟩ = some (.int .i64 t1) ∧ w'.cell? ⟨w.heap.size, 1, none⟩ = some (.int .i64 i1) ∧ w'.cell? ⟨w.heap.size, 2, none⟩ = some (.int .i64 q1) ∧ w'.cell? ⟨w.heap.size, 3, none⟩ = some (.string o1)) ∧ (w'.cell? ⟨w.heap.size + 1, 0, none⟩ = some (.int .i64 t1) ∧ w'.cell? ⟨w.heap.size + 1, 1, none⟩ = some (.int .i64 i1) ∧ w'.cell? ⟨w.heap.size + 1, 2, none⟩ = some (.int .i64 q2) ∧ w'.cell? ⟨w.heap.size + 1, 3, none⟩ = some (.string o2))) (first | assumption | (refine ⟨⟨?_, ?_, ?_, ?_⟩, ⟨?_, ?_, ?_, ?_⟩⟩ <;> (first | assumption | (go_keep; done)))) (first
      | (go_at_call 23
         with_reducible refine (K1.out _).mono ?_
         rintro e w5 ⟨rfl, hb⟩
         have D5 := Lib.hid (D4.out.drew.trans (hb.mono (by show _ ≤ w4.heap.size; exact D4.out.size)))
         have A5 : Hid (StAt w.heap.size t1 i1 q1 o1 w5) := Lib.hid ((hb.block w.heap.size (by show _ < w4.heap.size; exact lt_of_block A4.out)).trans A4.out)
         have B5 : Hid (StAt (w.heap.size + 1) t1 i1 q2 o2 w5) := Lib.hid ((hb.block (w.heap.size + 1) (by show _ < w4.heap.size; exact lt_of_block B4.out)).trans B4.out)
         have cc := And.intro (four A5.out).1 (four B5.out).1
         clear hb)
      | (go_at_call 22
         with_reducible refine (O1.out _).mono ?_
         rintro e w6 ⟨rfl, hb⟩
         have D6 := Lib.hid (D5.out.trans (hb.mono (by show _ ≤ w5.heap.size; exact D5.out.size)))
         have A6 : Hid (StAt w.heap.size t1 i1 q1 o1 w6) := Lib.hid ((hb.block w.heap.size (by show _ < w5.heap.size; exact lt_of_block A5.out)).trans A5.out)
         have B6 : Hid (StAt (w.heap.size + 1) t1 i1 q2 o2 w6) := Lib.hid ((hb.block (w.heap.size + 1) (by show _ < w5.heap.size; exact lt_of_block B5.out)).trans B5.out)
         have cc := And.intro (four A6.out).1 (four B6.out).1
         clear hb)
      | (go_at_call 24
         with_reducible refine (K2.out _).mono ?_
         rintro e w7 ⟨rfl, hb⟩
         have D7 := Lib.hid (D6.out.trans (hb.mono (by show _ ≤ w6.heap.size; exact D6.out.size)))
         have A7 : Hid (StAt w.heap.size t1 i1 q1 o1 w7) := Lib.hid ((hb.block w.heap.size (by show _ < w6.heap.size; exact lt_of_block A6.out)).trans A6.out)
         have B7 : Hid (StAt (w.heap.size + 1) t1 i1 q2 o2 w7) := Lib.hid ((hb.block (w.heap.size + 1) (by show _ < w6.heap.size; exact lt_of_block B6.out)).trans B6.out)
         have cc := And.intro (four A7.out).1 (four B7.out).1
         clear hb)
      | (go_at_call 25
         with_reducible refine (C1.out _).mono ?_
         rintro e w8 ⟨rfl, hb⟩
         have D8 := Lib.hid (D7.out.trans (hb.mono (by show _ ≤ w7.heap.size; exact D7.out.size)))
         have A8 : Hid (StAt w.heap.size t1 i1 q1 o1 w8) := Lib.hid ((hb.block w.heap.size (by show _ < w7.heap.size; exact lt_of_block A7.out)).trans A7.out)
         have B8 : Hid (StAt (w.heap.size + 1) t1 i1 q2 o2 w8) := Lib.hid ((hb.block (w.heap.size + 1) (by show _ < w7.heap.size; exact lt_of_block B7.out)).trans B7.out)
         have cc := And.intro (four A8.out).1 (four B8.out).1
         clear hb)
      | (go_at_call 25
         with_reducible refine (C2.out _).mono ?_
         rintro e w9 ⟨rfl, hb⟩
         have D9 := Lib.hid (D8.out.trans (hb.mono (by show _ ≤ w8.heap.size; exact D8.out.size)))
         have A9 : Hid (StAt w.heap.size t1 i1 q1 o1 w9) := Lib.hid ((hb.block w.heap.size (by show _ < w8.heap.size; exact lt_of_block A8.out)).trans A8.out)
         have B9 : Hid (StAt (w.heap.size + 1) t1 i1 q2 o2 w9) := Lib.hid ((hb.block (w.heap.size + 1) (by show _ < w8.heap.size; exact lt_of_block B8.out)).trans B8.out)
         have cc := And.intro (four A9.out).1 (four B9.out).1
         clear hb)
      | (go_at_call 26
         with_reducible refine (C3.out _).mono ?_
         rintro e w10 ⟨rfl, hb⟩
         have D10 := Lib.hid (D9.out.trans (hb.mono (by show _ ≤ w9.heap.size; exact D9.out.size)))
         have A10 : Hid (StAt w.heap.size t1 i1 q1 o1 w10) := Lib.hid ((hb.block w.heap.size (by show _ < w9.heap.size; exact lt_of_block A9.out)).trans A9.out)
         have B10 : Hid (StAt (w.heap.size + 1) t1 i1 q2 o2 w10) := Lib.hid ((hb.block (w.heap.size + 1) (by show _ < w9.heap.size; exact lt_of_block B9.out)).trans B9.out)
         have cc := And.intro (four A10.out).1 (four B10.out).1
         clear hb)
      | (go_at_call 27
         with_reducible refine (TX.out _ (LW.out.step D10.out)).mono ?_
         rintro e w11 ⟨rfl, hb⟩
         have D11 := Lib.hid (D10.out.trans (hb.mono (by show _ ≤ w10.heap.size; exact D10.out.size)))
         have A11 : Hid (StAt w.heap.size t1 i1 q1 o1 w11) := Lib.hid ((hb.block w.heap.size (by show _ < w10.heap.size; exact lt_of_block A10.out)).trans A10.out)
         have B11 : Hid (StAt (w.heap.size + 1) t1 i1 q2 o2 w11) := Lib.hid ((hb.block (w.heap.size + 1) (by show _ < w10.heap.size; exact lt_of_block B10.out)).trans B10.out)
         have cc := And.intro (four A11.out).1 (four B11.out).1
         clear hb)
      | (go_at_call 22
         with_reducible refine (O1.out _).mono ?_
         rintro e w12 ⟨rfl, hb⟩
         have D12 := Lib.hid (D11.out.trans (hb.mono (by show _ ≤ w11.heap.size; exact D11.out.size)))
         have A12 : Hid (StAt w.heap.size t1 i1 q1 o1 w12) := Lib.hid ((hb.block w.heap.size (by show _ < w11.heap.size; exact lt_of_block A11.out)).trans A11.out)
         have B12 : Hid (StAt (w.heap.size + 1) t1 i1 q2 o2 w12) := Lib.hid ((hb.block (w.heap.size + 1) (by show _ < w11.heap.size; exact lt_of_block B11.out)).trans B11.out)
         have cc := And.intro (four A12.out).1 (four B12.out).1
         clear hb)
      | (go_at_call 28
         with_reducible refine (TY.out _).mono ?_
         rintro e w13 ⟨rfl, hb⟩
         have D13 := Lib.hid (D12.out.trans (hb.mono (by show _ ≤ w12.heap.size; exact D12.out.size)))
         have A13 : Hid (StAt w.heap.size t1 i1 q1 o1 w13) := Lib.hid ((hb.block w.heap.size (by show _ < w12.heap.size; exact lt_of_block A12.out)).trans A12.out)
         have B13 : Hid (StAt (w.heap.size + 1) t1 i1 q2 o2 w13) := Lib.hid ((hb.block (w.heap.size + 1) (by show _ < w12.heap.size; exact lt_of_block B12.out)).trans B12.out)
         have cc := And.intro (four A13.out).1 (four B13.out).1
         clear hb))
    all_goals
      go_wp2_with fail
      go_ret
      exact ⟨rfl, D13.out⟩
  · have hl' : ¬ o1.size ≤ 100 ∨ (o1.size ≤ 100 ∧ ¬ o2.size ≤ 100) := by omega
    clear hl
    rcases hl' with h | ⟨h, h'⟩
    · go_wp2_with fail
      go_ret
      exact ⟨rfl, D1.out⟩
    · go_wp2_with fail
      go_ret
      exact ⟨rfl, D1.out⟩

end Go.Proofs.YtdghknmlleffbaaDoor
