/-
  No statement: the contracts of the document's CheckStamp, Compare and StampText.
-/
import Derived.Test.YtbabkdeppcfcnaaGreatDoorRNode
import Derived.Test.YtbabkdeppcfcnaaGreatDoorRDec
import Derived.Test.YtbabkdeppcfcnaaGreatDoorSCmp
import Derived.Test.YtbabkdeppcfcnaaGreatDoorSText
import Derived.StillTailTactics
import Derived.RangeFuncRecord
import Derived.Deep.RegionHeld3
namespace Go.Proofs.YtbabkdeppcfcnaaGreatDoor
open Go.RowKit

set_option maxHeartbeats 1000000 in
theorem rCheckStamp_any (t i q : Int) (o : ByteArray) (hm : o.size ≤ 1000) (w : World) : Calls Tryz.prog 32 #[stp t i q o] w fun e w' => e = .returned (.int .i64 (errS t i q o)) ∧ Below w.heap.size w w' := by
  have C1 := fun w => rIn_any t w
  have C2 := fun w => rIn_any i w
  have C3 := fun w => rIn_any q w
  have C4 := fun w => rNode_any o hm w
  obtain ⟨b1, h1⟩ : ∃ b, countB t = b := ⟨_, rfl⟩
  obtain ⟨b2, h2⟩ : ∃ b, countB i = b := ⟨_, rfl⟩
  obtain ⟨b3, h3⟩ : ∃ b, countB q = b := ⟨_, rfl⟩
  obtain ⟨b4, h4⟩ : ∃ b, nodeB o.data.toList = b := ⟨_, rfl⟩
  unfold errS
  rw [h1] at C1 ⊢
  rw [h2] at C2 ⊢
  rw [h3] at C3 ⊢
  rw [h4] at C4 ⊢
  clear h1 h2 h3 h4
  have D1 := Lib.hid C1
  have D2 := Lib.hid C2
  have D3 := Lib.hid C3
  have D4 := Lib.hid C4
  clear C1 C2 C3 C4
  unfold stp
  cases b1 with
  | false =>
    go_enter Tryz.func32, Tryz.ntmps32
    go_wp2_with fail
    refine (D1.out _).mono ?_
    rintro e w1 ⟨rfl, rfl⟩
    go_wp2_with fail
    go_ret
    exact ⟨rfl, (Below.refl _ _).alloc (Nat.le_refl _) _⟩
  | true =>
    cases b2 with
    | false =>
      go_enter Tryz.func32, Tryz.ntmps32
      go_wp2_with fail
      refine (D1.out _).mono ?_
      rintro e w1 ⟨rfl, rfl⟩
      go_wp2_with fail
      refine (D2.out _).mono ?_
      rintro e w1 ⟨rfl, rfl⟩
      go_wp2_with fail
      go_ret
      exact ⟨rfl, (Below.refl _ _).alloc (Nat.le_refl _) _⟩
    | true =>
      cases b3 with
      | false =>
        go_enter Tryz.func32, Tryz.ntmps32
        go_wp2_with fail
        refine (D1.out _).mono ?_
        rintro e w1 ⟨rfl, rfl⟩
        go_wp2_with fail
        refine (D2.out _).mono ?_
        rintro e w1 ⟨rfl, rfl⟩
        go_wp2_with fail
        refine (D3.out _).mono ?_
        rintro e w1 ⟨rfl, rfl⟩
        go_wp2_with fail
        go_ret
        exact ⟨rfl, (Below.refl _ _).alloc (Nat.le_refl _) _⟩
      | true =>
        cases b4 with
        | false =>
          go_enter Tryz.func32, Tryz.ntmps32
          go_wp2_with fail
          refine (D1.out _).mono ?_
          rintro e w1 ⟨rfl, rfl⟩
          go_wp2_with fail
          refine (D2.out _).mono ?_
          rintro e w1 ⟨rfl, rfl⟩
          go_wp2_with fail
          refine (D3.out _).mono ?_
          rintro e w1 ⟨rfl, rfl⟩
          go_wp2_with fail
          refine (D4.out _).mono ?_
          rintro e w1 ⟨rfl, hb⟩
          have HB := Lib.hid hb
          clear hb
          go_wp2_with fail
          go_ret
          exact ⟨rfl, ((Below.refl _ _).alloc (Nat.le_refl _) _).trans (HB.out.mono (by simp))⟩
        | true =>
          go_enter Tryz.func32, Tryz.ntmps32
          go_wp2_with fail
          refine (D1.out _).mono ?_
          rintro e w1 ⟨rfl, rfl⟩
          go_wp2_with fail
          refine (D2.out _).mono ?_
          rintro e w1 ⟨rfl, rfl⟩
          go_wp2_with fail
          refine (D3.out _).mono ?_
          rintro e w1 ⟨rfl, rfl⟩
          go_wp2_with fail
          refine (D4.out _).mono ?_
          rintro e w1 ⟨rfl, hb⟩
          have HB := Lib.hid hb
          clear hb
          go_wp2_with fail
          go_ret
          exact ⟨rfl, ((Below.refl _ _).alloc (Nat.le_refl _) _).trans (HB.out.mono (by simp))⟩

set_option maxRecDepth 100000 in
set_option maxHeartbeats 1000000 in
theorem rCmpStamp_any (t1 i1 q1 : Int) (o1 : ByteArray) (t2 i2 q2 : Int) (o2 : ByteArray) (w : World) :
    Calls Tryz.prog 45 #[stp t1 i1 q1 o1, stp t2 i2 q2 o2] w fun e w' => e = .returned (.int .i64 (cmpSt t1 i1 q1 o1 t2 i2 q2 o2)) ∧ Below w.heap.size w w' := by
  unfold stp
  obtain ⟨x0, h0⟩ : ∃ x, cmpI t1 t2 = x := ⟨_, rfl⟩
  obtain ⟨x1, h1⟩ : ∃ x, cmpI i1 i2 = x := ⟨_, rfl⟩
  obtain ⟨x2, h2⟩ : ∃ x, cmpI q1 q2 = x := ⟨_, rfl⟩
  obtain ⟨x3, h3⟩ : ∃ x, cmpS o1 o2 = x := ⟨_, rfl⟩
  have C0 := fun w => order_any t1 t2 w
  have C1 := fun w => order_any i1 i2 w
  have C2 := fun w => order_any q1 q2 w
  have C3 := fun w => orderText_any o1 o2 w
  unfold cmpSt
  rw [h0] at C0 ⊢
  rw [h1] at C1 ⊢
  rw [h2] at C2 ⊢
  rw [h3] at C3 ⊢
  have D0 := Lib.hid C0
  have D1 := Lib.hid C1
  have D2 := Lib.hid C2
  have D3 := Lib.hid C3
  clear h0 h1 h2 h3 C0 C1 C2 C3
  go_enter Tryz.func45, Tryz.ntmps45
  go_wp2_with fail
  generalize hW : World.alloc (World.alloc w _) _ = W
  have BL : Hid (Below w.heap.size w W) := Lib.hid (by rw [← hW]; exact ((Below.refl _ _).alloc (Nat.le_refl _) _).alloc (by simp) _)
  have a1 : W.heap[w.heap.size]? = some (.cells #[.int .i64 t1, .int .i64 i1, .int .i64 q1, .string o1] 30 (0, 0)) := by
    rw [← hW]; exact (Below.heap_alloc _ _ _ (by simp)).trans (World.alloc_heap_new w _)
  have a2 : W.heap[w.heap.size + 1]? = some (.cells #[.int .i64 t2, .int .i64 i2, .int .i64 q2, .string o2] 30 (0, 0)) := by
    rw [← hW]; have := World.alloc_heap_new (w.alloc (.cells #[.int .i64 t1, .int .i64 i1, .int .i64 q1, .string o1] 30)) (.cells #[.int .i64 t2, .int .i64 i2, .int .i64 q2, .string o2] 30); rwa [World.size_alloc] at this
  obtain ⟨⟨c0, c1, c2, c3⟩, f0, f1, f2, f3⟩ := four a1
  obtain ⟨⟨d0, d1, d2, d3⟩, g0, g1, g2, g3⟩ := four a2
  clear a1 a2 f0 f1 f2 f3 g0 g1 g2 g3 hW
  go_still_tail 20, (by kernel_rfl)
  still_call (same_of (D0.out _))
  repeat still_step
  still_call (same_of (D1.out _))
  repeat still_step
  still_call (same_of (D2.out _))
  repeat still_step
  still_call (same_of (D3.out _))
  repeat still_step
  refine wpStill_nil ?_
  change wpList _ _ _ _ _ W.drew
  have BD : Hid (Below w.heap.size w W.drew) := Lib.hid (BL.out.trans ((Below.refl _ _).drew.mono BL.out.size))
  generalize W.drew = V at BD ⊢
  clear BL c0 c1 c2 c3 d0 d1 d2 d3
  go_wp2_with fail
  generalize hU : World.alloc V _ = U
  have hv : V.heap.size = V.heap.size := rfl
  have hx : U.heap[V.heap.size]? = some (.cells #[.int .i64 x0, .int .i64 x1, .int .i64 x2, .int .i64 x3] 3 (0, 0)) := by rw [← hU]; exact World.alloc_heap_new V _
  have BU : Hid (Below w.heap.size w U) := Lib.hid (by rw [← hU]; exact BD.out.alloc BD.out.size _)
  generalize V.heap.size = b at hx ⊢
  obtain ⟨⟨x0', x1', x2', x3'⟩, xf0, xf1, xf2, xf3⟩ := four hx
  clear hU BD hx hv
  go_loop [6] (fun i => (i = .int .i64 0) ∨ (i = .int .i64 1 ∧ x0 = 0) ∨ (i = .int .i64 2 ∧ x0 = 0 ∧ x1 = 0) ∨ (i = .int .i64 3 ∧ x0 = 0 ∧ x1 = 0 ∧ x2 = 0) ∨ (i = .int .i64 4 ∧ x0 = 0 ∧ x1 = 0 ∧ x2 = 0 ∧ x3 = 0)) (fun i => 4 - (intOf i).toNat)
  case atStart => exact .inl rfl
  case round =>
    rcases hrel with rfl | ⟨rfl, rfl⟩ | ⟨rfl, rfl, rfl⟩ | ⟨rfl, rfl, rfl, rfl⟩ | ⟨rfl, rfl, rfl, rfl, rfl⟩
    · by_cases h0 : x0 = 0
      · subst h0
        go_wp2_with fail
        go_round
        case rel => exact .inr (.inl (by simp))
        case measure => simp [intOf]
      · have R := Lib.hid (show orI x0 (orI x1 (orI x2 x3)) = x0 by rw [orI, if_neg h0])
        have h0' : (x0 != 0) = true := by simpa using h0
        clear h0
        go_wp2_with fail
        go_ret
        exact ⟨ret_i64 R.out.symm, BU.out⟩
    · by_cases h0 : x1 = 0
      · subst h0
        go_wp2_with fail
        go_round
        case rel => exact .inr (.inr (.inl (by simp)))
        case measure => simp [intOf]
      · have R := Lib.hid (show orI 0 (orI x1 (orI x2 x3)) = x1 by rw [orI, if_pos rfl, orI, if_neg h0])
        have h0' : (x1 != 0) = true := by simpa using h0
        clear h0
        go_wp2_with fail
        go_ret
        exact ⟨ret_i64 R.out.symm, BU.out⟩
    · by_cases h0 : x2 = 0
      · subst h0
        go_wp2_with fail
        go_round
        case rel => exact .inr (.inr (.inr (.inl (by simp))))
        case measure => simp [intOf]
      · have R := Lib.hid (show orI 0 (orI 0 (orI x2 x3)) = x2 by rw [orI, if_pos rfl, orI, if_pos rfl, orI, if_neg h0])
        have h0' : (x2 != 0) = true := by simpa using h0
        clear h0
        go_wp2_with fail
        go_ret
        exact ⟨ret_i64 R.out.symm, BU.out⟩
    · by_cases h0 : x3 = 0
      · subst h0
        go_wp2_with fail
        go_round
        case rel => exact .inr (.inr (.inr (.inr (by simp))))
        case measure => simp [intOf]
      · have R := Lib.hid (show orI 0 (orI 0 (orI 0 x3)) = x3 by rw [orI, if_pos rfl, orI, if_pos rfl, orI, if_pos rfl])
        have h0' : (x3 != 0) = true := by simpa using h0
        clear h0
        go_wp2_with fail
        go_ret
        exact ⟨ret_i64 R.out.symm, BU.out⟩
    · go_wp2_with fail
      go_ret
      exact ⟨rfl, BU.out⟩

set_option maxRecDepth 100000 in
set_option maxHeartbeats 4000000 in
theorem rStampText_any (t i q : Int) (o : ByteArray) (ht : In64 t) (hi : In64 i) (hq : In64 q) (hm : o.size ≤ 1000) (w : World) :
    Calls Tryz.prog 42 #[stp t i q o] w fun e w' => e = .returned (.string ⟨(textSt t i q o).toArray⟩) ∧ Below w.heap.size w w' := by
  unfold stp
  go_enter Tryz.func42, Tryz.ntmps42
  go_wp2_with fail
  generalize hW : World.alloc w _ = W
  have bl : Below w.heap.size w W := by rw [← hW]; exact (Below.refl _ _).alloc (Nat.le_refl _) _
  have hs : W.heap.size = w.heap.size + 1 := by rw [← hW]; simp
  have a1 : W.heap[w.heap.size]? = some (.cells #[.int .i64 t, .int .i64 i, .int .i64 q, .string o] 30 (0, 0)) := by
    rw [← hW]; exact World.alloc_heap_new w _
  have C0 := Lib.hid a1
  have BL := Lib.hid bl
  clear hW bl
  have D1 := Lib.hid (fun w => decimal_any t ht w)
  have D2 := Lib.hid (fun w => decimal_any i hi w)
  have D3 := Lib.hid (fun w => decimal_any q hq w)
  have l1 := Lib.itoa_length_le t ht.1 ht.2
  have l2 := Lib.itoa_length_le i hi.1 hi.2
  have l3 := Lib.itoa_length_le q hq.1 hq.2
  obtain ⟨P1, hP1⟩ : ∃ p : ByteArray, ⟨(Lib.itoa t).toArray⟩ = p := ⟨_, rfl⟩
  obtain ⟨P2, hP2⟩ : ∃ p : ByteArray, ⟨(Lib.itoa i).toArray⟩ = p := ⟨_, rfl⟩
  obtain ⟨P3, hP3⟩ : ∃ p : ByteArray, ⟨(Lib.itoa q).toArray⟩ = p := ⟨_, rfl⟩
  have R := Lib.hid (show textSt t i q o = ((P1.data.toList ++ [46] ++ P2.data.toList) ++ [46] ++ P3.data.toList) ++ [64] ++ o.data.toList by rw [← hP1, ← hP2, ← hP3]; rfl)
  have s1 : P1.size ≤ 22 := by rw [← hP1]; show (Lib.itoa t).toArray.size ≤ 22; simp; omega
  have s2 : P2.size ≤ 22 := by rw [← hP2]; show (Lib.itoa i).toArray.size ≤ 22; simp; omega
  have s3 : P3.size ≤ 22 := by rw [← hP3]; show (Lib.itoa q).toArray.size ≤ 22; simp; omega
  rw [hP1] at D1
  rw [hP2] at D2
  rw [hP3] at D3
  clear hP1 hP2 hP3 l1 l2 l3 ht hi hq
  have g1 : (9223372036854775807 < P1.size + 1) = False := by simp; omega
  have g2 : (9223372036854775807 < P1.size + 1 + P2.size) = False := by simp; omega
  have g3 : (9223372036854775807 < P1.size + 1 + P2.size + 1) = False := by simp; omega
  have g4 : (9223372036854775807 < P1.size + 1 + P2.size + 1 + P3.size) = False := by simp; omega
  have g5 : (9223372036854775807 < P1.size + 1 + P2.size + 1 + P3.size + 1) = False := by simp; omega
  have g6 : (9223372036854775807 < P1.size + 1 + P2.size + 1 + P3.size + 1 + o.size) = False := by simp; omega
  obtain ⟨⟨c0, c1, c2, c3⟩, -, -, -, -⟩ := four a1
  clear a1
  go_region_held3 (fun w' => w'.cell? ⟨w.heap.size, 0, none⟩ = some (.int .i64 t) ∧ w'.cell? ⟨w.heap.size, 1, none⟩ = some (.int .i64 i) ∧ w'.cell? ⟨w.heap.size, 2, none⟩ = some (.int .i64 q) ∧ w'.cell? ⟨w.heap.size, 3, none⟩ = some (.string o)) (first | assumption | (refine ⟨?_, ?_, ?_, ?_⟩ <;> (first | assumption | (go_keep; done)))) (first
    | (go_at_call 71
       with_reducible refine (D1.out _).mono ?_
       rintro e w1 ⟨rfl, hb⟩
       have B1 := Lib.hid (BL.out.drew.trans (hb.mono (by show _ ≤ W.heap.size; omega)))
       have C1 := Lib.hid ((hb.block w.heap.size (by show _ < W.heap.size; omega)).trans C0.out)
       have cc := (four C1.out).1
       clear hb)
    | (go_at_call 71
       with_reducible refine (D2.out _).mono ?_
       rintro e w2 ⟨rfl, hb⟩
       have B2 := Lib.hid (B1.out.trans (hb.mono B1.out.size))
       have C2 := Lib.hid ((hb.block w.heap.size (lt_of_block C1.out)).trans C1.out)
       have cc := (four C2.out).1
       clear hb)
    | (go_at_call 71
       with_reducible refine (D3.out _).mono ?_
       rintro e w3 ⟨rfl, hb⟩
       have B3 := Lib.hid (B2.out.trans (hb.mono B2.out.size))
       have C3 := Lib.hid ((hb.block w.heap.size (lt_of_block C2.out)).trans C2.out)
       have cc := (four C3.out).1
       clear hb))
  all_goals
    go_wp2_with fail
    go_ret
    exact ⟨ret_str (by rw [R.out]; simp), B3.out⟩

end Go.Proofs.YtbabkdeppcfcnaaGreatDoor
