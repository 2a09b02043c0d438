/-
  No statement: the document's Compare of stamps.
-/
import Derived.Test.YtikifgenfpkidaaSCmp
import Derived.StillTailTactics
import Derived.RangeFuncRecord
import Derived.Deep.RegionHeld3
set_option linter.unusedVariables false
set_option linter.unusedSimpArgs false
namespace Go.Proofs.Ytikifgenfpkidaa
open Go.RowKit

set_option maxHeartbeats 1000000 in
theorem order_any (a b : Int) (w : World) : Calls Try.prog 45 #[.int .i64 a, .int .i64 b] w fun e w' => e = .returned (.int .i64 (cmpI a b)) ∧ w = w' := by
  have hc : a < b ∨ b < a ∨ a = b := by omega
  rcases hc with h | h | rfl
  · rw [show cmpI a b = -1 by unfold cmpI; rw [if_pos h]]
    go_enter Try.func45, Try.ntmps45
    go_wp2
    go_ret
    exact ⟨rfl, rfl⟩
  · rw [show cmpI a b = 1 by unfold cmpI; rw [if_neg (by omega), if_pos h]]
    go_enter Try.func45, Try.ntmps45
    go_wp2
    go_ret
    exact ⟨rfl, rfl⟩
  · rw [cmpI_self]
    go_enter Try.func45, Try.ntmps45
    go_wp2
    go_ret
    exact ⟨rfl, rfl⟩

set_option maxHeartbeats 1000000 in
theorem orderText_any (a b : ByteArray) (w : World) : Calls Try.prog 46 #[.string a, .string b] w fun e w' => e = .returned (.int .i64 (cmpS a b)) ∧ w = w' := by
  by_cases h : Op.bytesLess a.toList b.toList = true
  · rw [show cmpS a b = -1 by unfold cmpS; rw [if_pos h]]
    go_enter Try.func46, Try.ntmps46
    go_wp2
    go_ret
    exact ⟨rfl, rfl⟩
  · have h' : Op.bytesLess a.toList b.toList = false := by simpa using h
    by_cases k : Op.bytesLess b.toList a.toList = true
    · rw [show cmpS a b = 1 by unfold cmpS; rw [if_neg h, if_pos k]]
      have q : (a.toList == b.toList) = false := by
        rw [beq_eq_false_iff_ne]; intro e
        rw [e, bytesLess_irrefl] at k; cases k
      clear h
      go_enter Try.func46, Try.ntmps46
      go_wp2
      go_ret
      exact ⟨rfl, rfl⟩
    · have k' : Op.bytesLess b.toList a.toList = false := by simpa using k
      rw [show cmpS a b = 0 by unfold cmpS; rw [if_neg h, if_neg k]]
      obtain rfl : a = b := bytes_eq (bytesLess_total _ _ h' k')
      clear h k k'
      go_enter Try.func46, Try.ntmps46
      go_wp2
      go_ret
      exact ⟨rfl, rfl⟩

set_option maxRecDepth 100000 in
set_option maxHeartbeats 1000000 in
theorem rCmpStamp_any (t1 i1 q1 : Int) (o1 : ByteArray) (t2 i2 q2 : Int) (o2 : ByteArray) (w : World) :
    Calls Try.prog 20 #[stp t1 i1 q1 o1, stp t2 i2 q2 o2] w fun e w' => e = .returned (.int .i64 (cmpSt t1 i1 q1 o1 t2 i2 q2 o2)) ∧ Below w.heap.size w w' := by
  unfold stp
  obtain ⟨x0, h0⟩ : ∃ x, cmpI t1 t2 = x := ⟨_, rfl⟩
  obtain ⟨x1, h1⟩ : ∃ x, cmpI i1 i2 = x := ⟨_, rfl⟩
  obtain ⟨x2, h2⟩ : ∃ x, cmpI q1 q2 = x := ⟨_, rfl⟩
  obtain ⟨x3, h3⟩ : ∃ x, cmpS o1 o2 = x := ⟨_, rfl⟩
  have C0 := fun w => order_any t1 t2 w
  have C1 := fun w => order_any i1 i2 w
  have C2 := fun w => order_any q1 q2 w
  have C3 := fun w => orderText_any o1 o2 w
  unfold cmpSt
  rw [h0] at C0 ⊢
  rw [h1] at C1 ⊢
  rw [h2] at C2 ⊢
  rw [h3] at C3 ⊢
  have D0 := Lib.hid C0
  have D1 := Lib.hid C1
  have D2 := Lib.hid C2
  have D3 := Lib.hid C3
  clear h0 h1 h2 h3 C0 C1 C2 C3
  go_enter Try.func20, Try.ntmps20
  go_wp2_with fail
  generalize hW : World.alloc (World.alloc w _) _ = W
  have BL : Hid (Below w.heap.size w W) := Lib.hid (by rw [← hW]; exact ((Below.refl _ _).alloc (Nat.le_refl _) _).alloc (by simp) _)
  have a1 : W.heap[w.heap.size]? = some (.cells #[.int .i64 t1, .int .i64 i1, .int .i64 q1, .string o1] 31 (0, 0)) := by
    rw [← hW]; exact (Below.heap_alloc _ _ _ (by simp)).trans (World.alloc_heap_new w _)
  have a2 : W.heap[w.heap.size + 1]? = some (.cells #[.int .i64 t2, .int .i64 i2, .int .i64 q2, .string o2] 31 (0, 0)) := by
    rw [← hW]; have := World.alloc_heap_new (w.alloc (.cells #[.int .i64 t1, .int .i64 i1, .int .i64 q1, .string o1] 31)) (.cells #[.int .i64 t2, .int .i64 i2, .int .i64 q2, .string o2] 31); rwa [World.size_alloc] at this
  obtain ⟨⟨c0, c1, c2, c3⟩, f0, f1, f2, f3⟩ := four a1
  obtain ⟨⟨d0, d1, d2, d3⟩, g0, g1, g2, g3⟩ := four a2
  clear a1 a2 f0 f1 f2 f3 g0 g1 g2 g3 hW
  go_still_tail 20, (by kernel_rfl)
  still_call (same_of (D0.out _))
  repeat still_step
  still_call (same_of (D1.out _))
  repeat still_step
  still_call (same_of (D2.out _))
  repeat still_step
  still_call (same_of (D3.out _))
  repeat still_step
  refine wpStill_nil ?_
  change wpList _ _ _ _ _ W.drew
  have BD : Hid (Below w.heap.size w W.drew) := Lib.hid (BL.out.trans ((Below.refl _ _).drew.mono BL.out.size))
  generalize W.drew = V at BD ⊢
  clear BL c0 c1 c2 c3 d0 d1 d2 d3
  go_wp2_with fail
  generalize hU : World.alloc V _ = U
  have hv : V.heap.size = V.heap.size := rfl
  have hx : U.heap[V.heap.size]? = some (.cells #[.int .i64 x0, .int .i64 x1, .int .i64 x2, .int .i64 x3] 3 (0, 0)) := by rw [← hU]; exact World.alloc_heap_new V _
  have BU : Hid (Below w.heap.size w U) := Lib.hid (by rw [← hU]; exact BD.out.alloc BD.out.size _)
  generalize V.heap.size = b at hx ⊢
  obtain ⟨⟨x0', x1', x2', x3'⟩, xf0, xf1, xf2, xf3⟩ := four hx
  clear hU BD hx hv
  go_loop [6] (fun i => (i = .int .i64 0) ∨ (i = .int .i64 1 ∧ x0 = 0) ∨ (i = .int .i64 2 ∧ x0 = 0 ∧ x1 = 0) ∨ (i = .int .i64 3 ∧ x0 = 0 ∧ x1 = 0 ∧ x2 = 0) ∨ (i = .int .i64 4 ∧ x0 = 0 ∧ x1 = 0 ∧ x2 = 0 ∧ x3 = 0)) (fun i => 4 - (intOf i).toNat)
  case atStart => exact .inl rfl
  case round =>
    rcases hrel with rfl | ⟨rfl, rfl⟩ | ⟨rfl, rfl, rfl⟩ | ⟨rfl, rfl, rfl, rfl⟩ | ⟨rfl, rfl, rfl, rfl, rfl⟩
    · by_cases h0 : x0 = 0
      · subst h0
        go_wp2_with fail
        go_round
        case rel => exact .inr (.inl (by simp))
        case measure => simp [intOf]
      · have R := Lib.hid (show orI x0 (orI x1 (orI x2 x3)) = x0 by rw [orI, if_neg h0])
        have h0' : (x0 != 0) = true := by simpa using h0
        clear h0
        go_wp2_with fail
        go_ret
        exact ⟨ret_i64 R.out.symm, BU.out⟩
    · by_cases h0 : x1 = 0
      · subst h0
        go_wp2_with fail
        go_round
        case rel => exact .inr (.inr (.inl (by simp)))
        case measure => simp [intOf]
      · have R := Lib.hid (show orI 0 (orI x1 (orI x2 x3)) = x1 by rw [orI, if_pos rfl, orI, if_neg h0])
        have h0' : (x1 != 0) = true := by simpa using h0
        clear h0
        go_wp2_with fail
        go_ret
        exact ⟨ret_i64 R.out.symm, BU.out⟩
    · by_cases h0 : x2 = 0
      · subst h0
        go_wp2_with fail
        go_round
        case rel => exact .inr (.inr (.inr (.inl (by simp))))
        case measure => simp [intOf]
      · have R := Lib.hid (show orI 0 (orI 0 (orI x2 x3)) = x2 by rw [orI, if_pos rfl, orI, if_pos rfl, orI, if_neg h0])
        have h0' : (x2 != 0) = true := by simpa using h0
        clear h0
        go_wp2_with fail
        go_ret
        exact ⟨ret_i64 R.out.symm, BU.out⟩
    · by_cases h0 : x3 = 0
      · subst h0
        go_wp2_with fail
        go_round
        case rel => exact .inr (.inr (.inr (.inr (by simp))))
        case measure => simp [intOf]
      · have R := Lib.hid (show orI 0 (orI 0 (orI 0 x3)) = x3 by rw [orI, if_pos rfl, orI, if_pos rfl, orI, if_pos rfl])
        have h0' : (x3 != 0) = true := by simpa using h0
        clear h0
        go_wp2_with fail
        go_ret
        exact ⟨ret_i64 R.out.symm, BU.out⟩
    · go_wp2_with fail
      go_ret
      exact ⟨rfl, BU.out⟩


end Go.Proofs.Ytikifgenfpkidaa
