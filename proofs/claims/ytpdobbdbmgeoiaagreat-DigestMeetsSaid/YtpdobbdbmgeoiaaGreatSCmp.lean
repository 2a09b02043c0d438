/-
  No statement: the contracts of Compare and Newer of package stamp.
-/
import Derived.Test.YtpdobbdbmgeoiaaGreatVCmp
import Derived.Test.YtpdobbdbmgeoiaaGreatSCheck
import Derived.StillTailTactics
import Derived.RangeFuncRecord
namespace Go.Proofs.YtpdobbdbmgeoiaaGreat
open Go.RowKit

theorem same_of {P : Program} {f : FuncId} {args : Array Value} {w : World} {v : Value} (h : Calls P f args w fun e w' => e = .returned v ∧ w = w') : Calls P f args w fun e w'' => e = .returned v ∧ w'' = w :=
  h.mono fun _ _ ⟨he, hw⟩ => ⟨he, hw.symm⟩

/-- The first that is not nought. -/
def orI (a b : Int) : Int := if a = 0 then b else a
/-- -1, 0, 1: of two stamps. -/
def cmpSt (t1 i1 q1 : Int) (o1 : ByteArray) (t2 i2 q2 : Int) (o2 : ByteArray) : Int := orI (cmpI t1 t2) (orI (cmpI i1 i2) (orI (cmpI q1 q2) (cmpS o1 o2)))

theorem cmpSt_self (t i q : Int) (o : ByteArray) : cmpSt t i q o t i q o = 0 := by
  unfold cmpSt orI; rw [cmpI_self, cmpI_self, cmpI_self, cmpS_self]; rfl

theorem cmpI_bounds (a b : Int) : cmpI a b = -1 ∨ cmpI a b = 0 ∨ cmpI a b = 1 := by unfold cmpI; omega
theorem cmpS_bounds (a b : ByteArray) : cmpS a b = -1 ∨ cmpS a b = 0 ∨ cmpS a b = 1 := by
  unfold cmpS
  split
  · exact .inl rfl
  · split
    · exact .inr (.inr rfl)
    · exact .inr (.inl rfl)

theorem cmpSt_bounds (t1 i1 q1 : Int) (o1 : ByteArray) (t2 i2 q2 : Int) (o2 : ByteArray) : cmpSt t1 i1 q1 o1 t2 i2 q2 o2 = -1 ∨ cmpSt t1 i1 q1 o1 t2 i2 q2 o2 = 0 ∨ cmpSt t1 i1 q1 o1 t2 i2 q2 o2 = 1 := by
  have h1 := cmpI_bounds t1 t2
  have h2 := cmpI_bounds i1 i2
  have h3 := cmpI_bounds q1 q2
  have h4 := cmpS_bounds o1 o2
  unfold cmpSt orI
  split <;> (try split) <;> (try split) <;> omega

theorem ordOr {x y z x' y' z' : Int} (h : Ord3 x y z) (h' : Ord3 x' y' z') : Ord3 (orI x x') (orI y y') (orI z z') := by
  unfold Ord3 orI at *
  split <;> split <;> split <;> omega

theorem ordSt (t1 i1 q1 : Int) (o1 : ByteArray) (t2 i2 q2 : Int) (o2 : ByteArray) (t3 i3 q3 : Int) (o3 : ByteArray) :
    Ord3 (cmpSt t1 i1 q1 o1 t2 i2 q2 o2) (cmpSt t2 i2 q2 o2 t3 i3 q3 o3) (cmpSt t1 i1 q1 o1 t3 i3 q3 o3) :=
  ordOr (ordI _ _ _) (ordOr (ordI _ _ _) (ordOr (ordI _ _ _) (ordS _ _ _)))

set_option maxHeartbeats 1000000 in
theorem or_any (b : Nat) (x0 x1 x2 x3 : Int) (w : World) (h : w.heap[b]? = some (.cells #[.int .i64 x0, .int .i64 x1, .int .i64 x2, .int .i64 x3] 3 (0, 0))) :
    Calls Tryz.prog 55 #[.slice (some ⟨b, 0, none⟩) 4 4] w fun e w' => e = .returned (.int .i64 (orI x0 (orI x1 (orI x2 x3)))) ∧ w = w' := by
  obtain ⟨⟨x0', x1', x2', x3'⟩, xf0, xf1, xf2, xf3⟩ := four h
  go_enter Tryz.func55, Tryz.ntmps55
  go_wp2_with fail
  go_loop [8] (fun i => (i = .int .i64 0) ∨ (i = .int .i64 1 ∧ x0 = 0) ∨ (i = .int .i64 2 ∧ x0 = 0 ∧ x1 = 0) ∨ (i = .int .i64 3 ∧ x0 = 0 ∧ x1 = 0 ∧ x2 = 0) ∨ (i = .int .i64 4 ∧ x0 = 0 ∧ x1 = 0 ∧ x2 = 0 ∧ x3 = 0)) (fun i => 4 - (intOf i).toNat)
  case atStart => exact .inl rfl
  case round =>
    rcases hrel with rfl | ⟨rfl, rfl⟩ | ⟨rfl, rfl, rfl⟩ | ⟨rfl, rfl, rfl, rfl⟩ | ⟨rfl, rfl, rfl, rfl, rfl⟩
    · by_cases h0 : x0 = 0
      · subst h0
        go_wp2_with fail
        go_round
        case rel => exact .inr (.inl (by simp))
        case measure => simp [intOf]
      · have R := Lib.hid (show orI x0 (orI x1 (orI x2 x3)) = x0 by rw [orI, if_neg h0])
        have h0' : (x0 != 0) = true := by simpa using h0
        clear h0
        go_wp2_with fail
        go_ret
        exact ⟨ret_i64 R.out.symm, rfl⟩
    · by_cases h0 : x1 = 0
      · subst h0
        go_wp2_with fail
        go_round
        case rel => exact .inr (.inr (.inl (by simp)))
        case measure => simp [intOf]
      · have R := Lib.hid (show orI 0 (orI x1 (orI x2 x3)) = x1 by rw [orI, if_pos rfl, orI, if_neg h0])
        have h0' : (x1 != 0) = true := by simpa using h0
        clear h0
        go_wp2_with fail
        go_ret
        exact ⟨ret_i64 R.out.symm, rfl⟩
    · by_cases h0 : x2 = 0
      · subst h0
        go_wp2_with fail
        go_round
        case rel => exact .inr (.inr (.inr (.inl (by simp))))
        case measure => simp [intOf]
      · have R := Lib.hid (show orI 0 (orI 0 (orI x2 x3)) = x2 by rw [orI, if_pos rfl, orI, if_pos rfl, orI, if_neg h0])
        have h0' : (x2 != 0) = true := by simpa using h0
        clear h0
        go_wp2_with fail
        go_ret
        exact ⟨ret_i64 R.out.symm, rfl⟩
    · by_cases h0 : x3 = 0
      · subst h0
        go_wp2_with fail
        go_round
        case rel => exact .inr (.inr (.inr (.inr (by simp))))
        case measure => simp [intOf]
      · have R := Lib.hid (show orI 0 (orI 0 (orI 0 x3)) = x3 by rw [orI, if_pos rfl, orI, if_pos rfl, orI, if_pos rfl])
        have h0' : (x3 != 0) = true := by simpa using h0
        clear h0
        go_wp2_with fail
        go_ret
        exact ⟨ret_i64 R.out.symm, rfl⟩
    · go_wp2_with fail
      go_ret
      exact ⟨rfl, rfl⟩

set_option maxRecDepth 100000 in
set_option maxHeartbeats 1000000 in
theorem stampCompare_any (t1 i1 q1 : Int) (o1 : ByteArray) (t2 i2 q2 : Int) (o2 : ByteArray) (w : World) :
    Calls Tryz.prog 23 #[stp t1 i1 q1 o1, stp t2 i2 q2 o2] w fun e w' => e = .returned (.int .i64 (cmpSt t1 i1 q1 o1 t2 i2 q2 o2)) ∧ Below w.heap.size w w' := by
  unfold stp
  obtain ⟨x0, h0⟩ : ∃ x, cmpI t1 t2 = x := ⟨_, rfl⟩
  obtain ⟨x1, h1⟩ : ∃ x, cmpI i1 i2 = x := ⟨_, rfl⟩
  obtain ⟨x2, h2⟩ : ∃ x, cmpI q1 q2 = x := ⟨_, rfl⟩
  obtain ⟨x3, h3⟩ : ∃ x, cmpS o1 o2 = x := ⟨_, rfl⟩
  have C0 := fun w => cmp64_any t1 t2 w
  have C1 := fun w => cmp64_any i1 i2 w
  have C2 := fun w => cmp64_any q1 q2 w
  have C3 := fun w => cmpStr_any o1 o2 w
  unfold cmpSt
  rw [h0] at C0 ⊢
  rw [h1] at C1 ⊢
  rw [h2] at C2 ⊢
  rw [h3] at C3 ⊢
  have D0 := Lib.hid C0
  have D1 := Lib.hid C1
  have D2 := Lib.hid C2
  have D3 := Lib.hid C3
  clear h0 h1 h2 h3 C0 C1 C2 C3
  go_enter Tryz.func23, Tryz.ntmps23
  go_wp2_with fail
  generalize hW : World.alloc (World.alloc w _) _ = W
  have BL : Hid (Below w.heap.size w W) := Lib.hid (by rw [← hW]; exact ((Below.refl _ _).alloc (Nat.le_refl _) _).alloc (by simp) _)
  have a1 : W.heap[w.heap.size]? = some (.cells #[.int .i64 t1, .int .i64 i1, .int .i64 q1, .string o1] 32 (0, 0)) := by
    rw [← hW]; exact (Below.heap_alloc _ _ _ (by simp)).trans (World.alloc_heap_new w _)
  have a2 : W.heap[w.heap.size + 1]? = some (.cells #[.int .i64 t2, .int .i64 i2, .int .i64 q2, .string o2] 32 (0, 0)) := by
    rw [← hW]; have := World.alloc_heap_new (w.alloc (.cells #[.int .i64 t1, .int .i64 i1, .int .i64 q1, .string o1] 32)) (.cells #[.int .i64 t2, .int .i64 i2, .int .i64 q2, .string o2] 32); rwa [World.size_alloc] at this
  obtain ⟨⟨c0, c1, c2, c3⟩, f0, f1, f2, f3⟩ := four a1
  obtain ⟨⟨d0, d1, d2, d3⟩, g0, g1, g2, g3⟩ := four a2
  clear a1 a2 f0 f1 f2 f3 g0 g1 g2 g3 hW
  go_still_tail 20, (by kernel_rfl)
  still_call (same_of (D0.out _))
  repeat still_step
  still_call (same_of (D1.out _))
  repeat still_step
  still_call (same_of (D2.out _))
  repeat still_step
  still_call (same_of (D3.out _))
  repeat still_step
  refine wpStill_nil ?_
  change wpList _ _ _ _ _ W.drew
  have BD : Hid (Below w.heap.size w W.drew) := Lib.hid (BL.out.trans ((Below.refl _ _).drew.mono BL.out.size))
  generalize W.drew = V at BD ⊢
  clear BL c0 c1 c2 c3 d0 d1 d2 d3
  go_wp2_with fail
  refine (or_any _ x0 x1 x2 x3 _ (World.alloc_heap_new _ _)).mono ?_
  rintro e w1 ⟨rfl, rfl⟩
  go_wp2_with fail
  go_ret
  exact ⟨rfl, BD.out.alloc BD.out.size _⟩

/-- Is a stamp newer? -/
theorem stampNewer_any (t1 i1 q1 : Int) (o1 : ByteArray) (t2 i2 q2 : Int) (o2 : ByteArray) (w : World) :
    Calls Tryz.prog 45 #[stp t1 i1 q1 o1, stp t2 i2 q2 o2] w fun e w' => e = .returned (.bool (cmpSt t1 i1 q1 o1 t2 i2 q2 o2 == 1)) ∧ Below w.heap.size w w' := by
  have C := stampCompare_any t1 i1 q1 o1 t2 i2 q2 o2
  obtain ⟨x, hx⟩ : ∃ x, cmpSt t1 i1 q1 o1 t2 i2 q2 o2 = x := ⟨_, rfl⟩
  rw [hx] at C ⊢
  have D := Lib.hid C
  clear C hx
  unfold stp
  go_enter Tryz.func45, Tryz.ntmps45
  go_wp2_with fail
  refine (D.out _).mono ?_
  rintro e w1 ⟨rfl, hb⟩
  have hb1 := Lib.hid hb
  clear hb
  go_wp2_with fail
  go_ret
  exact ⟨rfl, ((Below.refl w.heap.size _).alloc (Nat.le_refl _) _ |>.alloc (by simp) _).trans (hb1.out.mono (by simp; omega))⟩

end Go.Proofs.YtpdobbdbmgeoiaaGreat
