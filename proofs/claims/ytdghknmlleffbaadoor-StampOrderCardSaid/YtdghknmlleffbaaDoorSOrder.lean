/-
  No statement: the walk of StampOrder (P301).
-/
import Derived.Test.YtdghknmlleffbaaDoorStAt
namespace Go.Proofs.YtdghknmlleffbaaDoor
open Go.RowKit

set_option maxRecDepth 100000 in
set_option maxHeartbeats 4000000 in
theorem stampOrder_walk (t1 i1 q1 : Int) (o1 : ByteArray) (t2 i2 q2 : Int) (o2 : ByteArray) (t3 i3 q3 : Int) (o3 : ByteArray) (_h1 : In64 t1) (_h2 : In64 i1) (_h3 : In64 q1) (hs1 : o1.size ≤ maxLen) (_h4 : In64 t2) (_h5 : In64 i2) (_h6 : In64 q2) (hs2 : o2.size ≤ maxLen) (_h7 : In64 t3) (_h8 : In64 i3) (_h9 : In64 q3) (hs3 : o3.size ≤ maxLen) (w : World) (hw : LaidT w) :
    Calls Tryd.prog 6 #[.agg #[.int .i64 t1, .int .i64 i1, .int .i64 q1, .string o1], .agg #[.int .i64 t2, .int .i64 i2, .int .i64 q2, .string o2], .agg #[.int .i64 t3, .int .i64 i3, .int .i64 q3, .string o3]] w fun e w' => e = .returned (.bool true) ∧ Below w.heap.size w w' := by
  unfold maxLen at hs1 hs2 hs3
  have O3 := ordSt t1 i1 q1 o1 t2 i2 q2 o2 t3 i3 q3 o3
  have X := fun w => stampCompare_any t1 i1 q1 o1 t2 i2 q2 o2 w
  have Y := fun w => stampCompare_any t2 i2 q2 o2 t3 i3 q3 o3 w
  have Z := fun w => stampCompare_any t1 i1 q1 o1 t3 i3 q3 o3 w
  obtain ⟨x, hx⟩ : ∃ x, cmpSt t1 i1 q1 o1 t2 i2 q2 o2 = x := ⟨_, rfl⟩
  obtain ⟨y, hy⟩ : ∃ x, cmpSt t2 i2 q2 o2 t3 i3 q3 o3 = x := ⟨_, rfl⟩
  obtain ⟨z, hz⟩ : ∃ x, cmpSt t1 i1 q1 o1 t3 i3 q3 o3 = x := ⟨_, rfl⟩
  rw [hx, hy, hz] at O3
  rw [hx] at X; rw [hy] at Y; rw [hz] at Z
  have X := Lib.hid X
  have Y := Lib.hid Y
  have Z := Lib.hid Z
  have O := Lib.hid O3
  have LW := Lib.hid hw
  clear hx hy hz O3 hw
  go_enter Tryd.func6, Tryd.ntmps6
  go_wp2_with fail
  generalize hW : World.alloc (World.alloc (World.alloc w _) _) _ = W
  have bl : Below w.heap.size w W := by rw [← hW]; exact (((Below.refl _ _).alloc (Nat.le_refl _) _).alloc (by simp) _).alloc (by simp; omega) _
  have D0 := Lib.hid bl
  have A0 : Hid (StAt w.heap.size t1 i1 q1 o1 W) := Lib.hid (by
    rw [← hW]; exact (Below.heap_alloc _ _ _ (by simp; omega)).trans ((Below.heap_alloc _ _ _ (by simp)).trans (World.alloc_heap_new w _)))
  have B0 : Hid (StAt (w.heap.size + 1) t2 i2 q2 o2 W) := Lib.hid (by
    rw [← hW]
    refine (Below.heap_alloc _ _ _ (by simp)).trans ?_
    have := World.alloc_heap_new (w.alloc (.cells #[.int .i64 t1, .int .i64 i1, .int .i64 q1, .string o1] 43)) (.cells #[.int .i64 t2, .int .i64 i2, .int .i64 q2, .string o2] 43)
    rwa [World.size_alloc] at this)
  have C0 : Hid (StAt (w.heap.size + 1 + 1) t3 i3 q3 o3 W) := Lib.hid (by
    rw [← hW]
    have := World.alloc_heap_new ((w.alloc (.cells #[.int .i64 t1, .int .i64 i1, .int .i64 q1, .string o1] 43)).alloc (.cells #[.int .i64 t2, .int .i64 i2, .int .i64 q2, .string o2] 43)) (.cells #[.int .i64 t3, .int .i64 i3, .int .i64 q3, .string o3] 43)
    rw [World.size_alloc, World.size_alloc] at this
    exact this)
  clear hW bl
  refine (knownS_any _ (LW.out.step D0.out)).mono ?_
  rintro e w1 ⟨rfl, hb⟩
  have A1 := Lib.hid (A0.out.kept hb)
  have B1 := Lib.hid (B0.out.kept hb)
  have C1 := Lib.hid (C0.out.kept hb)
  have D1 := Lib.hid (D0.out.trans (hb.mono D0.out.size))
  clear hb A0 B0 C0 D0
  obtain ⟨⟨x0, x1, x2, x3⟩, -, -, -, -⟩ := four A1.out
  obtain ⟨⟨y0, y1, y2, y3⟩, -, -, -, -⟩ := four B1.out
  obtain ⟨⟨z0, z1, z2, z3⟩, -, -, -, -⟩ := four C1.out
  by_cases hl : o1.size ≤ 100 ∧ o2.size ≤ 100 ∧ o3.size ≤ 100
  · obtain ⟨l1, l2, l3⟩ := hl
    go_wp2_with fail
    refine (X.out _).mono ?_
    rintro e w2 ⟨rfl, hb⟩
    have A2 := Lib.hid (A1.out.kept hb)
    have B2 := Lib.hid (B1.out.kept hb)
    have C2 := Lib.hid (C1.out.kept hb)
    have D2 := Lib.hid (D1.out.trans (hb.mono D1.out.size))
    clear hb A1 B1 C1 D1 x0 x1 x2 x3 y0 y1 y2 y3 z0 z1 z2 z3
    obtain ⟨⟨x0, x1, x2, x3⟩, -, -, -, -⟩ := four A2.out
    obtain ⟨⟨y0, y1, y2, y3⟩, -, -, -, -⟩ := four B2.out
    obtain ⟨⟨z0, z1, z2, z3⟩, -, -, -, -⟩ := four C2.out
    go_wp2_with fail
    refine (Y.out _).mono ?_
    rintro e w3 ⟨rfl, hb⟩
    have A3 := Lib.hid (A2.out.kept hb)
    have B3 := Lib.hid (B2.out.kept hb)
    have C3 := Lib.hid (C2.out.kept hb)
    have D3 := Lib.hid (D2.out.trans (hb.mono D2.out.size))
    clear hb A2 B2 C2 D2 x0 x1 x2 x3 y0 y1 y2 y3 z0 z1 z2 z3
    obtain ⟨⟨x0, x1, x2, x3⟩, -, -, -, -⟩ := four A3.out
    obtain ⟨⟨y0, y1, y2, y3⟩, -, -, -, -⟩ := four B3.out
    obtain ⟨⟨z0, z1, z2, z3⟩, -, -, -, -⟩ := four C3.out
    have hc : 0 < x ∨ (x ≤ 0 ∧ 0 < y) ∨ (x ≤ 0 ∧ y ≤ 0 ∧ (z < 0 ∧ ¬ x = 0 ∨ z < 0 ∧ x = 0 ∧ ¬ y = 0 ∨ z = 0 ∧ x = 0 ∧ y = 0)) := by
      have := O.out
      unfold Ord3 at this
      omega
    rcases hc with h | ⟨h, h'⟩ | ⟨h, h', ⟨h3, h4⟩ | ⟨h3, h4, h5⟩ | ⟨h3, h4, h5⟩⟩
    · go_wp2_with fail
      go_ret
      exact ⟨rfl, D3.out⟩
    · go_wp2_with fail
      go_ret
      exact ⟨rfl, D3.out⟩
    · have q1 : (z == 0) = false := by rw [beq_eq_false_iff_ne]; omega
      have q2 : (x == 0) = false := by rw [beq_eq_false_iff_ne]; omega
      have q3 : decide (z ≤ 0) = true := decide_eq_true (by omega)
      go_wp2_with fail
      refine (Z.out _).mono ?_
      rintro e w4 ⟨rfl, hb⟩
      have A4 := Lib.hid (A3.out.kept hb)
      have B4 := Lib.hid (B3.out.kept hb)
      have C4 := Lib.hid (C3.out.kept hb)
      have D4 := Lib.hid (D3.out.trans (hb.mono D3.out.size))
      clear hb A3 B3 C3 D3 x0 x1 x2 x3 y0 y1 y2 y3 z0 z1 z2 z3
      obtain ⟨⟨x0, x1, x2, x3⟩, -, -, -, -⟩ := four A4.out
      obtain ⟨⟨y0, y1, y2, y3⟩, -, -, -, -⟩ := four B4.out
      obtain ⟨⟨z0, z1, z2, z3⟩, -, -, -, -⟩ := four C4.out
      go_wp2_with fail
      go_ret
      exact ⟨rfl, D4.out⟩
    · subst h4
      have q1 : (z == 0) = false := by rw [beq_eq_false_iff_ne]; omega
      have q2 : (y == 0) = false := by rw [beq_eq_false_iff_ne]; omega
      have q3 : decide (z ≤ 0) = true := decide_eq_true (by omega)
      go_wp2_with fail
      refine (Z.out _).mono ?_
      rintro e w4 ⟨rfl, hb⟩
      have A4 := Lib.hid (A3.out.kept hb)
      have B4 := Lib.hid (B3.out.kept hb)
      have C4 := Lib.hid (C3.out.kept hb)
      have D4 := Lib.hid (D3.out.trans (hb.mono D3.out.size))
      clear hb A3 B3 C3 D3 x0 x1 x2 x3 y0 y1 y2 y3 z0 z1 z2 z3
      obtain ⟨⟨x0, x1, x2, x3⟩, -, -, -, -⟩ := four A4.out
      obtain ⟨⟨y0, y1, y2, y3⟩, -, -, -, -⟩ := four B4.out
      obtain ⟨⟨z0, z1, z2, z3⟩, -, -, -, -⟩ := four C4.out
      go_wp2_with fail
      go_ret
      exact ⟨rfl, D4.out⟩
    · subst h3 h4 h5
      go_wp2_with fail
      refine (Z.out _).mono ?_
      rintro e w4 ⟨rfl, hb⟩
      have A4 := Lib.hid (A3.out.kept hb)
      have B4 := Lib.hid (B3.out.kept hb)
      have C4 := Lib.hid (C3.out.kept hb)
      have D4 := Lib.hid (D3.out.trans (hb.mono D3.out.size))
      clear hb A3 B3 C3 D3 x0 x1 x2 x3 y0 y1 y2 y3 z0 z1 z2 z3
      obtain ⟨⟨x0, x1, x2, x3⟩, -, -, -, -⟩ := four A4.out
      obtain ⟨⟨y0, y1, y2, y3⟩, -, -, -, -⟩ := four B4.out
      obtain ⟨⟨z0, z1, z2, z3⟩, -, -, -, -⟩ := four C4.out
      go_wp2_with fail
      go_ret
      exact ⟨rfl, D4.out⟩
  · have hl' : ¬ o1.size ≤ 100 ∨ (o1.size ≤ 100 ∧ ¬ o2.size ≤ 100) ∨ (o1.size ≤ 100 ∧ o2.size ≤ 100 ∧ ¬ o3.size ≤ 100) := by omega
    clear hl
    rcases hl' with h | ⟨h, h'⟩ | ⟨h, h', h''⟩
    · go_wp2_with fail
      go_ret
      exact ⟨rfl, D1.out⟩
    · go_wp2_with fail
      go_ret
      exact ⟨rfl, D1.out⟩
    · go_wp2_with fail
      go_ret
      exact ⟨rfl, D1.out⟩

end Go.Proofs.YtdghknmlleffbaaDoor
