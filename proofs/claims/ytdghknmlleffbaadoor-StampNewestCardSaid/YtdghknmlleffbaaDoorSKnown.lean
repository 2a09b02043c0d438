/-
  No statement: the first test of each law of cantonlaw3, 'known': it returns true and turns nothing that was there.
-/
import Derived.Test.YtdghknmlleffbaaDoorSCmp
import Derived.Test.YtdghknmlleffbaaDoorSText
namespace Go.Proofs.YtdghknmlleffbaaDoor
open Go.RowKit

theorem itoa0 : Lib.itoa 0 = [48] := by simp [Lib.itoa, Lib.decDigits]
theorem itoa1s : Lib.itoa 1 = [49] := by simp [Lib.itoa, Lib.decDigits]
theorem itoa3 : Lib.itoa 3 = [51] := by simp [Lib.itoa, Lib.decDigits]
theorem itoa7 : Lib.itoa 7 = [55] := by simp [Lib.itoa, Lib.decDigits]

/-- What the walk keeps: the two stamps. -/
structure KnS (b : Nat) (w0 w : World) : Prop where
  l : LaidT w
  bw : Below b w0 w
  s : b + 2 ≤ w.heap.size
  c1 : w.heap[b]? = some (.cells #[.int .i64 3, .int .i64 1, .int .i64 7, .string ⟨#[47, 97, 47, 98]⟩] 43 (0, 0))
  c2 : w.heap[b + 1]? = some (.cells #[.int .i64 3, .int .i64 2, .int .i64 0, .string ⟨#[47, 97, 47, 98]⟩] 43 (0, 0))

theorem KnS.kept {b : Nat} {w0 w w' : World} (h : KnS b w0 w) (hb : Below w.heap.size w w') : KnS b w0 w' :=
  ⟨h.l.step hb, h.bw.trans (hb.mono (by have := h.s; omega)), Nat.le_trans h.s hb.size, (hb.block _ (lt_of_block h.c1)).trans h.c1, (hb.block _ (lt_of_block h.c2)).trans h.c2⟩

theorem node_ab : nodeB [47, 97, 47, 98] = true := by decide
theorem errS_a : errS 3 1 7 ⟨#[47, 97, 47, 98]⟩ = 0 := by decide
theorem errS_m : errS (-1) 0 0 ⟨#[47, 97]⟩ = 1 := by decide
theorem textSt_a : textSt 3 1 7 ⟨#[47, 97, 47, 98]⟩ = [51, 46, 49, 46, 55, 64, 47, 97, 47, 98] := by simp [textSt, itoa3, itoa1s, itoa7]

set_option maxRecDepth 100000 in
set_option maxHeartbeats 4000000 in
theorem knownS_any (w : World) (hw : LaidT w) : Calls Tryd.prog 20 #[] w fun e w' => e = .returned (.bool true) ∧ Below w.heap.size w w' := by
  have hLW := Lib.hid hw
  clear hw
  go_enter Tryd.func20, Tryd.ntmps20
  go_wp2_with fail
  generalize hW : World.alloc (World.alloc w _) _ = W
  have bl : Below w.heap.size w W := by rw [← hW]; exact ((Below.refl _ _).alloc (Nat.le_refl _) _).alloc (by simp) _
  have K0 := Lib.hid (KnS.mk (b := w.heap.size) (w0 := w) (w := W) (hLW.out.below bl hLW.out.has) bl (by rw [← hW]; simp)
    (by rw [← hW]; exact (Below.heap_alloc _ _ _ (by simp)).trans (World.alloc_heap_new w _))
    (by rw [← hW]; have := World.alloc_heap_new (w.alloc (.cells #[.int .i64 3, .int .i64 1, .int .i64 7, .string ⟨#[47, 97, 47, 98]⟩] 43)) (.cells #[.int .i64 3, .int .i64 2, .int .i64 0, .string ⟨#[47, 97, 47, 98]⟩] 43); rwa [World.size_alloc] at this))
  clear hW bl
  obtain ⟨⟨x0, x1, x2, x3⟩, -, -, -, -⟩ := four K0.out.c1
  obtain ⟨⟨y0, y1, y2, y3⟩, -, -, -, -⟩ := four K0.out.c2
  have C := stampCompare_any 3 1 7 ⟨#[47, 97, 47, 98]⟩ 3 2 0 ⟨#[47, 97, 47, 98]⟩ W
  rw [show cmpSt 3 1 7 ⟨#[47, 97, 47, 98]⟩ 3 2 0 ⟨#[47, 97, 47, 98]⟩ = -1 by decide] at C
  refine C.mono ?_
  clear C
  rintro e w1 ⟨rfl, hb⟩
  have K1 := Lib.hid (K0.out.kept hb)
  clear hb K0 x0 x1 x2 x3 y0 y1 y2 y3
  obtain ⟨⟨x0, x1, x2, x3⟩, -, -, -, -⟩ := four K1.out.c1
  obtain ⟨⟨y0, y1, y2, y3⟩, -, -, -, -⟩ := four K1.out.c2
  go_wp2_with fail
  have C := stampNewer_any 3 2 0 ⟨#[47, 97, 47, 98]⟩ 3 1 7 ⟨#[47, 97, 47, 98]⟩ w1
  rw [show (cmpSt 3 2 0 ⟨#[47, 97, 47, 98]⟩ 3 1 7 ⟨#[47, 97, 47, 98]⟩ == 1) = true by decide] at C
  refine C.mono ?_
  clear C
  rintro e w2 ⟨rfl, hb⟩
  have K2 := Lib.hid (K1.out.kept hb)
  clear hb K1 x0 x1 x2 x3 y0 y1 y2 y3
  obtain ⟨⟨x0, x1, x2, x3⟩, -, -, -, -⟩ := four K2.out.c1
  obtain ⟨⟨y0, y1, y2, y3⟩, -, -, -, -⟩ := four K2.out.c2
  go_wp2_with fail
  have C := stampNewer_any 3 1 7 ⟨#[47, 97, 47, 98]⟩ 3 1 7 ⟨#[47, 97, 47, 98]⟩ w2
  rw [show (cmpSt 3 1 7 ⟨#[47, 97, 47, 98]⟩ 3 1 7 ⟨#[47, 97, 47, 98]⟩ == 1) = false by rw [cmpSt_self]; rfl] at C
  refine C.mono ?_
  clear C
  rintro e w3 ⟨rfl, hb⟩
  have K3 := Lib.hid (K2.out.kept hb)
  clear hb K2 x0 x1 x2 x3 y0 y1 y2 y3
  obtain ⟨⟨x0, x1, x2, x3⟩, -, -, -, -⟩ := four K3.out.c1
  obtain ⟨⟨y0, y1, y2, y3⟩, -, -, -, -⟩ := four K3.out.c2
  go_wp2_with fail
  have C := stampText_any 3 1 7 ⟨#[47, 97, 47, 98]⟩ (by unfold In64; omega) (by unfold In64; omega) (by unfold In64; omega) (by decide) w3 K3.out.l
  rw [textSt_a] at C
  refine C.mono ?_
  clear C
  rintro e w4 ⟨rfl, hb⟩
  have K4 := Lib.hid (K3.out.kept hb)
  clear hb K3 x0 x1 x2 x3 y0 y1 y2 y3
  obtain ⟨⟨x0, x1, x2, x3⟩, -, -, -, -⟩ := four K4.out.c1
  obtain ⟨⟨y0, y1, y2, y3⟩, -, -, -, -⟩ := four K4.out.c2
  go_wp2_with fail
  have C := stampCheck_any 3 1 7 ⟨#[47, 97, 47, 98]⟩ (by decide) w4
  rw [errS_a] at C
  refine C.mono ?_
  clear C
  rintro e w5 ⟨rfl, hb⟩
  have K5 := Lib.hid (K4.out.kept hb)
  clear hb K4 x0 x1 x2 x3 y0 y1 y2 y3
  obtain ⟨⟨x0, x1, x2, x3⟩, -, -, -, -⟩ := four K5.out.c1
  obtain ⟨⟨y0, y1, y2, y3⟩, -, -, -, -⟩ := four K5.out.c2
  go_wp2_with fail
  have C := stampCheck_any (-1) 0 0 ⟨#[47, 97]⟩ (by decide) w5
  rw [errS_m] at C
  refine C.mono ?_
  clear C
  rintro e w6 ⟨rfl, hb⟩
  have K6 := Lib.hid (K5.out.kept hb)
  clear hb K5 x0 x1 x2 x3 y0 y1 y2 y3
  obtain ⟨⟨x0, x1, x2, x3⟩, -, -, -, -⟩ := four K6.out.c1
  obtain ⟨⟨y0, y1, y2, y3⟩, -, -, -, -⟩ := four K6.out.c2
  go_wp2_with fail
  go_ret
  exact ⟨rfl, K6.out.bw⟩

end Go.Proofs.YtdghknmlleffbaaDoor
