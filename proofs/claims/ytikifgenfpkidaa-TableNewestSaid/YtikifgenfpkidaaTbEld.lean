/-
  No statement: eldest of package table: the row of the least stamp.
-/
import Derived.Test.YtikifgenfpkidaaTbAt
namespace Go.Proofs.Ytikifgenfpkidaa
open Go.RowKit

def zeroR : RD := ⟨⟨#[]⟩, 0, 0, 0, ⟨#[]⟩, 0, fun _ => ⟨⟨#[]⟩, 0, 0, ⟨#[]⟩, 0, fun _ => 0⟩⟩
/-- Is the first row's stamp newer than the second's? -/
def newR (x y : RD) : Bool := cmpSt x.t x.i x.q x.o y.t y.i y.q y.o == 1
def leastK (m : RD) (l : List RD) : RD := l.foldl (fun m r => if newR m r = true then r else m) m
theorem leastK_snoc (m : RD) (l : List RD) (r : RD) : leastK m (l ++ [r]) = if newR (leastK m l) r = true then r else leastK m l := by unfold leastK; rw [List.foldl_append]; rfl

/-- The six cells of a row in a block. -/
def rowO (x : RD) (a : Option Addr) (c : Nat) : Obj := .cells #[.string x.key, .int .i64 x.t, .int .i64 x.i, .int .i64 x.q, .string x.o, .slice a x.len c] 39

theorem newer_any (x y : RD) (w : World) : Calls Try.prog 17 #[.agg #[.int .i64 x.t, .int .i64 x.i, .int .i64 x.q, .string x.o], .agg #[.int .i64 y.t, .int .i64 y.i, .int .i64 y.q, .string y.o]] w fun e w' => e = .returned (.bool (newR x y)) ∧ Below w.heap.size w w' := stampNewer_any x.t x.i x.q x.o y.t y.i y.q y.o w

set_option maxRecDepth 100000 in
set_option maxHeartbeats 4000000 in
theorem eldest_any (w : World) (p : Nat) (most : Int) (F X : Nat → Prop) (L : List RD) (x0 : RD) (hn : L.length ≤ 1000000) (h0 : L[0]? = some x0) (h : Tab w p most F X L) :
    Calls Try.prog 37 #[.pointer (some ⟨p, 0, none⟩)] w fun e w' => (∃ a c, e = .returned (.tuple #[rowV (leastK x0 L) a c, .bool true])) ∧ Below w.heap.size w w' := by
  have hpos : 0 < L.length := (List.getElem?_eq_some_iff.1 h0).1
  have AT := Lib.hid (p := ∀ (i : Nat) (x : RD), L[i]? = some x → ∃ a c, RowAt w (fun k => F k ∨ X k) x a ∧ ∀ w', Below w.heap.size w w' → Calls Try.prog 42 #[.pointer (some ⟨p, 0, none⟩), .int .i64 i] w' fun e w'' => e = .returned (rowV x a c) ∧ Below w'.heap.size w' w'') (fun i x hx => tabAt w p most F X L i x hn h hx)
  have LN := Lib.hid (p := ∀ w', Below w.heap.size w w' → Calls Try.prog 23 #[.pointer (some ⟨p, 0, none⟩)] w' fun e w'' => e = .returned (.int .i64 (L.length : Nat)) ∧ w' = w'') (fun w' hb => tabLen w' p most F X L (h.below hb))
  obtain ⟨a0, c0, -, C0'⟩ := AT.out 0 x0 h0
  have C0 := Lib.hid C0'
  clear h C0'
  go_enter Try.func37, Try.ntmps37
  go_upto_region 1 with fail
  generalize hW : World.alloc w _ = W
  have hb : Below w.heap.size w W := by rw [← hW]; exact (Below.refl _ _).alloc (Nat.le_refl _) _
  have hz : W.heap[w.heap.size]? = some (.cells #[.string ⟨#[]⟩, .int .i64 0, .int .i64 0, .int .i64 0, .string ⟨#[]⟩, .slice none 0 0] 39 (0, 0)) := by rw [← hW]; exact heap_alloc_new w _
  have HX := Lib.hid (And.intro hb hz)
  clear hW hb hz
  go_wp2_with fail
  refine (C0.out W HX.out.1).mono ?_
  rintro e w1 ⟨rfl, hb⟩
  unfold rowV
  go_upto_region 2 with fail
  generalize hV : World.alloc w1 _ = V
  have hb2 : Below w1.heap.size w1 V := by rw [← hV]; exact (Below.refl _ _).alloc (Nat.le_refl _) _
  have h1 : V.heap[w1.heap.size]? = some (rowO x0 a0 c0) := by rw [← hV]; exact heap_alloc_new w1 _
  have hzl := lt_of_block HX.out.2
  have hne : w.heap.size < w1.heap.size := by have := hb.size; omega
  have K0 : Hid (Below w.heap.size w V ∧ V.heap[w.heap.size]? = some (.cells #[.string ⟨#[]⟩, .int .i64 0, .int .i64 0, .int .i64 0, .string ⟨#[]⟩, .slice none 0 0] 39 (0, 0)) ∧ V.heap[w1.heap.size]? = some (rowO (leastK x0 (L.take 0)) a0 c0)) :=
    Lib.hid ⟨HX.out.1.trans ((hb.trans (hb2.mono hb.size)).mono HX.out.1.size), ((hb.trans (hb2.mono hb.size)).block _ hzl).trans HX.out.2, h1⟩
  clear hV hb2 h1 hb hzl C0 HX
  go_wp2_with fail
  refine (LN.out V K0.out.1).mono ?_
  rintro e w2 ⟨rfl, rfl⟩
  go_wp2_with fail
  obtain ⟨B4, hB4⟩ : ∃ B4, w1.heap.size = B4 := ⟨_, rfl⟩
  rw [hB4] at K0 hne ⊢
  go_loopw [11] (fun iv wr => ∃ (k : Nat) (a : Option Addr) (c : Nat), iv = .int .i64 k ∧ k ≤ L.length ∧ Hid (Below w.heap.size w wr ∧ wr.heap[w.heap.size]? = some (.cells #[.string ⟨#[]⟩, .int .i64 0, .int .i64 0, .int .i64 0, .string ⟨#[]⟩, .slice none 0 0] 39 (0, 0)) ∧ wr.heap[B4]? = some (rowO (leastK x0 (L.take k)) a c))) (fun iv _ => L.length - (intOf iv).toNat)
  case atStart => exact ⟨0, a0, c0, rfl, Nat.zero_le _, K0⟩
  case round =>
    obtain ⟨k, a, c, rfl, hk, K1⟩ := hrel
    clear K0
    by_cases hlt : k < L.length
    · obtain ⟨x, hx⟩ : ∃ x, L[k]? = some x := ⟨_, List.getElem?_eq_getElem hlt⟩
      obtain ⟨ax, cx, -, CX'⟩ := AT.out k x hx
      have CX := Lib.hid CX'
      clear CX'
      have hs : L.take (k + 1) = L.take k ++ [x] := by rw [List.take_add_one, hx]; rfl
      have HS := Lib.hid (show leastK x0 (L.take (k + 1)) = if newR (leastK x0 (L.take k)) x = true then x else leastK x0 (L.take k) by rw [hs, leastK_snoc])
      obtain ⟨m, hm⟩ : ∃ m, leastK x0 (L.take k) = m := ⟨_, rfl⟩
      rw [hm] at K1 HS
      clear hx hs hm
      go_wp2_with fail
      refine (CX.out wr K1.out.1).mono ?_
      rintro e w3 ⟨rfl, hb⟩
      unfold rowV
      go_upto_region 6 with fail
      generalize hV : World.alloc w3 _ = V3
      have hb2 : Below w3.heap.size w3 V3 := by rw [← hV]; exact (Below.refl _ _).alloc (Nat.le_refl _) _
      have h1 : V3.heap[w3.heap.size]? = some (rowO x ax cx) := by rw [← hV]; exact heap_alloc_new w3 _
      have hb3 := hb.trans (hb2.mono hb.size)
      have hl4 := lt_of_block K1.out.2.2
      have hlz := lt_of_block K1.out.2.1
      have K3 := Lib.hid (And.intro (K1.out.1.trans (hb3.mono K1.out.1.size)) (And.intro ((hb3.block _ hlz).trans K1.out.2.1) (And.intro ((hb3.block _ hl4).trans K1.out.2.2) h1)))
      have hz3 := hb.size
      clear hV hb2 h1 hb hb3 K1 CX
      obtain ⟨⟨x0', x1, x2, x3, x4, x5⟩, -⟩ := six K3.out.2.2.2
      obtain ⟨⟨y0, y1, y2, y3, y4, y5⟩, -⟩ := six K3.out.2.2.1
      go_wp2_with fail
      refine (newer_any m x V3).mono ?_
      rintro e w4 ⟨rfl, hb⟩
      have hl3 := lt_of_block K3.out.2.2.2
      have K4 := Lib.hid (And.intro (K3.out.1.trans (hb.mono K3.out.1.size)) (And.intro ((hb.block _ (lt_of_block K3.out.2.1)).trans K3.out.2.1) (And.intro ((hb.block _ (lt_of_block K3.out.2.2.1)).trans K3.out.2.2.1) ((hb.block _ hl3).trans K3.out.2.2.2))))
      clear x0' x1 x2 x3 x4 x5 y0 y1 y2 y3 y4 y5 hb K3
      by_cases hN : newR m x = true
      · rw [hN]
        obtain ⟨⟨x0', x1, x2, x3, x4, x5⟩, -⟩ := six K4.out.2.2.2
        obtain ⟨⟨y0, y1, y2, y3, y4, y5⟩, ⟨z0, z1, z2, z3, z4, z5⟩⟩ := six K4.out.2.2.1
        go_wp2_with fail
        clear x0' x1 x2 x3 x4 x5 y0 y1 y2 y3 y4 y5 z0 z1 z2 z3 z4 z5
        have h6 := six_set K4.out.2.2.1 (.string x.key) (.int .i64 x.t) (.int .i64 x.i) (.int .i64 x.q) (.string x.o) (.slice ax x.len cx)
        have k6 := six_kept w4 B4 (.string x.key) (.int .i64 x.t) (.int .i64 x.i) (.int .i64 x.q) (.string x.o) (.slice ax x.len cx)
        generalize World.setCell _ (⟨B4, 5, none⟩ : Addr) _ = W6 at h6 k6 ⊢
        have K5 : Hid (Below w.heap.size w W6 ∧ W6.heap[w.heap.size]? = some (.cells #[.string ⟨#[]⟩, .int .i64 0, .int .i64 0, .int .i64 0, .string ⟨#[]⟩, .slice none 0 0] 39 (0, 0)) ∧ W6.heap[B4]? = some (rowO (leastK x0 (L.take (k + 1))) ax cx)) := Lib.hid (by
          rw [HS.out, if_pos hN]
          exact ⟨K4.out.1.trans (k6.below (fun k h => by omega) K4.out.1.size), k6.heap K4.out.2.1 (by omega), h6⟩)
        clear h6 k6 K4
        go_roundw
        case rel => exact ⟨k + 1, ax, cx, by go_num, by omega, K5⟩
        case measure => simp [intOf]; omega
      · have hN' : newR m x = false := by simpa using hN
        rw [hN']
        have K5 : Hid (Below w.heap.size w w4 ∧ w4.heap[w.heap.size]? = some (.cells #[.string ⟨#[]⟩, .int .i64 0, .int .i64 0, .int .i64 0, .string ⟨#[]⟩, .slice none 0 0] 39 (0, 0)) ∧ w4.heap[B4]? = some (rowO (leastK x0 (L.take (k + 1))) a c)) := Lib.hid (by
          rw [HS.out, if_neg hN]
          exact ⟨K4.out.1, K4.out.2.1, K4.out.2.2.1⟩)
        clear K4
        go_wp2_with fail
        go_roundw
        case rel => exact ⟨k + 1, a, c, by go_num, by omega, K5⟩
        case measure => simp [intOf]; omega
    · obtain rfl : k = L.length := by omega
      rw [List.take_length] at K1
      obtain ⟨m, hm⟩ : ∃ m, leastK x0 L = m := ⟨_, rfl⟩
      rw [hm] at K1
      have hp' : (0 : Int) < (L.length : Int) := by omega
      obtain ⟨⟨x0', x1, x2, x3, x4, x5⟩, -⟩ := six K1.out.2.2
      obtain ⟨⟨y0, y1, y2, y3, y4, y5⟩, ⟨z0, z1, z2, z3, z4, z5⟩⟩ := six K1.out.2.1
      have hb0 := K1.out.1
      have B0 := Lib.hid (p := Below w.heap.size w wr.drew) (hb0.trans ((drewB wr).mono hb0.size))
      have B1 := Lib.hid (p := ∀ v0 v1 v2 v3 v4 v5, Below w.heap.size w ((((((wr.drew.setCell ⟨w.heap.size, 0, none⟩ v0).setCell ⟨w.heap.size, 1, none⟩ v1).setCell ⟨w.heap.size, 2, none⟩ v2).setCell ⟨w.heap.size, 3, none⟩ v3).setCell ⟨w.heap.size, 4, none⟩ v4).setCell ⟨w.heap.size, 5, none⟩ v5)) (six_below B0.out (Nat.le_refl _))
      have HZ := Lib.hid (show wr.drew.heap[w.heap.size]? = some (.cells #[.string ⟨#[]⟩, .int .i64 0, .int .i64 0, .int .i64 0, .string ⟨#[]⟩, .slice none 0 0] 39 (0, 0)) from K1.out.2.1)
      have HW := Lib.hid (And.intro hb0 K1.out.2.1)
      clear hb0 AT K1
      go_wp2_with (go_region_with (first
        | (go_at_call 23
           refine (LN.out _ (by with_reducible (first | exact B0.out | exact B1.out _ _ _ _ _ _))).mono ?_
           rintro e w2 ⟨rfl, rfl⟩)
        | fail))
      all_goals
        clear x0' x1 x2 x3 x4 x5 y0 y1 y2 y3 y4 y5 z0 z1 z2 z3 z4 z5
        have h6 := six_set HW.out.2 (.string m.key) (.int .i64 m.t) (.int .i64 m.i) (.int .i64 m.q) (.string m.o) (.slice a m.len c)
        have b6 := six_below HW.out.1 (Nat.le_refl _) (.string m.key) (.int .i64 m.t) (.int .i64 m.i) (.int .i64 m.q) (.string m.o) (.slice a m.len c)
        generalize World.setCell _ (⟨w.heap.size, 5, none⟩ : Addr) _ = W6 at h6 b6 ⊢
        have Q := Lib.hid (b6.trans ((drewB W6).mono b6.size))
        obtain ⟨⟨y0, y1, y2, y3, y4, y5⟩, -⟩ := six (show W6.drew.heap[w.heap.size]? = _ from h6)
        clear h6 b6 HW HZ
        exact bodyPost_ret (v := .tuple #[.agg #[.string m.key, .int .i64 m.t, .int .i64 m.i, .int .i64 m.q, .string m.o, .slice a m.len c], .bool true]) (by simp [results, Try.results37, go_sem, y0, y1, y2, y3, y4, y5]) rfl ⟨⟨a, c, by rw [hm]; rfl⟩, Q.out⟩

end Go.Proofs.Ytikifgenfpkidaa
