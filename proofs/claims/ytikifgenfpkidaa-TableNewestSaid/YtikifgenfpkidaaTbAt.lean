/-
  No statement: at, Len, eldest of package table.
-/
import Derived.Test.YtikifgenfpkidaaTbOwn
import Derived.Test.YtikifgenfpkidaaTbDef
import Derived.Test.YtikifgenfpkidaaSCmp
namespace Go.Proofs.Ytikifgenfpkidaa
open Go.RowKit

def zeroRow : Array Value := #[.string ⟨#[]⟩, .int .i64 0, .int .i64 0, .int .i64 0, .string ⟨#[]⟩, .slice none 0 0]
theorem size_drewN (w : World) (q : Nat) : (w.drewN q).heap.size = w.heap.size := rfl

set_option maxHeartbeats 1000000 in
theorem tabLen (w : World) (p : Nat) (most : Int) (F X : Nat → Prop) (L : List RD) (h : Tab w p most F X L) :
    Calls Try.prog 23 #[.pointer (some ⟨p, 0, none⟩)] w fun e w' => e = .returned (.int .i64 (L.length : Nat)) ∧ w = w' := by
  have C := Lib.hid (tabLenM w p most F X L h)
  clear h
  go_enter Try.func23, Try.ntmps23
  go_wp2_with fail
  refine C.out.mono ?_
  rintro e w1 ⟨rfl, rfl⟩
  go_wp2_with fail
  go_ret
  exact ⟨rfl, rfl⟩

set_option maxRecDepth 100000 in
set_option maxHeartbeats 4000000 in
theorem at_any (w : World) (p i : Nat) (x : RD) (a : Option Addr) (c : Nat)
    (C : ∀ w', Below w.heap.size w w' → Calls Try.prog 64 #[.pointer (some ⟨p, 1, none⟩), .int .i64 i] w' fun e w'' => e = .returned (.tuple #[.string x.key, rowV x a c, .bool true]) ∧ Below w'.heap.size w' w'') :
    Calls Try.prog 42 #[.pointer (some ⟨p, 0, none⟩), .int .i64 i] w fun e w' => e = .returned (rowV x a c) ∧ Below w.heap.size w w' := by
  obtain ⟨key, t, i', q, o, n, A⟩ := x
  have C := Lib.hid (p := ∀ w', Below w.heap.size w w' → Calls Try.prog 64 #[.pointer (some ⟨p, 1, none⟩), .int .i64 i] w' fun e w'' => e = .returned (.tuple #[.string key, .agg #[.string key, .int .i64 t, .int .i64 i', .int .i64 q, .string o, .slice a n c], .bool true]) ∧ Below w'.heap.size w' w'') C
  show Calls Try.prog 42 #[.pointer (some ⟨p, 0, none⟩), .int .i64 i] w fun e w' => e = .returned (.agg #[.string key, .int .i64 t, .int .i64 i', .int .i64 q, .string o, .slice a n c]) ∧ Below w.heap.size w w'
  go_enter Try.func42, Try.ntmps42
  go_upto_region 1 with fail
  generalize hW : World.alloc w _ = W
  have hb : Below w.heap.size w W := by rw [← hW]; exact (Below.refl _ _).alloc (Nat.le_refl _) _
  have h0 : W.heap[w.heap.size]? = some (.cells #[.string ⟨#[]⟩, .int .i64 0, .int .i64 0, .int .i64 0, .string ⟨#[]⟩, .slice none 0 0] 39 (0, 0)) := by rw [← hW]; exact heap_alloc_new w _
  have HX := Lib.hid (And.intro hb h0)
  clear hW hb h0
  go_upto_region 2 with (go_at_call 64; refine (C.out W HX.out.1).mono ?_; rintro e w1 ⟨rfl, hb⟩)
  generalize hV : World.alloc w1 _ = V
  have hb2 : Below w1.heap.size w1 V := by rw [← hV]; exact (Below.refl _ _).alloc (Nat.le_refl _) _
  have h1 : V.heap[w1.heap.size]? = some (.cells #[.string key, .int .i64 t, .int .i64 i', .int .i64 q, .string o, .slice a n c] 39 (0, 0)) := by rw [← hV]; exact heap_alloc_new w1 _
  have hlt := lt_of_block HX.out.2
  have h0 := ((hb.trans (hb2.mono hb.size)).block _ hlt).trans HX.out.2
  have HY := Lib.hid (And.intro (HX.out.1.trans ((hb.trans (hb2.mono hb.size)).mono HX.out.1.size)) h0)
  have hsz := hb.size
  clear hV hb2 hb
  obtain ⟨⟨x0, x1, x2, x3, x4, x5⟩, -⟩ := six h1
  obtain ⟨⟨y0, y1, y2, y3, y4, y5⟩, ⟨z0, z1, z2, z3, z4, z5⟩⟩ := six h0
  have hne : w1.heap.size ≠ w.heap.size := by omega
  clear h1 h0
  go_wp2_with fail
  clear x0 x1 x2 x3 x4 x5 y0 y1 y2 y3 y4 y5 z0 z1 z2 z3 z4 z5
  have h6 := six_set HY.out.2 (.string key) (.int .i64 t) (.int .i64 i') (.int .i64 q) (.string o) (.slice a n c)
  have b6 := six_below HY.out.1 (Nat.le_refl _) (.string key) (.int .i64 t) (.int .i64 i') (.int .i64 q) (.string o) (.slice a n c)
  generalize World.setCell _ (⟨w.heap.size, 5, none⟩ : Addr) _ = W6 at h6 b6 ⊢
  have Q := Lib.hid b6
  obtain ⟨⟨y0, y1, y2, y3, y4, y5⟩, -⟩ := six h6
  clear h6 b6
  exact bodyPost_ret (v := .agg #[.string key, .int .i64 t, .int .i64 i', .int .i64 q, .string o, .slice a n c]) (by simp [results, Try.results42, go_sem, y0, y1, y2, y3, y4, y5]) rfl ⟨rfl, Q.out⟩

theorem tabAt (w : World) (p : Nat) (most : Int) (F X : Nat → Prop) (L : List RD) (i : Nat) (x : RD) (hn : L.length ≤ 1000000) (h : Tab w p most F X L) (hx : L[i]? = some x) :
    ∃ a c, RowAt w (fun k => F k ∨ X k) x a ∧ ∀ w', Below w.heap.size w w' → Calls Try.prog 42 #[.pointer (some ⟨p, 0, none⟩), .int .i64 i] w' fun e w'' => e = .returned (rowV x a c) ∧ Below w'.heap.size w' w'' := by
  obtain ⟨a, c, hr, C⟩ := tabAtM w p most F X L i x hn h hx
  exact ⟨a, c, hr, fun w' hb => at_any w' p i x a c (fun w'' hb' => C w'' (hb.trans (hb'.mono hb.size)))⟩

end Go.Proofs.Ytikifgenfpkidaa
