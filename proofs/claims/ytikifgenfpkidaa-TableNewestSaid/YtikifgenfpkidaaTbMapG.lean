/-
  No statement: Get of sorted.Map[string, row.Row] where it lies in a table.
-/
import Derived.Test.YtikifgenfpkidaaTbRead
import Derived.Deep.Cut
namespace Go.Proofs.Ytikifgenfpkidaa
open Go.RowKit

set_option maxRecDepth 100000 in
set_option maxHeartbeats 4000000 in
theorem getInSR (w : World) (p : Nat) (most : Int) (F : Nat → Prop) (ks : List ByteArray) (vs : List RC) (x : ByteArray) (v : RC) (hn : ks.length ≤ 1000000) (hr : Rising lsS ks) (hx : x ∈ ks) (hv : vs[pos lsS ks x]? = some v) (h : MSR w p most F ks vs) :
    Calls Try.prog 36 #[.pointer (some ⟨p, 1, none⟩), .string x] w fun e w' => e = .returned (.tuple #[.agg #[.string v.key, .int .i64 v.t, .int .i64 v.i, .int .i64 v.q, .string v.o, .slice v.a v.len v.c], .bool true]) ∧ Below w.heap.size w w' := by
  obtain ⟨o, ho⟩ : ∃ o, Obj.cells #[.string ⟨#[]⟩, .int .i64 0, .int .i64 0, .int .i64 0, .string ⟨#[]⟩, .slice none 0 0] 39 = o := ⟨_, rfl⟩
  have hkb : Kept (fun _ => False) w (w.alloc o) := (Kept.refl _ w).alloc o
  obtain ⟨ka, kc, c0, hL⟩ := lookSR (h.kept hkb (fun _ _ h => h)) hn hr x
  have hk := (List.getElem?_eq_some_iff.1 ((mem_iff_pos strictS hr).1 hx)).1
  obtain ⟨i, hI⟩ : ∃ i, pos lsS ks x = i := ⟨_, rfl⟩
  have HL := Lib.hid (hL i true hI ((has_iff ks x).2 hx))
  rw [hI] at hk hv
  have hpl := h.lt
  obtain ⟨kv, vv, h0, h1, h2, _, _, _, f0, _, f2, _⟩ := h
  obtain ⟨g, c, cur, rfl, hg, hs, hnc, hm, ht, hx2⟩ := ownsM_block h2 (by simp; omega)
  have c1 := cell2_of_three h0
  simp only [List.length_map] at c1
  have fl : ∀ r u, r < 6 → v.cs[r]? = some u → w.cell? ⟨g, i * 6 + r, none⟩ = some u := fun r u hr hu => owns_cell hg ht (by rw [flatR_at hv hr]; exact hu)
  have e0 := fl 0 _ (by omega) rfl
  have e1 := fl 1 _ (by omega) rfl
  have e2 := fl 2 _ (by omega) rfl
  have e3 := fl 3 _ (by omega) rfl
  have e4 := fl 4 _ (by omega) rfl
  have e5 := fl 5 _ (by omega) rfl
  have hi' : (i : Int) < (ks.length : Int) := by omega
  have h0i : (0 : Int) ≤ (i : Int) := by omega
  have hpw := hpl p f0
  have hgw := lt_of_block hg
  clear h0 h1 h2 hv hg hs ht hnc hm hk hx2 fl hpl f0 f2 hL hI hr hx hkb
  generalize ks.length = n at *
  subst ho
  go_enter Try.func36, Try.ntmps36
  go_upto_region 1 with fail
  generalize hW : World.alloc w _ = W at c0 HL ⊢
  have bl : Below w.heap.size w W := by rw [← hW]; exact (Below.refl _ _).alloc (Nat.le_refl _) _
  have hres : W.heap[w.heap.size]? = some (.cells #[.string ⟨#[]⟩, .int .i64 0, .int .i64 0, .int .i64 0, .string ⟨#[]⟩, .slice none 0 0] 39 (0, 0)) := by rw [← hW]; exact heap_alloc_new w _
  have hs : W.heap.size = w.heap.size + 1 := by rw [← hW]; simp
  have c1' := (bl.cell (p := ⟨p, 2, none⟩) hpw).trans c1
  have e0' := (bl.cell (p := ⟨g, i * 6 + 0, none⟩) hgw).trans e0
  have e1' := (bl.cell (p := ⟨g, i * 6 + 1, none⟩) hgw).trans e1
  have e2' := (bl.cell (p := ⟨g, i * 6 + 2, none⟩) hgw).trans e2
  have e3' := (bl.cell (p := ⟨g, i * 6 + 3, none⟩) hgw).trans e3
  have e4' := (bl.cell (p := ⟨g, i * 6 + 4, none⟩) hgw).trans e4
  have e5' := (bl.cell (p := ⟨g, i * 6 + 5, none⟩) hgw).trans e5
  rw [Nat.add_zero] at e0'
  obtain ⟨⟨y0, y1, y2, y3, y4, y5⟩, ⟨z0, z1, z2, z3, z4, z5⟩⟩ := six hres
  have HX := Lib.hid (And.intro bl hres)
  clear hW bl hres c1 e0 e1 e2 e3 e4 e5
  go_wp2_with (go_at_call 58; refine HL.out.mono ?_; rintro e w' ⟨rfl, q, rfl⟩)
  clear y0 y1 y2 y3 y4 y5 e0' e1' e2' e3' e4' e5' c1' z0 z1 z2 z3 z4 z5 c0
  have hb6 := six_below (W := W.drewN q) (HX.out.1.trans (show Below w.heap.size W (W.drewN q) from ⟨rfl, rfl, rfl, Nat.le_refl _, fun _ _ => rfl⟩)) (Nat.le_refl _) (.string v.key) (.int .i64 v.t) (.int .i64 v.i) (.int .i64 v.q) (.string v.o) (.slice v.a v.len v.c)
  have h6 := six_set (w := W.drewN q) HX.out.2 (.string v.key) (.int .i64 v.t) (.int .i64 v.i) (.int .i64 v.q) (.string v.o) (.slice v.a v.len v.c)
  generalize World.setCell _ (⟨w.heap.size, 5, none⟩ : Addr) _ = W6 at h6 hb6 ⊢
  have P := Lib.hid hb6
  obtain ⟨⟨y0, y1, y2, y3, y4, y5⟩, -⟩ := six h6
  clear hb6 h6 HX
  exact bodyPost_ret (v := .tuple #[.agg #[.string v.key, .int .i64 v.t, .int .i64 v.i, .int .i64 v.q, .string v.o, .slice v.a v.len v.c], .bool true]) (by simp [results, Try.results36, go_sem, y0, y1, y2, y3, y4, y5]) rfl ⟨rfl, P.out⟩

set_option maxRecDepth 100000 in
set_option maxHeartbeats 4000000 in
theorem getOutSR (w : World) (p : Nat) (most : Int) (F : Nat → Prop) (ks : List ByteArray) (vs : List RC) (x : ByteArray) (hn : ks.length ≤ 1000000) (hr : Rising lsS ks) (hx : x ∉ ks) (h : MSR w p most F ks vs) :
    Calls Try.prog 36 #[.pointer (some ⟨p, 1, none⟩), .string x] w fun e w' => e = .returned (.tuple #[.agg #[.string ⟨#[]⟩, .int .i64 0, .int .i64 0, .int .i64 0, .string ⟨#[]⟩, .slice none 0 0], .bool false]) ∧ Below w.heap.size w w' := by
  obtain ⟨o, ho⟩ : ∃ o, Obj.cells #[.string ⟨#[]⟩, .int .i64 0, .int .i64 0, .int .i64 0, .string ⟨#[]⟩, .slice none 0 0] 39 = o := ⟨_, rfl⟩
  have hkb : Kept (fun _ => False) w (w.alloc o) := (Kept.refl _ w).alloc o
  obtain ⟨ka, kc, c0, hL⟩ := lookSR (h.kept hkb (fun _ _ h => h)) hn hr x
  obtain ⟨i, hI⟩ : ∃ i, pos lsS ks x = i := ⟨_, rfl⟩
  have HL := Lib.hid (hL i false hI (has_no hx))
  clear h hL hI hr hx hkb
  generalize ks.length = n at *
  subst ho
  go_enter Try.func36, Try.ntmps36
  go_upto_region 1 with fail
  generalize hW : World.alloc w _ = W at c0 HL ⊢
  have bl : Below w.heap.size w W := by rw [← hW]; exact (Below.refl _ _).alloc (Nat.le_refl _) _
  have hres : W.heap[w.heap.size]? = some (.cells #[.string ⟨#[]⟩, .int .i64 0, .int .i64 0, .int .i64 0, .string ⟨#[]⟩, .slice none 0 0] 39 (0, 0)) := by rw [← hW]; exact heap_alloc_new w _
  have HX := Lib.hid (And.intro bl hres)
  clear hW bl hres
  go_upto_region 4 with (go_at_call 58; refine HL.out.mono ?_; rintro e w' ⟨rfl, q, rfl⟩)
  generalize hV : World.alloc (World.drewN W q) _ = V
  have bv : Below W.heap.size W V := by rw [← hV]; exact (show Below W.heap.size W (W.drewN q) from ⟨rfl, rfl, rfl, Nat.le_refl _, fun _ _ => rfl⟩).alloc (Nat.le_refl _) _
  have hv : V.heap[W.heap.size]? = some (.cells #[.string ⟨#[]⟩, .int .i64 0, .int .i64 0, .int .i64 0, .string ⟨#[]⟩, .slice none 0 0] 39 (0, 0)) := by rw [← hV]; exact heap_alloc_new (W.drewN q) _
  have hres := (bv.block _ (lt_of_block HX.out.2)).trans HX.out.2
  have hvb := Lib.hid (And.intro (HX.out.1.trans (bv.mono HX.out.1.size)) hres)
  obtain ⟨⟨x0, x1, x2, x3, x4, x5⟩, -⟩ := six hv
  obtain ⟨⟨y0, y1, y2, y3, y4, y5⟩, ⟨z0, z1, z2, z3, z4, z5⟩⟩ := six hres
  clear hV bv hv hres HX c0
  go_wp2_with fail
  clear x0 x1 x2 x3 x4 x5 y0 y1 y2 y3 y4 y5 z0 z1 z2 z3 z4 z5
  have hb6 := six_below (W := V) hvb.out.1 (Nat.le_refl _) (.string ⟨#[]⟩) (.int .i64 0) (.int .i64 0) (.int .i64 0) (.string ⟨#[]⟩) (.slice none 0 0)
  have h6 := six_set (w := V) hvb.out.2 (.string ⟨#[]⟩) (.int .i64 0) (.int .i64 0) (.int .i64 0) (.string ⟨#[]⟩) (.slice none 0 0)
  generalize World.setCell _ (⟨w.heap.size, 5, none⟩ : Addr) _ = W6 at h6 hb6 ⊢
  have P := Lib.hid hb6
  obtain ⟨⟨y0, y1, y2, y3, y4, y5⟩, -⟩ := six h6
  clear hb6 h6
  exact bodyPost_ret (v := .tuple #[.agg #[.string ⟨#[]⟩, .int .i64 0, .int .i64 0, .int .i64 0, .string ⟨#[]⟩, .slice none 0 0], .bool false]) (by simp [results, Try.results36, go_sem, y0, y1, y2, y3, y4, y5]) rfl ⟨rfl, P.out⟩

end Go.Proofs.Ytikifgenfpkidaa
