/-
  No statement: the law's own Of: a row made anew, of the same data.
-/
import Derived.Test.YtbabkdeppcfcnaaGreatDoorXOfA
namespace Go.Proofs.YtbabkdeppcfcnaaGreatDoor
open Go.RowKit

/-- A row made anew. -/
def OfRPost (w : World) (x : RD) (e : Ending) (w' : World) : Prop := (∃ a c, e = .returned (.agg #[.string x.key, .int .i64 x.t, .int .i64 x.i, .int .i64 x.q, .string x.o, .slice a x.len c]) ∧ ReadsA w' a x.len x.A) ∧ Below w.heap.size w w'

theorem sixF {w : World} {b : Nat} {v0 v1 v2 v3 v4 v5 : Value} {t : TypeId} (h : w.heap[b]? = some (.cells #[v0, v1, v2, v3, v4, v5] t (0, 0))) :
    w.frozen? ⟨b, 0, none⟩ = false ∧ w.frozen? ⟨b, 1, none⟩ = false ∧ w.frozen? ⟨b, 2, none⟩ = false ∧ w.frozen? ⟨b, 3, none⟩ = false ∧ w.frozen? ⟨b, 4, none⟩ = false ∧ w.frozen? ⟨b, 5, none⟩ = false := by
  refine ⟨?_, ?_, ?_, ?_, ?_, ?_⟩ <;> simp [World.frozen?, h]

theorem six_other {W : World} {B k : Nat} (hne : k ≠ B) {o : Obj} (v0 v1 v2 v3 v4 v5 : Value) (h : W.heap[k]? = some o) :
    ((((((W.setCell ⟨B, 0, none⟩ v0).setCell ⟨B, 1, none⟩ v1).setCell ⟨B, 2, none⟩ v2).setCell ⟨B, 3, none⟩ v3).setCell ⟨B, 4, none⟩ v4).setCell ⟨B, 5, none⟩ v5).heap[k]? = some o := by
  rw [Below.heap_setCell _ ⟨B, 5, none⟩ v5 k hne, Below.heap_setCell _ ⟨B, 4, none⟩ v4 k hne, Below.heap_setCell _ ⟨B, 3, none⟩ v3 k hne, Below.heap_setCell _ ⟨B, 2, none⟩ v2 k hne, Below.heap_setCell _ ⟨B, 1, none⟩ v1 k hne, Below.heap_setCell _ ⟨B, 0, none⟩ v0 k hne]
  exact h

theorem six_below {b : Nat} {A W : World} {B : Nat} (h : Below b A W) (hB : b ≤ B) (v0 v1 v2 v3 v4 v5 : Value) :
    Below b A ((((((W.setCell ⟨B, 0, none⟩ v0).setCell ⟨B, 1, none⟩ v1).setCell ⟨B, 2, none⟩ v2).setCell ⟨B, 3, none⟩ v3).setCell ⟨B, 4, none⟩ v4).setCell ⟨B, 5, none⟩ v5) :=
  (((((h.setCell (p := ⟨B, 0, none⟩) hB v0).setCell (p := ⟨B, 1, none⟩) hB v1).setCell (p := ⟨B, 2, none⟩) hB v2).setCell (p := ⟨B, 3, none⟩) hB v3).setCell (p := ⟨B, 4, none⟩) hB v4).setCell (p := ⟨B, 5, none⟩) hB v5

theorem six_kept (W : World) (B : Nat) (v0 v1 v2 v3 v4 v5 : Value) : Kept (fun k => k = B) W ((((((W.setCell ⟨B, 0, none⟩ v0).setCell ⟨B, 1, none⟩ v1).setCell ⟨B, 2, none⟩ v2).setCell ⟨B, 3, none⟩ v3).setCell ⟨B, 4, none⟩ v4).setCell ⟨B, 5, none⟩ v5) :=
  ((((((Kept.refl (fun k => k = B) W).setCell (S := fun k => k = B) (p := ⟨B, 0, none⟩) (.inl rfl) v0).setCell (S := fun k => k = B) (p := ⟨B, 1, none⟩) (.inl rfl) v1).setCell (S := fun k => k = B) (p := ⟨B, 2, none⟩) (.inl rfl) v2).setCell (S := fun k => k = B) (p := ⟨B, 3, none⟩) (.inl rfl) v3).setCell (S := fun k => k = B) (p := ⟨B, 4, none⟩) (.inl rfl) v4).setCell (S := fun k => k = B) (p := ⟨B, 5, none⟩) (.inl rfl) v5

/-- What the walk of Of keeps: the row's box, and the cell of what it answers. -/
structure OfK (w0 : World) (x : RD) (a : Option Addr) (c : Nat) (w : World) : Prop where
  box : w.heap[w0.heap.size]? = some (.cells #[.string x.key, .int .i64 x.t, .int .i64 x.i, .int .i64 x.q, .string x.o, .slice a x.len c] 26 (0, 0))
  res : w.heap[w0.heap.size + 1]? = some (.cells #[.string ⟨#[]⟩, .int .i64 0, .int .i64 0, .int .i64 0, .string ⟨#[]⟩, .slice none 0 0] 33 (0, 0))
  bel : Below w0.heap.size w0 w

theorem OfK.kept {w0 w w' : World} {x : RD} {a : Option Addr} {c : Nat} (h : OfK w0 x a c w) (hb : Below w.heap.size w w') : OfK w0 x a c w' :=
  ⟨(hb.block _ (lt_of_block h.box)).trans h.box, (hb.block _ (lt_of_block h.res)).trans h.res, h.bel.trans (hb.mono (by have := lt_of_block h.box; omega))⟩

set_option maxRecDepth 100000 in
set_option maxHeartbeats 4000000 in
theorem ofR_any (x : RD) (a : Option Addr) (c : Nat) (hn : x.len ≤ 1000) (w : World) (h : ReadsA w a x.len x.A) :
    Calls Tryz.prog 9 #[.agg #[.string x.key, .int .i64 x.t, .int .i64 x.i, .int .i64 x.q, .string x.o, .slice a x.len c]] w (OfRPost w x) := by
  have R := Lib.hid h
  have OS := Lib.hid (fun w => (show Calls Tryz.prog 34 #[.agg #[.int .i64 x.t, .int .i64 x.i, .int .i64 x.q, .string x.o]] w fun e w' => e = .returned (.agg #[.int .i64 x.t, .int .i64 x.i, .int .i64 x.q, .string x.o]) ∧ Below w.heap.size w w' by
    go_enter Tryz.func34, Tryz.ntmps34
    go_wp2_with fail
    exact bodyPost_ret (v := .agg #[.int .i64 x.t, .int .i64 x.i, .int .i64 x.q, .string x.o]) (by simp [results, Tryz.results34, go_sem]) rfl ⟨rfl, ((Below.refl _ _).alloc (Nat.le_refl _) _).alloc (by simp) _⟩))
  clear h
  go_enter Tryz.func9, Tryz.ntmps9
  go_wp2_with fail
  generalize hW : World.alloc (World.alloc w _) _ = W
  have K0 : Hid (OfK w x a c W) := Lib.hid (by
    refine ⟨?_, ?_, ?_⟩
    · rw [← hW]; exact (Below.heap_alloc _ _ _ (by simp)).trans (heap_alloc_new w _)
    · rw [← hW]
      have := heap_alloc_new (w.alloc (.cells #[.string x.key, .int .i64 x.t, .int .i64 x.i, .int .i64 x.q, .string x.o, .slice a x.len c] 26)) (.cells #[.string ⟨#[]⟩, .int .i64 0, .int .i64 0, .int .i64 0, .string ⟨#[]⟩, .slice none 0 0] 33)
      rwa [World.size_alloc] at this
    · rw [← hW]; exact ((Below.refl _ _).alloc (Nat.le_refl _) _).alloc (by simp) _)
  clear hW
  have hdr : Below W.heap.size W W.drew := ⟨rfl, rfl, rfl, Nat.le_refl _, fun _ _ => rfl⟩
  have KD := Lib.hid (K0.out.kept hdr)
  clear hdr
  obtain ⟨x0, x1, x2, x3, x4, x5⟩ := six K0.out.box
  go_region_with (first
    | (go_at_call 34
       with_reducible refine (OS.out _).mono ?_
       rintro e w1 ⟨rfl, hb⟩
       have K1 := Lib.hid (KD.out.kept hb)
       clear x0 x1 x2 x3 x4 x5
       obtain ⟨x0, x1, x2, x3, x4, x5⟩ := six K1.out.box
       clear hb)
    | (go_at_call 17
       with_reducible refine (ofAttrs_any a x.len c x.A hn w _ R.out K1.out.bel).mono ?_
       rintro e w2 ⟨⟨a2, c2, rfl, hr⟩, hb⟩
       have K2 := Lib.hid (K1.out.kept hb)
       have R2 := Lib.hid hr
       clear x0 x1 x2 x3 x4 x5
       obtain ⟨x0, x1, x2, x3, x4, x5⟩ := six K2.out.box
       obtain ⟨y0, y1, y2, y3, y4, y5⟩ := six K2.out.res
       obtain ⟨z0, z1, z2, z3, z4, z5⟩ := sixF K2.out.res
       clear hb hr)
    | fail)
  all_goals
    have S1 := Lib.hid (lt_of_block K1.out.res)
    have K3 := six_kept w2 (w.heap.size + 1) (.string x.key) (.int .i64 x.t) (.int .i64 x.i) (.int .i64 x.q) (.string x.o) (.slice a2 x.len c2)
    have P := Lib.hid (p := OfRPost w x (.returned (.agg #[.string x.key, .int .i64 x.t, .int .i64 x.i, .int .i64 x.q, .string x.o, .slice a2 x.len c2])) ((((((w2.setCell ⟨w.heap.size + 1, 0, none⟩ (.string x.key)).setCell ⟨w.heap.size + 1, 1, none⟩ (.int .i64 x.t)).setCell ⟨w.heap.size + 1, 2, none⟩ (.int .i64 x.i)).setCell ⟨w.heap.size + 1, 3, none⟩ (.int .i64 x.q)).setCell ⟨w.heap.size + 1, 4, none⟩ (.string x.o)).setCell ⟨w.heap.size + 1, 5, none⟩ (.slice a2 x.len c2))) ⟨⟨_, _, rfl, R2.out _ (K3.mono (fun k hk _ => by have := S1.out; subst hk; omega))⟩, six_below K2.out.bel (by omega) _ _ _ _ _ _⟩
    clear K3 S1 K0 KD K1 K2 R2 OS R
    go_wp2
    exact bodyPost_ret (v := .agg #[.string x.key, .int .i64 x.t, .int .i64 x.i, .int .i64 x.q, .string x.o, .slice a2 x.len c2]) (by simp [results, Tryz.results9, go_sem, *]) rfl P.out

end Go.Proofs.YtbabkdeppcfcnaaGreatDoor
