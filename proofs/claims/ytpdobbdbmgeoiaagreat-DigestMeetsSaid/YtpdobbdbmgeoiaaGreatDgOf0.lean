/-
  No statement: the law's own Of at a row of an older world.
-/
import Derived.Test.YtpdobbdbmgeoiaaGreatDgRow
set_option linter.unusedVariables false
set_option linter.unusedSimpArgs false
namespace Go.Proofs.YtpdobbdbmgeoiaaGreat
open Go.RowKit Go.ChangeShapes Go.WideShapes Go.Deep

/-- A row made anew, whatever becomes of what was made since w0. -/
def OfRP0 (w0 w : World) (x : RD) (e : Ending) (w' : World) : Prop := (∃ a c, e = .returned (.agg #[.string x.key, .int .i64 x.t, .int .i64 x.i, .int .i64 x.q, .string x.o, .slice a x.len c]) ∧ ∀ w3, Kept (fun k => w0.heap.size ≤ k ∧ k < w.heap.size) w' w3 → ReadsA w3 a x.len x.A) ∧ Below w.heap.size w w'

set_option maxRecDepth 100000 in
set_option maxHeartbeats 4000000 in
theorem ofR0_any (x : RD) (a : Option Addr) (c : Nat) (hn : x.len ≤ 1000) (w0 w : World) (h : ReadsA w0 a x.len x.A) (h0w : Below w0.heap.size w0 w) :
    Calls Tryz.prog 9 #[.agg #[.string x.key, .int .i64 x.t, .int .i64 x.i, .int .i64 x.q, .string x.o, .slice a x.len c]] w (OfRP0 w0 w x) := by
  have R := Lib.hid h
  have H0 := Lib.hid h0w
  have OS := Lib.hid (fun w => (show Calls Tryz.prog 41 #[.agg #[.int .i64 x.t, .int .i64 x.i, .int .i64 x.q, .string x.o]] w fun e w' => e = .returned (.agg #[.int .i64 x.t, .int .i64 x.i, .int .i64 x.q, .string x.o]) ∧ Below w.heap.size w w' by
    go_enter Tryz.func41, Tryz.ntmps41
    go_wp2_with fail
    exact bodyPost_ret (v := .agg #[.int .i64 x.t, .int .i64 x.i, .int .i64 x.q, .string x.o]) (by simp [results, Tryz.results41, go_sem]) rfl ⟨rfl, ((Below.refl _ _).alloc (Nat.le_refl _) _).alloc (by simp) _⟩))
  clear h h0w
  go_enter Tryz.func9, Tryz.ntmps9
  go_wp2_with fail
  generalize hW : World.alloc (World.alloc w _) _ = W
  have K0 : Hid (OfK w x a c W) := Lib.hid (by
    refine ⟨?_, ?_, ?_⟩
    · rw [← hW]; exact (Below.heap_alloc _ _ _ (by simp)).trans (heap_alloc_new w _)
    · rw [← hW]
      have := heap_alloc_new (w.alloc (.cells #[.string x.key, .int .i64 x.t, .int .i64 x.i, .int .i64 x.q, .string x.o, .slice a x.len c] 35)) (.cells #[.string ⟨#[]⟩, .int .i64 0, .int .i64 0, .int .i64 0, .string ⟨#[]⟩, .slice none 0 0] 44)
      rwa [World.size_alloc] at this
    · rw [← hW]; exact ((Below.refl _ _).alloc (Nat.le_refl _) _).alloc (by simp) _)
  clear hW
  have hdr : Below W.heap.size W W.drew := ⟨rfl, rfl, rfl, Nat.le_refl _, fun _ _ => rfl⟩
  have KD := Lib.hid (K0.out.kept hdr)
  clear hdr
  obtain ⟨x0, x1, x2, x3, x4, x5⟩ := sixE K0.out.box
  go_region_with (first
    | (go_at_call 41
       with_reducible refine (OS.out _).mono ?_
       rintro e w1 ⟨rfl, hb⟩
       have K1 := Lib.hid (KD.out.kept hb)
       clear x0 x1 x2 x3 x4 x5
       obtain ⟨x0, x1, x2, x3, x4, x5⟩ := sixE K1.out.box
       clear hb)
    | (go_at_call 42
       with_reducible refine (ofAttrs_any a x.len c x.A hn w0 _ R.out (H0.out.trans (K1.out.bel.mono H0.out.size))).mono ?_
       rintro e w2 ⟨⟨a2, c2, rfl, hr⟩, hb⟩
       have K2 := Lib.hid (K1.out.kept hb)
       have R2 := Lib.hid hr
       clear x0 x1 x2 x3 x4 x5
       obtain ⟨x0, x1, x2, x3, x4, x5⟩ := sixE K2.out.box
       obtain ⟨y0, y1, y2, y3, y4, y5⟩ := sixE K2.out.res
       obtain ⟨z0, z1, z2, z3, z4, z5⟩ := sixF K2.out.res
       clear hb hr)
    | fail)
  all_goals
    have S1 := Lib.hid (lt_of_block K1.out.res)
    have K3 := six_keptD w2 (w.heap.size + 1) (.string x.key) (.int .i64 x.t) (.int .i64 x.i) (.int .i64 x.q) (.string x.o) (.slice a2 x.len c2)
    have P := Lib.hid (p := OfRP0 w0 w x (.returned (.agg #[.string x.key, .int .i64 x.t, .int .i64 x.i, .int .i64 x.q, .string x.o, .slice a2 x.len c2])) ((((((w2.setCell ⟨w.heap.size + 1, 0, none⟩ (.string x.key)).setCell ⟨w.heap.size + 1, 1, none⟩ (.int .i64 x.t)).setCell ⟨w.heap.size + 1, 2, none⟩ (.int .i64 x.i)).setCell ⟨w.heap.size + 1, 3, none⟩ (.int .i64 x.q)).setCell ⟨w.heap.size + 1, 4, none⟩ (.string x.o)).setCell ⟨w.heap.size + 1, 5, none⟩ (.slice a2 x.len c2))) ⟨⟨_, _, rfl, fun w3 k3 => R2.out w3 ((K3.mono (T := fun k => w0.heap.size ≤ k ∧ k < w1.heap.size) (fun k hk _ => by have := S1.out; have := H0.out.size; subst hk; exact ⟨by omega, by omega⟩)).trans k3 (fun k hk _ => ⟨hk.1, by have := S1.out; have := hk.2; omega⟩))⟩, six_belowD K2.out.bel (by omega) _ _ _ _ _ _⟩
    clear K3 S1 K0 KD K1 K2 R2 OS R
    go_wp2
    exact bodyPost_ret (v := .agg #[.string x.key, .int .i64 x.t, .int .i64 x.i, .int .i64 x.q, .string x.o, .slice a2 x.len c2]) (by simp [results, Tryz.results9, go_sem, *]) rfl P.out

end Go.Proofs.YtpdobbdbmgeoiaaGreat
