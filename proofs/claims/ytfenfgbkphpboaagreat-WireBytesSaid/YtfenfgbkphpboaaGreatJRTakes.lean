/-
  No statement: the document's own code takes a row, rows from bytes.
-/
import Derived.Test.YtfenfgbkphpboaaGreatJTakes
import Derived.Test.YtfenfgbkphpboaaGreatRDecs
import Derived.Test.YtfenfgbkphpboaaGreatJAppM
import Derived.Deep.RegionLaw
import Derived.OrdersHeld
import Derived.NoCompiler
import Derived.Test.YtfenfgbkphpboaaGreatJOpens
import Derived.Test.YtfenfgbkphpboaaGreatCRSeal
import Derived.Test.YtfenfgbkphpboaaGreatXCheck
import Derived.Test.YtfenfgbkphpboaaGreatJLists
import Derived.BigQuiet
namespace Go.Proofs.YtfenfgbkphpboaaGreat
open Go.RowKit
variable {N : Nat}

/-- The document's Dec since w0, told by the program's. -/
structure RT (N : Nat) (w0 w : World) (p : Nat) (B : List UInt8) (d : DS) : Prop where
  h : ∃ k bad, RDecH N w p B k bad ∧ SameD B k bad d
  k : Kept (· = p) w0 w
  lt : p < w0.heap.size
  b : B.length ≤ 1000000

section
variable {w0 w w' : World} {p : Nat} {B : List UInt8} {d d' : DS}
theorem RDecH.le {k : Nat} {bad : Int} (h : RDecH N w p B k bad) : N ≤ p := by obtain ⟨_, _, _, _, _, h⟩ := h; exact h
theorem RT.own (h : RT N w0 w p B d) (hk : Kept (fun k => w0.heap.size ≤ k) w w') : RT N w0 w' p B d := by
  obtain ⟨⟨k, bad, hd, hs⟩, hk0, hlt, hb⟩ := h
  exact ⟨⟨k, bad, hd.kept hk (by omega) (fun i hi => by have := hd.le; omega), hs⟩, hk0.trans hk (fun i hi hl => by omega), hlt, hb⟩
theorem RT.below (h : RT N w0 w p B d) (hb : Below w.heap.size w w') : RT N w0 w' p B d :=
  h.own ((keptBelow hb).mono (fun k hk _ => by have := h.k.size; omega))
theorem RT.alloc (h : RT N w0 w p B d) (o : Obj) : RT N w0 (w.alloc o) p B d := h.below (below_new w o)
theorem RT.sets (h : RT N w0 w p B d) {G o : Nat} (hG : w0.heap.size ≤ G) (vs : List Value) : RT N w0 (w.setCells G o vs) p B d :=
  h.own ((kept_setCells G vs o w).mono (fun k hk _ => by subst hk; exact hG))
theorem RT.set (h : RT N w0 w p B d) {G i : Nat} (hG : w0.heap.size ≤ G) (u : Value) : RT N w0 (w.setCell ⟨G, i, none⟩ u) p B d := h.sets hG [u]
theorem RT.step {r : Value} {e : Ending} (h : RT N w0 w p B d) (hr : RSame N w p B r d' e w') : e = .returned r ∧ RT N w0 w' p B d' ∧ Kept (· = p) w w' := by
  obtain ⟨k, bad, he, hd, hs, hk⟩ := hr
  exact ⟨he, ⟨⟨k, bad, hd, hs⟩, h.k.trans hk (fun _ h _ => h), h.lt, h.b⟩, hk⟩
theorem RT.again (h : RT N w0 w p B d) (hr : RT N w w' p B d') : RT N w0 w' p B d' := ⟨hr.h, h.k.trans hr.k (fun _ h _ => h), h.lt, h.b⟩
theorem RT.start (h : RT N w0 w p B d) : RT N w w p B d := ⟨h.h, Kept.refl _ _, Nat.lt_of_lt_of_le h.lt h.k.size, h.b⟩
theorem RT.block (h : RT N w0 w p B d) (hk : Kept (· = p) w w') {G : Nat} {o : Obj} (hG : w0.heap.size ≤ G) (ho : w.heap[G]? = some o) : w'.heap[G]? = some o :=
  hk.heap ho (fun e => by have := h.lt; subst e; omega)
theorem RT.bad (h : RT N w0 w p B d) : w.cell? ⟨p, 2, none⟩ = some (.int .i64 d.2) := by
  obtain ⟨k, bad, hd, hs⟩ := h.h
  rw [hs.2.1]; exact hd.bad
theorem RT.int (h : RT N w0 w p B d) : Calls Tryz.prog 82 #[.pointer (some ⟨p, 0, none⟩)] w fun e w' => e = .returned (.int .i64 (dInt d).1) ∧ RT N w0 w' p B (dInt d).2 ∧ Kept (· = p) w w' := by
  obtain ⟨k, bad, hd, hs⟩ := h.h
  exact (rIntS_any p B k bad d hs h.b w hd).mono fun _ _ hP => h.step hP
theorem RT.text (h : RT N w0 w p B d) : Calls Tryz.prog 79 #[.pointer (some ⟨p, 0, none⟩)] w fun e w' => e = .returned (.string ⟨(dText d).1.toArray⟩) ∧ RT N w0 w' p B (dText d).2 ∧ Kept (· = p) w w' := by
  obtain ⟨k, bad, hd, hs⟩ := h.h
  exact (rText_any p B k bad d hs h.b w hd).mono fun _ _ hP => h.step hP
theorem RT.many (h : RT N w0 w p B d) (most : Int) (hm : -9223372036854775808 ≤ most ∧ most ≤ 9223372036854775807) : Calls Tryz.prog 45 #[.pointer (some ⟨p, 0, none⟩), .int .i64 most] w fun e w' => e = .returned (.int .i64 (dNum 0 most d).1) ∧ RT N w0 w' p B (dNum 0 most d).2 ∧ Kept (· = p) w w' := by
  obtain ⟨k, bad, hd, hs⟩ := h.h
  exact (rMany_any p B k bad d most hm hs h.b w hd).mono fun _ _ hP => h.step hP
end

theorem oneI (l : List Int) : ∀ x ∈ l.map (Value.int .i64), x.oneCell' = true := by
  intro x hx
  obtain ⟨z, -, rfl⟩ := List.mem_map.1 hx
  rfl
theorem grown_new {w w' : World} {o b : Obj} {row : Option Nat} {i : Nat} (hg : (w.alloc o).grownBy w' row) (hi : w.heap[i]? = some b) (hne : ∀ q, row = some q → q ≠ i) : w'.heap[i]? = some b := by
  have h1 := lt_of_block hi
  have h2 : i < (w.alloc o).heap.size := by rw [World.size_alloc]; omega
  rw [hg.block i h2 (fun e => hne _ e.symm rfl)]
  exact ((below_new w o).block i h1).trans hi

theorem keptSet4 (w : World) (B : Nat) (v0 v1 v2 v3 : Value) : Kept (· = B) w ((((w.setCell ⟨B, 0, none⟩ v0).setCell ⟨B, 1, none⟩ v1).setCell ⟨B, 2, none⟩ v2).setCell ⟨B, 3, none⟩ v3) := kept4 w B v0 v1 v2 v3

/-- A value made since w by the document's Dec. -/
def RV (N : Nat) (w : World) (p : Nat) (B : List UInt8) (x : AD) (d : DS) (e : Ending) (w' : World) : Prop :=
  (∃ y c, e = .returned (.agg #[.int .i64 x.k, .int .i64 x.n, .string x.s, .slice y x.len c]) ∧ ReadsG (fun k => w.heap.size ≤ k) w' y x.len x.z) ∧ RT N w w' p B d

set_option maxHeartbeats 8000000 in
set_option maxRecDepth 100000 in
theorem rValueD_any (p : Nat) (B : List UInt8) (d : DS) (w : World) (h : RT N w w p B d) :
    Calls Tryz.prog 81 #[.pointer (some ⟨p, 0, none⟩)] w (RV N w p B (dVal d).1 (dVal d).2) := by
  obtain ⟨i0, hi, hz0, hz1, hz2⟩ := info_parts infoI
  have und : Tryz.prog.underlying 59 = some (.slice 2) := Tryz.underlying59
  have hd2 : (dVal d).2 = (dKind (dInt d).1 (dInt d).2).2 := orZ2 _ _
  have hd1 : (dVal d).1 = (orZ zA (dKind (dInt d).1 (dInt d).2)).1 := rfl
  rw [hd2, hd1]
  clear hd2 hd1
  have IN0 := Lib.hid (fun W (hd : RT N w W p B d) => hd.int)
  obtain ⟨⟨k, D1⟩, hk1⟩ : ∃ r, dInt d = r := ⟨_, rfl⟩
  rw [hk1] at IN0 ⊢
  simp only at IN0 ⊢
  obtain ⟨X, hX⟩ : ∃ X, orZ zA (dKind k D1) = X := ⟨_, rfl⟩
  have hX2 : (dKind k D1).2 = X.2 := by rw [← hX]; exact (orZ2 _ _).symm
  rw [hX, hX2]
  have HX := Lib.hid hX
  clear hk1 hX hX2
  go_enter Tryz.func81, Tryz.ntmps81
  go_upto_region 1 with fail
  generalize hW : World.alloc w _ = W
  have T0 := Lib.hid (show RT N w W p B d by rw [← hW]; exact h.alloc _)
  have Z0 := Lib.hid (show W.heap[w.heap.size]? = some (.cells #[.int .i64 0, .int .i64 0, .string ⟨#[]⟩, .slice none 0 0] 109 (0, 0)) by rw [← hW]; exact heap_alloc_new w _)
  have IN := Lib.hid (IN0.out W T0.out)
  clear hW h IN0
  go_wp2_with fail
  refine IN.out.mono ?_
  rintro e w2 ⟨rfl, T2, hk⟩
  have T2 := Lib.hid T2
  have Z2 := Lib.hid (T0.out.block hk (Nat.le_refl _) Z0.out)
  clear hk T0 Z0 IN
  go_upto_region 2 with fail
  generalize hW : World.alloc w2 _ = W3
  have T3 := Lib.hid (show RT N w W3 p B D1 by rw [← hW]; exact T2.out.alloc _)
  have Z3 := Lib.hid (show W3.heap[w.heap.size]? = some (.cells #[.int .i64 0, .int .i64 0, .string ⟨#[]⟩, .slice none 0 0] 109 (0, 0)) by rw [← hW]; exact ((below_new w2 _).block _ (lt_of_block Z2.out)).trans Z2.out)
  have V3 : W3.heap[w2.heap.size]? = some (.cells #[.int .i64 k, .int .i64 0, .string ⟨#[]⟩, .slice none 0 0] 109 (0, 0)) := by rw [← hW]; exact heap_alloc_new w2 _
  have hBw : w.heap.size < w2.heap.size := lt_of_block Z2.out
  obtain ⟨G, hG⟩ : ∃ B, w2.heap.size = B := ⟨_, rfl⟩
  rw [hG] at V3 hBw
  rw [hG]
  have HV3 := Lib.hid V3
  obtain ⟨⟨x0, x1, x2, x3⟩, ⟨f0, f1, f2, f3⟩⟩ := four V3
  clear hW T2 Z2 hG V3
  by_cases h1 : k = 1
  · subst h1
    have CA := Lib.hid (T3.out.int)
    obtain ⟨⟨v, D⟩, hv⟩ : ∃ r, dInt D1 = r := ⟨_, rfl⟩
    rw [hv] at CA
    simp only at CA
    have HK := Lib.hid (show dKind 1 D1 = (vInt v, D) by unfold dKind; rw [if_pos rfl, hv])
    clear hv
    go_wp2_with fail
    refine CA.out.mono ?_
    rintro e w4 ⟨rfl, T4, hk⟩
    have TV4 := Lib.hid T4
    have B4 := T3.out.block hk (by omega) HV3.out
    have Z4 := T3.out.block hk (Nat.le_refl _) Z3.out
    clear x0 x1 x2 x3 f0 f1 f2 f3
    obtain ⟨⟨x0, x1, x2, x3⟩, ⟨f0, f1, f2, f3⟩⟩ := four B4
    have HB4 := Lib.hid B4
    have HZ4 := Lib.hid Z4
    clear hk B4 Z4 CA
    go_upto_region 13 with fail
    generalize hV : World.setCell w4 _ _ = V
    have TV5 := Lib.hid (show RT N w V p B D by rw [← hV]; exact TV4.out.set (by omega) _)
    have VB := Lib.hid (show V.heap[G]? = some (.cells #[.int .i64 (vInt v).k, .int .i64 (vInt v).n, .string (vInt v).s, .slice none (vInt v).len 0] 109 (0, 0)) by rw [← hV]; exact four_set1 HB4.out _)
    have Z5 := Lib.hid (show V.heap[w.heap.size]? = some (.cells #[.int .i64 0, .int .i64 0, .string ⟨#[]⟩, .slice none 0 0] 109 (0, 0)) by rw [← hV, Below.heap_setCell _ ⟨G, 1, none⟩ _ _ (show w.heap.size ≠ G by omega)]; exact HZ4.out)
    have R5 := Lib.hid (show ReadsG (fun k => w.heap.size < k) V none (vInt v).len (vInt v).z from zReads _ _ _)
    clear hV x0 x1 x2 x3 f0 f1 f2 f3 HB4 HZ4 Z3 T3 HV3 TV4
    have HB := Lib.hid (TV5.out.bad)
    have cb := HB.out
    obtain ⟨⟨x0, x1, x2, x3⟩, -⟩ := four VB.out
    obtain ⟨⟨z0, z1, z2, z3⟩, ⟨f0, f1, f2, f3⟩⟩ := four Z5.out
    have T7 := Lib.hid (fun v0 v1 v2 v3 => TV5.out.sets (Nat.le_refl w.heap.size) (o := 0) [v0, v1, v2, v3])
    have K7 := Lib.hid (fun v0 v1 v2 v3 => keptSet4 V w.heap.size v0 v1 v2 v3)
    obtain ⟨D0, er⟩ := D
    simp only at cb
    by_cases her : er = 0
    · subst her
      have HXX := Lib.hid (show X = ((vInt v), (D0, 0)) by rw [← HX.out, HK.out]; unfold orZ; rw [if_pos rfl])
      have P := Lib.hid (show RV N w p B X.1 X.2 (.returned (.agg #[.int .i64 (vInt v).k, .int .i64 (vInt v).n, .string (vInt v).s, .slice none (vInt v).len 0])) ((((V.setCell ⟨w.heap.size, 0, none⟩ (.int .i64 (vInt v).k)).setCell ⟨w.heap.size, 1, none⟩ (.int .i64 (vInt v).n)).setCell ⟨w.heap.size, 2, none⟩ (.string (vInt v).s)).setCell ⟨w.heap.size, 3, none⟩ (.slice none (vInt v).len 0)) by
        rw [HXX.out]
        exact ⟨⟨none, 0, rfl, (R5.out.kept (K7.out _ _ _ _) (fun k h e => by omega)).mono (fun k h _ => by omega)⟩, T7.out _ _ _ _⟩)
      clear HXX T7 K7 R5 TV5 VB Z5 HB HK HX
      simp only [vInt] at x0 x1 x2 x3 P
      go_wp2
      exact bodyPost_ret (v := .agg #[.int .i64 (vInt v).k, .int .i64 (vInt v).n, .string (vInt v).s, .slice none (vInt v).len 0]) (by simp [results, Tryz.results81, go_sem, *, vInt]) rfl P.out
    · have her' : (er == 0) = false := by simpa using her
      have HXX := Lib.hid (show X = (zA, (D0, er)) by rw [← HX.out, HK.out]; unfold orZ; rw [if_neg her])
      have P := Lib.hid (show RV N w p B X.1 X.2 (.returned (.agg #[.int .i64 0, .int .i64 0, .string ⟨#[]⟩, .slice none 0 0])) ((((V.setCell ⟨w.heap.size, 0, none⟩ (.int .i64 0)).setCell ⟨w.heap.size, 1, none⟩ (.int .i64 0)).setCell ⟨w.heap.size, 2, none⟩ (.string ⟨#[]⟩)).setCell ⟨w.heap.size, 3, none⟩ (.slice none 0 0)) by
        rw [HXX.out]
        exact ⟨⟨none, 0, rfl, zReads _ _ _⟩, T7.out _ _ _ _⟩)
      clear her HXX T7 K7 R5 TV5 VB Z5 HB HK HX
      go_wp2
      exact bodyPost_ret (v := .agg #[.int .i64 0, .int .i64 0, .string ⟨#[]⟩, .slice none 0 0]) (by simp [results, Tryz.results81, go_sem, *]) rfl P.out
  by_cases h2 : k = 2
  · subst h2
    clear h1
    have CA := Lib.hid (T3.out.text)
    obtain ⟨⟨v, D⟩, hv⟩ : ∃ r, dText D1 = r := ⟨_, rfl⟩
    rw [hv] at CA
    simp only at CA
    have HK := Lib.hid (show dKind 2 D1 = (vText v, D) by unfold dKind; rw [if_neg (by decide), if_pos rfl, hv])
    clear hv
    go_wp2_with fail
    refine CA.out.mono ?_
    rintro e w4 ⟨rfl, T4, hk⟩
    have TV4 := Lib.hid T4
    have B4 := T3.out.block hk (by omega) HV3.out
    have Z4 := T3.out.block hk (Nat.le_refl _) Z3.out
    clear x0 x1 x2 x3 f0 f1 f2 f3
    obtain ⟨⟨x0, x1, x2, x3⟩, ⟨f0, f1, f2, f3⟩⟩ := four B4
    have HB4 := Lib.hid B4
    have HZ4 := Lib.hid Z4
    clear hk B4 Z4 CA
    go_upto_region 13 with fail
    generalize hV : World.setCell w4 _ _ = V
    have TV5 := Lib.hid (show RT N w V p B D by rw [← hV]; exact TV4.out.set (by omega) _)
    have VB := Lib.hid (show V.heap[G]? = some (.cells #[.int .i64 (vText v).k, .int .i64 (vText v).n, .string (vText v).s, .slice none (vText v).len 0] 109 (0, 0)) by rw [← hV]; exact four_set2 HB4.out _)
    have Z5 := Lib.hid (show V.heap[w.heap.size]? = some (.cells #[.int .i64 0, .int .i64 0, .string ⟨#[]⟩, .slice none 0 0] 109 (0, 0)) by rw [← hV, Below.heap_setCell _ ⟨G, 2, none⟩ _ _ (show w.heap.size ≠ G by omega)]; exact HZ4.out)
    have R5 := Lib.hid (show ReadsG (fun k => w.heap.size < k) V none (vText v).len (vText v).z from zReads _ _ _)
    clear hV x0 x1 x2 x3 f0 f1 f2 f3 HB4 HZ4 Z3 T3 HV3 TV4
    have HB := Lib.hid (TV5.out.bad)
    have cb := HB.out
    obtain ⟨⟨x0, x1, x2, x3⟩, -⟩ := four VB.out
    obtain ⟨⟨z0, z1, z2, z3⟩, ⟨f0, f1, f2, f3⟩⟩ := four Z5.out
    have T7 := Lib.hid (fun v0 v1 v2 v3 => TV5.out.sets (Nat.le_refl w.heap.size) (o := 0) [v0, v1, v2, v3])
    have K7 := Lib.hid (fun v0 v1 v2 v3 => keptSet4 V w.heap.size v0 v1 v2 v3)
    obtain ⟨D0, er⟩ := D
    simp only at cb
    by_cases her : er = 0
    · subst her
      have HXX := Lib.hid (show X = ((vText v), (D0, 0)) by rw [← HX.out, HK.out]; unfold orZ; rw [if_pos rfl])
      have P := Lib.hid (show RV N w p B X.1 X.2 (.returned (.agg #[.int .i64 (vText v).k, .int .i64 (vText v).n, .string (vText v).s, .slice none (vText v).len 0])) ((((V.setCell ⟨w.heap.size, 0, none⟩ (.int .i64 (vText v).k)).setCell ⟨w.heap.size, 1, none⟩ (.int .i64 (vText v).n)).setCell ⟨w.heap.size, 2, none⟩ (.string (vText v).s)).setCell ⟨w.heap.size, 3, none⟩ (.slice none (vText v).len 0)) by
        rw [HXX.out]
        exact ⟨⟨none, 0, rfl, (R5.out.kept (K7.out _ _ _ _) (fun k h e => by omega)).mono (fun k h _ => by omega)⟩, T7.out _ _ _ _⟩)
      clear HXX T7 K7 R5 TV5 VB Z5 HB HK HX
      simp only [vText] at x0 x1 x2 x3 P
      go_wp2
      exact bodyPost_ret (v := .agg #[.int .i64 (vText v).k, .int .i64 (vText v).n, .string (vText v).s, .slice none (vText v).len 0]) (by simp [results, Tryz.results81, go_sem, *, vText]) rfl P.out
    · have her' : (er == 0) = false := by simpa using her
      have HXX := Lib.hid (show X = (zA, (D0, er)) by rw [← HX.out, HK.out]; unfold orZ; rw [if_neg her])
      have P := Lib.hid (show RV N w p B X.1 X.2 (.returned (.agg #[.int .i64 0, .int .i64 0, .string ⟨#[]⟩, .slice none 0 0])) ((((V.setCell ⟨w.heap.size, 0, none⟩ (.int .i64 0)).setCell ⟨w.heap.size, 1, none⟩ (.int .i64 0)).setCell ⟨w.heap.size, 2, none⟩ (.string ⟨#[]⟩)).setCell ⟨w.heap.size, 3, none⟩ (.slice none 0 0)) by
        rw [HXX.out]
        exact ⟨⟨none, 0, rfl, zReads _ _ _⟩, T7.out _ _ _ _⟩)
      clear her HXX T7 K7 R5 TV5 VB Z5 HB HK HX
      go_wp2
      exact bodyPost_ret (v := .agg #[.int .i64 0, .int .i64 0, .string ⟨#[]⟩, .slice none 0 0]) (by simp [results, Tryz.results81, go_sem, *]) rfl P.out
  by_cases h3 : k = 3
  · subst h3
    clear h1 h2
    have MA := Lib.hid (T3.out.many 16 ⟨by omega, by omega⟩)
    obtain ⟨hn0, hn1⟩ := dNum_in (most := 16) (by omega) D1
    obtain ⟨⟨M, D2⟩, hM⟩ : ∃ r, dNum 0 16 D1 = r := ⟨_, rfl⟩
    have HK := Lib.hid (show dKind 3 D1 = (vList (dMany dInt M.toNat D2).1, (dMany dInt M.toNat D2).2) by unfold dKind; rw [if_neg (by decide), if_neg (by decide), if_pos rfl]; unfold dList; rw [hM])
    rw [hM] at MA hn0 hn1
    simp only at MA hn0 hn1
    obtain ⟨n, rfl⟩ := Int.eq_ofNat_of_zero_le hn0
    rw [Int.toNat_natCast] at HK
    clear hM hn0
    go_wp2_with fail
    refine MA.out.mono ?_
    rintro e w4 ⟨rfl, T4, hk⟩
    have T4 := Lib.hid T4
    have V4 := Lib.hid (T3.out.block hk (by omega) HV3.out)
    have Z4 := Lib.hid (T3.out.block hk (Nat.le_refl _) Z3.out)
    have hGW := lt_of_block V4.out
    clear hk MA x0 x1 x2 x3 f0 f1 f2 f3 T3 Z3 HV3
    go_wp2_with fail
    go_loopw [5] (fun i wr => ∃ (k : Nat) (va : Option Addr) (vc : Nat), i = .int .i64 k ∧ k ≤ n ∧ Hid (RT N w wr p B (dMany dInt k D2).2) ∧ Hid (wr.heap[w.heap.size]? = some (.cells #[.int .i64 0, .int .i64 0, .string ⟨#[]⟩, .slice none 0 0] 109 (0, 0))) ∧ Hid (wr.heap[G]? = some (.cells #[.int .i64 3, .int .i64 0, .string ⟨#[]⟩, .slice va k vc] 109 (0, 0))) ∧ Hid (w4.heap.size ≤ wr.heap.size) ∧ Hid (wr.ownsRow w4.heap.size 2 1 (.slice va k vc) k ((dMany dInt k D2).1.map (Value.int .i64)))) (fun i _ => n - (intOf i).toNat)
    case atStart => exact ⟨0, none, 0, rfl, Nat.zero_le _, T4, Z4, V4, Lib.hid (Nat.le_refl _), Lib.hid (World.ownsRow_nil _ _ _ _)⟩
    case round =>
      obtain ⟨k, va, vc, rfl, hk, hT, hZ, hV, hW4, hO⟩ := hrel
      clear T4 Z4 V4
      obtain ⟨⟨x0, x1, x2, x3⟩, ⟨f0, f1, f2, f3⟩⟩ := four hV.out
      by_cases hlt : k < n
      · have IN := Lib.hid (fun w (h : RT N w w p B (dMany dInt k D2).2) => h.int)
        have hs := dMany_succ dInt k D2
        obtain ⟨⟨L, D⟩, hD⟩ : ∃ r, dMany dInt k D2 = r := ⟨_, rfl⟩
        rw [hD] at IN hs hT hO
        simp only at IN hs hT hO
        obtain ⟨⟨v, D3⟩, hv⟩ : ∃ r, dInt D = r := ⟨_, rfl⟩
        rw [hv] at IN hs
        have HS := Lib.hid hs
        have TD := Lib.hid (show RT N w wr.drew p B D from hT.out.own ((Kept.refl _ wr).drew))
        have hwr := hT.out.k.size
        have hw4 : w4.heap.size ≤ wr.heap.size := hW4.out
        clear hD hv hs
        go_wp2_with fail
        go_region_law (first
          | (go_simp
             go_at_call 82
             with_reducible refine (IN.out _ TD.out.start).mono ?_
             rintro e w5 ⟨rfl, T5, hk5⟩
             have T5 := Lib.hid (TD.out.again T5)
             have V5 := Lib.hid (hk5.heap (w := wr.drew) hV.out (by have := hT.out.lt; omega))
             obtain ⟨⟨x0, x1, x2, x3⟩, ⟨f0, f1, f2, f3⟩⟩ := four V5.out
             have Z5 := Lib.hid (hk5.heap (w := wr.drew) hZ.out (by have := hT.out.lt; omega))
             have O5 := Lib.hid (hk5.owns (w := wr.drew) hO.out (fun q hq e => by have := (hO.out.lt q hq).1; have := hT.out.lt; omega))
             have hw45 : w4.heap.size ≤ w5.heap.size := Nat.le_trans hw4 hk5.size
             have y3 : (w5.alloc (.cells #[.int .i64 v] 2)).cell? ⟨G, 3, none⟩ = some (.slice va k vc) := (four (((below_new w5 _).block _ (lt_of_block V5.out)).trans V5.out)).1.2.2.2
             have OA := Lib.hid (show (w5.alloc (.cells #[.int .i64 v] 2)).ownsRow w4.heap.size 2 1 (.slice va k vc) k (L.map (Value.int .i64)) from World.ownsRow.alloc O5.out _)
             have FA := Lib.hid (show From (w5.alloc (.cells #[.int .i64 v] 2)) (.slice (some ⟨w5.heap.size, 0, none⟩) 1 1) 1 [.int .i64 v] from from_one (by simp))
             have BA := Lib.hid (show w4.heap.size ≤ (w5.alloc (.cells #[.int .i64 v] 2)).heap.size by rw [World.size_alloc]; omega)
             have HK5 := Lib.hid (show wr.heap.size ≤ w5.heap.size from hk5.size)
             clear hk5)
          | (refine step_append_from rfl (.tmp 31) (.tmp 34) 59 rfl (base := w4.heap.size) und hi hz0 hz1 hz2 rfl (.slice va k vc) (.slice (some ⟨w5.heap.size, 0, none⟩) 1 1) k 1 (L.map (Value.int .i64)) [.int .i64 v] (by first | (simp [Act.eval]; done) | fail) (by first | (simp [Act.eval]; done) | fail) OA.out FA.out (oneI [v]) (by unfold maxLen; omega) (by omega) BA.out ?_
             intro v6 w6 ho hg hnn
             obtain ⟨va6, c6, rfl⟩ := own_rowG ho
             have V6 := Lib.hid (grown_new hg V5.out (fun q hq e => by have := (O5.out.lt q hq).1; omega))
             have Z6 := Lib.hid (grown_new hg Z5.out (fun q hq e => by have := (O5.out.lt q hq).1; omega))
             have T6 := Lib.hid (T5.out.own (w' := w6) (((Kept.refl _ w5).alloc _).grown hg (fun q hq => .inl (show w.heap.size ≤ q by have := (O5.out.lt q hq).1; omega))))
             have O6 := Lib.hid ho
             have HK6 := Lib.hid (show w5.heap.size ≤ w6.heap.size from Nat.le_trans (by simp) hg.size)
             obtain ⟨⟨x0, x1, x2, x3⟩, ⟨f0, f1, f2, f3⟩⟩ := four V6.out
             clear ho hg hnn)
          | fail)
        all_goals
          have V7 := Lib.hid (four_set3 V6.out (.slice va6 (k + 1) c6))
          have Z7 := Lib.hid (show (w6.setCell ⟨G, 3, none⟩ (.slice va6 (k + 1) c6)).heap[w.heap.size]? = some (.cells #[.int .i64 0, .int .i64 0, .string ⟨#[]⟩, .slice none 0 0] 109 (0, 0)) by rw [Below.heap_setCell _ ⟨G, 3, none⟩ _ _ (show w.heap.size ≠ G by omega)]; exact Z6.out)
          have T7 := Lib.hid (show RT N w (w6.setCell ⟨G, 3, none⟩ (.slice va6 (k + 1) c6)) p B (dMany dInt (k + 1) D2).2 by rw [HS.out]; exact T6.out.set (by omega) _)
          have O7 := Lib.hid (show (w6.setCell ⟨G, 3, none⟩ (.slice va6 (k + 1) c6)).ownsRow w4.heap.size 2 1 (.slice va6 (k + 1) c6) (k + 1) ((dMany dInt (k + 1) D2).1.map (Value.int .i64)) by
            rw [HS.out, List.map_append]
            exact (kept_p w6 G 3 _).owns O6.out (fun q hq e => by have := (O6.out.lt q hq).1; omega))
          have HW7 := Lib.hid (show w4.heap.size ≤ (w6.setCell ⟨G, 3, none⟩ (.slice va6 (k + 1) c6)).heap.size from Nat.le_trans hw4 (Nat.le_trans (show wr.heap.size ≤ w6.heap.size from Nat.le_trans (show wr.heap.size ≤ w5.heap.size from HK5.out) HK6.out) (by simp [World.setCell])))
          clear V6 Z6 T6 O6 V5 Z5 T5 O5 OA FA BA TD IN HS hT hZ hV hO
          go_wp2_with fail
          go_roundw
          case rel => exact ⟨k + 1, va6, c6, by go_num, by omega, T7, Z7, V7, HW7, O7⟩
          case measure => simp [intOf]; omega
      · obtain rfl : k = n := by omega
        have TV5 := hT
        have VB := Lib.hid (show wr.heap[G]? = some (.cells #[.int .i64 (vList (dMany dInt k D2).1).k, .int .i64 (vList (dMany dInt k D2).1).n, .string (vList (dMany dInt k D2).1).s, .slice va (vList (dMany dInt k D2).1).len vc] 109 (0, 0)) by
          have h := hV.out
          rw [← dMany_len dInt k D2] at h
          exact h)
        have Z5 := hZ
        have R5 := Lib.hid (show ReadsG (fun k => w.heap.size < k) wr va (vList (dMany dInt k D2).1).len (vList (dMany dInt k D2).1).z from by
          have hl := dMany_len dInt k D2
          refine ⟨by show (dMany dInt k D2).1.length ≤ _; unfold maxLen; omega, ?_⟩
          rcases hO.out.2 with ⟨h1, h2⟩ | ⟨g, cap, cur, h1, hg, hgg, hn, hm, hcs, ht⟩
          · left; show (dMany dInt k D2).1.length = 0; omega
          · right
            simp only [Value.slice.injEq] at h1
            obtain ⟨rfl, -, rfl⟩ := h1
            rw [Nat.mul_one] at ht
            exact ⟨g, 0, rfl, by omega, fun j hj => by rw [Nat.zero_add]; exact owns_cell hgg ht (zL_map _ hj)⟩)
        obtain ⟨L, hL⟩ : ∃ L, (dMany dInt k D2).1 = L := ⟨_, rfl⟩
        obtain ⟨D, hDD⟩ : ∃ D, (dMany dInt k D2).2 = D := ⟨_, rfl⟩
        have HLen := Lib.hid (show L.length = k by rw [← hL]; exact dMany_len dInt k D2)
        rw [hL, hDD] at HK
        rw [hL] at VB R5
        rw [hDD] at TV5
        clear hT hZ hV hO hL hDD x0 x1 x2 x3 f0 f1 f2 f3
        have HB := Lib.hid (TV5.out.bad)
        have cb := HB.out
        obtain ⟨⟨x0, x1, x2, x3⟩, -⟩ := four VB.out
        obtain ⟨⟨z0, z1, z2, z3⟩, ⟨f0, f1, f2, f3⟩⟩ := four Z5.out
        have T7 := Lib.hid (fun v0 v1 v2 v3 => TV5.out.sets (Nat.le_refl w.heap.size) (o := 0) [v0, v1, v2, v3])
        have K7 := Lib.hid (fun v0 v1 v2 v3 => keptSet4 wr w.heap.size v0 v1 v2 v3)
        obtain ⟨D0, er⟩ := D
        simp only at cb
        by_cases her : er = 0
        · subst her
          have HXX := Lib.hid (show X = ((vList L), (D0, 0)) by rw [← HX.out, HK.out]; unfold orZ; rw [if_pos rfl])
          have P := Lib.hid (show RV N w p B X.1 X.2 (.returned (.agg #[.int .i64 (vList L).k, .int .i64 (vList L).n, .string (vList L).s, .slice va (vList L).len vc])) ((((wr.setCell ⟨w.heap.size, 0, none⟩ (.int .i64 (vList L).k)).setCell ⟨w.heap.size, 1, none⟩ (.int .i64 (vList L).n)).setCell ⟨w.heap.size, 2, none⟩ (.string (vList L).s)).setCell ⟨w.heap.size, 3, none⟩ (.slice va (vList L).len vc)) by
            rw [HXX.out]
            exact ⟨⟨va, vc, rfl, (R5.out.kept (K7.out _ _ _ _) (fun k h e => by omega)).mono (fun k h _ => by omega)⟩, T7.out _ _ _ _⟩)
          clear HXX T7 K7 R5 TV5 VB Z5 HB HK HX
          simp only [vList] at x0 x1 x2 x3 P
          go_wp2
          exact bodyPost_ret (v := .agg #[.int .i64 (vList L).k, .int .i64 (vList L).n, .string (vList L).s, .slice va (vList L).len vc]) (by simp [results, Tryz.results81, go_sem, *, vList]) rfl P.out
        · have her' : (er == 0) = false := by simpa using her
          have HXX := Lib.hid (show X = (zA, (D0, er)) by rw [← HX.out, HK.out]; unfold orZ; rw [if_neg her])
          have P := Lib.hid (show RV N w p B X.1 X.2 (.returned (.agg #[.int .i64 0, .int .i64 0, .string ⟨#[]⟩, .slice none 0 0])) ((((wr.setCell ⟨w.heap.size, 0, none⟩ (.int .i64 0)).setCell ⟨w.heap.size, 1, none⟩ (.int .i64 0)).setCell ⟨w.heap.size, 2, none⟩ (.string ⟨#[]⟩)).setCell ⟨w.heap.size, 3, none⟩ (.slice none 0 0)) by
            rw [HXX.out]
            exact ⟨⟨none, 0, rfl, zReads _ _ _⟩, T7.out _ _ _ _⟩)
          clear her HXX T7 K7 R5 TV5 VB Z5 HB HK HX
          go_wp2
          exact bodyPost_ret (v := .agg #[.int .i64 0, .int .i64 0, .string ⟨#[]⟩, .slice none 0 0]) (by simp [results, Tryz.results81, go_sem, *]) rfl P.out
  have e1 : (k == 1) = false := by simpa using h1
  have e2 : (k == 2) = false := by simpa using h2
  have e3 : (k == 3) = false := by simpa using h3
  have HK := Lib.hid (show dKind k D1 = (vNone k, D1) by unfold dKind; rw [if_neg h1, if_neg h2, if_neg h3])
  have TV5 := T3
  have VB := Lib.hid (show W3.heap[G]? = some (.cells #[.int .i64 (vNone k).k, .int .i64 (vNone k).n, .string (vNone k).s, .slice none (vNone k).len 0] 109 (0, 0)) from HV3.out)
  have Z5 := Z3
  have R5 := Lib.hid (show ReadsG (fun k => w.heap.size < k) W3 none (vNone k).len (vNone k).z from zReads _ _ _)
  clear h1 h2 h3 x0 x1 x2 x3 f0 f1 f2 f3 Z3 T3 HV3
  have HB := Lib.hid (TV5.out.bad)
  have cb := HB.out
  obtain ⟨⟨x0, x1, x2, x3⟩, -⟩ := four VB.out
  obtain ⟨⟨z0, z1, z2, z3⟩, ⟨f0, f1, f2, f3⟩⟩ := four Z5.out
  have T7 := Lib.hid (fun v0 v1 v2 v3 => TV5.out.sets (Nat.le_refl w.heap.size) (o := 0) [v0, v1, v2, v3])
  have K7 := Lib.hid (fun v0 v1 v2 v3 => keptSet4 W3 w.heap.size v0 v1 v2 v3)
  simp only [vNone] at x0 x1 x2 x3
  obtain ⟨D0, er⟩ := D1
  simp only at cb
  by_cases her : er = 0
  · subst her
    have HXX := Lib.hid (show X = ((vNone k), (D0, 0)) by rw [← HX.out, HK.out]; unfold orZ; rw [if_pos rfl])
    have P := Lib.hid (show RV N w p B X.1 X.2 (.returned (.agg #[.int .i64 (vNone k).k, .int .i64 (vNone k).n, .string (vNone k).s, .slice none (vNone k).len 0])) ((((W3.setCell ⟨w.heap.size, 0, none⟩ (.int .i64 (vNone k).k)).setCell ⟨w.heap.size, 1, none⟩ (.int .i64 (vNone k).n)).setCell ⟨w.heap.size, 2, none⟩ (.string (vNone k).s)).setCell ⟨w.heap.size, 3, none⟩ (.slice none (vNone k).len 0)) by
      rw [HXX.out]
      exact ⟨⟨none, 0, rfl, (R5.out.kept (K7.out _ _ _ _) (fun k h e => by omega)).mono (fun k h _ => by omega)⟩, T7.out _ _ _ _⟩)
    clear HXX T7 K7 R5 TV5 VB Z5 HB HK HX
    simp only [vNone] at P
    go_wp2
    exact bodyPost_ret (v := .agg #[.int .i64 (vNone k).k, .int .i64 (vNone k).n, .string (vNone k).s, .slice none (vNone k).len 0]) (by simp [results, Tryz.results81, go_sem, *, vNone]) rfl P.out
  · have her' : (er == 0) = false := by simpa using her
    have HXX := Lib.hid (show X = (zA, (D0, er)) by rw [← HX.out, HK.out]; unfold orZ; rw [if_neg her])
    have P := Lib.hid (show RV N w p B X.1 X.2 (.returned (.agg #[.int .i64 0, .int .i64 0, .string ⟨#[]⟩, .slice none 0 0])) ((((W3.setCell ⟨w.heap.size, 0, none⟩ (.int .i64 0)).setCell ⟨w.heap.size, 1, none⟩ (.int .i64 0)).setCell ⟨w.heap.size, 2, none⟩ (.string ⟨#[]⟩)).setCell ⟨w.heap.size, 3, none⟩ (.slice none 0 0)) by
      rw [HXX.out]
      exact ⟨⟨none, 0, rfl, zReads _ _ _⟩, T7.out _ _ _ _⟩)
    clear her HXX T7 K7 R5 TV5 VB Z5 HB HK HX
    go_wp2
    exact bodyPost_ret (v := .agg #[.int .i64 0, .int .i64 0, .string ⟨#[]⟩, .slice none 0 0]) (by simp [results, Tryz.results81, go_sem, *]) rfl P.out

end Go.Proofs.YtfenfgbkphpboaaGreat

namespace Go.Proofs.YtfenfgbkphpboaaGreat
open Go.RowKit
variable {N : Nat}

set_option maxHeartbeats 8000000 in
set_option maxRecDepth 100000 in
theorem rStampD_any (p : Nat) (B : List UInt8) (d : DS) (w : World) (h : RT N w w p B d) :
    Calls Tryz.prog 80 #[.pointer (some ⟨p, 0, none⟩)] w fun e w' => e = .returned (.agg #[.int .i64 (dSt d).1.t, .int .i64 (dSt d).1.i, .int .i64 (dSt d).1.q, .string (dSt d).1.o]) ∧ RT N w w' p B (dSt d).2 := by
  have I0 := Lib.hid (fun d w' (hd : RT N w w' p B d) => hd.int)
  have hd2 : (dSt d).2 = (dText (d1 (d1 (d1 d)))).2 := orZ2 _ _
  have hd1 : (dSt d).1 = (orZ zS (⟨(dInt d).1, (dInt (d1 d)).1, (dInt (d1 (d1 d))).1, ⟨(dText (d1 (d1 (d1 d)))).1.toArray⟩⟩, (dText (d1 (d1 (d1 d)))).2)).1 := rfl
  obtain ⟨S, hS⟩ : ∃ S, (dSt d).1 = S := ⟨_, rfl⟩
  obtain ⟨D, hD⟩ : ∃ D, (dSt d).2 = D := ⟨_, rfl⟩
  rw [hS] at hd1
  rw [hD] at hd2
  rw [hS, hD]
  have HD2 := Lib.hid hd2
  have HD1 := Lib.hid hd1
  clear hd2 hd1 hS hD
  go_enter Tryz.func80, Tryz.ntmps80
  go_upto_region 1 with fail
  generalize hW : World.alloc w _ = W
  have T0 := Lib.hid (show RT N w W p B d by rw [← hW]; exact h.alloc _)
  have Z0 := Lib.hid (show W.heap[w.heap.size]? = some (.cells #[.int .i64 0, .int .i64 0, .int .i64 0, .string ⟨#[]⟩] 35 (0, 0)) by rw [← hW]; exact heap_alloc_new w _)
  clear hW h
  go_wp2_with fail
  refine (I0.out d W T0.out).mono ?_
  rintro e w2 ⟨rfl, T2, hk⟩
  have T2 := Lib.hid T2
  have Z2 := Lib.hid (T0.out.block hk (Nat.le_refl _) Z0.out)
  clear hk T0 Z0
  go_upto_region 2 with fail
  generalize hW : World.alloc w2 _ = W3
  have T3 := Lib.hid (show RT N w W3 p B (dInt d).2 by rw [← hW]; exact T2.out.alloc _)
  have Z3 := Lib.hid (show W3.heap[w.heap.size]? = some (.cells #[.int .i64 0, .int .i64 0, .int .i64 0, .string ⟨#[]⟩] 35 (0, 0)) by rw [← hW]; exact ((below_new w2 _).block _ (lt_of_block Z2.out)).trans Z2.out)
  have V3 := Lib.hid (show W3.heap[w2.heap.size]? = some (.cells #[.int .i64 (dInt d).1, .int .i64 0, .int .i64 0, .string ⟨#[]⟩] 35 (0, 0)) by rw [← hW]; exact heap_alloc_new w2 _)
  have hBw : w.heap.size < w2.heap.size := lt_of_block Z2.out
  obtain ⟨G, hG⟩ : ∃ B, w2.heap.size = B := ⟨_, rfl⟩
  rw [hG] at V3 hBw
  rw [hG]
  clear hW T2 Z2 hG
  obtain ⟨⟨x0, x1, x2, x3⟩, ⟨f0, f1, f2, f3⟩⟩ := four V3.out
  clear x0 x1 x2 x3 f0 f1 f2 f3
  go_wp2_with fail
  refine (T3.out.int).mono ?_
  rintro e w4 ⟨rfl, TA, hk⟩
  have TA := Lib.hid TA
  have VA := Lib.hid (T3.out.block hk (by omega) V3.out)
  have ZA := Lib.hid (T3.out.block hk (Nat.le_refl _) Z3.out)
  clear hk
  obtain ⟨⟨x0, x1, x2, x3⟩, ⟨f0, f1, f2, f3⟩⟩ := four VA.out
  go_upto_region 3 with fail
  generalize hV : World.setCell w4 _ _ = U0
  have TU0 := Lib.hid (show RT N w U0 p B (dInt (dInt d).2).2 by rw [← hV]; exact TA.out.set (by omega) _)
  have VU0 := Lib.hid (show U0.heap[G]? = some (.cells #[.int .i64 (dInt d).1, .int .i64 (dInt (dInt d).2).1, .int .i64 0, .string ⟨#[]⟩] 35 (0, 0)) by rw [← hV]; exact four_set1 VA.out _)
  have ZU0 := Lib.hid (show U0.heap[w.heap.size]? = some (.cells #[.int .i64 0, .int .i64 0, .int .i64 0, .string ⟨#[]⟩] 35 (0, 0)) by rw [← hV, Below.heap_setCell _ ⟨G, 1, none⟩ _ _ (show w.heap.size ≠ G by omega)]; exact ZA.out)
  clear hV x0 x1 x2 x3 f0 f1 f2 f3 TA VA ZA T3 V3 Z3
  obtain ⟨⟨x0, x1, x2, x3⟩, ⟨f0, f1, f2, f3⟩⟩ := four VU0.out
  clear x0 x1 x2 x3 f0 f1 f2 f3
  go_wp2_with fail
  refine (TU0.out.int).mono ?_
  rintro e w5 ⟨rfl, TA, hk⟩
  have TA := Lib.hid TA
  have VA := Lib.hid (TU0.out.block hk (by omega) VU0.out)
  have ZA := Lib.hid (TU0.out.block hk (Nat.le_refl _) ZU0.out)
  clear hk
  obtain ⟨⟨x0, x1, x2, x3⟩, ⟨f0, f1, f2, f3⟩⟩ := four VA.out
  go_upto_region 4 with fail
  generalize hV : World.setCell w5 _ _ = U1
  have TU1 := Lib.hid (show RT N w U1 p B (dInt (dInt (dInt d).2).2).2 by rw [← hV]; exact TA.out.set (by omega) _)
  have VU1 := Lib.hid (show U1.heap[G]? = some (.cells #[.int .i64 (dInt d).1, .int .i64 (dInt (dInt d).2).1, .int .i64 (dInt (dInt (dInt d).2).2).1, .string ⟨#[]⟩] 35 (0, 0)) by rw [← hV]; exact four_set2 VA.out _)
  have ZU1 := Lib.hid (show U1.heap[w.heap.size]? = some (.cells #[.int .i64 0, .int .i64 0, .int .i64 0, .string ⟨#[]⟩] 35 (0, 0)) by rw [← hV, Below.heap_setCell _ ⟨G, 2, none⟩ _ _ (show w.heap.size ≠ G by omega)]; exact ZA.out)
  clear hV x0 x1 x2 x3 f0 f1 f2 f3 TA VA ZA TU0 VU0 ZU0
  obtain ⟨⟨x0, x1, x2, x3⟩, ⟨f0, f1, f2, f3⟩⟩ := four VU1.out
  clear x0 x1 x2 x3 f0 f1 f2 f3
  go_wp2_with fail
  refine (TU1.out.text).mono ?_
  rintro e w6 ⟨rfl, TA, hk⟩
  have TA := Lib.hid TA
  have VA := Lib.hid (TU1.out.block hk (by omega) VU1.out)
  have ZA := Lib.hid (TU1.out.block hk (Nat.le_refl _) ZU1.out)
  clear hk
  obtain ⟨⟨x0, x1, x2, x3⟩, ⟨f0, f1, f2, f3⟩⟩ := four VA.out
  go_upto_region 5 with fail
  generalize hV : World.setCell w6 _ _ = U2
  have TU2 := Lib.hid (show RT N w U2 p B (dText (dInt (dInt (dInt d).2).2).2).2 by rw [← hV]; exact TA.out.set (by omega) _)
  have VU2 := Lib.hid (show U2.heap[G]? = some (.cells #[.int .i64 (dInt d).1, .int .i64 (dInt (dInt d).2).1, .int .i64 (dInt (dInt (dInt d).2).2).1, .string ⟨(dText (dInt (dInt (dInt d).2).2).2).1.toArray⟩] 35 (0, 0)) by rw [← hV]; exact four_set3 VA.out _)
  have ZU2 := Lib.hid (show U2.heap[w.heap.size]? = some (.cells #[.int .i64 0, .int .i64 0, .int .i64 0, .string ⟨#[]⟩] 35 (0, 0)) by rw [← hV, Below.heap_setCell _ ⟨G, 3, none⟩ _ _ (show w.heap.size ≠ G by omega)]; exact ZA.out)
  clear hV x0 x1 x2 x3 f0 f1 f2 f3 TA VA ZA TU1 VU1 ZU1
  obtain ⟨s, hs⟩ : ∃ s : SD, s = ⟨(dInt d).1, (dInt (dInt d).2).1, (dInt (dInt (dInt d).2).2).1, ⟨(dText (dInt (dInt (dInt d).2).2).2).1.toArray⟩⟩ := ⟨_, rfl⟩
  have HS := Lib.hid (show S = (orZ zS (s, D)).1 by rw [HD1.out, HD2.out, hs]; rfl)
  have VB := Lib.hid (show U2.heap[G]? = some (.cells #[.int .i64 s.t, .int .i64 s.i, .int .i64 s.q, .string s.o] 35 (0, 0)) by rw [hs]; exact VU2.out)
  have TB := Lib.hid (show RT N w U2 p B D by rw [HD2.out]; exact TU2.out)
  have cb := TB.out.bad
  obtain ⟨⟨x0, x1, x2, x3⟩, -⟩ := four VB.out
  obtain ⟨⟨z0, z1, z2, z3⟩, ⟨f0, f1, f2, f3⟩⟩ := four ZU2.out
  clear hs HD1 HD2 I0 TU2 VU2
  have T7 := Lib.hid (fun v0 v1 v2 v3 => TB.out.sets (Nat.le_refl w.heap.size) (o := 0) [v0, v1, v2, v3])
  obtain ⟨D0, er⟩ := D
  simp only at cb
  by_cases her : er = 0
  · subst her
    have P := Lib.hid (show S = s ∧ RT N w ((((U2.setCell ⟨w.heap.size, 0, none⟩ (.int .i64 s.t)).setCell ⟨w.heap.size, 1, none⟩ (.int .i64 s.i)).setCell ⟨w.heap.size, 2, none⟩ (.int .i64 s.q)).setCell ⟨w.heap.size, 3, none⟩ (.string s.o)) p B (D0, 0) from ⟨by rw [HS.out]; unfold orZ; rw [if_pos rfl], T7.out _ _ _ _⟩)
    clear T7 TB VB ZU2 HS
    go_wp2
    exact bodyPost_ret (v := .agg #[.int .i64 s.t, .int .i64 s.i, .int .i64 s.q, .string s.o]) (by simp [results, Tryz.results80, go_sem, *]) rfl ⟨by rw [P.out.1], P.out.2⟩
  · have her' : (er == 0) = false := by simpa using her
    have P := Lib.hid (show S = zS ∧ RT N w ((((U2.setCell ⟨w.heap.size, 0, none⟩ (.int .i64 0)).setCell ⟨w.heap.size, 1, none⟩ (.int .i64 0)).setCell ⟨w.heap.size, 2, none⟩ (.int .i64 0)).setCell ⟨w.heap.size, 3, none⟩ (.string ⟨#[]⟩)) p B (D0, er) from ⟨by rw [HS.out]; unfold orZ; rw [if_neg her], T7.out _ _ _ _⟩)
    clear her T7 TB VB ZU2 HS
    go_wp2
    exact bodyPost_ret (v := .agg #[.int .i64 0, .int .i64 0, .int .i64 0, .string ⟨#[]⟩]) (by simp [results, Tryz.results80, go_sem, *]) rfl ⟨by rw [P.out.1]; rfl, P.out.2⟩

end Go.Proofs.YtfenfgbkphpboaaGreat

namespace Go.Proofs.YtfenfgbkphpboaaGreat
open Go.RowKit
variable {N : Nat}

/-- The five cells of an attribute, of its triple. -/
def attT (t : AD × Option Addr × Nat) : List Value := fiveC t.1 t.2.1 t.2.2
theorem attInfo : (Tryz.prog.info? 111).map (fun i => (i.zero, i.size, i.bytes)) = some (some (.agg #[.string ⟨#[]⟩, .int .i64 0, .int .i64 0, .string ⟨#[]⟩, .slice none 0 0]), 5, 72) := by kernel_rfl
theorem fiveC_one (x : AD) (y : Option Addr) (c : Nat) : ∀ u ∈ fiveC x y c, u.oneCell' = true := by
  intro u hu
  simp only [fiveC, List.mem_cons, List.not_mem_nil, or_false] at hu
  rcases hu with rfl | rfl | rfl | rfl | rfl <;> rfl
theorem six_set5 {W : World} {B : Nat} {x0 x1 x2 x3 x4 x5 : Value} {t : TypeId} (h : W.heap[B]? = some (.cells #[x0, x1, x2, x3, x4, x5] t (0, 0))) (u : Value) : (W.setCell ⟨B, 5, none⟩ u).heap[B]? = some (.cells #[x0, x1, x2, x3, x4, u] t (0, 0)) := by
  have := heap_setCell_same W B 5 #[x0, x1, x2, x3, x4, x5] t u h
  simpa using this
theorem six_mid {W : World} {B : Nat} {x0 x1 x2 x3 x4 x5 : Value} {t : TypeId} (h : W.heap[B]? = some (.cells #[x0, x1, x2, x3, x4, x5] t (0, 0))) (u1 u2 u3 u4 : Value) : ((((W.setCell ⟨B, 1, none⟩ u1).setCell ⟨B, 2, none⟩ u2).setCell ⟨B, 3, none⟩ u3).setCell ⟨B, 4, none⟩ u4).heap[B]? = some (.cells #[x0, u1, u2, u3, u4, x5] t (0, 0)) := by
  have h1 := heap_setCell_same W B 1 _ t u1 h
  have h2 := heap_setCell_same _ B 2 _ t u2 h1
  have h3 := heap_setCell_same _ B 3 _ t u3 h2
  have h4 := heap_setCell_same _ B 4 _ t u4 h3
  simpa using h4
theorem five_mid {W : World} {B : Nat} {x0 x1 x2 x3 x4 : Value} {t : TypeId} (h : W.heap[B]? = some (.cells #[x0, x1, x2, x3, x4] t (0, 0))) (u1 u2 u3 u4 : Value) : ((((W.setCell ⟨B, 1, none⟩ u1).setCell ⟨B, 2, none⟩ u2).setCell ⟨B, 3, none⟩ u3).setCell ⟨B, 4, none⟩ u4).heap[B]? = some (.cells #[x0, u1, u2, u3, u4] t (0, 0)) := by
  have h1 := heap_setCell_same W B 1 _ t u1 h
  have h2 := heap_setCell_same _ B 2 _ t u2 h1
  have h3 := heap_setCell_same _ B 3 _ t u3 h2
  have h4 := heap_setCell_same _ B 4 _ t u4 h3
  simpa using h4
theorem news_at (w : World) (x : AD) (y : Option Addr) (c : Nat) : ∀ j u, (fiveC x y c)[j]? = some u → (w.alloc (.cells #[.string x.m, .int .i64 x.k, .int .i64 x.n, .string x.s, .slice y x.len c] 111)).cell? ((⟨w.heap.size, 0, none⟩ : Addr).add j) = some u := fun j u hj => by
  rw [Addr.add_lit, Nat.zero_add, cell_of_row _ _ _ _ _ (0, 0) (heap_alloc_new w _)]
  simpa [fiveC] using hj

/-- The lists of attributes that are being gathered, in blocks that are P. -/
def LP (P : Nat → Prop) (w : World) (T : List (AD × Option Addr × Nat)) : Prop := ∀ t ∈ T, ReadsG P w t.2.1 t.1.len t.1.z
theorem LP.kept {P S : Nat → Prop} {w w' : World} {T : List (AD × Option Addr × Nat)} (h : LP P w T) (hk : Kept S w w') (hS : ∀ b, P b → ¬ S b) : LP P w' T := fun t ht => (h t ht).kept hk hS
theorem LP.mono {P H : Nat → Prop} {w : World} {T : List (AD × Option Addr × Nat)} (h : LP P w T) (hP : ∀ b, P b → b < w.heap.size → H b) : LP H w T := fun t ht => (h t ht).mono hP

/-- A row made since w by the document's Dec. -/
def RR (N : Nat) (w : World) (p : Nat) (B : List UInt8) (x : RD) (d : DS) (e : Ending) (w' : World) : Prop :=
  (∃ y c, e = .returned (.agg #[.string x.key, .int .i64 x.t, .int .i64 x.i, .int .i64 x.q, .string x.o, .slice y x.len c]) ∧ ReadsAG (fun k => w.heap.size < k) w' y x.len x.A) ∧ RT N w w' p B d

set_option maxHeartbeats 16000000 in
set_option maxRecDepth 100000 in
theorem rRowD_any (p : Nat) (B : List UInt8) (d : DS) (w : World) (h : RT N w w p B d) :
    Calls Tryz.prog 43 #[.pointer (some ⟨p, 0, none⟩)] w (RR N w p B (dRow d).1 (dRow d).2) := by
  obtain ⟨i0, hi, hz0, hz1, hz2⟩ := info_parts attInfo
  have und : Tryz.prog.underlying 36 = some (.slice 111) := Tryz.underlying36
  have hd2 : (dRow d).2 = (dAts (dSt (dText d).2).2).2 := orZ2 _ _
  have hd1 : (dRow d).1 = (orZ zR (rowOf (dText d).1 (dSt (dText d).2).1 (dAts (dSt (dText d).2).2).1, (dAts (dSt (dText d).2).2).2)).1 := rfl
  have X0 := Lib.hid (fun w' (hd : RT N w w' p B d) => hd.text)
  have S0 := Lib.hid (fun w' (hd : RT N w' w' p B (dText d).2) => rStampD_any p B (dText d).2 w' hd)
  obtain ⟨X, hX⟩ : ∃ X, dRow d = X := ⟨_, rfl⟩
  rw [hX] at hd1 hd2 ⊢
  obtain ⟨⟨s0, D1⟩, hs⟩ : ∃ r, dText d = r := ⟨_, rfl⟩
  rw [hs] at X0 S0 hd1 hd2
  simp only at X0 S0 hd1 hd2
  obtain ⟨⟨st, D2⟩, hst⟩ : ∃ r, dSt D1 = r := ⟨_, rfl⟩
  rw [hst] at S0 hd1 hd2
  simp only at S0 hd1 hd2
  have M0 := Lib.hid (fun w' (hd : RT N w w' p B D2) => hd.many 32 ⟨by omega, by omega⟩)
  obtain ⟨hn0, hn1⟩ := dNum_in (most := 32) (by omega) D2
  obtain ⟨⟨n', D3⟩, hM⟩ : ∃ r, dNum 0 32 D2 = r := ⟨_, rfl⟩
  unfold dAts at hd1 hd2
  rw [hM] at M0 hn0 hn1 hd1 hd2
  simp only at M0 hn0 hn1 hd1 hd2
  obtain ⟨n, rfl⟩ := Int.eq_ofNat_of_zero_le hn0
  rw [Int.toNat_natCast] at hd1 hd2
  have HX1 := Lib.hid hd1
  have HX2 := Lib.hid hd2
  clear hd1 hd2 hX hs hst hM hn0
  go_enter Tryz.func43, Tryz.ntmps43
  go_upto_region 1 with fail
  generalize hW : World.alloc w _ = W
  have T0 := Lib.hid (show RT N w W p B d by rw [← hW]; exact h.alloc _)
  have Z0 := Lib.hid (show W.heap[w.heap.size]? = some (.cells #[.string ⟨#[]⟩, .int .i64 0, .int .i64 0, .int .i64 0, .string ⟨#[]⟩, .slice none 0 0] 38 (0, 0)) by rw [← hW]; exact heap_alloc_new w _)
  clear hW h
  go_wp2_with fail
  refine (X0.out W T0.out).mono ?_
  rintro e w2 ⟨rfl, T2, hk⟩
  have T2 := Lib.hid T2
  have Z2 := Lib.hid (T0.out.block hk (Nat.le_refl _) Z0.out)
  clear hk T0 Z0 X0
  go_upto_region 2 with fail
  generalize hW : World.alloc w2 _ = W3
  have T3 := Lib.hid (show RT N w W3 p B D1 by rw [← hW]; exact T2.out.alloc _)
  have Z3 := Lib.hid (show W3.heap[w.heap.size]? = some (.cells #[.string ⟨#[]⟩, .int .i64 0, .int .i64 0, .int .i64 0, .string ⟨#[]⟩, .slice none 0 0] 38 (0, 0)) by rw [← hW]; exact ((below_new w2 _).block _ (lt_of_block Z2.out)).trans Z2.out)
  have V3 := Lib.hid (show W3.heap[w2.heap.size]? = some (.cells #[.string ⟨s0.toArray⟩, .int .i64 0, .int .i64 0, .int .i64 0, .string ⟨#[]⟩, .slice none 0 0] 38 (0, 0)) by rw [← hW]; exact heap_alloc_new w2 _)
  have hBw : w.heap.size < w2.heap.size := lt_of_block Z2.out
  obtain ⟨G, hG⟩ : ∃ B, w2.heap.size = B := ⟨_, rfl⟩
  rw [hG] at V3 hBw
  rw [hG]
  clear hW T2 Z2 hG
  go_wp2_with fail
  refine (S0.out W3 T3.out.start).mono ?_
  rintro e w4 ⟨rfl, T4⟩
  have hk4 := T4.k
  have T4 := Lib.hid (T3.out.again T4)
  have V4 := Lib.hid (T3.out.block hk4 (by omega) V3.out)
  have Z4 := Lib.hid (T3.out.block hk4 (Nat.le_refl _) Z3.out)
  obtain ⟨x0, x1, x2, x3, x4, x5⟩ := box6 V4.out
  obtain ⟨f0, f1, f2, f3, f4, f5⟩ := frz6 V4.out
  clear hk4 T3 V3 Z3 S0
  go_upto_region 3 with fail
  generalize hV : World.setCell (World.setCell (World.setCell (World.setCell w4 _ _) _ _) _ _) _ _ = U
  have TU := Lib.hid (show RT N w U p B D2 by rw [← hV]; exact T4.out.sets (G := G) (o := 1) (by omega) [.int .i64 st.t, .int .i64 st.i, .int .i64 st.q, .string st.o])
  have VU := Lib.hid (show U.heap[G]? = some (.cells #[.string ⟨s0.toArray⟩, .int .i64 st.t, .int .i64 st.i, .int .i64 st.q, .string st.o, .slice none 0 0] 38 (0, 0)) by rw [← hV]; exact six_mid V4.out _ _ _ _)
  have ZU := Lib.hid (show U.heap[w.heap.size]? = some (.cells #[.string ⟨#[]⟩, .int .i64 0, .int .i64 0, .int .i64 0, .string ⟨#[]⟩, .slice none 0 0] 38 (0, 0)) by rw [← hV]; exact (keptSet w4 G 1 [.int .i64 st.t, .int .i64 st.i, .int .i64 st.q, .string st.o]).heap Z4.out (by omega))
  clear hV x0 x1 x2 x3 x4 x5 f0 f1 f2 f3 f4 f5 T4 V4 Z4
  go_wp2_with fail
  refine (M0.out U TU.out).mono ?_
  rintro e w5 ⟨rfl, T5, hk⟩
  have T5 := Lib.hid T5
  have V5 := Lib.hid (TU.out.block hk (by omega) VU.out)
  have Z5 := Lib.hid (TU.out.block hk (Nat.le_refl _) ZU.out)
  have hGW := lt_of_block V5.out
  clear hk TU VU ZU M0
  go_wp2_with fail
  go_loopw [5] (fun i wr => ∃ (k : Nat) (va : Option Addr) (vc : Nat) (T : List (AD × Option Addr × Nat)), i = .int .i64 k ∧ k ≤ n ∧ T.length = k ∧ Hid (T.map (·.1) = (dMany dAt k D3).1) ∧ Hid (RT N w wr p B (dMany dAt k D3).2) ∧ Hid (wr.heap[w.heap.size]? = some (.cells #[.string ⟨#[]⟩, .int .i64 0, .int .i64 0, .int .i64 0, .string ⟨#[]⟩, .slice none 0 0] 38 (0, 0))) ∧ Hid (wr.heap[G]? = some (.cells #[.string ⟨s0.toArray⟩, .int .i64 st.t, .int .i64 st.i, .int .i64 st.q, .string st.o, .slice va k vc] 38 (0, 0))) ∧ Hid (w5.heap.size ≤ wr.heap.size) ∧ Hid (wr.ownsRow w5.heap.size 111 5 (.slice va k vc) k (T.flatMap attT)) ∧ Hid (LP (fun b => G < b ∧ ∀ q, (Value.slice va k vc).ownBlock = some q → q ≠ b) wr T)) (fun i _ => n - (intOf i).toNat)
  case atStart => exact ⟨0, none, 0, [], rfl, Nat.zero_le _, rfl, Lib.hid rfl, T5, Z5, V5, Lib.hid (Nat.le_refl _), Lib.hid (World.ownsRow_nil _ _ _ _), Lib.hid (fun t ht => by simp at ht)⟩
  case round =>
    obtain ⟨k, va, vc, T, rfl, hk, hTl, hM, hT, hZ, hV, hW5, hO, hL⟩ := hrel
    clear T5 Z5 V5
    by_cases hlt : k < n
    · have hs := dMany_succ dAt k D3
      obtain ⟨⟨L, D⟩, hD⟩ : ∃ r, dMany dAt k D3 = r := ⟨_, rfl⟩
      rw [hD] at hs hT hM
      simp only at hs hT hM
      have XT := Lib.hid (hT.out.text)
      have VT := Lib.hid (fun w' (hd : RT N w' w' p B (dText D).2) => rValueD_any p B (dText D).2 w' hd)
      have hda : dAt D = (nmA (dText D).1 (dVal (dText D).2).1, (dVal (dText D).2).2) := rfl
      rw [hda] at hs
      obtain ⟨⟨nm, Da⟩, hnm⟩ : ∃ r, dText D = r := ⟨_, rfl⟩
      rw [hnm] at XT VT hs
      simp only at XT VT hs
      obtain ⟨⟨x, Db⟩, hx⟩ : ∃ r, dVal Da = r := ⟨_, rfl⟩
      rw [hx] at VT hs
      simp only at VT hs
      obtain ⟨m0, xk, xn, xs, xl, xz⟩ := x
      have HS := Lib.hid hs
      have hw5 : w5.heap.size ≤ wr.heap.size := hW5.out
      have hpw := hT.out.lt
      have hwr := hT.out.k.size
      clear hs hD hda hnm hx
      go_wp2_with fail
      refine XT.out.mono ?_
      rintro e wa ⟨rfl, Ta, hka⟩
      have Ta := Lib.hid Ta
      have Va := Lib.hid (hka.heap hV.out (by omega))
      have Za := Lib.hid (hka.heap hZ.out (by omega))
      have Oa := Lib.hid (hka.owns hO.out (fun q hq e => by have := (hO.out.lt q hq).1; omega))
      have La := Lib.hid ((hL.out.kept hka (fun b hb e => by have := hb.1; omega)).mono (H := fun b => (G < b ∧ ∀ q, (Value.slice va k vc).ownBlock = some q → q ≠ b) ∧ b < wa.heap.size) (fun b hb hl => ⟨hb, hl⟩))
      have hsa : wr.heap.size ≤ wa.heap.size := hka.size
      have OL := Lib.hid (fun q hq => (hO.out.lt q hq).2)
      clear hka XT hT hZ hV hO hL
      go_upto_region 8 with fail
      generalize hW : World.alloc wa _ = wb
      have kb := keptNew (show Below wa.heap.size wa wb by rw [← hW]; exact below_new wa _)
      have Tb := Lib.hid (show RT N w wb p B Da by rw [← hW]; exact Ta.out.alloc _)
      have Vb := Lib.hid (kb.heap Va.out (fun h => h))
      have Zb := Lib.hid (kb.heap Za.out (fun h => h))
      have Ob := Lib.hid (kb.owns Oa.out (fun q hq h => h))
      have Lb := Lib.hid (La.out.kept kb (fun b _ h => h))
      have Ab := Lib.hid (show wb.heap[wa.heap.size]? = some (.cells #[.string ⟨nm.toArray⟩, .int .i64 0, .int .i64 0, .string ⟨#[]⟩, .slice none 0 0] 111 (0, 0)) by rw [← hW]; exact heap_alloc_new wa _)
      have hsb : wb.heap.size = wa.heap.size + 1 := by rw [← hW, World.size_alloc]
      obtain ⟨A, hA⟩ : ∃ A, wa.heap.size = A := ⟨_, rfl⟩
      rw [hA] at Ab hsb hsa Lb
      rw [hA]
      clear hW kb Ta Va Za Oa La hA
      go_wp2_with fail
      refine (VT.out wb Tb.out.start).mono ?_
      rintro e wc ⟨⟨y, ce, rfl, hy⟩, Tc⟩
      have kc := Tc.k
      have Tc := Lib.hid (Tb.out.again Tc)
      have Vc := Lib.hid (kc.heap Vb.out (by omega))
      have Zc := Lib.hid (kc.heap Zb.out (by omega))
      have Oc := Lib.hid (kc.owns Ob.out (fun q hq e => by have := (Ob.out.lt q hq).1; omega))
      have Lc := Lib.hid (Lb.out.kept kc (fun b hb e => by have := hb.1.1; omega))
      have Ac := Lib.hid (kc.heap Ab.out (by omega))
      have Yc := Lib.hid (hy.mono (H := fun b => A < b) (fun b hb _ => by omega))
      have hsc : wb.heap.size ≤ wc.heap.size := kc.size
      obtain ⟨x0, x1, x2, x3, x4⟩ := box5 Ac.out
      obtain ⟨f0, f1, f2, f3, f4⟩ := frz5 Ac.out
      clear kc hy VT Tb Vb Zb Ob Lb Ab
      go_upto_region 9 with fail
      generalize hV : World.setCell (World.setCell (World.setCell (World.setCell wc _ _) _ _) _ _) _ _ = V
      have kv : Kept (· = A) wc V := by rw [← hV]; exact keptSet wc A 1 [.int .i64 xk, .int .i64 xn, .string xs, .slice y xl ce]
      have TV := Lib.hid (show RT N w V p B Db by rw [← hV]; exact Tc.out.sets (G := A) (o := 1) (by omega) [.int .i64 xk, .int .i64 xn, .string xs, .slice y xl ce])
      have VV := Lib.hid (kv.heap Vc.out (by omega))
      have ZV := Lib.hid (kv.heap Zc.out (by omega))
      have OV := Lib.hid (kv.owns Oc.out (fun q hq e => by have := OL.out q hq; omega))
      have AV := Lib.hid (show V.heap[A]? = some (.cells #[.string ⟨nm.toArray⟩, .int .i64 xk, .int .i64 xn, .string xs, .slice y xl ce] 111 (0, 0)) by rw [← hV]; exact five_mid Ac.out _ _ _ _)
      have LV := Lib.hid (Lc.out.kept kv (fun b hb e => by have := hb.2; omega))
      have YV := Lib.hid (Yc.out.kept kv (fun b hb e => by omega))
      have hsv : wc.heap.size ≤ V.heap.size := kv.size
      have OLV := Lib.hid (fun q hq => (OV.out.lt q hq).2)
      obtain ⟨x0, x1, x2, x3, x4⟩ := box5 AV.out
      obtain ⟨y0, y1, y2, y3, y4, y5⟩ := box6 VV.out
      have OA := Lib.hid (show (V.alloc (.cells #[.string ⟨nm.toArray⟩, .int .i64 xk, .int .i64 xn, .string xs, .slice y xl ce] 111)).ownsRow w5.heap.size 111 5 (.slice va k vc) k (T.flatMap attT) from World.ownsRow.alloc OV.out _)
      have NA := Lib.hid (news_at V ⟨⟨nm.toArray⟩, xk, xn, xs, xl, xz⟩ y ce)
      have BA := Lib.hid (show w5.heap.size ≤ (V.alloc (.cells #[.string ⟨nm.toArray⟩, .int .i64 xk, .int .i64 xn, .string xs, .slice y xl ce] 111)).heap.size by rw [World.size_alloc]; omega)
      clear hV kv Tc Vc Zc Oc Lc Ac Yc f0 f1 f2 f3 f4 OV
      go_wp2_with (at_builtin; refine wpList_append_new rfl _ _ 36 rfl (base := w5.heap.size) und hi hz0 hz1 hz2 rfl (by decide) (.slice va k vc) k 1 1 ⟨V.heap.size, 0, none⟩ (T.flatMap attT) (fiveC ⟨⟨nm.toArray⟩, xk, xn, xs, xl, xz⟩ y ce) rfl rfl OA.out rfl NA.out (fiveC_one _ _ _) (by unfold maxLen; omega) (by omega) BA.out ?_)
      intro v6 w6 ho hg hq6
      obtain ⟨va6, c6, rfl⟩ := own_rowG ho
      have ko : Kept (fun b => (Value.slice va k vc).ownBlock = some b) V w6 := ((Kept.refl _ V).alloc _).grown hg (fun q hq => .inl hq)
      have V6 := Lib.hid (ko.heap VV.out (fun e => by have := (OA.out.lt G e).1; omega))
      have Z6 := Lib.hid (ko.heap ZV.out (fun e => by have := (OA.out.lt _ e).1; omega))
      have T6 := Lib.hid (TV.out.own (w' := w6) (ko.mono (fun b hb _ => show w.heap.size ≤ b by have := (OA.out.lt b hb).1; omega)))
      have HQ6 := Lib.hid (show ∀ q, (Value.slice va6 (k + 1) c6).ownBlock = some q → (Value.slice va k vc).ownBlock = some q ∨ V.heap.size < q from fun q hq => (hq6 q hq).imp id (fun h => by omega))
      have L6 := Lib.hid (show LP (fun b => G < b ∧ ∀ q, (Value.slice va6 (k + 1) c6).ownBlock = some q → q ≠ b) w6 (T ++ [(nmA nm ⟨m0, xk, xn, xs, xl, xz⟩, y, ce)]) from fun t ht => by
        rcases List.mem_append.1 ht with ht | ht
        · refine ((LV.out t ht).kept ko (fun b hb e => hb.1.2 b e rfl)).mono (fun b hb _ => ⟨hb.1.1, fun q hq e => ?_⟩)
          rcases HQ6.out q hq with h | h
          · exact hb.1.2 q h e
          · have := hb.2; omega
        · rw [List.mem_singleton] at ht
          subst ht
          refine ((YV.out.lt).kept ko (fun b hb e => by have := OL.out b e; have := hb.1; omega)).mono (fun b hb _ => ⟨by have := hb.1; omega, fun q hq e => ?_⟩)
          rcases HQ6.out q hq with h | h
          · have := OL.out q h; have := hb.1; omega
          · have := hb.2; omega)
      have O6 := Lib.hid (show w6.ownsRow w5.heap.size 111 5 (.slice va6 (k + 1) c6) (k + 1) ((T ++ [(nmA nm ⟨m0, xk, xn, xs, xl, xz⟩, y, ce)]).flatMap attT) by rw [List.flatMap_append]; exact ho)
      have hs6 : V.heap.size ≤ w6.heap.size := ko.size
      clear ho hg hq6 ko x0 x1 x2 x3 x4 y0 y1 y2 y3 y4 y5 OA NA BA TV VV ZV AV LV YV
      obtain ⟨y0, y1, y2, y3, y4, y5⟩ := box6 V6.out
      obtain ⟨f0, f1, f2, f3, f4, f5⟩ := frz6 V6.out
      go_wp2_with fail
      have V7 := Lib.hid (six_set5 V6.out (.slice va6 (k + 1) c6))
      have Z7 := Lib.hid (show (w6.setCell ⟨G, 5, none⟩ (.slice va6 (k + 1) c6)).heap[w.heap.size]? = some (.cells #[.string ⟨#[]⟩, .int .i64 0, .int .i64 0, .int .i64 0, .string ⟨#[]⟩, .slice none 0 0] 38 (0, 0)) by rw [Below.heap_setCell _ ⟨G, 5, none⟩ _ _ (show w.heap.size ≠ G by omega)]; exact Z6.out)
      have T7 := Lib.hid (show RT N w (w6.setCell ⟨G, 5, none⟩ (.slice va6 (k + 1) c6)) p B (dMany dAt (k + 1) D3).2 by rw [HS.out]; exact T6.out.set (by omega) _)
      have O7 := Lib.hid ((kept_p w6 G 5 (.slice va6 (k + 1) c6)).owns O6.out (fun q hq e => by have := (O6.out.lt q hq).1; omega))
      have L7 := Lib.hid (L6.out.kept (kept_p w6 G 5 (.slice va6 (k + 1) c6)) (fun b hb e => by have := hb.1; omega))
      have M7 := Lib.hid (show (T ++ [(nmA nm ⟨m0, xk, xn, xs, xl, xz⟩, y, ce)]).map (·.1) = (dMany dAt (k + 1) D3).1 by rw [HS.out, List.map_append, hM.out]; rfl)
      have W7 := Lib.hid (show w5.heap.size ≤ (w6.setCell ⟨G, 5, none⟩ (.slice va6 (k + 1) c6)).heap.size by simp [World.setCell]; omega)
      clear V6 Z6 T6 O6 L6 HQ6 OL OLV HS hM hW5
      go_roundw
      case rel => exact ⟨k + 1, va6, c6, T ++ [(nmA nm ⟨m0, xk, xn, xs, xl, xz⟩, y, ce)], by go_num, by omega, by rw [List.length_append, hTl]; rfl, M7, T7, Z7, V7, W7, O7, L7⟩
      case measure => simp [intOf]; omega
    · obtain rfl : k = n := by omega
      have HL := dMany_len dAt k D3
      have RD := Lib.hid (show ReadsAG (fun b => w.heap.size < b) wr va k (atA (dMany dAt k D3).1) from by
        refine ⟨by unfold maxLen; omega, ?_⟩
        rcases hO.out.2 with ⟨h1, h2⟩ | ⟨g, cap, cur, h1, hg, hgg, hnc, hm, hcs, ht⟩
        · left; exact h2
        · right
          simp only [Value.slice.injEq] at h1
          obtain ⟨rfl, -, rfl⟩ := h1
          refine ⟨g, 0, rfl, by omega, fun j hj => ?_⟩
          have hjT : j < T.length := by omega
          have e : atA (dMany dAt k D3).1 j = T[j].1 := by
            rw [← hM.out]
            unfold atA
            rw [List.getD_eq_getElem?_getD, List.getElem?_map, List.getElem?_eq_getElem hjT]
            rfl
          have hc : ∀ i u, i < 5 → (attT T[j])[i]? = some u → wr.cell? ⟨g, 0 + j * 5 + i, none⟩ = some u := fun i u hi hu => by
            rw [Nat.zero_add]
            obtain ⟨g', h1, h2⟩ := owns_at hO.out (j := j * 5 + i) (u := u) (by rw [flat_at (m := 5) (fun t => rfl) T hjT hi]; exact hu)
            simp only [Addr.mk.injEq, and_true] at h1
            subst h1
            exact h2
          rw [e]
          exact ⟨T[j].2.1, T[j].2.2, ⟨hc 0 _ (by omega) rfl, hc 1 _ (by omega) rfl, hc 2 _ (by omega) rfl, hc 3 _ (by omega) rfl, hc 4 _ (by omega) rfl⟩, (hL.out _ (List.getElem_mem hjT)).mono (fun b hb _ => by have := hb.1; omega)⟩)
      have cb := hT.out.bad
      have T7 := Lib.hid (fun v0 v1 v2 v3 v4 v5 => hT.out.sets (Nat.le_refl w.heap.size) (o := 0) [v0, v1, v2, v3, v4, v5])
      have K7 := Lib.hid (fun v0 v1 v2 v3 v4 v5 => keptSet wr w.heap.size 0 [v0, v1, v2, v3, v4, v5])
      obtain ⟨y0, y1, y2, y3, y4, y5⟩ := box6 hV.out
      obtain ⟨z0, z1, z2, z3, z4, z5⟩ := box6 hZ.out
      obtain ⟨f0, f1, f2, f3, f4, f5⟩ := frz6 hZ.out
      obtain ⟨⟨L, D⟩, hLD⟩ : ∃ r, dMany dAt k D3 = r := ⟨_, rfl⟩
      rw [hLD] at HX1 HX2 HL RD cb T7
      simp only at HX1 HX2 HL RD cb T7
      clear hLD hM hT hV hO hL hZ hW5
      obtain ⟨D0, er⟩ := D
      simp only at cb
      by_cases her : er = 0
      · subst her
        have P := Lib.hid (show RR N w p B X.1 X.2 (.returned (.agg #[.string ⟨s0.toArray⟩, .int .i64 st.t, .int .i64 st.i, .int .i64 st.q, .string st.o, .slice va k vc])) ((((((wr.setCell ⟨w.heap.size, 0, none⟩ (.string ⟨s0.toArray⟩)).setCell ⟨w.heap.size, 1, none⟩ (.int .i64 st.t)).setCell ⟨w.heap.size, 2, none⟩ (.int .i64 st.i)).setCell ⟨w.heap.size, 3, none⟩ (.int .i64 st.q)).setCell ⟨w.heap.size, 4, none⟩ (.string st.o)).setCell ⟨w.heap.size, 5, none⟩ (.slice va k vc)) by
          have e1 : X.1 = rowOf s0 st L := by rw [HX1.out]; unfold orZ; rw [if_pos rfl]
          rw [e1, HX2.out]
          refine ⟨⟨va, vc, ?_, ?_⟩, T7.out _ _ _ _ _ _⟩
          · show Ending.returned (.agg #[.string ⟨s0.toArray⟩, .int .i64 st.t, .int .i64 st.i, .int .i64 st.q, .string st.o, .slice va k vc]) = .returned (.agg #[.string ⟨s0.toArray⟩, .int .i64 st.t, .int .i64 st.i, .int .i64 st.q, .string st.o, .slice va L.length vc])
            rw [HL]
          · show ReadsAG _ _ va L.length (atA L)
            rw [HL]
            exact RD.out.kept (K7.out _ _ _ _ _ _) (fun b hb e => by omega))
        clear T7 K7 RD HX1 HX2 HL
        go_wp2
        exact bodyPost_ret (v := .agg #[.string ⟨s0.toArray⟩, .int .i64 st.t, .int .i64 st.i, .int .i64 st.q, .string st.o, .slice va k vc]) (by simp [results, Tryz.results43, go_sem, *]) rfl P.out
      · have her' : (er == 0) = false := by simpa using her
        have P := Lib.hid (show RR N w p B X.1 X.2 (.returned (.agg #[.string ⟨#[]⟩, .int .i64 0, .int .i64 0, .int .i64 0, .string ⟨#[]⟩, .slice none 0 0])) ((((((wr.setCell ⟨w.heap.size, 0, none⟩ (.string ⟨#[]⟩)).setCell ⟨w.heap.size, 1, none⟩ (.int .i64 0)).setCell ⟨w.heap.size, 2, none⟩ (.int .i64 0)).setCell ⟨w.heap.size, 3, none⟩ (.int .i64 0)).setCell ⟨w.heap.size, 4, none⟩ (.string ⟨#[]⟩)).setCell ⟨w.heap.size, 5, none⟩ (.slice none 0 0)) by
          have e1 : X.1 = zR := by rw [HX1.out]; unfold orZ; rw [if_neg her]
          rw [e1, HX2.out]
          exact ⟨⟨none, 0, rfl, zReadsA _ _ _⟩, T7.out _ _ _ _ _ _⟩)
        clear her T7 K7 RD HX1 HX2 HL
        go_wp2
        exact bodyPost_ret (v := .agg #[.string ⟨#[]⟩, .int .i64 0, .int .i64 0, .int .i64 0, .string ⟨#[]⟩, .slice none 0 0]) (by simp [results, Tryz.results43, go_sem, *]) rfl P.out

end Go.Proofs.YtfenfgbkphpboaaGreat

namespace Go
variable {P : Program} {ops : Array Oper} {Q : Exit → Act → World → Prop} {md : Region.Mode} {S : World → Prop}

theorem takeHYtfenfgbkphpboaaGreat {i : Nat} {oi : Oper} {d : Option Tmp} {v : Value} {fuel : Nat} {listed : Array Bool} {a : Act} {w : World} (hi : ops[i]? = some oi) (hd : oi.dst = d)
    (hs : Region.noSelect ops = true) (hf : Region.free md ops listed i = true) (hr : (Region.ready md ops listed).contains i = true)
    (hQ : ∀ c a w, Q (.panic c) (a.put d v) w → Q (.panic c) a w) (hy : YieldsIf P ops S oi v a) (hS : S w)
    (h : wpAnyH P md ops Q S fuel (listed.setIfInBounds i true) (a.put d v) w) : wpAnyH P md ops Q S (fuel + 1) listed a w := by
  subst hd
  exact wpAnyH_take hi hs hf hr hQ hy hS h
end Go

namespace Go.Proofs.YtfenfgbkphpboaaGreat
open Go.RowKit
variable {N : Nat}

theorem rOpenAny_any (a : Option Addr) (c : Nat) (l : List UInt8) (hl : l.length ≤ 100000000000) (w : World) (h : BR w a c l) :
    Calls Tryz.prog 42 #[.slice a l.length c] w (OutE w (openF l)) := by
  unfold openF
  by_cases h4 : l.length < 4
  · rw [if_pos h4]
    exact (rOpenShort_any a l.length c h4 w).mono fun e w' ⟨he, hw⟩ => by
      subst hw
      exact ⟨⟨none, 0, he, BR.nil' _⟩, Below.refl _ _⟩
  · rw [if_neg h4]
    have hp : (l.take (l.length - 4)).length = l.length - 4 := by rw [List.length_take]; omega
    have hq : (l.drop (l.length - 4)).length = 4 := by rw [List.length_drop]; omega
    have C := rOpen_any a (l.length - 4) c (l.take (l.length - 4)) (l.drop (l.length - 4)) hp hq (by omega) w (by rw [List.take_append_drop]; exact h)
    rw [show l.length - 4 + 4 = l.length by omega] at C
    refine C.mono fun e w' ⟨h1, hb⟩ => ⟨?_, hb⟩
    by_cases hv : valB (l.drop (l.length - 4)) = crc (l.take (l.length - 4))
    · rw [if_pos hv] at h1 ⊢
      obtain ⟨a2, c2, he, ho⟩ := h1
      exact ⟨a2, c2, he, ho.br⟩
    · rw [if_neg hv] at h1 ⊢
      exact ⟨none, 0, h1, BR.nil' _⟩

/-- The document's Dec made anew over bytes. -/
theorem RT.new {w w3 : World} {a : Option Addr} {c : Nat} {l : List UInt8} (h : BR w a c l) (hl : l.length ≤ 1000000) (hw : w3 = w.alloc (.cells #[.slice a l.length c, .int .i64 0, .int .i64 0] 89)) : RT w.heap.size w3 w3 w.heap.size l (l, 0) := by
  subst hw
  refine ⟨⟨0, 0, ⟨a, c, heap_alloc_new w _, h.kept (below_new w _), fun x hx hne => ?_, Nat.le_refl _⟩, ⟨Nat.zero_le _, rfl, rfl⟩⟩, Kept.refl _ _, by simp, hl⟩
  obtain ⟨b, off, rfl, hc⟩ := h.cells (List.length_pos_iff.2 hne)
  cases hx
  have := World.block_lt_of_cell? w _ (hc 0 (List.length_pos_iff.2 hne))
  simpa using this
theorem RT.left {w0 w : World} {p : Nat} {B : List UInt8} {d : DS} (h : RT N w0 w p B d) : Calls Tryz.prog 44 #[.pointer (some ⟨p, 0, none⟩)] w fun e w' => e = .returned (.int .i64 (d.1.length : Nat)) ∧ ∃ n, w' = w.drewN n := by
  obtain ⟨k, bad, hd, hs⟩ := h.h
  exact rLeft_any p B k bad d hs h.b w hd

theorem rCheckS_any (x : RD) (a : Option Addr) (c : Nat) (hx : SzR 4000 x) (w : World) (h : ReadsA w a x.len x.A) :
    Calls Tryz.prog 27 #[.agg #[.string x.key, .int .i64 x.t, .int .i64 x.i, .int .i64 x.q, .string x.o, .slice a x.len c]] w fun e w' => e = .returned (.int .i64 (errR x)) ∧ Below w.heap.size w w' :=
  xCheck_any x a c hx.k hx.o (fun j hj => hx.a j hj) w h

set_option maxHeartbeats 16000000 in
set_option maxRecDepth 100000 in
theorem rDecode_any (a : Option Addr) (c : Nat) (l : List UInt8) (hl : l.length ≤ 4000) (w : World) (h : BR w a c l) :
    Calls Tryz.prog 20 #[.slice a l.length c] w (OutR w (decodeR l)) := by
  have OP := Lib.hid (fun W (hb : Below w.heap.size w W) => rOpenAny_any a c l (by omega) W (h.kept hb))
  have hlen := openF_len l
  have hD : decodeR l = if (openF l).2 = 0 then allOf zR (dRow ((openF l).1, 0)) errR else (zR, (openF l).2) := rfl
  obtain ⟨⟨p, er⟩, hp⟩ : ∃ r, openF l = r := ⟨_, rfl⟩
  rw [hp] at OP hlen hD
  simp only at OP hlen hD
  obtain ⟨X, hX⟩ : ∃ X, decodeR l = X := ⟨_, rfl⟩
  rw [hX] at hD ⊢
  have HX := Lib.hid hD
  clear hp hD h hX
  go_enter Tryz.func20, Tryz.ntmps20
  go_upto_region 1 with fail
  generalize hW : World.alloc w _ = W
  have B0 := Lib.hid (show Below w.heap.size w W by rw [← hW]; exact below_new w _)
  have R0 := Lib.hid (show W.heap[w.heap.size]? = some (.cells #[.string ⟨#[]⟩, .int .i64 0, .int .i64 0, .int .i64 0, .string ⟨#[]⟩, .slice none 0 0] 38 (0, 0)) by rw [← hW]; exact heap_alloc_new w _)
  have OW := Lib.hid (OP.out W B0.out)
  clear hW OP
  by_cases he : er = 0
  · subst he
    have hsz := dRow_sz (p, 0)
    have TK := Lib.hid (fun N q w3 (hd : RT N w3 w3 q p (p, 0)) => rRowD_any (N := N) q p (p, 0) w3 hd)
    have hA : X = allOf zR (dRow (p, 0)) errR := by rw [HX.out, if_pos rfl]
    obtain ⟨⟨x, D⟩, hL⟩ : ∃ r, dRow (p, 0) = r := ⟨_, rfl⟩
    rw [hL] at hsz TK hA
    simp only at hsz TK
    unfold allOf at hA
    simp only at hA
    have HA := Lib.hid hA
    have hpl : (p, (0 : Int)).1.length ≤ 4000 := by show p.length ≤ _; omega
    have HS := Lib.hid (hsz.mono hpl)
    clear hL hsz hA HX hpl
    go_wp2_with fail
    refine OW.out.mono ?_
    rintro e w2 ⟨⟨a2, c2, rfl, hbr⟩, hb2⟩
    have B2 := Lib.hid (B0.out.trans (hb2.mono B0.out.size))
    have R2 := Lib.hid ((hb2.block _ (lt_of_block R0.out)).trans R0.out)
    have HBR := Lib.hid hbr
    clear hb2 hbr OW
    go_upto_region 5 with fail
    generalize hW : World.alloc w2 _ = w3
    have D3 := Lib.hid (RT.new (w3 := w3) HBR.out (by omega) hW.symm)
    have B3 := Lib.hid (show Below w.heap.size w w3 by rw [← hW]; exact B2.out.alloc B2.out.size _)
    have R3 := Lib.hid (show w3.heap[w.heap.size]? = some (.cells #[.string ⟨#[]⟩, .int .i64 0, .int .i64 0, .int .i64 0, .string ⟨#[]⟩, .slice none 0 0] 38 (0, 0)) by rw [← hW]; exact ((below_new w2 _).block _ (lt_of_block R2.out)).trans R2.out)
    have hqw := lt_of_block R2.out
    have hq3 := D3.out.lt
    obtain ⟨q, hq⟩ : ∃ q, w2.heap.size = q := ⟨_, rfl⟩
    rw [hq] at D3 hqw hq3
    rw [hq]
    clear hW HBR R2 B2 hq
    go_wp2_with fail
    refine (TK.out _ _ _ D3.out).mono ?_
    rintro e w4 ⟨⟨y, c5, rfl, hr4⟩, T4⟩
    have hk4 := T4.k
    have B4 := Lib.hid (keptFrom B3.out hk4 (by omega))
    have R4 := Lib.hid (hk4.heap R3.out (by omega))
    have A4 := Lib.hid (hr4.mono (H := fun k => w.heap.size < k) (fun k h _ => by omega))
    have T4 := Lib.hid T4
    clear hr4 hk4 TK R3
    go_upto_region 6 with fail
    generalize hW : World.alloc w4 _ = V
    have BW := Lib.hid (show Below w.heap.size w V by rw [← hW]; exact B4.out.alloc B4.out.size _)
    have ZR := Lib.hid (show V.heap[w.heap.size]? = some (.cells #[.string ⟨#[]⟩, .int .i64 0, .int .i64 0, .int .i64 0, .string ⟨#[]⟩, .slice none 0 0] 38 (0, 0)) by rw [← hW]; exact ((below_new w4 _).block _ (lt_of_block R4.out)).trans R4.out)
    have XV := Lib.hid (show V.heap[w4.heap.size]? = some (.cells #[.string x.key, .int .i64 x.t, .int .i64 x.i, .int .i64 x.q, .string x.o, .slice y x.len c5] 38 (0, 0)) by rw [← hW]; exact heap_alloc_new w4 _)
    have AV := Lib.hid (show ReadsAG (fun k => w.heap.size < k) V y x.len x.A by rw [← hW]; exact A4.out.kept (keptNew (below_new w4 _)) (fun _ _ h => h))
    have DV := Lib.hid (show RT q w3 V q p D by rw [← hW]; exact T4.out.alloc _)
    have hxs : w.heap.size < w4.heap.size := lt_of_block R4.out
    have cb := DV.out.bad
    have LE := Lib.hid DV.out.left
    clear hW B3 A4 T4 B0 R0 D3
    obtain ⟨D1, er2⟩ := D
    simp only at cb LE HA
    by_cases he2 : er2 = 0
    · subst he2
      go_wp2_with fail
      refine LE.out.mono ?_
      rintro e w5 ⟨rfl, nd, rfl⟩
      have BW := Lib.hid (show Below w.heap.size w (V.drewN nd) from ⟨BW.out.os, BW.out.tape, BW.out.output, BW.out.size, BW.out.block⟩)
      have ZR := Lib.hid (show (V.drewN nd).heap[w.heap.size]? = some (.cells #[.string ⟨#[]⟩, .int .i64 0, .int .i64 0, .int .i64 0, .string ⟨#[]⟩, .slice none 0 0] 38 (0, 0)) from ZR.out)
      have XV := Lib.hid (show (V.drewN nd).heap[w4.heap.size]? = some (.cells #[.string x.key, .int .i64 x.t, .int .i64 x.i, .int .i64 x.q, .string x.o, .slice y x.len c5] 38 (0, 0)) from XV.out)
      have AV := Lib.hid (show ReadsAG (fun k => w.heap.size < k) (V.drewN nd) y x.len x.A from AV.out)
      generalize V.drewN nd = V2 at BW ZR XV AV ⊢
      clear cb DV LE
      by_cases hD1 : D1 = []
      · subst hD1
        have CK := Lib.hid (rCheckS_any x y c5 HS.out V2 AV.out.plain)
        obtain ⟨q3, hq3'⟩ : ∃ q, errR x = q := ⟨_, rfl⟩
        rw [hq3'] at CK
        have HQ := Lib.hid hq3'
        obtain ⟨v0, v1, v2, v3, v4, v5⟩ := box6 XV.out
        clear hq3'
        by_cases h0 : q3 = 0
        · subst h0
          go_wp2_with fail
          refine CK.out.mono ?_
          rintro e w6 ⟨rfl, hb6⟩
          have BW := Lib.hid (BW.out.trans (hb6.mono BW.out.size))
          have ZR := Lib.hid ((hb6.block _ (lt_of_block ZR.out)).trans ZR.out)
          have XV := Lib.hid ((hb6.block _ (lt_of_block XV.out)).trans XV.out)
          have A6 := Lib.hid (AV.out.kept (keptNew hb6) (fun _ _ h => h))
          clear hb6 CK v0 v1 v2 v3 v4 v5
          obtain ⟨v0, v1, v2, v3, v4, v5⟩ := box6 XV.out
          have P := Lib.hid (show OutR w X (.returned (.tuple #[.agg #[.string x.key, .int .i64 x.t, .int .i64 x.i, .int .i64 x.q, .string x.o, .slice y x.len c5], .int .i64 0])) ((((((w6.setCell ⟨w.heap.size, 0, none⟩ (.string x.key)).setCell ⟨w.heap.size, 1, none⟩ (.int .i64 x.t)).setCell ⟨w.heap.size, 2, none⟩ (.int .i64 x.i)).setCell ⟨w.heap.size, 3, none⟩ (.int .i64 x.q)).setCell ⟨w.heap.size, 4, none⟩ (.string x.o)).setCell ⟨w.heap.size, 5, none⟩ (.slice y x.len c5)) by
            have K8 := keptSet w6 w.heap.size 0 [.string x.key, .int .i64 x.t, .int .i64 x.i, .int .i64 x.q, .string x.o, .slice y x.len c5]
            have B8 : Below w.heap.size w ((((((w6.setCell ⟨w.heap.size, 0, none⟩ (.string x.key)).setCell ⟨w.heap.size, 1, none⟩ (.int .i64 x.t)).setCell ⟨w.heap.size, 2, none⟩ (.int .i64 x.i)).setCell ⟨w.heap.size, 3, none⟩ (.int .i64 x.q)).setCell ⟨w.heap.size, 4, none⟩ (.string x.o)).setCell ⟨w.heap.size, 5, none⟩ (.slice y x.len c5)) := BW.out.trans (K8.below (fun k h => by omega) BW.out.size)
            rw [HA.out, if_pos trivial, if_pos trivial, if_pos HQ.out]
            exact ⟨⟨y, c5, rfl, A6.out.kept K8 (fun k h1 h2 => by omega)⟩, B8⟩)
          obtain ⟨y0, y1, y2, y3, y4, y5⟩ := box6 ZR.out
          obtain ⟨f0, f1, f2, f3, f4, f5⟩ := frz6 ZR.out
          clear ZR BW A6 AV XV
          go_wp2
          exact bodyPost_ret (v := .tuple #[.agg #[.string x.key, .int .i64 x.t, .int .i64 x.i, .int .i64 x.q, .string x.o, .slice y x.len c5], .int .i64 0]) (by simp [results, Tryz.results20, go_sem, *]) rfl P.out
        · have h0' : (q3 == 0) = false := by simpa using h0
          have HN := Lib.hid h0
          clear h0
          go_wp2_with fail
          refine CK.out.mono ?_
          rintro e w6 ⟨rfl, hb6⟩
          have BW := Lib.hid (BW.out.trans (hb6.mono BW.out.size))
          have ZR := Lib.hid ((hb6.block _ (lt_of_block ZR.out)).trans ZR.out)
          clear hb6 CK v0 v1 v2 v3 v4 v5 XV
          have P := Lib.hid (show OutR w X (.returned (.tuple #[.agg #[.string ⟨#[]⟩, .int .i64 0, .int .i64 0, .int .i64 0, .string ⟨#[]⟩, .slice none 0 0], .int .i64 q3])) ((((((w6.setCell ⟨w.heap.size, 0, none⟩ (.string ⟨#[]⟩)).setCell ⟨w.heap.size, 1, none⟩ (.int .i64 0)).setCell ⟨w.heap.size, 2, none⟩ (.int .i64 0)).setCell ⟨w.heap.size, 3, none⟩ (.int .i64 0)).setCell ⟨w.heap.size, 4, none⟩ (.string ⟨#[]⟩)).setCell ⟨w.heap.size, 5, none⟩ (.slice none 0 0)) by
            have K8 := keptSet w6 w.heap.size 0 [.string ⟨#[]⟩, .int .i64 0, .int .i64 0, .int .i64 0, .string ⟨#[]⟩, .slice none 0 0]
            have B8 : Below w.heap.size w ((((((w6.setCell ⟨w.heap.size, 0, none⟩ (.string ⟨#[]⟩)).setCell ⟨w.heap.size, 1, none⟩ (.int .i64 0)).setCell ⟨w.heap.size, 2, none⟩ (.int .i64 0)).setCell ⟨w.heap.size, 3, none⟩ (.int .i64 0)).setCell ⟨w.heap.size, 4, none⟩ (.string ⟨#[]⟩)).setCell ⟨w.heap.size, 5, none⟩ (.slice none 0 0)) := BW.out.trans (K8.below (fun k h => by omega) BW.out.size)
            rw [HA.out, if_pos trivial, if_pos trivial, if_neg (by rw [HQ.out]; exact HN.out), HQ.out]
            exact ⟨⟨none, 0, rfl, zReadsA _ _ _⟩, B8⟩)
          obtain ⟨y0, y1, y2, y3, y4, y5⟩ := box6 ZR.out
          obtain ⟨f0, f1, f2, f3, f4, f5⟩ := frz6 ZR.out
          clear ZR BW AV
          go_wp2
          exact bodyPost_ret (v := .tuple #[.agg #[.string ⟨#[]⟩, .int .i64 0, .int .i64 0, .int .i64 0, .string ⟨#[]⟩, .slice none 0 0], .int .i64 q3]) (by simp [results, Tryz.results20, go_sem, *]) rfl P.out
      · have hpos : 0 < D1.length := List.length_pos_iff.2 hD1
        have HN := Lib.hid hD1
        clear hD1 XV
        have P := Lib.hid (show OutR w X (.returned (.tuple #[.agg #[.string ⟨#[]⟩, .int .i64 0, .int .i64 0, .int .i64 0, .string ⟨#[]⟩, .slice none 0 0], .int .i64 2])) ((((((V2.setCell ⟨w.heap.size, 0, none⟩ (.string ⟨#[]⟩)).setCell ⟨w.heap.size, 1, none⟩ (.int .i64 0)).setCell ⟨w.heap.size, 2, none⟩ (.int .i64 0)).setCell ⟨w.heap.size, 3, none⟩ (.int .i64 0)).setCell ⟨w.heap.size, 4, none⟩ (.string ⟨#[]⟩)).setCell ⟨w.heap.size, 5, none⟩ (.slice none 0 0)) by
          have K8 := keptSet V2 w.heap.size 0 [.string ⟨#[]⟩, .int .i64 0, .int .i64 0, .int .i64 0, .string ⟨#[]⟩, .slice none 0 0]
          have B8 : Below w.heap.size w ((((((V2.setCell ⟨w.heap.size, 0, none⟩ (.string ⟨#[]⟩)).setCell ⟨w.heap.size, 1, none⟩ (.int .i64 0)).setCell ⟨w.heap.size, 2, none⟩ (.int .i64 0)).setCell ⟨w.heap.size, 3, none⟩ (.int .i64 0)).setCell ⟨w.heap.size, 4, none⟩ (.string ⟨#[]⟩)).setCell ⟨w.heap.size, 5, none⟩ (.slice none 0 0)) := BW.out.trans (K8.below (fun k h => by omega) BW.out.size)
          rw [HA.out, if_pos trivial, if_neg HN.out]
          exact ⟨⟨none, 0, rfl, zReadsA _ _ _⟩, B8⟩)
        obtain ⟨y0, y1, y2, y3, y4, y5⟩ := box6 ZR.out
        obtain ⟨f0, f1, f2, f3, f4, f5⟩ := frz6 ZR.out
        clear ZR BW AV
        go_wp2
        exact bodyPost_ret (v := .tuple #[.agg #[.string ⟨#[]⟩, .int .i64 0, .int .i64 0, .int .i64 0, .string ⟨#[]⟩, .slice none 0 0], .int .i64 2]) (by simp [results, Tryz.results20, go_sem, *]) rfl P.out
    · have he2' : (er2 == 0) = false := by simpa using he2
      have HN := Lib.hid he2
      clear he2 LE XV DV
      have P := Lib.hid (show OutR w X (.returned (.tuple #[.agg #[.string ⟨#[]⟩, .int .i64 0, .int .i64 0, .int .i64 0, .string ⟨#[]⟩, .slice none 0 0], .int .i64 er2])) (((((((V.setCell ⟨w.heap.size, 0, none⟩ (.string ⟨#[]⟩)).setCell ⟨w.heap.size, 1, none⟩ (.int .i64 0)).setCell ⟨w.heap.size, 2, none⟩ (.int .i64 0)).setCell ⟨w.heap.size, 3, none⟩ (.int .i64 0)).setCell ⟨w.heap.size, 4, none⟩ (.string ⟨#[]⟩)).setCell ⟨w.heap.size, 5, none⟩ (.slice none 0 0))).drew by
        have K8 := keptSet V w.heap.size 0 [.string ⟨#[]⟩, .int .i64 0, .int .i64 0, .int .i64 0, .string ⟨#[]⟩, .slice none 0 0]
        have B8 : Below w.heap.size w (((((((V.setCell ⟨w.heap.size, 0, none⟩ (.string ⟨#[]⟩)).setCell ⟨w.heap.size, 1, none⟩ (.int .i64 0)).setCell ⟨w.heap.size, 2, none⟩ (.int .i64 0)).setCell ⟨w.heap.size, 3, none⟩ (.int .i64 0)).setCell ⟨w.heap.size, 4, none⟩ (.string ⟨#[]⟩)).setCell ⟨w.heap.size, 5, none⟩ (.slice none 0 0))).drew := (BW.out.trans (K8.below (fun k h => by omega) BW.out.size)).drew
        rw [HA.out, if_neg HN.out]
        exact ⟨⟨none, 0, rfl, zReadsA _ _ _⟩, B8⟩)
      obtain ⟨y0, y1, y2, y3, y4, y5⟩ := box6 ZR.out
      obtain ⟨f0, f1, f2, f3, f4, f5⟩ := frz6 ZR.out
      clear ZR BW AV
      go_upto_region 7 with fail
      refine wp_region_held_drew (S := (fun w' => w'.cell? ⟨q, 2, none⟩ = some (.int .i64 er2))) (by kernel_rfl) cb (fun hHeld => ?_)
      refine takeHYtfenfgbkphpboaaGreat (i := 0) (d := some 28) (v := .agg #[.string ⟨#[]⟩, .int .i64 0, .int .i64 0, .int .i64 0, .string ⟨#[]⟩, .slice none 0 0]) rfl rfl (by kernel_rfl) (by kernel_rfl) (by kernel_rfl) (fun _ _ _ h => h) (Or.inl ⟨by rfl, by intro w hSw; go_simp⟩) hHeld ?_
      simp only [Act.put, List.setIfInBounds_toArray, List.set_cons_zero, List.set_cons_succ]
      refine takeHYtfenfgbkphpboaaGreat (i := 1) (d := some 29) (v := .pointer (some ⟨q, 0, none⟩)) rfl rfl (by kernel_rfl) (by kernel_rfl) (by kernel_rfl) (fun _ _ _ h => h) (Or.inl ⟨by rfl, by intro w hSw; go_simp⟩) hHeld ?_
      simp only [Act.put, List.setIfInBounds_toArray, List.set_cons_zero, List.set_cons_succ]
      refine takeHYtfenfgbkphpboaaGreat (i := 2) (d := some 30) (v := .pointer (some ⟨q, 0, none⟩)) rfl rfl (by kernel_rfl) (by kernel_rfl) (by kernel_rfl) (fun _ _ _ h => h) (Or.inl ⟨by rfl, by intro w hSw; go_simp⟩) hHeld ?_
      simp only [Act.put, List.setIfInBounds_toArray, List.set_cons_zero, List.set_cons_succ]
      refine takeHYtfenfgbkphpboaaGreat (i := 3) (d := some 31) (v := .pointer (some ⟨q, 2, none⟩)) rfl rfl (by kernel_rfl) (by kernel_rfl) (by kernel_rfl) (fun _ _ _ h => h) (Or.inl ⟨by rfl, by intro w hSw; go_simp⟩) hHeld ?_
      simp only [Act.put, List.setIfInBounds_toArray, List.set_cons_zero, List.set_cons_succ]
      refine takeHYtfenfgbkphpboaaGreat (i := 4) (d := some 32) (v := .int .i64 er2) rfl rfl (by kernel_rfl) (by kernel_rfl) (by kernel_rfl) (fun _ _ _ h => h) (Or.inl ⟨by rfl, by intro w hSw; go_simp⟩) hHeld ?_
      simp only [Act.put, List.setIfInBounds_toArray, List.set_cons_zero, List.set_cons_succ]
      have K8 : Kept (· = w.heap.size) V (((((((V.setCell ⟨w.heap.size, 0, none⟩ (.string ⟨#[]⟩)).setCell ⟨w.heap.size, 1, none⟩ (.int .i64 0)).setCell ⟨w.heap.size, 2, none⟩ (.int .i64 0)).setCell ⟨w.heap.size, 3, none⟩ (.int .i64 0)).setCell ⟨w.heap.size, 4, none⟩ (.string ⟨#[]⟩)).setCell ⟨w.heap.size, 5, none⟩ (.slice none 0 0))) := keptSet V w.heap.size 0 [.string ⟨#[]⟩, .int .i64 0, .int .i64 0, .int .i64 0, .string ⟨#[]⟩, .slice none 0 0]
      have CC : (((((((V.setCell ⟨w.heap.size, 0, none⟩ (.string ⟨#[]⟩)).setCell ⟨w.heap.size, 1, none⟩ (.int .i64 0)).setCell ⟨w.heap.size, 2, none⟩ (.int .i64 0)).setCell ⟨w.heap.size, 3, none⟩ (.int .i64 0)).setCell ⟨w.heap.size, 4, none⟩ (.string ⟨#[]⟩)).setCell ⟨w.heap.size, 5, none⟩ (.slice none 0 0))).drew.cell? ⟨q, 2, none⟩ = some (.int .i64 er2) := Kept.cell (a := ⟨q, 2, none⟩) K8.drew cb (show ¬ q = w.heap.size by omega)
      clear K8
      refine wpAnyH_ready (rs := [5]) (by kernel_rfl) (by simp) ?_
      refine AllReadyH.cons (o := _) rfl (fun K hK => ?_) AllReadyH.nil
      go_simp
      refine hK.out _ _ CC (fun hHeld2 => ?_)
      try simp only [Act.put, List.setIfInBounds_toArray, List.set_cons_zero, List.set_cons_succ]
      clear hK K
      refine takeHYtfenfgbkphpboaaGreat (i := 6) (d := some 3) (v := .int .i64 er2) rfl rfl (by kernel_rfl) (by kernel_rfl) (by kernel_rfl) (fun _ _ _ h => h) (Or.inl ⟨by rfl, by intro w hSw; go_simp⟩) hHeld2 ?_
      simp only [Act.put, List.setIfInBounds_toArray, List.set_cons_zero, List.set_cons_succ]
      refine wpAnyH_done (by kernel_rfl) ?_ _
      clear hHeld hHeld2 CC
      go_wp2
      exact bodyPost_ret (v := .tuple #[.agg #[.string ⟨#[]⟩, .int .i64 0, .int .i64 0, .int .i64 0, .string ⟨#[]⟩, .slice none 0 0], .int .i64 er2]) (by simp [results, Tryz.results20, go_sem, *]) rfl P.out
  · have he' : (er == 0) = false := by simpa using he
    have HN := Lib.hid he
    clear he
    go_wp2_with fail
    refine OW.out.mono ?_
    rintro e w2 ⟨⟨a2, c2, rfl, hbr⟩, hb2⟩
    have BW := Lib.hid (B0.out.trans (hb2.mono B0.out.size))
    have ZR := Lib.hid ((hb2.block _ (lt_of_block R0.out)).trans R0.out)
    clear hb2 hbr OW B0 R0
    have P := Lib.hid (show OutR w X (.returned (.tuple #[.agg #[.string ⟨#[]⟩, .int .i64 0, .int .i64 0, .int .i64 0, .string ⟨#[]⟩, .slice none 0 0], .int .i64 er])) ((((((w2.setCell ⟨w.heap.size, 0, none⟩ (.string ⟨#[]⟩)).setCell ⟨w.heap.size, 1, none⟩ (.int .i64 0)).setCell ⟨w.heap.size, 2, none⟩ (.int .i64 0)).setCell ⟨w.heap.size, 3, none⟩ (.int .i64 0)).setCell ⟨w.heap.size, 4, none⟩ (.string ⟨#[]⟩)).setCell ⟨w.heap.size, 5, none⟩ (.slice none 0 0)) by
      have K8 := keptSet w2 w.heap.size 0 [.string ⟨#[]⟩, .int .i64 0, .int .i64 0, .int .i64 0, .string ⟨#[]⟩, .slice none 0 0]
      have B8 : Below w.heap.size w ((((((w2.setCell ⟨w.heap.size, 0, none⟩ (.string ⟨#[]⟩)).setCell ⟨w.heap.size, 1, none⟩ (.int .i64 0)).setCell ⟨w.heap.size, 2, none⟩ (.int .i64 0)).setCell ⟨w.heap.size, 3, none⟩ (.int .i64 0)).setCell ⟨w.heap.size, 4, none⟩ (.string ⟨#[]⟩)).setCell ⟨w.heap.size, 5, none⟩ (.slice none 0 0)) := BW.out.trans (K8.below (fun k h => by omega) BW.out.size)
      rw [HX.out, if_neg HN.out]
      exact ⟨⟨none, 0, rfl, zReadsA _ _ _⟩, B8⟩)
    obtain ⟨y0, y1, y2, y3, y4, y5⟩ := box6 ZR.out
    obtain ⟨f0, f1, f2, f3, f4, f5⟩ := frz6 ZR.out
    clear ZR BW
    go_wp2
    exact bodyPost_ret (v := .tuple #[.agg #[.string ⟨#[]⟩, .int .i64 0, .int .i64 0, .int .i64 0, .string ⟨#[]⟩, .slice none 0 0], .int .i64 er]) (by simp [results, Tryz.results20, go_sem, *]) rfl P.out

end Go.Proofs.YtfenfgbkphpboaaGreat

namespace Go.Proofs.YtfenfgbkphpboaaGreat
open Go.RowKit
variable {N : Nat}

set_option maxHeartbeats 16000000 in
set_option maxRecDepth 100000 in
theorem rRows_any (a : Option Addr) (c : Nat) (l : List UInt8) (hl : l.length ≤ 4000) (w : World) (h : BR w a c l) :
    Calls Tryz.prog 21 #[.slice a l.length c] w (OutRs w (decodeRs l)) := by
  obtain ⟨i0, hi, hz0, hz1, hz2⟩ := info_parts rowInfo
  have und : Tryz.prog.underlying 47 = some (.slice 38) := Tryz.underlying47
  have OP := Lib.hid (rOpenAny_any a c l (by omega) w h)
  have hlen := openF_len l
  have hD : decodeRs l = if (openF l).2 = 0 then allOf [] (dRows ((openF l).1, 0)) errRows else ([], (openF l).2) := rfl
  obtain ⟨⟨p, er⟩, hp⟩ : ∃ r, openF l = r := ⟨_, rfl⟩
  rw [hp] at OP hlen hD
  simp only at OP hlen hD
  obtain ⟨X, hX⟩ : ∃ X, decodeRs l = X := ⟨_, rfl⟩
  rw [hX] at hD ⊢
  have HX := Lib.hid hD
  clear hp hD h hX
  by_cases he : er = 0
  · subst he
    have hA : X = allOf [] (dRows (p, 0)) errRows := by rw [HX.out, if_pos rfl]
    have hsz := dRows_sz (p, 0)
    unfold dRows at hA hsz
    have M0 := Lib.hid (fun N q w3 w' (hd : RT N w3 w' q p (p, 0)) => hd.many 64 ⟨by omega, by omega⟩)
    obtain ⟨hn0, hn1⟩ := dNum_in (most := 64) (by omega) (p, 0)
    obtain ⟨⟨n', D3⟩, hM⟩ : ∃ r, dNum 0 64 (p, 0) = r := ⟨_, rfl⟩
    rw [hM] at M0 hn0 hn1 hA hsz
    simp only at M0 hn0 hn1 hA hsz
    obtain ⟨n, rfl⟩ := Int.eq_ofNat_of_zero_le hn0
    rw [Int.toNat_natCast] at hA hsz
    have HA := Lib.hid hA
    have HS := Lib.hid (p := ∀ x ∈ (dMany dRow n D3).1, SzR 4000 x) (fun x hx => (hsz x hx).mono (show p.length ≤ 4000 by omega))
    clear hM hn0 hA hsz HX
    go_enter Tryz.func21, Tryz.ntmps21
    go_wp2_with fail
    refine OP.out.mono ?_
    rintro e w2 ⟨⟨a2, c2, rfl, hbr⟩, hb2⟩
    have B2 := Lib.hid hb2
    have HBR := Lib.hid hbr
    clear hb2 hbr OP
    go_upto_region 5 with fail
    generalize hW : World.alloc w2 _ = w3
    have T3 := Lib.hid (RT.new (w3 := w3) HBR.out (by omega) hW.symm)
    have B3 := Lib.hid (show Below w.heap.size w w3 by rw [← hW]; exact B2.out.alloc B2.out.size _)
    have hqw := B2.out.size
    have hq3 := T3.out.lt
    obtain ⟨q, hq⟩ : ∃ q, w2.heap.size = q := ⟨_, rfl⟩
    rw [hq] at T3 hqw hq3
    rw [hq]
    clear hW HBR B2 hq
    go_wp2_with fail
    refine (M0.out _ _ _ _ T3.out).mono ?_
    rintro e w5 ⟨rfl, T5, hk⟩
    have T5 := Lib.hid T5
    have hs5 : w3.heap.size ≤ w5.heap.size := hk.size
    clear hk M0 T3
    go_wp2_with fail
    go_loopw [8, 9] (fun v i wr => ∃ (k : Nat) (va : Option Addr) (vc : Nat) (T : List (RD × Option Addr × Nat)), v = .slice va k vc ∧ i = .int .i64 k ∧ k ≤ n ∧ T.length = k ∧ Hid (T.map (·.1) = (dMany dRow k D3).1) ∧ Hid (RT q w3 wr q p (dMany dRow k D3).2) ∧ Hid (w5.heap.size ≤ wr.heap.size) ∧ Hid (wr.ownsRow w5.heap.size 38 6 (.slice va k vc) k (T.flatMap rowT)) ∧ Hid (LR (fun b => q < b ∧ ∀ s, (Value.slice va k vc).ownBlock = some s → s ≠ b) wr T)) (fun _ i _ => n - (intOf i).toNat)
    case atStart => exact ⟨0, none, 0, [], rfl, rfl, Nat.zero_le _, rfl, Lib.hid rfl, T5, Lib.hid (Nat.le_refl _), Lib.hid (World.ownsRow_nil _ _ _ _), Lib.hid (fun t ht => by simp at ht)⟩
    case round =>
      obtain ⟨k, va, vc, T, rfl, rfl, hk, hTl, hM, hT, hW5, hO, hL⟩ := hrel
      clear T5
      by_cases hlt : k < n
      · have hs := dMany_succ dRow k D3
        obtain ⟨⟨L, D⟩, hD⟩ : ∃ r, dMany dRow k D3 = r := ⟨_, rfl⟩
        rw [hD] at hs hT hM
        simp only at hs hT hM
        have VT := Lib.hid (rRowD_any q p D wr hT.out.start)
        obtain ⟨⟨x, Db⟩, hx⟩ : ∃ r, dRow D = r := ⟨_, rfl⟩
        rw [hx] at VT hs
        simp only at VT hs
        have HN := Lib.hid hs
        have hw5 : w5.heap.size ≤ wr.heap.size := hW5.out
        clear hs hD hx
        go_wp2_with fail
        refine VT.out.mono ?_
        rintro e wc ⟨⟨y, ce, rfl, hy⟩, Tc⟩
        have kc := Tc.k
        have Tc := Lib.hid (hT.out.again Tc)
        have Oc := Lib.hid (kc.owns hO.out (fun s hs e => by have := (hO.out.lt s hs).1; omega))
        have Lc := Lib.hid ((hL.out.kept kc (fun b hb e => by have := hb.1; omega)).mono (H := fun b => (q < b ∧ ∀ s, (Value.slice va k vc).ownBlock = some s → s ≠ b) ∧ b < wc.heap.size) (fun b hb hl => ⟨hb, hl⟩))
        have Yc := Lib.hid (hy.mono (H := fun b => wr.heap.size < b ∧ b < wc.heap.size) (fun b hb hl => ⟨hb, hl⟩))
        have OL := Lib.hid (fun s hs => (hO.out.lt s hs).2)
        have hsc : wr.heap.size ≤ wc.heap.size := kc.size
        have OA := Lib.hid (show (wc.alloc (.cells #[.string x.key, .int .i64 x.t, .int .i64 x.i, .int .i64 x.q, .string x.o, .slice y x.len ce] 38)).ownsRow w5.heap.size 38 6 (.slice va k vc) k (T.flatMap rowT) from World.ownsRow.alloc Oc.out _)
        have NA := Lib.hid (news6_at wc x y ce)
        have BA := Lib.hid (show w5.heap.size ≤ (wc.alloc (.cells #[.string x.key, .int .i64 x.t, .int .i64 x.i, .int .i64 x.q, .string x.o, .slice y x.len ce] 38)).heap.size by rw [World.size_alloc]; omega)
        clear kc hy VT hT hO hL hW5 Oc
        go_wp2_with (at_builtin; refine wpList_append_new rfl _ _ 47 rfl (base := w5.heap.size) und hi hz0 hz1 hz2 rfl (by decide) (.slice va k vc) k 1 1 ⟨wc.heap.size, 0, none⟩ (T.flatMap rowT) (sixC x y ce) rfl rfl OA.out rfl NA.out (sixC_one _ _ _) (by unfold maxLen; omega) (by omega) BA.out ?_)
        intro v6 w6 ho hg hq6
        obtain ⟨va6, c6, rfl⟩ := own_rowG ho
        have ko : Kept (fun b => (Value.slice va k vc).ownBlock = some b) wc w6 := ((Kept.refl _ wc).alloc _).grown hg (fun q hq => .inl hq)
        have T6 := Lib.hid (show RT q w3 w6 q p (dMany dRow (k + 1) D3).2 by rw [HN.out]; exact Tc.out.own (w' := w6) (ko.mono (fun b hb _ => show w3.heap.size ≤ b by have := (OA.out.lt b hb).1; omega)))
        have HQ6 := Lib.hid (show ∀ s, (Value.slice va6 (k + 1) c6).ownBlock = some s → (Value.slice va k vc).ownBlock = some s ∨ wc.heap.size < s from fun s hs => (hq6 s hs).imp id (fun h => by omega))
        have L6 := Lib.hid (show LR (fun b => q < b ∧ ∀ s, (Value.slice va6 (k + 1) c6).ownBlock = some s → s ≠ b) w6 (T ++ [(x, y, ce)]) from fun t ht => by
          rcases List.mem_append.1 ht with ht | ht
          · refine ((Lc.out t ht).kept ko (fun b hb e => hb.1.2 b e rfl)).mono (fun b hb _ => ⟨hb.1.1, fun s hs e => ?_⟩)
            rcases HQ6.out s hs with h | h
            · exact hb.1.2 s h e
            · have := hb.2; omega
          · rw [List.mem_singleton] at ht
            subst ht
            refine (Yc.out.kept ko (fun b hb e => by have := OL.out b e; have := hb.1; omega)).mono (fun b hb _ => ⟨by have := hb.1; omega, fun s hs e => ?_⟩)
            rcases HQ6.out s hs with h | h
            · have := OL.out s h; have := hb.1; omega
            · have := hb.2; omega)
        have O6 := Lib.hid (show w6.ownsRow w5.heap.size 38 6 (.slice va6 (k + 1) c6) (k + 1) ((T ++ [(x, y, ce)]).flatMap rowT) by rw [List.flatMap_append]; exact ho)
        have M6 := Lib.hid (show (T ++ [(x, y, ce)]).map (·.1) = (dMany dRow (k + 1) D3).1 by rw [HN.out, List.map_append, hM.out]; rfl)
        have W6 := Lib.hid (show w5.heap.size ≤ w6.heap.size by have : wc.heap.size ≤ w6.heap.size := ko.size; omega)
        clear ho hg hq6 ko OA NA BA OL Tc Lc Yc HQ6 HN hM
        go_wp2_with fail
        go_roundw
        case rel => exact ⟨k + 1, va6, c6, T ++ [(x, y, ce)], rfl, by go_num, by omega, by rw [List.length_append, hTl]; rfl, M6, T6, W6, O6, L6⟩
        case measure => simp [intOf]; omega
      · obtain rfl : k = n := by omega
        have hl2 := dMany_len dRow k D3
        have cb := hT.out.bad
        have LE := Lib.hid hT.out.left
        have BW := Lib.hid (keptFrom B3.out hT.out.k (by omega))
        have RR2 := Lib.hid (show ReadsR wr va k (atR (T.map (·.1))) by
          obtain ⟨a', c', hv, hr⟩ := rows_own hO.out hTl (by omega) hL.out
          cases hv
          exact hr)
        have hMo := hM.out
        rw [hMo] at RR2
        obtain ⟨⟨L, D⟩, hLD⟩ : ∃ r, dMany dRow k D3 = r := ⟨_, rfl⟩
        rw [hLD] at HA HS cb LE hl2 RR2
        simp only at HS cb LE hl2 RR2
        have hA := HA.out
        unfold allOf at hA
        obtain ⟨D1, er2⟩ := D
        simp only at hA cb LE
        have HA2 := Lib.hid hA
        have HZ := Lib.hid (show ∀ j, j < k → SzR 4000 (atR L j) from fun j hj => by
          have e : atR L j = L[j] := by unfold atR; rw [List.getD_eq_getElem?_getD, List.getElem?_eq_getElem (by omega)]; rfl
          rw [e]
          exact HS.out _ (List.getElem_mem (by omega)))
        have HE0 := Lib.hid (show errRows L = errF (fromR (atR L) k 0) by unfold errRows; rw [if_neg (by omega), fromR_all, ← hl2, tkR_atR])
        have hl2' := Lib.hid hl2
        clear hMo hM hT hW5 hO hL hLD HA hA HS hl2
        by_cases he2 : er2 = 0
        · subst he2
          go_wp2_with fail
          refine LE.out.mono ?_
          rintro e w7 ⟨rfl, nd, rfl⟩
          have BV := Lib.hid (show Below w.heap.size w (wr.drewN nd) from ⟨BW.out.os, BW.out.tape, BW.out.output, BW.out.size, BW.out.block⟩)
          have RV := Lib.hid (show ReadsR (wr.drewN nd) va k (atR L) from RR2.out)
          generalize wr.drewN nd = V at BV RV ⊢
          clear cb LE BW RR2
          by_cases hD1 : D1 = []
          · subst hD1
            go_wp2_with fail
            go_loopw [5, 10] (fun v i wr => ∃ j : Nat, v = .int .i64 0 ∧ i = .int .i64 j ∧ j ≤ k ∧ Hid (errF (fromR (atR L) k 0) = errF (fromR (atR L) k j)) ∧ Hid (Below V.heap.size V wr)) (fun _ i _ => k - (intOf i).toNat)
            case atStart => exact ⟨0, rfl, rfl, Nat.zero_le _, Lib.hid rfl, Lib.hid (Below.refl _ _)⟩
            case round =>
              obtain ⟨j, rfl, rfl, hj, hE, hB⟩ := hrel
              by_cases hjk : j < k
              · obtain ⟨b, off, y, ce, hva, -, h6, hy⟩ := (RV.out.below hB.out).cells hjk
                subst hva
                have hE2 := hE.out
                rw [fromR_cons (atR L) hjk, errF] at hE2
                have C := Lib.hid (rCheckS_any (atR L j) y ce (HZ.out j hjk) wr hy.plain)
                obtain ⟨x, hx⟩ : ∃ x, atR L j = x := ⟨_, rfl⟩
                rw [hx] at h6 hE2 C
                obtain ⟨e1, he1⟩ : ∃ q, errR x = q := ⟨_, rfl⟩
                rw [he1] at C hE2
                have HE := Lib.hid hE2
                obtain ⟨p0, p1, p2, p3, p4, p5⟩ := h6
                clear hE2 hx he1 hy hE
                by_cases h0 : e1 = 0
                · subst h0
                  go_wp2_with fail
                  refine C.out.mono ?_
                  rintro e w8 ⟨rfl, hb⟩
                  have B8 := Lib.hid (hB.out.trans (hb.mono hB.out.size))
                  clear hb C p0 p1 p2 p3 p4 p5
                  go_wp2_with fail
                  go_roundw
                  case rel => exact ⟨j + 1, rfl, by go_num, by omega, Lib.hid (by rw [HE.out, if_pos trivial]), B8⟩
                  case measure => simp [intOf]; omega
                · have h0' : (e1 == 0) = false := by simpa using h0
                  have E2 := Lib.hid (show errRows L = e1 by rw [HE0.out, HE.out, if_neg h0])
                  have HN := Lib.hid h0
                  clear h0
                  go_wp2_with fail
                  refine C.out.mono ?_
                  rintro e w8 ⟨rfl, hb⟩
                  have P := Lib.hid (show OutRs w X (.returned (.tuple #[.slice none 0 0, .int .i64 e1])) w8 by
                    rw [HA2.out, if_pos trivial, if_pos trivial, if_neg (by rw [E2.out]; exact HN.out), E2.out]
                    exact ⟨⟨none, 0, rfl, ⟨Nat.zero_le _, .inl rfl⟩⟩, BV.out.trans ((hB.out.trans (hb.mono hB.out.size)).mono BV.out.size)⟩)
                  clear hb C p0 p1 p2 p3 p4 p5
                  go_wp2_with fail
                  go_ret2
                  exact P.out
              · obtain rfl : j = k := by omega
                have E2 := Lib.hid (show errRows L = 0 by rw [HE0.out, hE.out, fromR_nil _ (Nat.le_refl _)]; rfl)
                have P := Lib.hid (show OutRs w X (.returned (.tuple #[.slice va j vc, .int .i64 0])) wr by
                  rw [HA2.out, if_pos trivial, if_pos trivial, if_pos E2.out]
                  refine ⟨⟨va, vc, ?_, ?_⟩, BV.out.trans (hB.out.mono BV.out.size)⟩
                  · show Ending.returned (.tuple #[.slice va j vc, .int .i64 0]) = .returned (.tuple #[.slice va L.length vc, .int .i64 0])
                    rw [hl2'.out]
                  · show ReadsR wr va L.length (atR L)
                    rw [hl2'.out]
                    exact RV.out.below hB.out)
                go_wp2_with fail
                go_ret2
                exact P.out
          · have hpos : 0 < D1.length := List.length_pos_iff.2 hD1
            have P := Lib.hid (show OutRs w X (.returned (.tuple #[.slice none 0 0, .int .i64 2])) V by
              rw [HA2.out, if_pos trivial, if_neg hD1]
              exact ⟨⟨none, 0, rfl, ⟨Nat.zero_le _, .inl rfl⟩⟩, BV.out⟩)
            clear hD1
            go_wp2_with fail
            go_ret2
            exact P.out
        · have he2' : (er2 == 0) = false := by simpa using he2
          have P := Lib.hid (show ∀ w', Below wr.heap.size wr w' → OutRs w X (.returned (.tuple #[.slice none 0 0, .int .i64 er2])) w' from fun w' hb => by
            rw [HA2.out, if_neg he2]
            exact ⟨⟨none, 0, rfl, ⟨Nat.zero_le _, .inl rfl⟩⟩, BW.out.trans (hb.mono BW.out.size)⟩)
          clear he2 LE RR2
          go_upto_region 12 with fail
          go_quiet (fail)
          go_wp2_with fail
          go_ret2
          exact P.out _ ⟨rfl, rfl, rfl, Nat.le_refl _, fun _ _ => rfl⟩
  · have he' : (er == 0) = false := by simpa using he
    have HN := Lib.hid he
    clear he
    go_enter Tryz.func21, Tryz.ntmps21
    go_wp2_with fail
    refine OP.out.mono ?_
    rintro e w2 ⟨⟨a2, c2, rfl, hbr⟩, hb2⟩
    have P := Lib.hid (show OutRs w X (.returned (.tuple #[.slice none 0 0, .int .i64 er])) w2 by
      rw [HX.out, if_neg HN.out]
      exact ⟨⟨none, 0, rfl, ⟨Nat.zero_le _, .inl rfl⟩⟩, hb2⟩)
    clear hb2 hbr OP
    go_wp2_with fail
    go_ret2
    exact P.out

end Go.Proofs.YtfenfgbkphpboaaGreat
