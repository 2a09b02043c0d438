/-
  No statement: Order and Rep of package elect.
-/
import Derived.Test.YtpdobbdbmgeoiaaELR
import Derived.Test.YtpdobbdbmgeoiaaJAppM
import Derived.Test.YtpdobbdbmgeoiaaDgMath
set_option linter.unusedVariables false
set_option linter.unusedSimpArgs false
namespace Go.Proofs.Ytpdobbdbmgeoiaa
open Go.RowKit

theorem infoC : (Try.prog.info? 32).map (fun i => (i.zero, i.size, i.bytes)) = some (some (.agg #[.string ⟨#[]⟩, .string ⟨#[]⟩, .int .i64 0]), 3, 40) := by kernel_rfl
theorem encC_one (c : CH) : ∀ u ∈ encC c, u.oneCell' = true := by
  intro u hu
  simp [encC] at hu
  rcases hu with rfl | rfl | rfl <;> rfl
theorem new_three (w : World) (c : CH) : ∀ j u, (encC c)[j]? = some u → (w.alloc (.cells #[.string c.key, .string c.rep, .int .i64 c.load] 32)).cell? ((⟨w.heap.size, 0, none⟩ : Addr).add j) = some u := fun j u hj => by
  rw [Addr.add_lit, Nat.zero_add, cell_of_row _ _ _ _ _ (0, 0) (heap_alloc_new w _)]
  simpa [encC] using hj

/-- Choices of the call's own. -/
def OwnC (w : World) (B : Nat) (v : Value) (T : List CH) : Prop := w.ownsRow B 32 3 v T.length (T.flatMap encC)
theorem OwnC.below {w w' : World} {B : Nat} {v : Value} {T : List CH} (h : OwnC w B v T) (hb : Below w.heap.size w w') : OwnC w' B v T := owns_below h hb

theorem OwnC.cells {w : World} {B g c : Nat} {T : List CH} (h : OwnC w B (.slice (some ⟨g, 0, none⟩) T.length c) T) : CellsC w g T ∧ (∀ o, w.frozen? ⟨g, o, none⟩ = false) ∧ B ≤ g ∧ g < w.heap.size := by
  have hc : ∀ j i u, j < T.length → i < 3 → (T.flatMap encC)[j * 3 + i]? = some u → w.cell? ⟨g, j * 3 + i, none⟩ = some u := fun j i u hj hi hu => by
    obtain ⟨g', e, h2⟩ := owns_at h hu
    simp only [Addr.mk.injEq, and_true] at e
    subst e
    exact h2
  refine ⟨fun j x hx => ?_, ?_, (h.lt g rfl).1, (h.lt g rfl).2⟩
  · obtain ⟨hj, he⟩ := List.getElem?_eq_some_iff.1 hx
    have hf : ∀ i, i < 3 → (T.flatMap encC)[j * 3 + i]? = (encC x)[i]? := fun i hi => by rw [flat_at (m := 3) (fun t => rfl) T hj hi, he]
    exact ⟨hc j 0 _ hj (by omega) (by rw [hf 0 (by omega)]; rfl), hc j 1 _ hj (by omega) (by rw [hf 1 (by omega)]; rfl), hc j 2 _ hj (by omega) (by rw [hf 2 (by omega)]; rfl)⟩
  · rcases h.2 with ⟨h1, _⟩ | ⟨g', cap', cur, h1, hb, hg, _⟩
    · simp at h1
    · simp only [Value.slice.injEq, Option.some.injEq, Addr.mk.injEq] at h1
      obtain ⟨⟨rfl, -⟩, -, rfl⟩ := h1
      exact fun o => frozen_of_row w g o _ _ hg
theorem OwnC.some {w : World} {B : Nat} {a : Option Addr} {c : Nat} {T : List CH} (h : OwnC w B (.slice a T.length c) T) (ha : a ≠ none) : ∃ g, a = some ⟨g, 0, none⟩ := by
  rcases h.2 with ⟨h1, _⟩ | ⟨g', cap', cur, h1, _⟩
  · simp only [Value.slice.injEq] at h1
    exact absurd h1.1 ha
  · simp only [Value.slice.injEq] at h1
    exact ⟨g', h1.1⟩

theorem byI_new (W : World) : Calls Try.prog 20 #[.func (.func 21) #[] #[]] W fun e w' => e = .returned (.func (.func 40) #[] #[.pointer (some ⟨W.heap.size, 0, none⟩)]) ∧ w' = W.alloc (.cells #[.func (.func 21) #[] #[]] 59) := by
  go_enter Try.func20, Try.ntmps20
  go_wp2_with fail
  go_ret
  exact ⟨rfl, rfl⟩
theorem byS_new (f : Nat) (W : World) : Calls Try.prog 22 #[.func (.func f) #[] #[]] W fun e w' => e = .returned (.func (.func 42) #[] #[.pointer (some ⟨W.heap.size, 0, none⟩)]) ∧ w' = W.alloc (.cells #[.func (.func f) #[] #[]] 61) := by
  go_enter Try.func22, Try.ntmps22
  go_wp2_with fail
  go_ret
  exact ⟨rfl, rfl⟩
theorem inTurn_new (v : Value) (a : Option Addr) (l c : Nat) (hv : v = .slice a l c) (W : World) : Calls Try.prog 19 #[v] W fun e w' => e = .returned (.func (.func 39) #[] #[.pointer (some ⟨W.heap.size, 0, none⟩)]) ∧ w' = W.alloc (.cells #[v] 85) := by
  subst hv
  go_enter Try.func19, Try.ntmps19
  go_wp2_with fail
  go_ret
  exact ⟨rfl, rfl⟩

/-- What Order answers. -/
def OrderP (w : World) (L : List RD) (e : Ending) (w' : World) : Prop :=
  (∃ (g c : Nat) (L' : List CH), e = .returned (.slice (some ⟨g, 0, none⟩) L'.length c) ∧ L'.Perm (standL L) ∧ Asc L' ∧ CellsC w' g L' ∧ w.heap.size ≤ g ∧ g < w'.heap.size) ∧ Below w.heap.size w w'

set_option maxRecDepth 100000 in
set_option maxHeartbeats 8000000 in
theorem order_any (L : List RD) (a : Option Addr) (c : Nat) (hn : L.length ≤ 1000) (ok : ∀ x ∈ L, OkE x) (w : World) (h : ReadsR w a L.length (atD L)) :
    Calls Try.prog 8 #[.slice a L.length c] w (OrderP w L) := by
  obtain ⟨i0, hi, hz0, hz1, hz2⟩ := info_parts infoC
  have und : Try.prog.underlying 25 = some (.slice 32) := Try.underlying25
  have HA := Lib.hid h
  have OK := Lib.hid (p := ∀ j, j < L.length → OkE (atD L j)) (fun j hj => by rw [atD_lt hj]; exact ok _ (List.getElem_mem _))
  have TO := Lib.hid (p := ∀ j, j < L.length → L.take (j + 1) = L.take j ++ [atD L j]) (fun j hj => by rw [List.take_add_one, List.getElem?_eq_getElem hj, atD_lt hj]; rfl)
  have FO := Lib.hid (p := L.take L.length = L) (List.take_length ..)
  obtain ⟨n, hnn⟩ : ∃ n, L.length = n := ⟨_, rfl⟩
  rw [hnn] at HA hn OK TO FO ⊢
  clear h hnn ok
  go_enter Try.func8, Try.ntmps8
  go_wp2_with (at_make; refine wpList_make_own _ rfl _ _ 25 rfl w.heap.size 32 i0 _ 3 und hi hz0 hz1 .i64 .i64 _ n rfl rfl rfl (by rw [hz2]; omega) (by unfold maxLen; omega) (Nat.le_refl _) ?_)
  intro w2 ho hg
  have O2 : Hid (OwnC w2 w.heap.size _ []) := Lib.hid ho
  have B2 := Lib.hid (p := Below w.heap.size w w2) ((Below.refl _ _).grown hg (Nat.le_refl _) (fun k h => by cases h))
  clear ho hg
  go_wp2_with fail
  go_loopw [3, 13] (fun v i wr => ∃ (k : Nat) (T : List CH) (va : Option Addr) (vl vc : Nat), v = .slice va vl vc ∧ i = .int .i64 k ∧ k ≤ n ∧ T.length ≤ k ∧ vl = T.length ∧ va ≠ none ∧ Hid (T = standL (L.take k)) ∧ Hid (OwnC wr w.heap.size (.slice va vl vc) T) ∧ Hid (Below w.heap.size w wr)) (fun _ i _ => n - (intOf i).toNat)
  case atStart => exact ⟨0, [], _, _, _, rfl, rfl, Nat.zero_le _, Nat.le_refl _, rfl, (by simp), Lib.hid rfl, O2, B2⟩
  case round =>
    obtain ⟨k, T, va, vl, vc, rfl, rfl, hk, hTk, hvl, hva, hM, hO, hB⟩ := hrel
    subst hvl
    clear O2 B2
    by_cases hlt : k < n
    · have a1 : (k : Int) < (n : Int) := by omega
      obtain ⟨b, off, y, cy, rfl, hbw, h6, hry⟩ := HA.out.cellsD hlt
      have OKx := Lib.hid (OK.out k hlt)
      have HX0 := Lib.hid (show standL (L.take (k + 1)) = standL (L.take k) ++ (if standB (atD L k) = true then [choiceC (atD L k)] else []) by rw [TO.out k hlt]; unfold standL; rw [List.filter_append, List.map_append]; congr 1; rw [List.filter_cons]; split <;> rfl)
      obtain ⟨x, hx⟩ : ∃ x, atD L k = x := ⟨_, rfl⟩
      rw [hx] at h6 hry OKx HX0
      have ST := Lib.hid (p := ∀ W, Below w.heap.size w W → Calls Try.prog 17 #[.agg #[.string x.key, .int .i64 x.t, .int .i64 x.i, .int .i64 x.q, .string x.o, .slice y x.len cy]] W fun e w' => e = .returned (.tuple #[if standB x = true then chV (choiceC x) else .agg #[.string ⟨#[]⟩, .string ⟨#[]⟩, .int .i64 0], .bool (standB x)]) ∧ Below W.heap.size W w') (fun W hb => stands_any OKx.out y cy W (hry.plain.kept hb))
      obtain ⟨d0, d1, d2, d3, d4, d5⟩ := h6.keptS (keptBelow hB.out) (by omega)
      have hzr := hB.out.size
      clear h6 hx hry
      go_upto_region 5 with fail
      generalize hW : World.alloc wr _ = W
      have hWb : Below wr.heap.size wr W := by rw [← hW]; exact (Below.refl _ _).alloc (Nat.le_refl _) _
      have hW6 : W.heap[wr.heap.size]? = some (.cells #[.string x.key, .int .i64 x.t, .int .i64 x.i, .int .i64 x.q, .string x.o, .slice y x.len cy] 42 (0, 0)) := by rw [← hW]; exact heap_alloc_new wr _
      clear hW d0 d1 d2 d3 d4 d5
      obtain ⟨d0, d1, d2, d3, d4, d5⟩ := sixE hW6
      have BW := Lib.hid (hB.out.trans (hWb.mono hzr))
      have OW := Lib.hid (hO.out.below hWb)
      clear hWb hW6 hO hB
      go_wp2_with fail
      refine (ST.out W BW.out).mono ?_
      rintro e w3 ⟨rfl, hb⟩
      have B3 := Lib.hid (BW.out.trans (hb.mono BW.out.size))
      have O3 := Lib.hid (OW.out.below hb)
      clear hb BW OW ST d0 d1 d2 d3 d4 d5
      obtain ⟨q, hq⟩ : ∃ q, choiceC x = q := ⟨_, rfl⟩
      obtain ⟨s, hs⟩ : ∃ s, standB x = s := ⟨_, rfl⟩
      rw [hq, hs] at HX0
      rw [hq, hs]
      clear hq hs
      cases s with
      | false =>
        have M5 := Lib.hid (show T = standL (L.take (k + 1)) by rw [HX0.out, if_neg (by decide), List.append_nil]; exact hM.out)
        go_upto_region 6 with fail
        generalize hV : World.alloc w3 _ = V
        have hbV : Below w3.heap.size w3 V := by rw [← hV]; exact (Below.refl _ _).alloc (Nat.le_refl _) _
        have B4 := Lib.hid (B3.out.trans (hbV.mono B3.out.size))
        have O4 := Lib.hid (O3.out.below hbV)
        clear hV hbV B3 O3
        go_wp2_with fail
        go_roundw
        case rel => exact ⟨k + 1, T, va, _, vc, rfl, by go_num, by omega, by omega, rfl, hva, M5, O4, B4⟩
        case measure => simp [intOf]; omega
      | true =>
        have M5 := Lib.hid (show T ++ [q] = standL (L.take (k + 1)) by rw [HX0.out, if_pos rfl, ← hM.out])
        go_upto_region 7 with fail
        generalize hV : World.alloc w3 _ = V
        have hbV : Below w3.heap.size w3 V := by rw [← hV]; exact (Below.refl _ _).alloc (Nat.le_refl _) _
        have hV3 : V.heap[w3.heap.size]? = some (.cells #[.string q.key, .string q.rep, .int .i64 q.load] 32 (0, 0)) := by rw [← hV]; exact heap_alloc_new w3 _
        obtain ⟨r0, r1, r2⟩ := threeE hV3
        have B4 := Lib.hid (B3.out.trans (hbV.mono B3.out.size))
        have O4 := Lib.hid (O3.out.below hbV)
        clear hV hbV hV3 B3 O3
        have OE := Lib.hid (O4.out.below ((Below.refl _ V).alloc (Nat.le_refl _) (.cells #[.string q.key, .string q.rep, .int .i64 q.load] 32)))
        have BE := Lib.hid (B4.out.alloc (by have := B4.out.size; omega) (.cells #[.string q.key, .string q.rep, .int .i64 q.load] 32))
        have NEW := Lib.hid (new_three V q)
        have hlen : T.length ≤ 1000 := by omega
        go_wp2_with (at_builtin; refine wpList_append_new rfl _ _ 25 rfl (base := w.heap.size) und hi hz0 hz1 hz2 rfl (by decide) (.slice va T.length vc) T.length 1 1 ⟨V.heap.size, 0, none⟩ (T.flatMap encC) (encC q) rfl rfl OE.out rfl NEW.out (encC_one _) (by unfold maxLen; omega) (by omega) (by have := BE.out.size; omega) ?_)
        intro v5 w5 hown5 hgrow5 hq5
        obtain ⟨va', vc', rfl⟩ := own_rowG hown5
        have hva' : va' ≠ none := by
          rcases hown5.2 with ⟨h1, _⟩ | ⟨g', cap', cur, h1, _⟩
          · simp at h1
          · simp only [Value.slice.injEq] at h1
            rw [h1.1]; simp
        have O5 : Hid (OwnC w5 w.heap.size (.slice va' (T.length + 1) vc') (T ++ [q])) := Lib.hid (by unfold OwnC; rw [List.length_append, List.flatMap_append]; simpa using hown5)
        have B5 := Lib.hid (BE.out.grown hgrow5 (by have := BE.out.size; omega) (fun q hq => (OE.out.lt q hq).1))
        clear hown5 hgrow5 hq5 OE BE NEW O4 B4 r0 r1 r2 HX0 hM
        go_wp2_with fail
        go_roundw
        case rel => exact ⟨k + 1, T ++ [q], va', T.length + 1, vc', rfl, by go_num, by omega, by rw [List.length_append]; show T.length + 1 ≤ k + 1; omega, by rw [List.length_append]; rfl, hva', M5, O5, B5⟩
        case measure => simp [intOf]; omega
    · obtain rfl : k = n := by omega
      have a1 : ¬ ((k : Nat) : Int) < (k : Int) := by omega
      obtain ⟨g, rfl⟩ := hO.out.some hva
      rw [FO.out] at hM
      have hT1 : T.length ≤ 1000 := by omega
      clear HA OK TO FO hva
      go_wp2_with fail
      refine (byI_new wr).mono ?_
      rintro e w4 ⟨rfl, hw4⟩
      have hb4 : Below wr.heap.size wr w4 := by rw [hw4]; exact (Below.refl _ _).alloc (Nat.le_refl _) _
      have f0 : w4.heap[wr.heap.size]? = some (.cells #[.func (.func 21) #[] #[]] 59 (0, 0)) := by rw [hw4]; exact heap_alloc_new wr _
      have F0 := Lib.hid (And.intro hb4 f0)
      clear hb4 f0 hw4
      go_wp2_with fail
      refine (byS_new _ w4).mono ?_
      rintro e w5 ⟨rfl, hw5⟩
      have hb5 : Below w4.heap.size w4 w5 := by rw [hw5]; exact (Below.refl _ _).alloc (Nat.le_refl _) _
      have f1 : w5.heap[w4.heap.size]? = some (.cells #[.func (.func 23) #[] #[]] 61 (0, 0)) := by rw [hw5]; exact heap_alloc_new w4 _
      have F1 := Lib.hid (And.intro hb5 f1)
      clear hb5 f1 hw5
      go_wp2_with fail
      refine (byS_new _ w5).mono ?_
      rintro e w6 ⟨rfl, hw6⟩
      have hb6 : Below w5.heap.size w5 w6 := by rw [hw6]; exact (Below.refl _ _).alloc (Nat.le_refl _) _
      have f2 : w6.heap[w5.heap.size]? = some (.cells #[.func (.func 24) #[] #[]] 61 (0, 0)) := by rw [hw6]; exact heap_alloc_new w5 _
      have F2 := Lib.hid (And.intro hb6 f2)
      clear hb6 f2 hw6
      go_wp2_with fail
      refine (inTurn_new _ (some ⟨w6.heap.size, 0, none⟩) 3 3 rfl _).mono ?_
      rintro e w8 ⟨rfl, hw8⟩
      obtain ⟨w7, hw7⟩ : ∃ w7, w6.alloc (.cells #[.func (.func 40) #[] #[.pointer (some ⟨wr.heap.size, 0, none⟩)], .func (.func 42) #[] #[.pointer (some ⟨w4.heap.size, 0, none⟩)], .func (.func 42) #[] #[.pointer (some ⟨w5.heap.size, 0, none⟩)]] 56) = w7 := ⟨_, rfl⟩
      rw [hw7] at hw8 ⊢
      have hb7 : Below w6.heap.size w6 w7 := by rw [← hw7]; exact (Below.refl _ _).alloc (Nat.le_refl _) _
      have hs7 : w7.heap[w6.heap.size]? = some (.cells #[.func (.func 40) #[] #[.pointer (some ⟨wr.heap.size, 0, none⟩)], .func (.func 42) #[] #[.pointer (some ⟨w4.heap.size, 0, none⟩)], .func (.func 42) #[] #[.pointer (some ⟨w5.heap.size, 0, none⟩)]] 56 (0, 0)) := by rw [← hw7]; exact heap_alloc_new w6 _
      have hb8 : Below w7.heap.size w7 w8 := by rw [hw8]; exact (Below.refl _ _).alloc (Nat.le_refl _) _
      have ho8 : w8.heap[w7.heap.size]? = some (.cells #[.slice (some ⟨w6.heap.size, 0, none⟩) 3 3] 85 (0, 0)) := by rw [hw8]; exact heap_alloc_new w7 _
      have z4 := F0.out.1.size
      have z5 := F1.out.1.size
      have z6 := F2.out.1.size
      have z7 := hb7.size
      have l4 := lt_of_block F0.out.2
      have l5 := lt_of_block F1.out.2
      have l6 := lt_of_block F2.out.2
      have l7 := lt_of_block hs7
      have b78 := hb8
      have b68 : Below w6.heap.size w6 w8 := hb7.trans (hb8.mono hb7.size)
      have b58 : Below w5.heap.size w5 w8 := F2.out.1.trans (b68.mono z6)
      have b48 : Below w4.heap.size w4 w8 := F1.out.1.trans (b58.mono z5)
      have br8 : Below wr.heap.size wr w8 := F0.out.1.trans (b48.mono z4)
      have TU : Tur w8 w7.heap.size w6.heap.size wr.heap.size w4.heap.size w5.heap.size := ⟨ho8, (b78.block _ l7).trans hs7, (b48.block _ l4).trans F0.out.2, (b58.block _ l5).trans F1.out.2, (b68.block _ l6).trans F2.out.2⟩
      have O8 := hO.out.below br8
      obtain ⟨c1, c2, c3, c4⟩ := O8.cells
      have hgl : g < wr.heap.size := (hO.out.lt g rfl).2
      have SO := Lib.hid (sort_any g vc T w7.heap.size w6.heap.size wr.heap.size w4.heap.size w5.heap.size w8 TU ⟨by omega, by omega, by omega, by omega, by omega⟩ c4 hT1 c1 c2)
      have B8 := Lib.hid (hB.out.trans (br8.mono hB.out.size))
      have G8 := Lib.hid (And.intro c3 c4)
      clear hw7 hw8 hb7 hs7 hb8 ho8 z4 z5 z6 z7 l4 l5 l6 l7 b78 b68 b58 b48 br8 TU O8 c1 c2 c3 c4 hgl F0 F1 F2 hO hB
      go_wp2_with fail
      refine SO.out.mono ?_
      rintro e w9 ⟨rfl, L', hp, ha, hc, hk⟩
      have hl : L'.length = T.length := hp.length_eq
      have P := Lib.hid (show OrderP w L (.returned (.slice (some ⟨g, 0, none⟩) T.length vc)) w9 from ⟨⟨g, vc, L', by rw [hl], by rw [← hM.out]; exact hp, ha, hc, G8.out.1, Nat.lt_of_lt_of_le G8.out.2 hk.size⟩, B8.out.trans ⟨hk.os, hk.tape, hk.output, hk.size, fun q hq => hk.block q (by have := G8.out.2; have := B8.out.size; omega) (by have := G8.out.1; omega)⟩⟩)
      clear hp ha hc hk hl SO B8 G8 hM
      go_wp2_with fail
      go_ret
      exact P.out

/-- The first in order. -/
def IsMin (c : CH) (L : List CH) : Prop := c ∈ L ∧ ∀ x ∈ L, cmpC c x ≤ 0
theorem IsMin.one {c d : CH} {L : List CH} (h : IsMin c L) (h' : IsMin d L) : c = d := by
  have h1 := h.2 d h'.1
  have h2 := h'.2 c h.1
  have := cmpC_neg c d
  exact cmpC_zero (by omega)
theorem isMin_head {c : CH} {r L : List CH} (h : (c :: r).Perm L) (ha : Asc (c :: r)) : IsMin c L :=
  ⟨h.subset List.mem_cons_self, fun x hx => by
    rcases List.mem_cons.1 (h.symm.subset hx) with rfl | hx
    · rw [cmpC_self]; omega
    · exact (List.pairwise_cons.1 ha).1 x hx⟩

/-- What Rep answers. -/
def RepP (w : World) (L : List RD) (e : Ending) (w' : World) : Prop :=
  ((∃ c, e = .returned (.tuple #[chV c, .bool true]) ∧ IsMin c (standL L)) ∨ (e = .returned (.tuple #[.agg #[.string ⟨#[]⟩, .string ⟨#[]⟩, .int .i64 0], .bool false]) ∧ standL L = [])) ∧ Below w.heap.size w w'

set_option maxRecDepth 100000 in
set_option maxHeartbeats 4000000 in
theorem rep_any (L : List RD) (a : Option Addr) (c : Nat) (hn : L.length ≤ 1000) (ok : ∀ x ∈ L, OkE x) (w : World) (h : ReadsR w a L.length (atD L)) :
    Calls Try.prog 11 #[.slice a L.length c] w (RepP w L) := by
  have OR := Lib.hid (p := ∀ W, Below w.heap.size w W → Calls Try.prog 8 #[.slice a L.length c] W (OrderP W L)) (fun W hb => order_any L a c hn ok W (h.below hb))
  have RP := Lib.hid (p := ∀ e w', ((∃ c, e = .returned (.tuple #[chV c, .bool true]) ∧ IsMin c (standL L)) ∨ (e = .returned (.tuple #[.agg #[.string ⟨#[]⟩, .string ⟨#[]⟩, .int .i64 0], .bool false]) ∧ standL L = [])) → Below w.heap.size w w' → RepP w L e w') (fun e w' h1 h2 => ⟨h1, h2⟩)
  have hL := Lib.hid (p := (standL L).length ≤ 1000) (by unfold standL; rw [List.length_map]; exact Nat.le_trans (List.length_filter_le _ _) hn)
  clear h ok hn
  go_enter Try.func11, Try.ntmps11
  go_upto_region 1 with fail
  generalize hW : World.alloc w _ = W
  have hb : Below w.heap.size w W := by rw [← hW]; exact (Below.refl _ _).alloc (Nat.le_refl _) _
  have h3 : W.heap[w.heap.size]? = some (.cells #[.string ⟨#[]⟩, .string ⟨#[]⟩, .int .i64 0] 32 (0, 0)) := by rw [← hW]; exact heap_alloc_new w _
  have BX := Lib.hid (And.intro hb h3)
  clear hb h3 hW
  go_wp2_with fail
  refine (OR.out W BX.out.1).mono ?_
  rintro e w2 ⟨⟨g, d, L', rfl, hp, ha, hc, hg1, hg2⟩, hb⟩
  have h3 := (hb.block _ (lt_of_block BX.out.2)).trans BX.out.2
  have B2 := Lib.hid (BX.out.1.trans (hb.mono BX.out.1.size))
  obtain ⟨r0, r1, r2⟩ := threeE h3
  have z0 := frozen_of_row w2 w.heap.size 0 _ _ h3
  have z1 := frozen_of_row w2 w.heap.size 1 _ _ h3
  have z2 := frozen_of_row w2 w.heap.size 2 _ _ h3
  cases L' with
  | nil =>
    have E9 := Lib.hid (three_setC h3 (.string ⟨#[]⟩) (.string ⟨#[]⟩) (.int .i64 0))
    have P9 := Lib.hid (RP.out _ _ (.inr ⟨rfl, hp.symm.eq_nil⟩) (three_below B2.out (Nat.le_refl _) (.string ⟨#[]⟩) (.string ⟨#[]⟩) (.int .i64 0)))
    clear hp ha hc hb h3 RP OR BX
    go_wp2_with fail
    obtain ⟨g0, g1, g2⟩ := threeE E9.out
    exact bodyPost_ret (v := .tuple #[.agg #[.string ⟨#[]⟩, .string ⟨#[]⟩, .int .i64 0], .bool false]) (by simp [results, Try.results11, go_sem, g0, g1, g2]) rfl P9.out
  | cons q r =>
    obtain ⟨s0, s1, s2⟩ := hc 0 q rfl
    rw [Nat.zero_mul] at s0
    rw [Nat.zero_mul, Nat.zero_add] at s1 s2
    have hn1 : (r.length : Int) + 1 ≤ 1000 := by have := hp.length_eq; have := hL.out; simp at *; omega
    have hn2 : ((r.length : Int) + 1 == 0) = false := by rw [beq_eq_false_iff_ne]; omega
    have hn3 : (0 : Int) < (r.length : Int) + 1 := by omega
    have hn4 : 0 < r.length + 1 := by omega
    have E9 := Lib.hid (three_setC h3 (.string q.key) (.string q.rep) (.int .i64 q.load))
    have P9 := Lib.hid (RP.out _ _ (.inl ⟨q, rfl, isMin_head hp ha⟩) (three_below B2.out (Nat.le_refl _) (.string q.key) (.string q.rep) (.int .i64 q.load)))
    clear hp ha hc hb h3 RP OR BX
    go_wp2_with fail
    obtain ⟨g0, g1, g2⟩ := threeE E9.out
    exact bodyPost_ret (v := .tuple #[.agg #[.string q.key, .string q.rep, .int .i64 q.load], .bool true]) (by simp [results, Try.results11, go_sem, g0, g1, g2]) rfl P9.out

end Go.Proofs.Ytpdobbdbmgeoiaa
