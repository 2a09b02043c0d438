/-
  No statement: Of, keysOf and Check of package digest.
-/
import Derived.Test.YtpdobbdbmgeoiaaGreatDgTw
import Derived.Test.YtpdobbdbmgeoiaaGreatDgMath
import Derived.Test.YtpdobbdbmgeoiaaGreatWName
import Derived.Test.YtpdobbdbmgeoiaaGreatSCheck
set_option linter.unusedVariables false
set_option linter.unusedSimpArgs false
namespace Go.Proofs.YtpdobbdbmgeoiaaGreat
open Go.RowKit

/-- Texts that are owned. -/
def OwnS (w : World) (B : Nat) (v : Value) (T : List ByteArray) : Prop := w.ownsRow B 9 1 v T.length (T.map Value.string)
theorem OwnS.below {w w' : World} {B : Nat} {v : Value} {T : List ByteArray} (h : OwnS w B v T) (hb : Below w.heap.size w w') : OwnS w' B v T := owns_below h hb
theorem OwnS.reads {w : World} {B : Nat} {a : Option Addr} {l c : Nat} {T : List ByteArray} (h : OwnS w B (.slice a l c) T) : l = T.length ∧ l ≤ c ∧ ReadsSG (fun k => B ≤ k) w a T.length (atS T) := by
  have h1 := h
  rcases h1.2 with ⟨hv, h0⟩ | ⟨g, cap, cur, hv, hb, hg, hnc, hm, hs, ht⟩
  · simp only [Value.slice.injEq] at hv
    obtain ⟨rfl, rfl, rfl⟩ := hv
    rw [h0]
    exact ⟨rfl, Nat.le_refl _, ⟨Nat.zero_le _, .inl rfl⟩⟩
  · simp only [Value.slice.injEq] at hv
    obtain ⟨rfl, rfl, hcc⟩ := hv
    refine ⟨rfl, by omega, ⟨Nat.le_trans hnc hm, .inr ⟨g, 0, rfl, hb, fun j hj => ?_⟩⟩⟩
    rw [Nat.zero_add]
    obtain ⟨g', e1, e2⟩ := owns_at (w := w) (base := B) (e := 9) (size := 1) (a := ⟨g, 0, none⟩) (n := T.length) (c := cap) (xs := T.map Value.string) ⟨h1.1, .inr ⟨g, cap, cur, rfl, hb, hg, hnc, hm, hs, ht⟩⟩ (j := j) (u := .string (atS T j)) (by rw [List.getElem?_map, List.getElem?_eq_getElem hj, atS_lt hj]; rfl)
    cases e1
    exact e2
theorem new_oneS (w : World) (s : ByteArray) (t : TypeId) : ∀ j u, [Value.string s][j]? = some u → (w.alloc (.cells #[.string s] t)).cell? ((⟨w.heap.size, 0, none⟩ : Addr).add j) = some u := fun j u hj => by
  rw [Addr.add_lit, Nat.zero_add, cell_of_row _ _ _ _ _ (0, 0) (heap_alloc_new w _)]
  simpa using hj

set_option maxRecDepth 100000 in
set_option maxHeartbeats 4000000 in
theorem dOf_any (al : List RD) (a : Option Addr) (c : Nat) (hn : al.length ≤ 1000) (w : World) (h : ReadsRG (fun q => q < w.heap.size) w a al.length (atD al)) :
    Calls Tryz.prog 27 #[.slice a al.length c] w fun e w' => (∃ va vc, e = .returned (.slice va al.length vc) ∧ al.length ≤ vc ∧ ReadsMG (fun q => w.heap.size ≤ q) w' va al.length (atK (al.map mkK))) ∧ Below w.heap.size w w' := by
  obtain ⟨i0, hi, hz0, hz1, hz2⟩ := info_parts infoKd
  have und : Tryz.prog.underlying 68 = some (.slice 99) := Tryz.underlying68
  have HA := Lib.hid h
  obtain ⟨n, hnn⟩ : ∃ n, al.length = n := ⟨_, rfl⟩
  rw [hnn] at hn ⊢
  have HN := Lib.hid hnn
  rw [hnn] at HA
  clear h hnn
  go_enter Tryz.func27, Tryz.ntmps27
  go_wp2_with (at_make; refine wpList_make_own _ rfl _ _ 68 rfl w.heap.size 99 i0 _ 5 und hi hz0 hz1 .i64 .i64 _ n rfl rfl rfl (by rw [hz2]; omega) (by unfold maxLen; omega) (Nat.le_refl _) ?_)
  intro w2 ho hg
  have O2 : Hid (OwnK w2 w.heap.size _ []) := Lib.hid ho
  have B2 := Lib.hid (p := Below w.heap.size w w2) ((Below.refl _ _).grown hg (Nat.le_refl _) (fun k h => by cases h))
  clear ho hg
  go_wp2_with fail
  go_loopw [3, 11] (fun v i wr => ∃ (k : Nat) (T : List MK) (va : Option Addr) (vl vc : Nat), v = .slice va vl vc ∧ i = .int .i64 k ∧ k ≤ n ∧ T.length = k ∧ vl = T.length ∧ Hid (T = (al.take k).map mkK) ∧ Hid (OwnK wr w.heap.size (.slice va vl vc) T) ∧ Hid (Below w.heap.size w wr)) (fun _ i _ => n - (intOf i).toNat)
  case atStart => exact ⟨0, [], _, _, _, rfl, rfl, Nat.zero_le _, rfl, rfl, Lib.hid rfl, O2, B2⟩
  case round =>
    obtain ⟨k, T, va, vl, vc, rfl, rfl, hk, hTl, hvl, hM, hO, hB⟩ := hrel
    subst hvl
    subst hTl
    clear O2 B2
    by_cases hlt : T.length < n
    · obtain ⟨b, off, y, cy, rfl, hbw, h6, -⟩ := HA.out.cellsD hlt
      have hlt2 : T.length < al.length := by rw [HN.out]; exact hlt
      rw [atD_lt hlt2] at h6
      have HX0 := Lib.hid (show (al.take (T.length + 1)).map mkK = (al.take T.length).map mkK ++ [mkK al[T.length]] by rw [List.take_add_one, List.getElem?_eq_getElem hlt2, List.map_append]; rfl)
      obtain ⟨x, hx⟩ : ∃ x, al[T.length] = x := ⟨_, rfl⟩
      rw [hx] at h6 HX0
      obtain ⟨d0, d1, d2, d3, d4, d5⟩ := h6.keptS (keptBelow hB.out) (by omega)
      have hzr := hB.out.size
      clear h6 hx hlt2
      go_upto_region 5 with fail
      generalize hW : World.alloc wr _ = W
      have hWb : Below wr.heap.size wr W := by rw [← hW]; exact (Below.refl _ _).alloc (Nat.le_refl _) _
      have hW6 : W.heap[wr.heap.size]? = some (.cells #[.string x.key, .int .i64 x.t, .int .i64 x.i, .int .i64 x.q, .string x.o, .slice y x.len cy] 35 (0, 0)) := by rw [← hW]; exact heap_alloc_new wr _
      clear hW d0 d1 d2 d3 d4 d5
      obtain ⟨d0, d1, d2, d3, d4, d5⟩ := sixE hW6
      have BW := Lib.hid (hB.out.trans (hWb.mono hzr))
      have OW := Lib.hid (hO.out.below hWb)
      clear hWb hW6 hO hB
      have OE := Lib.hid (OW.out.below ((Below.refl _ W).alloc (Nat.le_refl _) (markB (mkK x))))
      have BE := Lib.hid (BW.out.alloc (by have := BW.out.size; omega) (markB (mkK x)))
      have NEW := Lib.hid (new_fiveK W (mkK x))
      unfold markB mkK at OE BE NEW
      have hlen : T.length ≤ 1000 := by omega
      go_wp2_with (at_builtin; refine wpList_append_new rfl _ _ 68 rfl (base := w.heap.size) und hi hz0 hz1 hz2 rfl (by decide) (.slice va T.length vc) T.length 1 1 ⟨W.heap.size, 0, none⟩ (T.flatMap fiveK) (fiveK (mkK x)) rfl rfl OE.out rfl NEW.out (fiveK_one _) (by unfold maxLen; omega) (by omega) (by have := BE.out.size; omega) ?_)
      intro v5 w5 hown5 hgrow5 hq5
      obtain ⟨va', vc', rfl⟩ := own_rowG hown5
      have O5 : Hid (OwnK w5 w.heap.size (.slice va' (T.length + 1) vc') (T ++ [mkK x])) := Lib.hid (OwnK.more hown5)
      have B5 := Lib.hid (BE.out.grown hgrow5 (by have := BE.out.size; omega) (fun q hq => (OE.out.lt q hq).1))
      have M5 := Lib.hid (show T ++ [mkK x] = (al.take (T.length + 1)).map mkK by rw [HX0.out]; exact congrArg (· ++ [mkK x]) hM.out)
      clear hown5 hgrow5 hq5 OE BE NEW OW BW d0 d1 d2 d3 d4 d5 HX0 hM
      go_wp2_with fail
      go_roundw
      case rel => exact ⟨T.length + 1, T ++ [mkK x], va', T.length + 1, vc', rfl, by go_num, by omega, by rw [List.length_append]; rfl, by rw [List.length_append]; rfl, M5, O5, B5⟩
      case measure => simp [intOf]; omega
    · obtain rfl : T.length = n := by omega
      have P : Hid (∃ va' vc', Ending.returned (.slice va T.length vc) = .returned (.slice va' T.length vc') ∧ T.length ≤ vc' ∧ ReadsMG (fun q => w.heap.size ≤ q) wr va' T.length (atK (al.map mkK))) := Lib.hid (by
        have hT : T = al.map mkK := by rw [hM.out, List.take_of_length_le (by rw [HN.out]; exact Nat.le_refl _)]
        obtain ⟨h1, h2, h3⟩ := hO.out.reads (atK (al.map mkK)) (fun j x hx => by rw [hT] at hx; obtain ⟨h1, h2⟩ := List.getElem?_eq_some_iff.1 hx; rw [atK_lt h1, h2])
        exact ⟨va, vc, rfl, h2, h3⟩)
      have hBo := Lib.hid hB.out
      clear hM hO HN
      go_wp2_with fail
      go_ret
      exact ⟨P.out, hBo.out⟩

set_option maxRecDepth 100000 in
set_option maxHeartbeats 4000000 in
theorem keysOf_any (bl : List MK) (a : Option Addr) (c : Nat) (hn : bl.length ≤ 1000) (w : World) (h : ReadsMG (fun q => q < w.heap.size) w a bl.length (atK bl)) :
    Calls Tryz.prog 69 #[.slice a bl.length c] w fun e w' => (∃ va vc, e = .returned (.slice va bl.length vc) ∧ OwnS w' w.heap.size (.slice va bl.length vc) (bl.map MK.key)) ∧ Below w.heap.size w w' := by
  obtain ⟨i0, hi, hz0, hz1, hz2⟩ := info_parts infoSd
  have und : Tryz.prog.underlying 51 = some (.slice 9) := Tryz.underlying51
  have HA := Lib.hid h
  obtain ⟨n, hnn⟩ : ∃ n, bl.length = n := ⟨_, rfl⟩
  rw [hnn] at hn ⊢
  have HN := Lib.hid hnn
  rw [hnn] at HA
  clear h hnn
  go_enter Tryz.func69, Tryz.ntmps69
  go_wp2_with (at_make; refine wpList_make_own _ rfl _ _ 51 rfl w.heap.size 9 i0 _ 1 und hi hz0 hz1 .i64 .i64 _ n rfl rfl rfl (by rw [hz2]; omega) (by unfold maxLen; omega) (Nat.le_refl _) ?_)
  intro w2 ho hg
  have O2 : Hid (OwnS w2 w.heap.size _ []) := Lib.hid ho
  have B2 := Lib.hid (p := Below w.heap.size w w2) ((Below.refl _ _).grown hg (Nat.le_refl _) (fun k h => by cases h))
  clear ho hg
  go_wp2_with fail
  go_loopw [3, 11] (fun v i wr => ∃ (k : Nat) (T : List ByteArray) (va : Option Addr) (vl vc : Nat), v = .slice va vl vc ∧ i = .int .i64 k ∧ k ≤ n ∧ T.length = k ∧ vl = T.length ∧ Hid (T = (bl.take k).map MK.key) ∧ Hid (OwnS wr w.heap.size (.slice va vl vc) T) ∧ Hid (Below w.heap.size w wr)) (fun _ i _ => n - (intOf i).toNat)
  case atStart => exact ⟨0, [], _, _, _, rfl, rfl, Nat.zero_le _, rfl, rfl, Lib.hid rfl, O2, B2⟩
  case round =>
    obtain ⟨k, T, va, vl, vc, rfl, rfl, hk, hTl, hvl, hM, hO, hB⟩ := hrel
    subst hvl
    subst hTl
    clear O2 B2
    by_cases hlt : T.length < n
    · obtain ⟨b, off, rfl, hbw, h6⟩ := HA.out.cells hlt
      have hlt2 : T.length < bl.length := by rw [HN.out]; exact hlt
      rw [atK_lt hlt2] at h6
      have HX0 := Lib.hid (show (bl.take (T.length + 1)).map MK.key = (bl.take T.length).map MK.key ++ [bl[T.length].key] by rw [List.take_add_one, List.getElem?_eq_getElem hlt2, List.map_append]; rfl)
      obtain ⟨x, hx⟩ : ∃ x, bl[T.length] = x := ⟨_, rfl⟩
      rw [hx] at h6 HX0
      obtain ⟨d0, d1, d2, d3, d4⟩ := h6.keptS (keptBelow hB.out) (by omega)
      have hzr := hB.out.size
      clear h6 hx hlt2
      go_upto_region 5 with fail
      generalize hW : World.alloc wr _ = W
      have hWb : Below wr.heap.size wr W := by rw [← hW]; exact (Below.refl _ _).alloc (Nat.le_refl _) _
      have hW6 : W.heap[wr.heap.size]? = some (.cells #[.string x.key, .int .i64 x.t, .int .i64 x.i, .int .i64 x.q, .string x.o] 99 (0, 0)) := by rw [← hW]; exact heap_alloc_new wr _
      clear hW d0 d1 d2 d3 d4
      obtain ⟨⟨d0, d1, d2, d3, d4⟩, -⟩ := five hW6
      have BW := Lib.hid (hB.out.trans (hWb.mono hzr))
      have OW := Lib.hid (hO.out.below hWb)
      clear hWb hW6 hO hB
      have OE := Lib.hid (OW.out.below ((Below.refl _ W).alloc (Nat.le_refl _) (.cells #[.string x.key] 9)))
      have BE := Lib.hid (BW.out.alloc (by have := BW.out.size; omega) (.cells #[.string x.key] 9))
      have NEW := Lib.hid (new_oneS W x.key 9)
      have hlen : T.length ≤ 1000 := by omega
      go_wp2_with (at_builtin; refine wpList_append_new rfl _ _ 51 rfl (base := w.heap.size) und hi hz0 hz1 hz2 rfl (by decide) (.slice va T.length vc) T.length 1 1 ⟨W.heap.size, 0, none⟩ (T.map Value.string) [.string x.key] rfl rfl OE.out rfl NEW.out (by intro u hu; rw [List.mem_singleton] at hu; subst hu; rfl) (by unfold maxLen; omega) (by omega) (by have := BE.out.size; omega) ?_)
      intro v5 w5 hown5 hgrow5 hq5
      obtain ⟨va', vc', rfl⟩ := own_rowG hown5
      have O5 : Hid (OwnS w5 w.heap.size (.slice va' (T.length + 1) vc') (T ++ [x.key])) := Lib.hid (by unfold OwnS; rw [List.length_append, List.map_append]; exact hown5)
      have B5 := Lib.hid (BE.out.grown hgrow5 (by have := BE.out.size; omega) (fun q hq => (OE.out.lt q hq).1))
      have M5 := Lib.hid (show T ++ [x.key] = (bl.take (T.length + 1)).map MK.key by rw [HX0.out]; exact congrArg (· ++ [x.key]) hM.out)
      clear hown5 hgrow5 hq5 OE BE NEW OW BW d0 d1 d2 d3 d4 HX0 hM
      go_wp2_with fail
      go_roundw
      case rel => exact ⟨T.length + 1, T ++ [x.key], va', T.length + 1, vc', rfl, by go_num, by omega, by rw [List.length_append]; rfl, by rw [List.length_append]; rfl, M5, O5, B5⟩
      case measure => simp [intOf]; omega
    · obtain rfl : T.length = n := by omega
      have P : Hid (∃ va' vc', Ending.returned (.slice va T.length vc) = .returned (.slice va' T.length vc') ∧ OwnS wr w.heap.size (.slice va' T.length vc') (bl.map MK.key)) := Lib.hid (by
        have hT : T = bl.map MK.key := by rw [hM.out, List.take_of_length_le (by rw [HN.out]; exact Nat.le_refl _)]
        have h1 := hO.out
        exact ⟨va, vc, rfl, hT ▸ h1⟩)
      have hBo := Lib.hid hB.out
      clear hM hO HN
      go_wp2_with fail
      go_ret
      exact ⟨P.out, hBo.out⟩

end Go.Proofs.YtpdobbdbmgeoiaaGreat
