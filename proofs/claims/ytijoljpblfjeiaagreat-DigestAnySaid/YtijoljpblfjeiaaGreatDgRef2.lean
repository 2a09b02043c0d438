/-
  No statement: the document's Marks.
-/
import Derived.Test.YtijoljpblfjeiaaGreatDgRef1
set_option linter.unusedVariables false
set_option linter.unusedSimpArgs false
namespace Go.Proofs.YtijoljpblfjeiaaGreat
open Go.RowKit

set_option maxRecDepth 100000 in
set_option maxHeartbeats 4000000 in
theorem rMarks_any (al : List RD) (a : Option Addr) (c : Nat) (hn : al.length ≤ 1000) (w : World) (h : ReadsRG (fun q => q < w.heap.size) w a al.length (atD al)) :
    Calls Tryz.prog 30 #[.slice a al.length c] w (MarksOut w (al.map mkK)) := by
  obtain ⟨i0, hi, hz0, hz1, hz2⟩ := info_parts infoNd
  have und : Tryz.prog.underlying 66 = some (.slice 74) := Tryz.underlying66
  have HA := Lib.hid h
  have RD := Lib.hid (p := ∀ (wr : World) (va : Option Addr) (vl vc : Nat), OwnN wr w.heap.size (.slice va vl vc) (al.map mkK) → Below w.heap.size w wr → MarksOut w (al.map mkK) (.returned (.slice va vl vc)) wr) (fun wr va vl vc ho hb => by
    obtain ⟨h1, h2, h3⟩ := ho.reads (atK (al.map mkK)) (fun j x hx => by obtain ⟨h1, h2⟩ := List.getElem?_eq_some_iff.1 hx; rw [atK_lt h1, h2])
    subst h1
    exact ⟨⟨va, vc, rfl, h2, h3⟩, hb⟩)
  have TK := Lib.hid (p := ∀ k, k < al.length → (al.take (k + 1)).map mkK = (al.take k).map mkK ++ [mkK (atD al k)]) (fun k hk => by rw [List.take_add_one, List.getElem?_eq_getElem hk, atD_lt hk, List.map_append]; rfl)
  have TL := Lib.hid (p := al.take al.length = al) (List.take_length ..)
  obtain ⟨n, hnn⟩ : ∃ n, al.length = n := ⟨_, rfl⟩
  rw [hnn] at hn HA TK TL ⊢
  clear h hnn
  go_enter Tryz.func30, Tryz.ntmps30
  go_wp2_with fail
  go_loopw [3, 4] (fun v i wr => ∃ (k : Nat) (T : List MK) (va : Option Addr) (vl vc : Nat), v = .slice va vl vc ∧ i = .int .i64 k ∧ k ≤ n ∧ vl = T.length ∧ T.length ≤ k ∧ Hid (T = (al.take k).map mkK) ∧ Hid (OwnN wr w.heap.size (.slice va vl vc) T) ∧ Hid (Below w.heap.size w wr)) (fun _ i _ => n - (intOf i).toNat)
  case atStart => exact ⟨0, [], none, 0, 0, rfl, rfl, Nat.zero_le _, rfl, Nat.le_refl _, Lib.hid rfl, Lib.hid (World.ownsRow_nil _ _ _ _), Lib.hid (Below.refl _ _)⟩
  case round =>
    obtain ⟨k, T, va, vl, vc, rfl, rfl, hk, hvl, hTk, hM, hO, hB⟩ := hrel
    subst hvl
    by_cases hlt : k < n
    · have e1 : (k : Int) < (n : Int) := by omega
      obtain ⟨b, off, y, cy, rfl, hbw, h6, -⟩ := HA.out.cellsD hlt
      have HX0 := Lib.hid (TK.out k hlt)
      obtain ⟨x, hx⟩ : ∃ x, atD al k = x := ⟨_, rfl⟩
      rw [hx] at h6 HX0
      have G := Lib.hid (p := ∀ w', Below w.heap.size w w' → w'.cell? ⟨b, off + k * 6, none⟩ = some (.string x.key) ∧ w'.cell? ⟨b, off + k * 6 + 1, none⟩ = some (.int .i64 x.t) ∧ w'.cell? ⟨b, off + k * 6 + 2, none⟩ = some (.int .i64 x.i) ∧ w'.cell? ⟨b, off + k * 6 + 3, none⟩ = some (.int .i64 x.q) ∧ w'.cell? ⟨b, off + k * 6 + 4, none⟩ = some (.string x.o)) (fun w' hb => by
        obtain ⟨g0, g1, g2, g3, g4, -⟩ := (h6.keptS (keptBelow hb) (by omega) : Cells6 w' b (off + k * 6) x y cy)
        exact ⟨g0, g1, g2, g3, g4⟩)
      have hz := hB.out.size
      have HDR := Lib.hid (drewD wr)
      have NEW := Lib.hid (fun w => new_fiveN w (mkK x))
      have O2 := Lib.hid (hO.out.below HDR.out)
      have B2 := Lib.hid (hB.out.trans (HDR.out.mono hz))
      obtain ⟨p0, p1, p2, p3, p4⟩ := G.out _ hB.out
      have hTn : T.length ≤ 1000 := by omega
      clear h6 hx
      go_upto_region 5 with fail
      go_region_held3 (fun w' => w'.cell? ⟨b, off + k * 6, none⟩ = some (.string x.key) ∧ w'.cell? ⟨b, off + k * 6 + 1, none⟩ = some (.int .i64 x.t) ∧ w'.cell? ⟨b, off + k * 6 + 2, none⟩ = some (.int .i64 x.i) ∧ w'.cell? ⟨b, off + k * 6 + 3, none⟩ = some (.int .i64 x.q) ∧ w'.cell? ⟨b, off + k * 6 + 4, none⟩ = some (.string x.o)) (first | assumption | exact ⟨p0, p1, p2, p3, p4⟩ | exact cc3 | (refine ⟨?_, ?_, ?_, ?_, ?_⟩ <;> (first | assumption | (go_keep; done)))) (first
        | (refine step_append_one rfl (.tmp 11) (.tmp 23) 66 rfl (base := w.heap.size) und hi hz0 hz1 hz2 rfl (by decide) (.slice va T.length vc) T.length (T.flatMap fiveK) (fiveK (mkK x)) ⟨wr.heap.size, 0, none⟩ 1 (by first | (simp [Act.eval]; done) | fail) (by first | (simp [Act.eval]; done) | fail) (World.ownsRow.alloc O2.out _) rfl (NEW.out wr.drew) (fiveK_one _) (by unfold maxLen; omega) (by omega) (by have := B2.out.size; simp; omega) ?_
           intro v3 w3 ho hg
           have O3 := Lib.hid ho
           have B3 := Lib.hid ((B2.out.alloc B2.out.size (.cells #[.string x.key, .int .i64 x.t, .int .i64 x.i, .int .i64 x.q, .string x.o] 74)).grown hg (by have := B2.out.size; simp; omega) (fun q hq => (O2.out.lt q hq).1))
           have cc3 := G.out _ B3.out
           clear ho hg)
        | fail)
      obtain ⟨va', vc', rfl⟩ := own_rowG O3.out
      have O4 : Hid (OwnN w3 w.heap.size (.slice va' (T.length + 1) vc') (T ++ [mkK x])) := Lib.hid (by unfold OwnN; rw [List.length_append, List.flatMap_append]; simpa using O3.out)
      have M4 := Lib.hid (show T ++ [mkK x] = (al.take (k + 1)).map mkK by rw [HX0.out]; exact congrArg (· ++ [mkK x]) hM.out)
      clear O3 O2 B2 p0 p1 p2 p3 p4 cc3 hM
      go_wp2_with fail
      go_roundw
      case rel => exact ⟨k + 1, T ++ [mkK x], va', T.length + 1, vc', rfl, by go_num, by omega, by rw [List.length_append]; rfl, by rw [List.length_append]; show T.length + 1 ≤ k + 1; omega, M4, O4, B3⟩
      case measure => simp [intOf]; omega
    · obtain rfl : k = n := by omega
      have P := Lib.hid (RD.out wr va T.length vc (by have h1 := hM.out; rw [TL.out] at h1; have h2 := hO.out; rw [h1] at h2 ⊢; exact h2) hB.out)
      go_wp2_with fail
      go_ret
      exact P.out

end Go.Proofs.YtijoljpblfjeiaaGreat
