/-
  No statement: the document's Pick.
-/
import Derived.Test.YtijoljpblfjeiaaGreatDgQ
import Derived.Test.YtijoljpblfjeiaaGreatDgSame
set_option linter.unusedVariables false
set_option linter.unusedSimpArgs false
namespace Go.Proofs.YtijoljpblfjeiaaGreat
open Go.RowKit

set_option maxRecDepth 100000 in
set_option maxHeartbeats 8000000 in
theorem rPick_any (al : List RD) (a : Option Addr) (c : Nat) (kl : List ByteArray) (b : Option Addr) (d : Nat) (hn : al.length ≤ 1000) (hm : kl.length ≤ 1000) (w : World) (ha : ReadsRG (fun q => q < w.heap.size) w a al.length (atD al)) (hb : ReadsSG (fun q => q < w.heap.size) w b kl.length (atS kl)) :
    Calls Tryz.prog 37 #[.slice a al.length c, .slice b kl.length d] w fun e w' => (∃ (va : Option Addr) (vc : Nat) (T : List RTd), e = .returned (.slice va T.length vc) ∧ OwnQ (fun q => q < w.heap.size) w' w.heap.size (.slice va T.length vc) T ∧ T.map (·.1) = pickQ al kl) ∧ Below w.heap.size w w' := by
  obtain ⟨i0, hi, hz0, hz1, hz2⟩ := info_parts rowInfo
  have und : Tryz.prog.underlying 28 = some (.slice 44) := Tryz.underlying28
  have HA := Lib.hid ha
  have HB := Lib.hid hb
  have TO := Lib.hid (p := ∀ k, k < al.length → al.take (k + 1) = al.take k ++ [atD al k]) (fun k hk => by rw [List.take_add_one, List.getElem?_eq_getElem hk, atD_lt hk]; rfl)
  have TI := Lib.hid (p := ∀ k, k < kl.length → kl.drop k = atS kl k :: kl.drop (k + 1)) (fun k hk => by rw [List.drop_eq_getElem_cons hk, atS_lt hk])
  have FO := Lib.hid (p := al.take al.length = al) (List.take_length ..)
  have FI := Lib.hid (p := kl.drop kl.length = []) (List.drop_length ..)
  obtain ⟨n, hnn⟩ : ∃ n, al.length = n := ⟨_, rfl⟩
  obtain ⟨m0, hmm⟩ : ∃ m, kl.length = m := ⟨_, rfl⟩
  rw [hnn] at hn HA TO FO ⊢
  rw [hmm] at hm HB TI FI ⊢
  clear ha hb hnn hmm
  go_enter Tryz.func37, Tryz.ntmps37
  go_wp2_with fail
  go_loopw [5, 6] (fun v i wr => ∃ (k : Nat) (T : List RTd) (va : Option Addr) (vl vc : Nat), v = .slice va vl vc ∧ i = .int .i64 k ∧ k ≤ n ∧ vl = T.length ∧ T.length ≤ k ∧ Hid (T.map (·.1) = ((al.take k).filter fun x => kl.any fun k => k.toList == x.key.toList)) ∧ Hid (OwnQ (fun q => q < w.heap.size) wr w.heap.size (.slice va vl vc) T) ∧ Hid (Below w.heap.size w wr)) (fun _ i _ => n - (intOf i).toNat)
  case atStart => exact ⟨0, [], none, 0, 0, rfl, rfl, Nat.zero_le _, rfl, Nat.le_refl _, Lib.hid rfl, Lib.hid ⟨World.ownsRow_nil _ _ _ _, fun t ht => by cases ht⟩, Lib.hid (Below.refl _ _)⟩
  case round =>
    obtain ⟨k, T, va, vl, vc, rfl, rfl, hk, hvl, hTk, hM, hO, hB⟩ := hrel
    subst hvl
    by_cases hlt : k < n
    · have e1 : (k : Int) < (n : Int) := by omega
      have TK := Lib.hid (TO.out k hlt)
      obtain ⟨x, hx⟩ : ∃ x, atD al k = x := ⟨_, rfl⟩
      rw [hx] at TK
      have G0 := Lib.hid (HA.out.cellsD hlt)
      rw [hx] at G0
      clear hx
      have KB := Lib.hid (Below.refl wr.heap.size wr)
      go_wp2_with fail
      obtain ⟨W0, hW0⟩ : ∃ W0, wr = W0 := ⟨_, rfl⟩
      rw [hW0] at hO hB KB ⊢
      clear hW0
      go_loopw [5, 7] (fun v i wr => ∃ (j : Nat), v = .slice va T.length vc ∧ i = .int .i64 j ∧ j ≤ m0 ∧ Hid ((kl.any fun k => k.toList == x.key.toList) = ((kl.drop j).any fun k => k.toList == x.key.toList)) ∧ Hid (Below W0.heap.size W0 wr)) (fun _ i _ => m0 - (intOf i).toNat)
      case atStart => exact ⟨0, rfl, rfl, Nat.zero_le _, Lib.hid rfl, KB⟩
      case round =>
        clear KB
        obtain ⟨j, rfl, rfl, hj, HQ, HK⟩ := hrel
        have hzb := hB.out.size
        by_cases hjl : j < m0
        · have e2 : (j : Int) < (m0 : Int) := by omega
          have TJ := Lib.hid (TI.out j hjl)
          obtain ⟨s, hs⟩ : ∃ s, atS kl j = s := ⟨_, rfl⟩
          rw [hs] at TJ
          obtain ⟨b1, o1, y1, c1, rfl, hb1, g6, hy1⟩ := G0.out
          obtain ⟨b2, o2, rfl, hb2, g5⟩ := HB.out.cells hjl
          rw [hs] at g5
          clear hs
          have hbb := hB.out.trans (HK.out.mono hzb)
          obtain ⟨x0, x1, x2, x3, x4, x5⟩ := (g6.keptS (keptBelow hbb) (by omega) : Cells6 wr b1 (o1 + k * 6) x y1 c1)
          have s0 : wr.cell? ⟨b2, o2 + j, none⟩ = some (.string s) := (keptBelow hbb).cell g5 (by show ¬ w.heap.size ≤ b2; omega)
          have HQ2 := Lib.hid (show (kl.any fun k => k.toList == x.key.toList) = ((s.toList == x.key.toList) || (kl.drop (j + 1)).any fun k => k.toList == x.key.toList) by rw [HQ.out, TJ.out, List.any_cons])
          have D0 := Lib.hid (p := ∀ n, Below W0.heap.size W0 (wr.drewN n)) (fun n => HK.out.trans ((drewND wr n).mono HK.out.size))
          have O2 := Lib.hid (p := ∀ n, OwnQ (fun q => q < w.heap.size) (wr.drewN n) w.heap.size (.slice va T.length vc) T) (fun n => (hO.out.below HK.out).below (drewND wr n))
          have B2 := Lib.hid (p := ∀ n, Below w.heap.size w (wr.drewN n)) (fun n => hB.out.trans (Below.mono (D0.out n) hzb))
          have HY := Lib.hid hy1
          clear g6 g5 hbb HK HQ TJ hy1
          cases hkk : (s.toList == x.key.toList) with
          | false =>
            have HQ3 := Lib.hid (show (kl.any fun k => k.toList == x.key.toList) = ((kl.drop (j + 1)).any fun k => k.toList == x.key.toList) by rw [HQ2.out, hkk, Bool.false_or])
            go_wp2_with (go_quiet (fail))
            go_roundw
            case rel => exact ⟨j + 1, rfl, by go_num, by omega, HQ3, Lib.hid (D0.out _)⟩
            case measure => simp [intOf]; omega
          | true =>
            have M2 := Lib.hid (show T.map (·.1) ++ [x] = ((al.take (k + 1)).filter fun x => kl.any fun k => k.toList == x.key.toList) by rw [TK.out, List.filter_append, hM.out, List.filter_cons, if_pos (by rw [HQ2.out, hkk, Bool.true_or])]; rfl)
            have OE := Lib.hid (p := ∀ n, OwnQ (fun q => q < w.heap.size) ((wr.drewN n).alloc (.cells #[.string x.key, .int .i64 x.t, .int .i64 x.i, .int .i64 x.q, .string x.o, .slice y1 x.len c1] 44)) w.heap.size (.slice va T.length vc) T) (fun n => (O2.out n).below ((Below.refl _ _).alloc (Nat.le_refl _) _))
            have BE := Lib.hid (p := ∀ n, Below w.heap.size w ((wr.drewN n).alloc (.cells #[.string x.key, .int .i64 x.t, .int .i64 x.i, .int .i64 x.q, .string x.o, .slice y1 x.len c1] 44))) (fun n => (B2.out n).alloc (by have := (B2.out n).size; omega) _)
            have NEW := Lib.hid (p := ∀ n : Nat, _) (fun n => new_sixQ (wr.drewN n) (x, y1, c1))
            have HG := Lib.hid (p := ∀ q, q < w.heap.size → (Value.slice va T.length vc).ownBlock ≠ some q) (fun q hq e => by have := ((O2.out 0).1.lt q e).1; omega)
            have RE := Lib.hid (p := ∀ n : Nat, _) (fun n => HY.out.kept (keptBelow (BE.out n)) (fun q hq h => by omega))
            have hTn : T.length ≤ 1000 := by omega
            have X6 := Lib.hid (p := ∀ n, Cells6 (wr.drewN n) b1 (o1 + k * 6) x y1 c1) (fun n => ⟨x0, x1, x2, x3, x4, x5⟩)
            go_upto_region 9 with (go_quiet (fail))
            generalize hU : World.drewN wr _ = U
            obtain ⟨nn, hnn⟩ : ∃ nn, wr.drewN nn = U := ⟨_, hU⟩
            clear hU
            have O3 := O2.out nn
            have B3 := B2.out nn
            have OE3 := OE.out nn
            have BE3 := BE.out nn
            have NEW3 := NEW.out nn
            have RE3 := RE.out nn
            have X3 := X6.out nn
            rw [hnn] at O3 B3 OE3 BE3 NEW3 RE3 X3
            have OE4 := Lib.hid OE3
            have BE4 := Lib.hid BE3
            have NEW4 := Lib.hid NEW3
            have RE4 := Lib.hid RE3
            clear hnn O3 B3 OE3 BE3 NEW3 RE3 O2 B2 OE BE NEW RE X6 D0 x0 x1 x2 x3 x4 x5 s0 HQ2
            obtain ⟨x0, x1, x2, x3, x4, x5⟩ := X3
            go_wp2_with (at_builtin; refine wpList_append_new rfl _ _ 28 rfl (base := w.heap.size) und hi hz0 hz1 hz2 rfl (by decide) (.slice va T.length vc) T.length 1 1 ⟨U.heap.size, 0, none⟩ (T.flatMap sixD) (sixD (x, y1, c1)) rfl rfl OE4.out.1 rfl NEW4.out (sixD_one _) (by unfold maxLen; omega) (by omega) (by have := BE4.out.size; omega) ?_)
            intro v9 w9 hown9 hgrow9 hq9
            obtain ⟨va', vc', rfl⟩ := own_rowG hown9
            have O9 : Hid (OwnQ (fun q => q < w.heap.size) w9 w.heap.size (.slice va' (T.length + 1) vc') (T ++ [(x, y1, c1)])) := Lib.hid (OE4.out.more (t := (x, y1, c1)) HG.out RE4.out hown9 hgrow9)
            have B9 := Lib.hid (BE4.out.grown hgrow9 (by have := BE4.out.size; omega) (fun q hq => (OE4.out.1.lt q hq).1))
            have M9 : Hid ((T ++ [(x, y1, c1)]).map (·.1) = ((al.take (k + 1)).filter fun x => kl.any fun k => k.toList == x.key.toList)) := Lib.hid (by rw [List.map_append]; exact M2.out)
            clear hown9 hgrow9 hq9 OE4 BE4 RE4 NEW4 M2 x0 x1 x2 x3 x4 x5
            go_wp2_with fail
            go_roundw
            case rel => exact ⟨k + 1, T ++ [(x, y1, c1)], va', T.length + 1, vc', rfl, by go_num, by omega, by rw [List.length_append]; rfl, by rw [List.length_append]; show T.length + 1 ≤ k + 1; omega, M9, O9, B9⟩
            case measure => simp [intOf]; omega
        · obtain rfl : j = m0 := by omega
          have HQ2 := Lib.hid (show (kl.any fun k => k.toList == x.key.toList) = false by rw [HQ.out, FI.out]; rfl)
          have O2 := Lib.hid (hO.out.below HK.out)
          have B2 := Lib.hid (hB.out.trans (HK.out.mono hzb))
          clear HQ HK hO hB
          have M2 := Lib.hid (show T.map (·.1) = ((al.take (k + 1)).filter fun x => kl.any fun k => k.toList == x.key.toList) by rw [TK.out, List.filter_append, hM.out, List.filter_cons, if_neg (by rw [HQ2.out]; decide)]; simp)
          go_wp2_with fail
          go_roundw
          case rel => exact ⟨k + 1, T, va, _, vc, rfl, by go_num, by omega, rfl, by omega, M2, O2, B2⟩
          case measure => simp [intOf]; omega
    · obtain rfl : k = n := by omega
      have P := Lib.hid (show T.map (·.1) = pickQ al kl by rw [hM.out, FO.out]; rfl)
      go_wp2_with fail
      go_ret
      exact ⟨⟨va, vc, T, rfl, hO.out, P.out⟩, hB.out⟩

end Go.Proofs.YtijoljpblfjeiaaGreat
