/-
  No statement: the document's Want.
-/
import Derived.Test.YtijoljpblfjeiaaGreatDgQ
import Derived.Test.YtijoljpblfjeiaaGreatDgSame
import Derived.Deep.DeepCutAuto
import Derived.Deep.RegionHeld3
set_option linter.unusedVariables false
set_option linter.unusedSimpArgs false
namespace Go.Proofs.YtijoljpblfjeiaaGreat
open Go.RowKit


set_option maxRecDepth 100000 in
set_option maxHeartbeats 8000000 in
theorem rWant_any (al : List RD) (a : Option Addr) (c : Nat) (bl : List MK) (b : Option Addr) (d : Nat) (hn : al.length ≤ 1000) (hm : bl.length ≤ 1000) (w : World) (ha : ReadsRG (fun q => q < w.heap.size) w a al.length (atD al)) (hb : ReadsMG (fun q => q < w.heap.size) w b bl.length (atK bl)) :
    Calls Tryz.prog 35 #[.slice a al.length c, .slice b bl.length d] w fun e w' => (∃ (va : Option Addr) (vc : Nat) (T : List ByteArray), e = .returned (.slice va T.length vc) ∧ OwnS w' w.heap.size (.slice va T.length vc) T ∧ T = wantQ al bl) ∧ Below w.heap.size w w' := by
  obtain ⟨i0, hi, hz0, hz1, hz2⟩ := info_parts infoSd
  have und : Tryz.prog.underlying 51 = some (.slice 9) := Tryz.underlying51
  have HA := Lib.hid ha
  have HB := Lib.hid hb
  have TO := Lib.hid (p := ∀ k, k < bl.length → bl.take (k + 1) = bl.take k ++ [atK bl k]) (fun k hk => by rw [List.take_add_one, List.getElem?_eq_getElem hk, atK_lt hk]; rfl)
  have TI := Lib.hid (p := ∀ k, k < al.length → al.take (k + 1) = al.take k ++ [atD al k]) (fun k hk => by rw [List.take_add_one, List.getElem?_eq_getElem hk, atD_lt hk]; rfl)
  have FO := Lib.hid (p := bl.take bl.length = bl) (List.take_length ..)
  have FI := Lib.hid (p := al.take al.length = al) (List.take_length ..)
  obtain ⟨n, hnn⟩ : ∃ n, al.length = n := ⟨_, rfl⟩
  obtain ⟨m0, hmm⟩ : ∃ m, bl.length = m := ⟨_, rfl⟩
  rw [hnn] at hn HA TI FI ⊢
  rw [hmm] at hm HB TO FO ⊢
  clear ha hb hnn hmm
  go_enter Tryz.func35, Tryz.ntmps35
  go_wp2_with fail
  go_loopw [5, 6] (fun v i wr => ∃ (k : Nat) (T : List ByteArray) (va : Option Addr) (vl vc : Nat), v = .slice va vl vc ∧ i = .int .i64 k ∧ k ≤ m0 ∧ vl = T.length ∧ T.length ≤ k ∧ Hid (T = ((bl.take k).filter fun m => !(al.any (wKey m))).map MK.key) ∧ Hid (OwnS wr w.heap.size (.slice va vl vc) T) ∧ Hid (Below w.heap.size w wr)) (fun _ i _ => m0 - (intOf i).toNat)
  case atStart => exact ⟨0, [], none, 0, 0, rfl, rfl, Nat.zero_le _, rfl, Nat.le_refl _, Lib.hid rfl, Lib.hid (World.ownsRow_nil _ _ _ _), Lib.hid (Below.refl _ _)⟩
  case round =>
    obtain ⟨k, T, va, vl, vc, rfl, rfl, hk, hvl, hTk, hM, hO, hB⟩ := hrel
    subst hvl
    by_cases hlt : k < m0
    · have e1 : (k : Int) < (m0 : Int) := by omega
      have TK := Lib.hid (TO.out k hlt)
      obtain ⟨m, hm⟩ : ∃ m, atK bl k = m := ⟨_, rfl⟩
      have HO := Lib.hid hm
      rw [hm] at TK
      have G0 := Lib.hid (HB.out.cells hlt)
      rw [hm] at G0
      clear hm
      have KB := Lib.hid (Below.refl wr.heap.size wr)
      go_wp2_with fail
      obtain ⟨W0, hW0⟩ : ∃ W0, wr = W0 := ⟨_, rfl⟩
      rw [hW0] at hO hB KB ⊢
      clear hW0
      go_loopw [7, 8] (fun z i wr => ∃ (j : Nat) (q : Bool), z = .bool q ∧ i = .int .i64 j ∧ j ≤ n ∧ Hid (q = (al.take j).any (wKey m)) ∧ Hid (Below W0.heap.size W0 wr)) (fun _ i _ => n - (intOf i).toNat)
      case atStart => exact ⟨0, false, rfl, rfl, Nat.zero_le _, Lib.hid rfl, KB⟩
      case round =>
        clear KB
        obtain ⟨j, q, rfl, rfl, hj, HQ, HK⟩ := hrel
        have hzb := hB.out.size
        by_cases hjl : j < n
        · have e2 : (j : Int) < (n : Int) := by omega
          have TJ := Lib.hid (TI.out j hjl)
          obtain ⟨x, hx⟩ : ∃ x, atD al j = x := ⟨_, rfl⟩
          rw [hx] at TJ
          obtain ⟨b1, o1, y1, c1, rfl, hb1, g6, -⟩ := HA.out.cellsD hjl
          obtain ⟨b2, o2, rfl, hb2, g5⟩ := G0.out
          rw [hx] at g6
          have CELLS := Lib.hid (p := ∀ w', Below W0.heap.size W0 w' → w'.cell? ⟨b1, o1 + j * 6, none⟩ = some (.string x.key) ∧ w'.cell? ⟨b1, o1 + j * 6 + 1, none⟩ = some (.int .i64 x.t) ∧ w'.cell? ⟨b1, o1 + j * 6 + 2, none⟩ = some (.int .i64 x.i) ∧ w'.cell? ⟨b1, o1 + j * 6 + 3, none⟩ = some (.int .i64 x.q) ∧ w'.cell? ⟨b1, o1 + j * 6 + 4, none⟩ = some (.string x.o) ∧ w'.cell? ⟨b2, o2 + k * 5, none⟩ = some (.string m.key) ∧ w'.cell? ⟨b2, o2 + k * 5 + 1, none⟩ = some (.int .i64 m.t) ∧ w'.cell? ⟨b2, o2 + k * 5 + 2, none⟩ = some (.int .i64 m.i) ∧ w'.cell? ⟨b2, o2 + k * 5 + 3, none⟩ = some (.int .i64 m.q) ∧ w'.cell? ⟨b2, o2 + k * 5 + 4, none⟩ = some (.string m.o)) (fun w' h => by
            have hbb := hB.out.trans (h.mono hzb)
            obtain ⟨x0, x1, x2, x3, x4, -⟩ := (g6.keptS (keptBelow hbb) (by omega) : Cells6 w' b1 (o1 + j * 6) x y1 c1)
            obtain ⟨u0, u1, u2, u3, u4⟩ := (g5.keptS (keptBelow hbb) (by omega) : CellsK w' b2 (o2 + k * 5) m)
            exact ⟨x0, x1, x2, x3, x4, u0, u1, u2, u3, u4⟩)
          obtain ⟨C, hC⟩ : ∃ C, cmpSt x.t x.i x.q x.o m.t m.i m.q m.o = C := ⟨_, rfl⟩
          have CM := Lib.hid (p := ∀ V', Calls Tryz.prog 48 #[.agg #[.int .i64 x.t, .int .i64 x.i, .int .i64 x.q, .string x.o], .agg #[.int .i64 m.t, .int .i64 m.i, .int .i64 m.q, .string m.o]] V' fun e w' => e = .returned (.int .i64 C) ∧ Below V'.heap.size V' w') (fun V' => by rw [← hC]; exact rCmpStamp_any x.t x.i x.q x.o m.t m.i m.q m.o V')
          obtain ⟨z, hz⟩ : ∃ z : Bool, z = (q || ((m.key.toList == x.key.toList) && decide (0 ≤ C))) := ⟨_, rfl⟩
          have HZ := Lib.hid hz
          have HZ2 := Lib.hid (show z = (al.take (j + 1)).any (wKey m) by
            rw [hz, HQ.out, TJ.out, List.any_append, ← hC]
            show _ = (_ || ((wKey m x) || false))
            rw [Bool.or_false]; rfl)
          have D0 := Lib.hid (p := ∀ n, Below W0.heap.size W0 (wr.drewN n)) (fun n => HK.out.trans ((drewND wr n).mono HK.out.size))
          have D1 := Lib.hid (CELLS.out wr HK.out)
          obtain ⟨x0, x1, x2, x3, x4, u0, u1, u2, u3, u4⟩ := D1.out
          clear hx g6 g5 hC hz TJ HQ
          go_upto_region 9 with fail
          cases q with
          | true =>
            have hz2 : z = true := by rw [HZ.out]; rfl
            clear CM
            go_wp2_with (go_quiet (fail))
            go_roundw
            case rel => exact ⟨j + 1, _, rfl, by go_num, by omega, Lib.hid (hz2.symm.trans HZ2.out), Lib.hid (D0.out _)⟩
            case measure => simp [intOf]; omega
          | false =>
            cases hkk : (m.key.toList == x.key.toList) with
            | false =>
              have hz2 : z = false := by rw [HZ.out, hkk]; rfl
              clear CM
              go_wp2_with (go_quiet (fail))
              go_roundw
              case rel => exact ⟨j + 1, _, rfl, by go_num, by omega, Lib.hid (hz2.symm.trans HZ2.out), Lib.hid (D0.out _)⟩
              case measure => simp [intOf]; omega
            | true =>
              cases hC0 : decide (0 ≤ C)
              all_goals
                have hz2 := HZ.out
                rw [hkk, hC0] at hz2
                simp only [Bool.false_or, Bool.true_and] at hz2
                have DD := Lib.hid (D0.out 1)
                go_region_held3 (fun w' => w'.cell? ⟨b1, o1 + j * 6, none⟩ = some (.string x.key) ∧ w'.cell? ⟨b1, o1 + j * 6 + 1, none⟩ = some (.int .i64 x.t) ∧ w'.cell? ⟨b1, o1 + j * 6 + 2, none⟩ = some (.int .i64 x.i) ∧ w'.cell? ⟨b1, o1 + j * 6 + 3, none⟩ = some (.int .i64 x.q) ∧ w'.cell? ⟨b1, o1 + j * 6 + 4, none⟩ = some (.string x.o) ∧ w'.cell? ⟨b2, o2 + k * 5, none⟩ = some (.string m.key) ∧ w'.cell? ⟨b2, o2 + k * 5 + 1, none⟩ = some (.int .i64 m.t) ∧ w'.cell? ⟨b2, o2 + k * 5 + 2, none⟩ = some (.int .i64 m.i) ∧ w'.cell? ⟨b2, o2 + k * 5 + 3, none⟩ = some (.int .i64 m.q) ∧ w'.cell? ⟨b2, o2 + k * 5 + 4, none⟩ = some (.string m.o)) (first | assumption | exact ⟨x0, x1, x2, x3, x4, u0, u1, u2, u3, u4⟩ | exact CELLS.out _ E0.out) (first
                  | (go_at_call 48
                     with_reducible refine (CM.out wr.drew).mono ?_
                     rintro e v1 ⟨rfl, hb⟩
                     have E0 := Lib.hid (Below.trans DD.out (hb.mono DD.out.size))
                     have cc1 := CELLS.out _ E0.out
                     clear hb)
                  | fail)
                clear x0 x1 x2 x3 x4 u0 u1 u2 u3 u4 cc1
                go_wp2_with fail
                go_roundw
                case rel => exact ⟨j + 1, _, rfl, by go_num, by omega, Lib.hid (hz2.symm.trans HZ2.out), E0⟩
                case measure => simp [intOf]; omega
        · obtain rfl : j = n := by omega
          have HQ2 := Lib.hid (show q = al.any (wKey m) by rw [HQ.out, FI.out])
          have O2 := Lib.hid (hO.out.below HK.out)
          have B2 := Lib.hid (hB.out.trans (HK.out.mono hzb))
          clear HQ HK hO hB
          cases q with
          | true =>
            have M2 := Lib.hid (show T = ((bl.take (k + 1)).filter fun m => !(al.any (wKey m))).map MK.key by rw [TK.out, List.filter_append, hM.out, List.filter_cons, if_neg (by rw [← HQ2.out]; decide)]; simp)
            go_wp2_with fail
            go_roundw
            case rel => exact ⟨k + 1, T, va, _, vc, rfl, by go_num, by omega, rfl, by omega, M2, O2, B2⟩
            case measure => simp [intOf]; omega
          | false =>
            have M2 := Lib.hid (show T ++ [m.key] = ((bl.take (k + 1)).filter fun m => !(al.any (wKey m))).map MK.key by rw [TK.out, List.filter_append, List.map_append, hM.out, List.filter_cons, if_pos (by rw [← HQ2.out]; rfl)]; rfl)
            obtain ⟨b2, o2, rfl, hb2, g5⟩ := G0.out
            obtain ⟨u0, u1, u2, u3, u4⟩ := (g5.keptS (keptBelow B2.out) (by omega) : CellsK wr b2 (o2 + k * 5) m)
            have BE := Lib.hid (B2.out.alloc (by have := B2.out.size; omega) (.cells #[.string m.key] 9))
            have OE := Lib.hid (O2.out.below ((Below.refl _ wr).alloc (Nat.le_refl _) (.cells #[.string m.key] 9)))
            have NEW := Lib.hid (new_oneS wr m.key 9)
            have hTn : T.length ≤ 1000 := by omega
            clear g5
            go_wp2_with (at_builtin; refine wpList_append_new rfl _ _ 51 rfl (base := w.heap.size) und hi hz0 hz1 hz2 rfl (by decide) (.slice va T.length vc) T.length 1 1 ⟨wr.heap.size, 0, none⟩ (T.map Value.string) [.string m.key] rfl rfl OE.out rfl NEW.out (by intro u hu; rw [List.mem_singleton] at hu; subst hu; rfl) (by unfold maxLen; omega) (by omega) (by have := BE.out.size; omega) ?_)
            intro v9 w9 hown9 hgrow9 hq9
            obtain ⟨va', vc', rfl⟩ := own_rowG hown9
            have O9 : Hid (OwnS w9 w.heap.size (.slice va' (T.length + 1) vc') (T ++ [m.key])) := Lib.hid (by unfold OwnS; rw [List.length_append, List.map_append]; exact hown9)
            have B9 := Lib.hid (BE.out.grown hgrow9 (by have := BE.out.size; omega) (fun q hq => (OE.out.lt q hq).1))
            clear hown9 hgrow9 hq9 OE BE NEW O2 B2 u0 u1 u2 u3 u4
            go_wp2_with fail
            go_roundw
            case rel => exact ⟨k + 1, T ++ [m.key], va', T.length + 1, vc', rfl, by go_num, by omega, by rw [List.length_append]; rfl, by rw [List.length_append]; show T.length + 1 ≤ k + 1; omega, M2, O9, B9⟩
            case measure => simp [intOf]; omega
    · obtain rfl : k = m0 := by omega
      have P := Lib.hid (show T = wantQ al bl by rw [hM.out, FO.out]; rfl)
      go_wp2_with fail
      go_ret
      exact ⟨⟨va, vc, T, rfl, hO.out, P.out⟩, hB.out⟩

end Go.Proofs.YtijoljpblfjeiaaGreat
