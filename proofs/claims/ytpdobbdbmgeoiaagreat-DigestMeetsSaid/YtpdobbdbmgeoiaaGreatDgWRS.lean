/-
  No statement: walk of package digest, over rows and keys.
-/
import Derived.Test.YtpdobbdbmgeoiaaGreatDgTw
import Derived.Test.YtpdobbdbmgeoiaaGreatDgMath
set_option linter.unusedVariables false
set_option linter.unusedSimpArgs false
namespace Go.Proofs.YtpdobbdbmgeoiaaGreat
open Go.RowKit

theorem keepRS_any (x : RD) (y : Option Addr) (c : Nat) (s : ByteArray) (both : Bool) (w : World) :
    Calls Tryz.prog 68 #[.agg #[.string x.key, .int .i64 x.t, .int .i64 x.i, .int .i64 x.q, .string x.o, .slice y x.len c], .string s, .bool both] w fun e w' => e = .returned (.bool both) ∧ Below w.heap.size w w' := by
  go_enter Tryz.func68, Tryz.ntmps68
  go_wp2_with fail
  go_ret
  exact ⟨rfl, by first | exact Below.refl _ _ | exact (Below.refl _ _).alloc (Nat.le_refl _) _⟩

theorem itselfB_any (k : ByteArray) (w : World) : Calls Tryz.prog 67 #[.string k] w fun e w' => e = .returned (.string k) ∧ Below w.heap.size w w' := by
  refine (itself_any k w).mono ?_
  rintro e w' ⟨h, rfl⟩
  exact ⟨h, Below.refl _ _⟩

set_option maxRecDepth 100000 in
set_option maxHeartbeats 8000000 in
theorem walkRS_any (al : List RD) (a : Option Addr) (c : Nat) (bl : List ByteArray) (b : Option Addr) (d : Nat) (hn : al.length ≤ 1000) (hm : bl.length ≤ 1000) (hd : bl.length ≤ d) (w : World)
    (ha : ReadsRG (fun q => q < w.heap.size) w a al.length (atD al)) (hb : ReadsSG (fun q => q < w.heap.size) w b bl.length (atS bl)) :
    Calls Tryz.prog 66 #[.slice a al.length c, .slice b bl.length d, .func (.func 61) #[] #[], .func (.func 67) #[] #[], .func (.func 68) #[] #[]] w
      fun e w' => (∃ (va : Option Addr) (vc : Nat) (T : List RTd), e = .returned (.slice va T.length vc) ∧ OwnRG (fun q => q < w.heap.size) w' w.heap.size (.slice va T.length vc) T ∧ T.map (·.1) = pickW RD.key idK bothK al bl) ∧ Below w.heap.size w w' := by
  obtain ⟨i0, hi, hz0, hz1, hz2⟩ := info_parts infoRd
  have und : Tryz.prog.underlying 62 = some (.slice 35) := Tryz.underlying62
  have HA := Lib.hid ha
  obtain ⟨S, hS⟩ : ∃ S, pickW RD.key idK bothK al bl = S := ⟨_, rfl⟩
  have S0 := Lib.hid (show ([] : List RTd).map (·.1) ++ pickW RD.key idK bothK (al.drop 0) bl = S by simpa using hS)
  have M0 := Lib.hid hb
  have O0 : Hid (OwnRG (fun q => q < w.heap.size) w w.heap.size (.slice none 0 0) []) := Lib.hid ⟨World.ownsRow_nil w _ _ _, fun t ht => by cases ht⟩
  have B0 : Hid (Below w.heap.size w w) := Lib.hid (Below.refl _ _)
  rw [hS]
  obtain ⟨m0, hm0⟩ : ∃ m, bl.length = m := ⟨_, rfl⟩
  rw [hm0] at M0 hm hd ⊢
  clear ha hb hS
  go_enter Tryz.func66, Tryz.ntmps66
  go_wp2_with fail
  go_loopw [1, 11, 19] (fun bv v i wr => ∃ (k m : Nat) (bl' : List ByteArray) (ab : Option Addr) (cb : Nat) (T : List RTd) (va : Option Addr) (vl vc : Nat), bv = .slice ab m cb ∧ v = .slice va vl vc ∧ i = .int .i64 k ∧ k ≤ al.length ∧ T.length ≤ k ∧ vl = T.length ∧ bl'.length = m ∧ m ≤ cb ∧ m ≤ 1000 ∧
    Hid (T.map (·.1) ++ pickW RD.key idK bothK (al.drop k) bl' = S) ∧ Hid (ReadsSG (fun q => q < w.heap.size) wr ab m (atS bl')) ∧ Hid (OwnRG (fun q => q < w.heap.size) wr w.heap.size (.slice va vl vc) T) ∧ Hid (Below w.heap.size w wr)) (fun _ _ i _ => al.length - (intOf i).toNat)
  case atStart => exact ⟨0, m0, bl, b, d, [], none, 0, 0, rfl, rfl, rfl, Nat.zero_le _, Nat.zero_le _, rfl, hm0, hd, hm, S0, M0, O0, B0⟩
  case round =>
    clear S0 M0 O0 B0 hm0 hm hd
    obtain ⟨k, m, bl', ab, cb, T, va, vl, vc, rfl, rfl, rfl, hk, hTk, hvl, hml, hcb, hm, HS, HM, HO, HB⟩ := hrel
    subst hvl
    by_cases hlt : k < al.length
    · obtain ⟨b0, off, y, cy, rfl, hb0, h6, hry⟩ := HA.out.cellsD hlt
      have hdr : al.drop k = al[k] :: al.drop (k + 1) := by rw [List.drop_eq_getElem_cons hlt]
      rw [atD_lt hlt] at h6 hry
      obtain ⟨x, hx⟩ : ∃ x, al[k] = x := ⟨_, rfl⟩
      rw [hx] at h6 hry hdr
      have HS1 := Lib.hid (hdr ▸ HS.out)
      have hzr := HB.out.size
      obtain ⟨d0, d1, d2, d3, d4, d5⟩ := h6.keptS (keptBelow HB.out) (by omega)
      have RY := Lib.hid hry
      clear h6 hry hdr hx HS
      go_upto_region 5 with fail
      generalize hW : World.alloc wr _ = W
      have hWb : Below wr.heap.size wr W := by rw [← hW]; exact (Below.refl _ _).alloc (Nat.le_refl _) _
      have hW6 : W.heap[wr.heap.size]? = some (rowB (x, y, cy)) := by rw [← hW]; exact heap_alloc_new wr _
      clear hW d0 d1 d2 d3 d4 d5
      have X1 := Lib.hid hW6
      have M1 := Lib.hid (HM.out.kept (keptNew hWb) (fun _ _ h => h))
      have O1 := Lib.hid (HO.out.below hWb)
      have B1 := Lib.hid (HB.out.trans (hWb.mono hzr))
      clear hWb hW6 HM HO HB
      obtain ⟨d0, d1, d2, d3, d4, d5⟩ := sixE X1.out
      obtain ⟨P, hP⟩ : ∃ P, wr.heap.size = P := ⟨_, rfl⟩
      rw [hP] at X1 d0 d1 d2 d3 d4 d5 ⊢
      clear hP hzr
      go_wp2_with fail
      refine (rowKey_any x.key x.t x.i x.q x.o y x.len cy W).mono ?_
      rintro e w1 ⟨rfl, hb⟩
      have hzW := B1.out.size
      have X2 := Lib.hid ((hb.block _ (lt_of_block X1.out)).trans X1.out)
      have M2 := Lib.hid (M1.out.kept (keptNew hb) (fun _ _ h => h))
      have O2 := Lib.hid (O1.out.below hb)
      have B2 := Lib.hid (B1.out.trans (hb.mono hzW))
      clear hb X1 M1 O1 B1 d0 d1 d2 d3 d4 d5 hzW
      go_wp2_with fail
      obtain ⟨bd, hbd⟩ : ∃ bd, bl'.dropWhile (fun z => lsS (idK z) x.key) = bd := ⟨_, rfl⟩
      have D2 := Lib.hid hbd
      have HS2 := Lib.hid (show T.map (·.1) ++ (if bothK x (headK idK x.key bd) = true then x :: pickW RD.key idK bothK (al.drop (k + 1)) bd else pickW RD.key idK bothK (al.drop (k + 1)) bd) = S by rw [← hbd]; exact HS1.out)
      clear HS1
      go_loopw [1] (fun bv wr => ∃ (m : Nat) (bl' : List ByteArray) (ab : Option Addr) (cb : Nat), bv = .slice ab m cb ∧ bl'.length = m ∧ m ≤ cb ∧ m ≤ 1000 ∧
        Hid (bl'.dropWhile (fun z => lsS (idK z) x.key) = bd) ∧ Hid (wr.heap[P]? = some (rowB (x, y, cy))) ∧ Hid (ReadsSG (fun q => q < w.heap.size) wr ab m (atS bl')) ∧ Hid (OwnRG (fun q => q < w.heap.size) wr w.heap.size (.slice va T.length vc) T) ∧ Hid (Below w.heap.size w wr)) (fun bv _ => lenOf bv)
      case atStart => exact ⟨m, bl', ab, cb, rfl, hml, hcb, hm, D2, X2, M2, O2, B2⟩
      case round =>
        clear D2 X2 M2 O2 B2 hbd hml hcb hm
        obtain ⟨m, bl', ab, cb, rfl, hml, hcb, hm, HD, HX, HM, HO, HB⟩ := hrel
        by_cases hm0 : m = 0
        · subst hm0
          obtain rfl : bl' = [] := List.eq_nil_of_length_eq_zero hml
          obtain rfl : bd = [] := HD.out.symm
          clear HD
          go_upto_region 9 with fail
          have hVb : Below wr.heap.size wr wr := Below.refl _ _
          obtain ⟨d0, d1, d2, d3, d4, d5⟩ := sixE ((hVb.block _ (lt_of_block HX.out)).trans HX.out)
          go_wp2_with fail
          refine (keepRS_any x y cy ⟨#[]⟩ false wr).mono ?_
          rintro e w8 ⟨rfl, hb8⟩
          have hb := hVb.trans (hb8.mono hVb.size)
          have hz8 := HB.out.size
          have O8 := Lib.hid (HO.out.below hb)
          have M8 := Lib.hid (HM.out.kept (keptNew hb) (fun _ _ h => h))
          have X8 := Lib.hid ((hb.block _ (lt_of_block HX.out)).trans HX.out)
          have B8 := Lib.hid (HB.out.trans (hb.mono hz8))
          obtain ⟨r, hr⟩ : ∃ r, false = r := ⟨_, rfl⟩
          have H3 := Lib.hid (show T.map (·.1) ++ (if r = true then x :: pickW RD.key idK bothK (al.drop (k + 1)) [] else pickW RD.key idK bothK (al.drop (k + 1)) []) = S by rw [← hr]; have e := HS2.out; rw [(show bothK x (headK idK x.key []) = false from rfl)] at e; exact e)
          rw [hr]
          clear hb8 hb hr hVb d0 d1 d2 d3 d4 d5 HX HM HO HB HS2 hz8
          cases r with
          | false =>
            go_wp2_with fail
            go_roundw
            case rel => exact ⟨k + 1, 0, [], _, cb, T, va, _, vc, rfl, rfl, by go_num, by omega, by omega, rfl, hml, hcb, hm, Lib.hid (by have := H3.out; rwa [if_neg (by decide)] at this), M8, O8, B8⟩
            case measure => simp [intOf]; omega
          | true =>
            obtain ⟨d0, d1, d2, d3, d4, d5⟩ := sixE X8.out
            have OE := Lib.hid (O8.out.below ((Below.refl _ w8).alloc (Nat.le_refl _) (rowB (x, y, cy))))
            have BE := Lib.hid (B8.out.alloc (by have := B8.out.size; omega) (rowB (x, y, cy)))
            have ME := Lib.hid (M8.out.kept (keptNew ((Below.refl _ w8).alloc (Nat.le_refl _) (rowB (x, y, cy)))) (fun _ _ h => h))
            have RE := Lib.hid (ReadsAG.kept (G := fun q => q < w.heap.size) RY.out (keptBelow BE.out) (fun q hq h => by omega))
            have NEW := Lib.hid (new_sixD w8 (x, y, cy))
            have HG := Lib.hid (p := ∀ q, q < w.heap.size → (Value.slice va T.length vc).ownBlock ≠ some q) (fun q hq e => by have := (O8.out.1.lt q e).1; omega)
            unfold rowB at OE BE ME RE NEW
            have hTn : T.length ≤ 1000 := by omega
            go_wp2_with (at_builtin; refine wpList_append_new rfl _ _ 62 rfl (base := w.heap.size) und hi hz0 hz1 hz2 rfl (by decide) (.slice va T.length vc) T.length 1 1 ⟨w8.heap.size, 0, none⟩ (T.flatMap sixD) (sixD (x, y, cy)) rfl rfl OE.out.1 rfl NEW.out (sixD_one _) (by unfold maxLen; omega) (by omega) (by have := BE.out.size; omega) ?_)
            intro v9 w9 hown9 hgrow9 hq9
            obtain ⟨va', vc', rfl⟩ := own_rowG hown9
            have O9 : Hid (OwnRG (fun q => q < w.heap.size) w9 w.heap.size (.slice va' (T.length + 1) vc') (T ++ [(x, y, cy)])) := Lib.hid (OE.out.more (t := (x, y, cy)) HG.out RE.out hown9 hgrow9)
            have B9 := Lib.hid (BE.out.grown hgrow9 (by have := BE.out.size; omega) (fun q hq => (OE.out.1.lt q hq).1))
            have M9 := Lib.hid (ME.out.kept ((Kept.refl (fun q => (Value.slice va T.length vc).ownBlock = some q) _).grown hgrow9 (fun k hk => .inl hk)) (fun q hq e => HG.out q hq e))
            clear hown9 hgrow9 hq9 OE BE ME NEW O8 B8 M8 X8 d0 d1 d2 d3 d4 d5 RE
            go_wp2_with fail
            go_roundw
            case rel => exact ⟨k + 1, 0, [], _, cb, T ++ [(x, y, cy)], va', T.length + 1, vc', rfl, rfl, by go_num, by omega, by rw [List.length_append]; show T.length + 1 ≤ k + 1; omega, by rw [List.length_append]; rfl, hml, hcb, hm, Lib.hid (by have := H3.out; (first | rw [if_pos trivial] at this | rw [if_pos rfl] at this); rw [List.map_append, List.append_assoc]; exact this), M9, O9, B9⟩
            case measure => simp [intOf]; omega
        · have e1 : (0 : Int) < (m : Int) := by omega
          have e2 : ((0 : Int)).toNat = 0 := rfl
          obtain ⟨b1, off1, rfl, hb1, k0⟩ := HM.out.cells (show 0 < m by omega)
          rw [Nat.add_zero] at k0
          obtain ⟨z, bt, rfl⟩ : ∃ z bt, bl' = z :: bt := by
            cases bl' with
            | nil => exact absurd hml.symm hm0
            | cons z bt => exact ⟨z, bt, rfl⟩
          have hz : atS (z :: bt) 0 = z := rfl
          rw [hz] at k0
          have KZ := Lib.hid (show CellsS wr b1 off1 z from k0)
          go_wp2_with fail
          refine (itselfB_any z wr).mono ?_
          rintro e w3 ⟨rfl, hb⟩
          have hzr := HB.out.size
          have X3 := Lib.hid ((hb.block _ (lt_of_block HX.out)).trans HX.out)
          have M3 := Lib.hid (HM.out.kept (keptNew hb) (fun _ _ h => h))
          have O3 := Lib.hid (HO.out.below hb)
          have B3 := Lib.hid (HB.out.trans (hb.mono hzr))
          have K3 := Lib.hid (show CellsS w3 b1 off1 z from KZ.out.keptS (keptNew hb) (fun h => h))
          clear HX HM HO HB KZ hb k0 hzr hz
          cases hq : lsS (idK z) x.key with
          | true =>
            have q1 : Op.bytesLess z.toList x.key.toList = true := hq
            have HD3 := Lib.hid (show bt.dropWhile (fun z => lsS (idK z) x.key) = bd by have := HD.out; rwa [List.dropWhile_cons, if_pos hq] at this)
            have M4 := Lib.hid (M3.out.tail (c := cb) (by omega) hcb)
            have e3 : (0 : Int) ≤ 1 := by decide
            have e4 : (1 : Int) ≤ (m : Int) := by omega
            have hbl : bt.length = m - 1 := by simp at hml; omega
            clear hq HD
            go_wp2_with fail
            go_roundw
            case rel => exact ⟨m - 1, bt, _, cb - 1, rfl, hbl, by omega, by omega, HD3, X3, M4, O3, B3⟩
            case measure => show m - 1 < m; omega
          | false =>
            have q1 : Op.bytesLess z.toList x.key.toList = false := hq
            obtain rfl : bd = z :: bt := by have := HD.out; rw [List.dropWhile_cons, if_neg (by rw [hq]; decide)] at this; exact this.symm
            clear hq HD
            go_upto_region 9 with fail
            have k0 := (show World.cell? _ ⟨b1, off1, none⟩ = some (.string z) from K3.out)
            go_wp2_with fail
            refine (itselfB_any z w3).mono ?_
            rintro e w4 ⟨rfl, hb⟩
            have hVb := hb
            have K5 : CellsS w4 b1 off1 z := K3.out.keptS (keptNew hVb) (fun h => h)
            clear hb k0
            cases hkq : (z.toList == x.key.toList) with
            | false =>
              obtain ⟨d0, d1, d2, d3, d4, d5⟩ := sixE ((hVb.block _ (lt_of_block X3.out)).trans X3.out)
              have hne : ¬ z = x.key := fun e => by rw [e, beq_self_eq_true] at hkq; cases hkq
              have QR := Lib.hid (show bothK x (headK idK x.key (z :: bt)) = false by show bothK x (if idK z = x.key then some z else none) = _; rw [if_neg hne]; rfl)
              clear K5 hne K3
              go_wp2_with fail
              refine (keepRS_any x y cy ⟨#[]⟩ false w4).mono ?_
              rintro e w8 ⟨rfl, hb8⟩
              have hb := hVb.trans (hb8.mono hVb.size)
              have hz8 := B3.out.size
              have O8 := Lib.hid (O3.out.below hb)
              have M8 := Lib.hid (M3.out.kept (keptNew hb) (fun _ _ h => h))
              have X8 := Lib.hid ((hb.block _ (lt_of_block X3.out)).trans X3.out)
              have B8 := Lib.hid (B3.out.trans (hb.mono hz8))
              obtain ⟨r, hr⟩ : ∃ r, false = r := ⟨_, rfl⟩
              have H3 := Lib.hid (show T.map (·.1) ++ (if r = true then x :: pickW RD.key idK bothK (al.drop (k + 1)) (z :: bt) else pickW RD.key idK bothK (al.drop (k + 1)) (z :: bt)) = S by rw [← hr]; have e := HS2.out; rw [QR.out] at e; exact e)
              rw [hr]
              clear hb8 hb hr hVb QR d0 d1 d2 d3 d4 d5 X3 M3 O3 B3 HS2 hz8
              cases r with
              | false =>
                go_wp2_with fail
                go_roundw
                case rel => exact ⟨k + 1, m, (z :: bt), _, cb, T, va, _, vc, rfl, rfl, by go_num, by omega, by omega, rfl, hml, hcb, hm, Lib.hid (by have := H3.out; rwa [if_neg (by decide)] at this), M8, O8, B8⟩
                case measure => simp [intOf]; omega
              | true =>
                obtain ⟨d0, d1, d2, d3, d4, d5⟩ := sixE X8.out
                have OE := Lib.hid (O8.out.below ((Below.refl _ w8).alloc (Nat.le_refl _) (rowB (x, y, cy))))
                have BE := Lib.hid (B8.out.alloc (by have := B8.out.size; omega) (rowB (x, y, cy)))
                have ME := Lib.hid (M8.out.kept (keptNew ((Below.refl _ w8).alloc (Nat.le_refl _) (rowB (x, y, cy)))) (fun _ _ h => h))
                have RE := Lib.hid (ReadsAG.kept (G := fun q => q < w.heap.size) RY.out (keptBelow BE.out) (fun q hq h => by omega))
                have NEW := Lib.hid (new_sixD w8 (x, y, cy))
                have HG := Lib.hid (p := ∀ q, q < w.heap.size → (Value.slice va T.length vc).ownBlock ≠ some q) (fun q hq e => by have := (O8.out.1.lt q e).1; omega)
                unfold rowB at OE BE ME RE NEW
                have hTn : T.length ≤ 1000 := by omega
                go_wp2_with (at_builtin; refine wpList_append_new rfl _ _ 62 rfl (base := w.heap.size) und hi hz0 hz1 hz2 rfl (by decide) (.slice va T.length vc) T.length 1 1 ⟨w8.heap.size, 0, none⟩ (T.flatMap sixD) (sixD (x, y, cy)) rfl rfl OE.out.1 rfl NEW.out (sixD_one _) (by unfold maxLen; omega) (by omega) (by have := BE.out.size; omega) ?_)
                intro v9 w9 hown9 hgrow9 hq9
                obtain ⟨va', vc', rfl⟩ := own_rowG hown9
                have O9 : Hid (OwnRG (fun q => q < w.heap.size) w9 w.heap.size (.slice va' (T.length + 1) vc') (T ++ [(x, y, cy)])) := Lib.hid (OE.out.more (t := (x, y, cy)) HG.out RE.out hown9 hgrow9)
                have B9 := Lib.hid (BE.out.grown hgrow9 (by have := BE.out.size; omega) (fun q hq => (OE.out.1.lt q hq).1))
                have M9 := Lib.hid (ME.out.kept ((Kept.refl (fun q => (Value.slice va T.length vc).ownBlock = some q) _).grown hgrow9 (fun k hk => .inl hk)) (fun q hq e => HG.out q hq e))
                clear hown9 hgrow9 hq9 OE BE ME NEW O8 B8 M8 X8 d0 d1 d2 d3 d4 d5 RE
                go_wp2_with fail
                go_roundw
                case rel => exact ⟨k + 1, m, (z :: bt), _, cb, T ++ [(x, y, cy)], va', T.length + 1, vc', rfl, rfl, by go_num, by omega, by rw [List.length_append]; show T.length + 1 ≤ k + 1; omega, by rw [List.length_append]; rfl, hml, hcb, hm, Lib.hid (by have := H3.out; (first | rw [if_pos trivial] at this | rw [if_pos rfl] at this); rw [List.map_append, List.append_assoc]; exact this), M9, O9, B9⟩
                case measure => simp [intOf]; omega
            | true =>
              have hxk : z = x.key := by
                have e := eq_of_beq hkq
                rw [Lib.toList_data, Lib.toList_data] at e
                exact text_eq e
              have QR := Lib.hid (show bothK x (headK idK x.key (z :: bt)) = true by show bothK x (if idK z = x.key then some z else none) = _; rw [if_pos hxk]; rfl)
              have k0 := (show World.cell? _ ⟨b1, off1, none⟩ = some (.string z) from K5)
              have hUb := hVb
              clear hVb hxk K3
              obtain ⟨d0, d1, d2, d3, d4, d5⟩ := sixE ((hUb.block _ (lt_of_block X3.out)).trans X3.out)
              go_wp2_with fail
              refine (keepRS_any x y cy z true w4).mono ?_
              rintro e w8 ⟨rfl, hb8⟩
              have hb := hUb.trans (hb8.mono hUb.size)
              have hz8 := B3.out.size
              have O8 := Lib.hid (O3.out.below hb)
              have M8 := Lib.hid (M3.out.kept (keptNew hb) (fun _ _ h => h))
              have X8 := Lib.hid ((hb.block _ (lt_of_block X3.out)).trans X3.out)
              have B8 := Lib.hid (B3.out.trans (hb.mono hz8))
              obtain ⟨r, hr⟩ : ∃ r, true = r := ⟨_, rfl⟩
              have H3 := Lib.hid (show T.map (·.1) ++ (if r = true then x :: pickW RD.key idK bothK (al.drop (k + 1)) (z :: bt) else pickW RD.key idK bothK (al.drop (k + 1)) (z :: bt)) = S by rw [← hr]; have e := HS2.out; rw [QR.out] at e; exact e)
              rw [hr]
              clear hb8 hb hr hUb QR d0 d1 d2 d3 d4 d5 X3 M3 O3 B3 HS2 hz8
              cases r with
              | false =>
                go_wp2_with fail
                go_roundw
                case rel => exact ⟨k + 1, m, (z :: bt), _, cb, T, va, _, vc, rfl, rfl, by go_num, by omega, by omega, rfl, hml, hcb, hm, Lib.hid (by have := H3.out; rwa [if_neg (by decide)] at this), M8, O8, B8⟩
                case measure => simp [intOf]; omega
              | true =>
                obtain ⟨d0, d1, d2, d3, d4, d5⟩ := sixE X8.out
                have OE := Lib.hid (O8.out.below ((Below.refl _ w8).alloc (Nat.le_refl _) (rowB (x, y, cy))))
                have BE := Lib.hid (B8.out.alloc (by have := B8.out.size; omega) (rowB (x, y, cy)))
                have ME := Lib.hid (M8.out.kept (keptNew ((Below.refl _ w8).alloc (Nat.le_refl _) (rowB (x, y, cy)))) (fun _ _ h => h))
                have RE := Lib.hid (ReadsAG.kept (G := fun q => q < w.heap.size) RY.out (keptBelow BE.out) (fun q hq h => by omega))
                have NEW := Lib.hid (new_sixD w8 (x, y, cy))
                have HG := Lib.hid (p := ∀ q, q < w.heap.size → (Value.slice va T.length vc).ownBlock ≠ some q) (fun q hq e => by have := (O8.out.1.lt q e).1; omega)
                unfold rowB at OE BE ME RE NEW
                have hTn : T.length ≤ 1000 := by omega
                go_wp2_with (at_builtin; refine wpList_append_new rfl _ _ 62 rfl (base := w.heap.size) und hi hz0 hz1 hz2 rfl (by decide) (.slice va T.length vc) T.length 1 1 ⟨w8.heap.size, 0, none⟩ (T.flatMap sixD) (sixD (x, y, cy)) rfl rfl OE.out.1 rfl NEW.out (sixD_one _) (by unfold maxLen; omega) (by omega) (by have := BE.out.size; omega) ?_)
                intro v9 w9 hown9 hgrow9 hq9
                obtain ⟨va', vc', rfl⟩ := own_rowG hown9
                have O9 : Hid (OwnRG (fun q => q < w.heap.size) w9 w.heap.size (.slice va' (T.length + 1) vc') (T ++ [(x, y, cy)])) := Lib.hid (OE.out.more (t := (x, y, cy)) HG.out RE.out hown9 hgrow9)
                have B9 := Lib.hid (BE.out.grown hgrow9 (by have := BE.out.size; omega) (fun q hq => (OE.out.1.lt q hq).1))
                have M9 := Lib.hid (ME.out.kept ((Kept.refl (fun q => (Value.slice va T.length vc).ownBlock = some q) _).grown hgrow9 (fun k hk => .inl hk)) (fun q hq e => HG.out q hq e))
                clear hown9 hgrow9 hq9 OE BE ME NEW O8 B8 M8 X8 d0 d1 d2 d3 d4 d5 RE
                go_wp2_with fail
                go_roundw
                case rel => exact ⟨k + 1, m, (z :: bt), _, cb, T ++ [(x, y, cy)], va', T.length + 1, vc', rfl, rfl, by go_num, by omega, by rw [List.length_append]; show T.length + 1 ≤ k + 1; omega, by rw [List.length_append]; rfl, hml, hcb, hm, Lib.hid (by have := H3.out; (first | rw [if_pos trivial] at this | rw [if_pos rfl] at this); rw [List.map_append, List.append_assoc]; exact this), M9, O9, B9⟩
                case measure => simp [intOf]; omega
    · obtain rfl : k = al.length := by omega
      have P0 : Hid (T.map (·.1) = S) := Lib.hid (by have := HS.out; rw [List.drop_length] at this; simpa [pickW] using this)
      go_wp2_with fail
      go_ret
      exact ⟨⟨va, vc, T, rfl, HO.out, P0.out⟩, HB.out⟩

end Go.Proofs.YtpdobbdbmgeoiaaGreat
