/-
  No statement: walk of package digest, over marks and rows.
-/
import Derived.Test.YtpdobbdbmgeoiaaGreatDgTw
import Derived.Test.YtpdobbdbmgeoiaaGreatDgMath
set_option linter.unusedVariables false
set_option linter.unusedSimpArgs false
namespace Go.Proofs.YtpdobbdbmgeoiaaGreat
open Go.RowKit

theorem keepMR_any (m : MK) (x : RD) (y : Option Addr) (c : Nat) (both : Bool) (w : World) :
    Calls Tryz.prog 71 #[.agg #[.string m.key, .int .i64 m.t, .int .i64 m.i, .int .i64 m.q, .string m.o], .agg #[.string x.key, .int .i64 x.t, .int .i64 x.i, .int .i64 x.q, .string x.o, .slice y x.len c], .bool both] w fun e w' => e = .returned (.bool (!both || newKR m x)) ∧ Below w.heap.size w w' := by
  go_enter Tryz.func71, Tryz.ntmps71
  go_upto_region 1 with fail
  generalize hW : World.alloc (World.alloc w _) _ = W
  obtain ⟨hb, b1, b2, -⟩ := two_boxes w (.cells #[.string m.key, .int .i64 m.t, .int .i64 m.i, .int .i64 m.q, .string m.o] 99) (.cells #[.string x.key, .int .i64 x.t, .int .i64 x.i, .int .i64 x.q, .string x.o, .slice y x.len c] 35)
  rw [hW] at hb b1 b2
  clear hW
  cases both with
  | false =>
    go_wp2_with fail
    go_ret
    exact ⟨rfl, hb⟩
  | true =>
    obtain ⟨⟨m0, m1, m2, m3, m4⟩, -⟩ := five b1
    obtain ⟨x0, x1, x2, x3, x4, x5⟩ := sixE b2
    have C := Lib.hid (stampNewer_any m.t m.i m.q m.o x.t x.i x.q x.o W)
    have B := Lib.hid hb
    clear b1 b2 hb
    go_wp2_with fail
    refine C.out.mono ?_
    rintro e w2 ⟨rfl, hb2⟩
    have B2 := Lib.hid (B.out.trans (hb2.mono B.out.size))
    clear hb2
    go_wp2_with fail
    go_ret
    exact ⟨rfl, B2.out⟩

set_option maxRecDepth 100000 in
set_option maxHeartbeats 8000000 in
theorem walkMR_any (al : List MK) (a : Option Addr) (c : Nat) (bl : List RD) (b : Option Addr) (d : Nat) (hn : al.length ≤ 1000) (hm : bl.length ≤ 1000) (hd : bl.length ≤ d) (w : World)
    (ha : ReadsMG (fun q => q < w.heap.size) w a al.length (atK al)) (hb : ReadsRG (fun q => q < w.heap.size) w b bl.length (atD bl)) :
    Calls Tryz.prog 70 #[.slice a al.length c, .slice b bl.length d, .func (.func 62) #[] #[], .func (.func 61) #[] #[], .func (.func 71) #[] #[]] w
      fun e w' => (∃ (va : Option Addr) (vc : Nat) (T : List MK), e = .returned (.slice va T.length vc) ∧ OwnK w' w.heap.size (.slice va T.length vc) T ∧ T = pickW MK.key RD.key wantK al bl) ∧ Below w.heap.size w w' := by
  obtain ⟨i0, hi, hz0, hz1, hz2⟩ := info_parts infoKd
  have und : Tryz.prog.underlying 68 = some (.slice 99) := Tryz.underlying68
  have HA := Lib.hid ha
  obtain ⟨S, hS⟩ : ∃ S, pickW MK.key RD.key wantK al bl = S := ⟨_, rfl⟩
  have S0 := Lib.hid (show ([] : List MK) ++ pickW MK.key RD.key wantK (al.drop 0) bl = S by simpa using hS)
  have M0 := Lib.hid hb
  have O0 : Hid (OwnK w w.heap.size (.slice none 0 0) []) := Lib.hid World.ownsRow_nil w _ _ _
  have B0 : Hid (Below w.heap.size w w) := Lib.hid (Below.refl _ _)
  rw [hS]
  obtain ⟨m0, hm0⟩ : ∃ m, bl.length = m := ⟨_, rfl⟩
  rw [hm0] at M0 hm hd ⊢
  clear ha hb hS
  go_enter Tryz.func70, Tryz.ntmps70
  go_wp2_with fail
  go_loopw [1, 11, 19] (fun bv v i wr => ∃ (k m : Nat) (bl' : List RD) (ab : Option Addr) (cb : Nat) (T : List MK) (va : Option Addr) (vl vc : Nat), bv = .slice ab m cb ∧ v = .slice va vl vc ∧ i = .int .i64 k ∧ k ≤ al.length ∧ T.length ≤ k ∧ vl = T.length ∧ bl'.length = m ∧ m ≤ cb ∧ m ≤ 1000 ∧
    Hid (T ++ pickW MK.key RD.key wantK (al.drop k) bl' = S) ∧ Hid (ReadsRG (fun q => q < w.heap.size) wr ab m (atD bl')) ∧ Hid (OwnK wr w.heap.size (.slice va vl vc) T) ∧ Hid (Below w.heap.size w wr)) (fun _ _ i _ => al.length - (intOf i).toNat)
  case atStart => exact ⟨0, m0, bl, b, d, [], none, 0, 0, rfl, rfl, rfl, Nat.zero_le _, Nat.zero_le _, rfl, hm0, hd, hm, S0, M0, O0, B0⟩
  case round =>
    clear S0 M0 O0 B0 hm0 hm hd
    obtain ⟨k, m, bl', ab, cb, T, va, vl, vc, rfl, rfl, rfl, hk, hTk, hvl, hml, hcb, hm, HS, HM, HO, HB⟩ := hrel
    subst hvl
    by_cases hlt : k < al.length
    · obtain ⟨b0, off, rfl, hb0, h6⟩ := HA.out.cells hlt
      have hdr : al.drop k = al[k] :: al.drop (k + 1) := by rw [List.drop_eq_getElem_cons hlt]
      rw [atK_lt hlt] at h6
      obtain ⟨x, hx⟩ : ∃ x, al[k] = x := ⟨_, rfl⟩
      rw [hx] at h6 hdr
      have HS1 := Lib.hid (hdr ▸ HS.out)
      have hzr := HB.out.size
      obtain ⟨d0, d1, d2, d3, d4⟩ := h6.keptS (keptBelow HB.out) (by omega)
      skip
      clear h6 hdr hx HS
      go_upto_region 5 with fail
      generalize hW : World.alloc wr _ = W
      have hWb : Below wr.heap.size wr W := by rw [← hW]; exact (Below.refl _ _).alloc (Nat.le_refl _) _
      have hW6 : W.heap[wr.heap.size]? = some (markB x) := by rw [← hW]; exact heap_alloc_new wr _
      clear hW d0 d1 d2 d3 d4
      have X1 := Lib.hid hW6
      have M1 := Lib.hid (HM.out.kept (keptNew hWb) (fun _ _ h => h))
      have O1 := Lib.hid (HO.out.below hWb)
      have B1 := Lib.hid (HB.out.trans (hWb.mono hzr))
      clear hWb hW6 HM HO HB
      obtain ⟨⟨d0, d1, d2, d3, d4⟩, -⟩ := five X1.out
      obtain ⟨P, hP⟩ : ∃ P, wr.heap.size = P := ⟨_, rfl⟩
      rw [hP] at X1 d0 d1 d2 d3 d4 ⊢
      clear hP hzr
      go_wp2_with fail
      refine (markKey_any x.key x.t x.i x.q x.o W).mono ?_
      rintro e w1 ⟨rfl, hb⟩
      have hzW := B1.out.size
      have X2 := Lib.hid ((hb.block _ (lt_of_block X1.out)).trans X1.out)
      have M2 := Lib.hid (M1.out.kept (keptNew hb) (fun _ _ h => h))
      have O2 := Lib.hid (O1.out.below hb)
      have B2 := Lib.hid (B1.out.trans (hb.mono hzW))
      clear hb X1 M1 O1 B1 d0 d1 d2 d3 d4 hzW
      go_wp2_with fail
      obtain ⟨bd, hbd⟩ : ∃ bd, bl'.dropWhile (fun z => lsS (RD.key z) x.key) = bd := ⟨_, rfl⟩
      have D2 := Lib.hid hbd
      have HS2 := Lib.hid (show T ++ (if wantK x (headK RD.key x.key bd) = true then x :: pickW MK.key RD.key wantK (al.drop (k + 1)) bd else pickW MK.key RD.key wantK (al.drop (k + 1)) bd) = S by rw [← hbd]; exact HS1.out)
      clear HS1
      go_loopw [1] (fun bv wr => ∃ (m : Nat) (bl' : List RD) (ab : Option Addr) (cb : Nat), bv = .slice ab m cb ∧ bl'.length = m ∧ m ≤ cb ∧ m ≤ 1000 ∧
        Hid (bl'.dropWhile (fun z => lsS (RD.key z) x.key) = bd) ∧ Hid (wr.heap[P]? = some (markB x)) ∧ Hid (ReadsRG (fun q => q < w.heap.size) wr ab m (atD bl')) ∧ Hid (OwnK wr w.heap.size (.slice va T.length vc) T) ∧ Hid (Below w.heap.size w wr)) (fun bv _ => lenOf bv)
      case atStart => exact ⟨m, bl', ab, cb, rfl, hml, hcb, hm, D2, X2, M2, O2, B2⟩
      case round =>
        clear D2 X2 M2 O2 B2 hbd hml hcb hm
        obtain ⟨m, bl', ab, cb, rfl, hml, hcb, hm, HD, HX, HM, HO, HB⟩ := hrel
        by_cases hm0 : m = 0
        · subst hm0
          obtain rfl : bl' = [] := List.eq_nil_of_length_eq_zero hml
          obtain rfl : bd = [] := HD.out.symm
          clear HD
          go_upto_region 9 with fail
          generalize hV : World.alloc wr _ = V
          have hVb : Below wr.heap.size wr V := by rw [← hV]; exact (Below.refl _ _).alloc (Nat.le_refl _) _
          have hV5 : V.heap[wr.heap.size]? = some (.cells #[.string ⟨#[]⟩, .int .i64 0, .int .i64 0, .int .i64 0, .string ⟨#[]⟩, .slice none 0 0] 35 (0, 0)) := by rw [← hV]; exact heap_alloc_new wr _
          clear hV
          obtain ⟨a0, a1, a2, a3, a4, a5⟩ := sixE hV5
          obtain ⟨⟨d0, d1, d2, d3, d4⟩, -⟩ := five ((hVb.block _ (lt_of_block HX.out)).trans HX.out)
          clear hV5
          go_wp2_with fail
          refine (keepMR_any x zRD none 0 false V).mono ?_
          rintro e w8 ⟨rfl, hb8⟩
          have hb := hVb.trans (hb8.mono hVb.size)
          have hz8 := HB.out.size
          have O8 := Lib.hid (HO.out.below hb)
          have M8 := Lib.hid (HM.out.kept (keptNew hb) (fun _ _ h => h))
          have X8 := Lib.hid ((hb.block _ (lt_of_block HX.out)).trans HX.out)
          have B8 := Lib.hid (HB.out.trans (hb.mono hz8))
          obtain ⟨r, hr⟩ : ∃ r, (!false || newKR x zRD) = r := ⟨_, rfl⟩
          have H3 := Lib.hid (show T ++ (if r = true then x :: pickW MK.key RD.key wantK (al.drop (k + 1)) [] else pickW MK.key RD.key wantK (al.drop (k + 1)) []) = S by rw [← hr]; have e := HS2.out; rw [(show wantK x (headK RD.key x.key []) = (!false || newKR x zRD) from rfl)] at e; exact e)
          rw [hr]
          clear hb8 hb hr hVb a0 a1 a2 a3 a4 a5 d0 d1 d2 d3 d4 HX HM HO HB HS2 hz8
          cases r with
          | false =>
            go_wp2_with fail
            go_roundw
            case rel => exact ⟨k + 1, 0, [], _, cb, T, va, _, vc, rfl, rfl, by go_num, by omega, by omega, rfl, hml, hcb, hm, Lib.hid (by have := H3.out; rwa [if_neg (by decide)] at this), M8, O8, B8⟩
            case measure => simp [intOf]; omega
          | true =>
            obtain ⟨⟨d0, d1, d2, d3, d4⟩, -⟩ := five X8.out
            have OE := Lib.hid (O8.out.below ((Below.refl _ w8).alloc (Nat.le_refl _) (markB x)))
            have BE := Lib.hid (B8.out.alloc (by have := B8.out.size; omega) (markB x))
            have ME := Lib.hid (M8.out.kept (keptNew ((Below.refl _ w8).alloc (Nat.le_refl _) (markB x))) (fun _ _ h => h))
            skip
            have NEW := Lib.hid (new_fiveK w8 x)
            have HG := Lib.hid (p := ∀ q, q < w.heap.size → (Value.slice va T.length vc).ownBlock ≠ some q) (fun q hq e => by have := (O8.out.lt q e).1; omega)
            unfold markB at OE BE ME NEW
            have hTn : T.length ≤ 1000 := by omega
            go_wp2_with (at_builtin; refine wpList_append_new rfl _ _ 68 rfl (base := w.heap.size) und hi hz0 hz1 hz2 rfl (by decide) (.slice va T.length vc) T.length 1 1 ⟨w8.heap.size, 0, none⟩ (T.flatMap fiveK) (fiveK x) rfl rfl OE.out rfl NEW.out (fiveK_one _) (by unfold maxLen; omega) (by omega) (by have := BE.out.size; omega) ?_)
            intro v9 w9 hown9 hgrow9 hq9
            obtain ⟨va', vc', rfl⟩ := own_rowG hown9
            have O9 : Hid (OwnK w9 w.heap.size (.slice va' (T.length + 1) vc') (T ++ [x])) := Lib.hid (OwnK.more hown9)
            have B9 := Lib.hid (BE.out.grown hgrow9 (by have := BE.out.size; omega) (fun q hq => (OE.out.lt q hq).1))
            have M9 := Lib.hid (ME.out.kept ((Kept.refl (fun q => (Value.slice va T.length vc).ownBlock = some q) _).grown hgrow9 (fun k hk => .inl hk)) (fun q hq e => HG.out q hq e))
            clear hown9 hgrow9 hq9 OE BE ME NEW O8 B8 M8 X8 d0 d1 d2 d3 d4
            go_wp2_with fail
            go_roundw
            case rel => exact ⟨k + 1, 0, [], _, cb, T ++ [x], va', T.length + 1, vc', rfl, rfl, by go_num, by omega, by rw [List.length_append]; show T.length + 1 ≤ k + 1; omega, by rw [List.length_append]; rfl, hml, hcb, hm, Lib.hid (by have := H3.out; (first | rw [if_pos trivial] at this | rw [if_pos rfl] at this); rw [List.append_assoc]; exact this), M9, O9, B9⟩
            case measure => simp [intOf]; omega
        · have e1 : (0 : Int) < (m : Int) := by omega
          have e2 : ((0 : Int)).toNat = 0 := rfl
          obtain ⟨b1, off1, y1, c1, rfl, hb1, ⟨k0, k1, k2, k3, k4, k5⟩, -⟩ := HM.out.cellsD (show 0 < m by omega)
          rw [Nat.zero_mul, Nat.add_zero] at k0 k1 k2 k3 k4 k5
          obtain ⟨z, bt, rfl⟩ : ∃ z bt, bl' = z :: bt := by
            cases bl' with
            | nil => exact absurd hml.symm hm0
            | cons z bt => exact ⟨z, bt, rfl⟩
          have hz : atD (z :: bt) 0 = z := rfl
          rw [hz] at k0 k1 k2 k3 k4 k5
          have KZ := Lib.hid (show Cells6 wr b1 off1 z y1 c1 from ⟨k0, k1, k2, k3, k4, k5⟩)
          go_wp2_with fail
          refine (rowKey_any z.key z.t z.i z.q z.o y1 z.len c1 wr).mono ?_
          rintro e w3 ⟨rfl, hb⟩
          have hzr := HB.out.size
          have X3 := Lib.hid ((hb.block _ (lt_of_block HX.out)).trans HX.out)
          have M3 := Lib.hid (HM.out.kept (keptNew hb) (fun _ _ h => h))
          have O3 := Lib.hid (HO.out.below hb)
          have B3 := Lib.hid (HB.out.trans (hb.mono hzr))
          have K3 := Lib.hid (show Cells6 w3 b1 off1 z y1 c1 from KZ.out.keptS (keptNew hb) (fun h => h))
          clear HX HM HO HB KZ hb k0 k1 k2 k3 k4 k5 hzr hz
          cases hq : lsS (RD.key z) x.key with
          | true =>
            have q1 : Op.bytesLess z.key.toList x.key.toList = true := hq
            have HD3 := Lib.hid (show bt.dropWhile (fun z => lsS (RD.key z) x.key) = bd by have := HD.out; rwa [List.dropWhile_cons, if_pos hq] at this)
            have M4 := Lib.hid (M3.out.tail (c := cb) (by omega) hcb)
            have e3 : (0 : Int) ≤ 1 := by decide
            have e4 : (1 : Int) ≤ (m : Int) := by omega
            have hbl : bt.length = m - 1 := by simp at hml; omega
            clear hq HD
            go_wp2_with fail
            go_roundw
            case rel => exact ⟨m - 1, bt, _, cb - 1, rfl, hbl, by omega, by omega, HD3, X3, M4, O3, B3⟩
            case measure => show m - 1 < m; omega
          | false =>
            have q1 : Op.bytesLess z.key.toList x.key.toList = false := hq
            obtain rfl : bd = z :: bt := by have := HD.out; rw [List.dropWhile_cons, if_neg (by rw [hq]; decide)] at this; exact this.symm
            clear hq HD
            go_upto_region 9 with fail
            generalize hV : World.alloc w3 _ = V
            have hVb : Below w3.heap.size w3 V := by rw [← hV]; exact (Below.refl _ _).alloc (Nat.le_refl _) _
            have hV5 : V.heap[w3.heap.size]? = some (.cells #[.string ⟨#[]⟩, .int .i64 0, .int .i64 0, .int .i64 0, .string ⟨#[]⟩, .slice none 0 0] 35 (0, 0)) := by rw [← hV]; exact heap_alloc_new w3 _
            have K5 : Cells6 V b1 off1 z y1 c1 := K3.out.keptS (keptNew hVb) (fun h => h)
            obtain ⟨k0, k1, k2, k3, k4, k5⟩ := K5
            have HV5 := Lib.hid (And.intro hVb hV5)
            clear hV hVb hV5
            go_wp2_with fail
            refine (rowKey_any z.key z.t z.i z.q z.o y1 z.len c1 V).mono ?_
            rintro e w4 ⟨rfl, hb⟩
            have hVb := HV5.out.1.trans (hb.mono HV5.out.1.size)
            have hV5 := (hb.block _ (lt_of_block HV5.out.2)).trans HV5.out.2
            have K5 : Cells6 w4 b1 off1 z y1 c1 := K3.out.keptS (keptNew hVb) (fun h => h)
            clear hb HV5 k0 k1 k2 k3 k4 k5
            cases hkq : (z.key.toList == x.key.toList) with
            | false =>
              obtain ⟨a0, a1, a2, a3, a4, a5⟩ := sixE hV5
              obtain ⟨⟨d0, d1, d2, d3, d4⟩, -⟩ := five ((hVb.block _ (lt_of_block X3.out)).trans X3.out)
              have hne : ¬ z.key = x.key := fun e => by rw [e, beq_self_eq_true] at hkq; cases hkq
              have QR := Lib.hid (show wantK x (headK RD.key x.key (z :: bt)) = (!false || newKR x zRD) by show wantK x (if RD.key z = x.key then some z else none) = _; rw [if_neg hne]; rfl)
              clear hV5 K5 hne K3
              go_wp2_with fail
              refine (keepMR_any x zRD none 0 false w4).mono ?_
              rintro e w8 ⟨rfl, hb8⟩
              have hb := hVb.trans (hb8.mono hVb.size)
              have hz8 := B3.out.size
              have O8 := Lib.hid (O3.out.below hb)
              have M8 := Lib.hid (M3.out.kept (keptNew hb) (fun _ _ h => h))
              have X8 := Lib.hid ((hb.block _ (lt_of_block X3.out)).trans X3.out)
              have B8 := Lib.hid (B3.out.trans (hb.mono hz8))
              obtain ⟨r, hr⟩ : ∃ r, (!false || newKR x zRD) = r := ⟨_, rfl⟩
              have H3 := Lib.hid (show T ++ (if r = true then x :: pickW MK.key RD.key wantK (al.drop (k + 1)) (z :: bt) else pickW MK.key RD.key wantK (al.drop (k + 1)) (z :: bt)) = S by rw [← hr]; have e := HS2.out; rw [QR.out] at e; exact e)
              rw [hr]
              clear hb8 hb hr hVb QR a0 a1 a2 a3 a4 a5 d0 d1 d2 d3 d4 X3 M3 O3 B3 HS2 hz8
              cases r with
              | false =>
                go_wp2_with fail
                go_roundw
                case rel => exact ⟨k + 1, m, (z :: bt), _, cb, T, va, _, vc, rfl, rfl, by go_num, by omega, by omega, rfl, hml, hcb, hm, Lib.hid (by have := H3.out; rwa [if_neg (by decide)] at this), M8, O8, B8⟩
                case measure => simp [intOf]; omega
              | true =>
                obtain ⟨⟨d0, d1, d2, d3, d4⟩, -⟩ := five X8.out
                have OE := Lib.hid (O8.out.below ((Below.refl _ w8).alloc (Nat.le_refl _) (markB x)))
                have BE := Lib.hid (B8.out.alloc (by have := B8.out.size; omega) (markB x))
                have ME := Lib.hid (M8.out.kept (keptNew ((Below.refl _ w8).alloc (Nat.le_refl _) (markB x))) (fun _ _ h => h))
                skip
                have NEW := Lib.hid (new_fiveK w8 x)
                have HG := Lib.hid (p := ∀ q, q < w.heap.size → (Value.slice va T.length vc).ownBlock ≠ some q) (fun q hq e => by have := (O8.out.lt q e).1; omega)
                unfold markB at OE BE ME NEW
                have hTn : T.length ≤ 1000 := by omega
                go_wp2_with (at_builtin; refine wpList_append_new rfl _ _ 68 rfl (base := w.heap.size) und hi hz0 hz1 hz2 rfl (by decide) (.slice va T.length vc) T.length 1 1 ⟨w8.heap.size, 0, none⟩ (T.flatMap fiveK) (fiveK x) rfl rfl OE.out rfl NEW.out (fiveK_one _) (by unfold maxLen; omega) (by omega) (by have := BE.out.size; omega) ?_)
                intro v9 w9 hown9 hgrow9 hq9
                obtain ⟨va', vc', rfl⟩ := own_rowG hown9
                have O9 : Hid (OwnK w9 w.heap.size (.slice va' (T.length + 1) vc') (T ++ [x])) := Lib.hid (OwnK.more hown9)
                have B9 := Lib.hid (BE.out.grown hgrow9 (by have := BE.out.size; omega) (fun q hq => (OE.out.lt q hq).1))
                have M9 := Lib.hid (ME.out.kept ((Kept.refl (fun q => (Value.slice va T.length vc).ownBlock = some q) _).grown hgrow9 (fun k hk => .inl hk)) (fun q hq e => HG.out q hq e))
                clear hown9 hgrow9 hq9 OE BE ME NEW O8 B8 M8 X8 d0 d1 d2 d3 d4
                go_wp2_with fail
                go_roundw
                case rel => exact ⟨k + 1, m, (z :: bt), _, cb, T ++ [x], va', T.length + 1, vc', rfl, rfl, by go_num, by omega, by rw [List.length_append]; show T.length + 1 ≤ k + 1; omega, by rw [List.length_append]; rfl, hml, hcb, hm, Lib.hid (by have := H3.out; (first | rw [if_pos trivial] at this | rw [if_pos rfl] at this); rw [List.append_assoc]; exact this), M9, O9, B9⟩
                case measure => simp [intOf]; omega
            | true =>
              have hxk : z.key = x.key := by
                have e := eq_of_beq hkq
                rw [Lib.toList_data, Lib.toList_data] at e
                exact text_eq e
              have QR := Lib.hid (show wantK x (headK RD.key x.key (z :: bt)) = (!true || newKR x z) by show wantK x (if RD.key z = x.key then some z else none) = _; rw [if_pos hxk]; rfl)
              obtain ⟨k0, k1, k2, k3, k4, k5⟩ := K5
              obtain ⟨⟨a0, a1, a2, a3, a4, a5⟩, f0, f1, f2, f3, f4, f5⟩ := sixG hV5
              have HQ := Lib.hid (And.intro hVb hV5)
              have hlQ := lt_of_block hV5
              clear hVb hV5 hxk K3
              go_upto_region 12 with fail
              obtain ⟨U, hU⟩ : ∃ U, ((((((w4.setCell ⟨w3.heap.size, 0, none⟩ (.string z.key)).setCell ⟨w3.heap.size, 1, none⟩ (.int .i64 z.t)).setCell ⟨w3.heap.size, 2, none⟩ (.int .i64 z.i)).setCell ⟨w3.heap.size, 3, none⟩ (.int .i64 z.q)).setCell ⟨w3.heap.size, 4, none⟩ (.string z.o)).setCell ⟨w3.heap.size, 5, none⟩ (.slice y1 z.len c1)) = U := ⟨_, rfl⟩
              have hUb : Below w3.heap.size w3 U := by rw [← hU]; exact six_belowD HQ.out.1 (Nat.le_refl _) _ _ _ _ _ _
              have hU5 : U.heap[w3.heap.size]? = some (.cells #[.string z.key, .int .i64 z.t, .int .i64 z.i, .int .i64 z.q, .string z.o, .slice y1 z.len c1] 35 (0, 0)) := by rw [← hU]; exact six_setD HQ.out.2 _ _ _ _ _ _
              rw [hU]
              clear hU HQ k0 k1 k2 k3 k4 k5 a0 a1 a2 a3 a4 a5 f0 f1 f2 f3 f4 f5 hlQ
              obtain ⟨a0, a1, a2, a3, a4, a5⟩ := sixE hU5
              obtain ⟨⟨d0, d1, d2, d3, d4⟩, -⟩ := five ((hUb.block _ (lt_of_block X3.out)).trans X3.out)
              clear hU5
              go_wp2_with fail
              refine (keepMR_any x z y1 c1 true U).mono ?_
              rintro e w8 ⟨rfl, hb8⟩
              have hb := hUb.trans (hb8.mono hUb.size)
              have hz8 := B3.out.size
              have O8 := Lib.hid (O3.out.below hb)
              have M8 := Lib.hid (M3.out.kept (keptNew hb) (fun _ _ h => h))
              have X8 := Lib.hid ((hb.block _ (lt_of_block X3.out)).trans X3.out)
              have B8 := Lib.hid (B3.out.trans (hb.mono hz8))
              obtain ⟨r, hr⟩ : ∃ r, (!true || newKR x z) = r := ⟨_, rfl⟩
              have H3 := Lib.hid (show T ++ (if r = true then x :: pickW MK.key RD.key wantK (al.drop (k + 1)) (z :: bt) else pickW MK.key RD.key wantK (al.drop (k + 1)) (z :: bt)) = S by rw [← hr]; have e := HS2.out; rw [QR.out] at e; exact e)
              rw [hr]
              clear hb8 hb hr hUb QR a0 a1 a2 a3 a4 a5 d0 d1 d2 d3 d4 X3 M3 O3 B3 HS2 hz8
              cases r with
              | false =>
                go_wp2_with fail
                go_roundw
                case rel => exact ⟨k + 1, m, (z :: bt), _, cb, T, va, _, vc, rfl, rfl, by go_num, by omega, by omega, rfl, hml, hcb, hm, Lib.hid (by have := H3.out; rwa [if_neg (by decide)] at this), M8, O8, B8⟩
                case measure => simp [intOf]; omega
              | true =>
                obtain ⟨⟨d0, d1, d2, d3, d4⟩, -⟩ := five X8.out
                have OE := Lib.hid (O8.out.below ((Below.refl _ w8).alloc (Nat.le_refl _) (markB x)))
                have BE := Lib.hid (B8.out.alloc (by have := B8.out.size; omega) (markB x))
                have ME := Lib.hid (M8.out.kept (keptNew ((Below.refl _ w8).alloc (Nat.le_refl _) (markB x))) (fun _ _ h => h))
                skip
                have NEW := Lib.hid (new_fiveK w8 x)
                have HG := Lib.hid (p := ∀ q, q < w.heap.size → (Value.slice va T.length vc).ownBlock ≠ some q) (fun q hq e => by have := (O8.out.lt q e).1; omega)
                unfold markB at OE BE ME NEW
                have hTn : T.length ≤ 1000 := by omega
                go_wp2_with (at_builtin; refine wpList_append_new rfl _ _ 68 rfl (base := w.heap.size) und hi hz0 hz1 hz2 rfl (by decide) (.slice va T.length vc) T.length 1 1 ⟨w8.heap.size, 0, none⟩ (T.flatMap fiveK) (fiveK x) rfl rfl OE.out rfl NEW.out (fiveK_one _) (by unfold maxLen; omega) (by omega) (by have := BE.out.size; omega) ?_)
                intro v9 w9 hown9 hgrow9 hq9
                obtain ⟨va', vc', rfl⟩ := own_rowG hown9
                have O9 : Hid (OwnK w9 w.heap.size (.slice va' (T.length + 1) vc') (T ++ [x])) := Lib.hid (OwnK.more hown9)
                have B9 := Lib.hid (BE.out.grown hgrow9 (by have := BE.out.size; omega) (fun q hq => (OE.out.lt q hq).1))
                have M9 := Lib.hid (ME.out.kept ((Kept.refl (fun q => (Value.slice va T.length vc).ownBlock = some q) _).grown hgrow9 (fun k hk => .inl hk)) (fun q hq e => HG.out q hq e))
                clear hown9 hgrow9 hq9 OE BE ME NEW O8 B8 M8 X8 d0 d1 d2 d3 d4
                go_wp2_with fail
                go_roundw
                case rel => exact ⟨k + 1, m, (z :: bt), _, cb, T ++ [x], va', T.length + 1, vc', rfl, rfl, by go_num, by omega, by rw [List.length_append]; show T.length + 1 ≤ k + 1; omega, by rw [List.length_append]; rfl, hml, hcb, hm, Lib.hid (by have := H3.out; (first | rw [if_pos trivial] at this | rw [if_pos rfl] at this); rw [List.append_assoc]; exact this), M9, O9, B9⟩
                case measure => simp [intOf]; omega
    · obtain rfl : k = al.length := by omega
      have P0 : Hid (T = S) := Lib.hid (by have := HS.out; rw [List.drop_length] at this; simpa [pickW] using this)
      go_wp2_with fail
      go_ret
      exact ⟨⟨va, vc, T, rfl, HO.out, P0.out⟩, HB.out⟩

end Go.Proofs.YtpdobbdbmgeoiaaGreat
