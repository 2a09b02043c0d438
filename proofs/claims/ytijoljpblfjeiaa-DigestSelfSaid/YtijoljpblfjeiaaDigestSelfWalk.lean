/-
  No statement: DigestSelf's walk.
-/
import Derived.Test.YtijoljpblfjeiaaDgM1
import Derived.Test.YtijoljpblfjeiaaDgKnown
set_option linter.unusedVariables false
set_option linter.unusedSimpArgs false
namespace Go.Proofs.Ytijoljpblfjeiaa
open Go.RowKit

theorem dtR_key (L : List RD) : (L.map dtR).map RD.key = L.map RD.key := by rw [List.map_map]; rfl

set_option maxHeartbeats 16000000 in
set_option maxRecDepth 100000 in
theorem digestSelf_walk (a : Option Addr) (c : Nat) (al : List RD) (th : Nat) (hc : al.length ≤ c) (g : ∀ x ∈ al, GoR x) (hth : th < 65536) (w : World) (h : ReadsRG (fun q => q < w.heap.size) w a al.length (atD al)) :
    Calls Try.prog 3 #[.slice a al.length c, .int .u16 th] w fun e w' => e = .returned (.bool true) ∧ Below w.heap.size w w' := by
  have HA := Lib.hid h
  have HG := Lib.hid g
  have HC := Lib.hid hc
  have HT := Lib.hid hth
  clear h g hc hth
  go_enter Try.func3, Try.ntmps3
  go_wp2_with fail
  refine (known14_any w).mono ?_
  rintro e w1 ⟨rfl, hb1⟩
  have B1 := Lib.hid hb1
  have RI := Lib.hid (rise_any al a c HG.out w1 ((HA.out.kept (keptBelow hb1) (fun q hq h => by omega)).mono (fun q h _ => by have := hb1.size; omega)))
  clear hb1 HG
  go_wp2_with fail
  refine RI.out.mono ?_
  rintro e w2 ⟨⟨r, rfl, hr⟩, hb2⟩
  have B2 := Lib.hid (B1.out.trans (hb2.mono B1.out.size))
  have HR := Lib.hid hr
  clear hb2 hr B1 RI
  cases r with
  | false =>
    go_wp2_with fail
    go_ret
    exact ⟨rfl, B2.out⟩
  | true =>
  have RL := Lib.hid (HR.out (by trivial))
  clear HR
  have hn64 := RL.out.n
  have R2 := Lib.hid ((HA.out.kept (keptBelow B2.out) (fun q hq h => by omega)).mono (H := fun q => q < w2.heap.size) (fun q h _ => by have := B2.out.size; omega))
  go_wp2_with fail
  refine (dOf_any al a c (by omega) w2 R2.out).mono ?_
  rintro e w3 ⟨⟨va, vc, rfl, hvc, hrm⟩, hb3⟩
  have B3 := Lib.hid (B2.out.trans (hb3.mono B2.out.size))
  have FR := Lib.hid (p := ∀ wr, Below w3.heap.size w3 wr → ReadsRG (fun q => q < wr.heap.size) wr a al.length (atD al)) (fun wr hb => (R2.out.kept (keptBelow (hb3.trans (hb.mono hb3.size))) (fun q hq h => by omega)).mono (fun q h _ => by have := hb3.size; have := hb.size; omega))
  have FM := Lib.hid (p := ∀ wr, Below w3.heap.size w3 wr → ReadsMG (fun q => q < wr.heap.size) wr va al.length (atK (al.map mkK))) (fun wr hb => (hrm.mono (H := fun q => q < w3.heap.size) (fun q _ h => h) |>.kept (keptBelow hb) (fun q hq h => by omega)).mono (fun q h _ => by have := hb.size; omega))
  have HV := Lib.hid hvc
  clear hb3 hrm hvc B2 R2
  go_wp2_with fail
  obtain ⟨i0, hi, hz0, hz1, hz2⟩ := info_parts infoSd
  have und : Try.prog.underlying 28 = some (.slice 9) := Try.underlying28
  have O3 : Hid (OwnS w3 w3.heap.size (.slice none 0 0) []) := Lib.hid (World.ownsRow_nil _ _ _ _)
  have hz3 := B3.out.size
  go_loopw [6, 7] (fun v i wr => ∃ (k : Nat) (kl : List ByteArray) (ka : Option Addr) (kv kc : Nat), v = .slice ka kv kc ∧ i = .int .i64 k ∧ k ≤ al.length ∧ kl.length ≤ k ∧ kv = kl.length ∧ Hid (kl.Sublist ((al.take k).map RD.key)) ∧ Hid (OwnS wr w3.heap.size (.slice ka kv kc) kl) ∧ Hid (Below w3.heap.size w3 wr)) (fun _ i _ => al.length - (intOf i).toNat)
  case atStart => exact ⟨0, [], none, 0, 0, rfl, rfl, Nat.zero_le _, Nat.le_refl _, rfl, Lib.hid (List.nil_sublist _), O3, Lib.hid (Below.refl _ _)⟩
  case round =>
    obtain ⟨k, kl, ka, kv, kc, rfl, rfl, hk, hkl, hkv, HS, HO, HB⟩ := hrel
    subst hkv
    clear O3
    by_cases hlt : k < al.length
    · have a1 : (k : Int) < (al.length : Int) := by omega
      have a2 : (0 : Int) ≤ (k : Int) := by omega
      have a3 : ((k : Int)).toNat = k := by omega
      have HK := Lib.hid (show (al.take (k + 1)).map RD.key = (al.take k).map RD.key ++ [(atD al k).key] by rw [List.take_add_one, List.getElem?_eq_getElem hlt, List.map_append, atD_lt hlt]; rfl)
      have ht := HT.out
      cases gb : (bits BinOp.and IntKind.u16 ((th : Int) / 2 ^ (k % 16)) 1 == 1) with
      | false =>
        have HS2 := Lib.hid (show kl.Sublist ((al.take (k + 1)).map RD.key) by rw [HK.out]; exact HS.out.trans (List.sublist_append_left _ _))
        clear HK
        go_wp2_with fail
        go_roundw
        case rel => exact ⟨k + 1, kl, ka, _, kc, rfl, by go_num, by omega, by omega, rfl, HS2, HO, HB⟩
        case measure => simp [intOf]; omega
      | true =>
        obtain ⟨b, off, y, cy, rfl, hbw, h6, -⟩ := (FR.out wr HB.out).cellsD hlt
        obtain ⟨s, hs⟩ : ∃ s, (atD al k).key = s := ⟨_, rfl⟩
        have d0 := h6.1
        rw [hs] at d0 HK
        have HS2 := Lib.hid (show (kl ++ [s]).Sublist ((al.take (k + 1)).map RD.key) by rw [HK.out]; exact HS.out.append (List.Sublist.refl _))
        clear h6 hs HK
        have OE := Lib.hid (HO.out.below ((Below.refl _ wr).alloc (Nat.le_refl _) (.cells #[.string s] 9)))
        have BE := Lib.hid (HB.out.alloc (by have := HB.out.size; omega) (.cells #[.string s] 9))
        have NEW := Lib.hid (new_oneS wr s 9)
        have hlen : kl.length ≤ 1000 := by omega
        go_wp2_with (at_builtin; refine wpList_append_new rfl _ _ 28 rfl (base := w3.heap.size) und hi hz0 hz1 hz2 rfl (by decide) (.slice ka kl.length kc) kl.length 1 1 ⟨wr.heap.size, 0, none⟩ (kl.map Value.string) [.string s] rfl rfl OE.out rfl NEW.out (by intro u hu; rw [List.mem_singleton] at hu; subst hu; rfl) (by unfold maxLen; omega) (by omega) (by have := BE.out.size; omega) ?_)
        intro v5 w5 hown5 hgrow5 hq5
        obtain ⟨va', vc', rfl⟩ := own_rowG hown5
        have O5 : Hid (OwnS w5 w3.heap.size (.slice va' (kl.length + 1) vc') (kl ++ [s])) := Lib.hid (by unfold OwnS; rw [List.length_append, List.map_append]; exact hown5)
        have B5 := Lib.hid (BE.out.grown hgrow5 (by have := BE.out.size; omega) (fun q hq => (OE.out.lt q hq).1))
        clear hown5 hgrow5 hq5 OE BE NEW HO HB d0
        go_wp2_with fail
        go_roundw
        case rel => exact ⟨k + 1, kl ++ [s], va', _, vc', rfl, by go_num, by omega, by rw [List.length_append]; show kl.length + 1 ≤ k + 1; omega, by rw [List.length_append]; rfl, HS2, O5, B5⟩
        case measure => simp [intOf]; omega
    · obtain rfl : k = al.length := by omega
      have HSK := Lib.hid (show kl.Sublist (al.map RD.key) by have := HS.out; rwa [List.take_length] at this)
      have KR := HO.out.reads
      have PK := Lib.hid (dPick_any al a c kl ka kc (by omega) (by omega) (List.Pairwise.sublist HSK.out RL.out.r) RL.out.short wr (FR.out wr HB.out) (KR.2.2.mono (fun q _ h => h)))
      have KE := Lib.hid (show ((pickW RD.key idK bothK al kl).map dtR).map RD.key = kl by rw [dtR_key, pick_keys RL.out.r HSK.out])
      have KS := Lib.hid (KR.2.2.mono (H := fun q => q < wr.heap.size) (fun q _ h => h))
      generalize (pickW RD.key idK bothK al kl).map dtR = L at PK KE
      have hLl : L.length = kl.length := by have := congrArg List.length KE.out; rwa [List.length_map] at this
      clear HS HSK KR HO
      go_wp2_with fail
      refine PK.out.mono ?_
      rintro e w4 ⟨⟨pa, pc, rfl, -, hp⟩, hb4⟩
      have B4 := Lib.hid (HB.out.trans (hb4.mono HB.out.size))
      have P4 := Lib.hid (hp.mono (H := fun q => q < w4.heap.size) (fun q _ h => h))
      have S4 := Lib.hid ((KS.out.kept (keptBelow hb4) (fun q hq h => by omega)).mono (H := fun q => q < w4.heap.size) (fun q h _ => by have := hb4.size; omega))
      have NE := Lib.hid (p := ∀ j, j < kl.length → (atD L j).key = atS kl j) (fun j hj => by
        have hj2 : j < L.length := by omega
        rw [atD_lt hj2, atS_lt hj]
        have h1 : (L.map RD.key)[j]? = kl[j]? := by rw [KE.out]
        rw [List.getElem?_map, List.getElem?_eq_getElem hj2, List.getElem?_eq_getElem hj] at h1
        exact Option.some.inj h1)
      rw [hLl] at P4 ⊢
      clear hp hb4 PK KS KE HB hLl
      obtain ⟨m, hm⟩ : ∃ m, kl.length = m := ⟨_, rfl⟩
      rw [hm] at P4 S4 NE hkl ⊢
      clear hm
      go_wp2_with fail
      go_loopw [9] (fun i ws => ∃ j : Nat, i = .int .i64 j ∧ j ≤ m ∧ Hid (Below w4.heap.size w4 ws)) (fun i _ => m - (intOf i).toNat)
      case atStart => exact ⟨0, rfl, Nat.zero_le _, Lib.hid (Below.refl _ _)⟩
      case round =>
        obtain ⟨j, rfl, hj, HJ⟩ := hrel
        by_cases hjl : j < m
        · have a1 : (j : Int) < (m : Int) := by omega
          have a2 : (0 : Int) ≤ (j : Int) := by omega
          obtain ⟨pb, po, y, cy, rfl, hpb, p6, -⟩ := P4.out.cellsD hjl
          obtain ⟨sb, so, rfl, hsb, s0⟩ := S4.out.cells hjl
          have hk := NE.out j hjl
          obtain ⟨s, hs⟩ : ∃ s, atS kl j = s := ⟨_, rfl⟩
          have q0 : wr.cell? ⟨pb, po + j * 6, none⟩ = some (.string s) := by
            have := (p6.keptS (keptBelow HJ.out) (by omega) : Cells6 wr pb (po + j * 6) (atD L j) y cy).1
            rw [hk, hs] at this
            exact this
          have q1 : wr.cell? ⟨sb, so + j, none⟩ = some (.string s) := by
            rw [hs] at s0
            exact (keptBelow HJ.out).cell s0 (by show ¬ w4.heap.size ≤ sb; omega)
          have q2 : (s.toList != s.toList) = false := by simp
          have HD := Lib.hid (p := ∀ n, Below w4.heap.size w4 (wr.drewN n)) (fun n => HJ.out.trans ((drewND wr n).mono HJ.out.size))
          clear p6 s0 hk hs HJ
          go_wp2_with (go_quiet (fail))
          go_roundw
          case rel => exact ⟨j + 1, by go_num, by omega, Lib.hid (HD.out _)⟩
          case measure => simp [intOf]; omega
        · obtain rfl : j = m := by omega
          have B5 := Lib.hid (B4.out.trans (HJ.out.mono B4.out.size))
          have hz4 := B4.out.size
          clear HJ P4 S4 NE B4
          have SF := Lib.hid (send_self RL.out.r)
          have WF := Lib.hid (want_self RL.out.r)
          have ML := Lib.hid (p := (al.map mkK).length = al.length) (List.length_map ..)
          go_wp2_with fail
          have C1 := dSend_any al a c (al.map mkK) va vc (by omega) (by rw [ML.out]; omega) (by rw [ML.out]; exact HV.out) RL.out.short wr (FR.out wr B5.out) (by rw [ML.out]; exact FM.out wr B5.out)
          rw [SF.out, ML.out] at C1
          refine C1.mono ?_
          rintro e u1 ⟨⟨pa1, pc1, he, -, -⟩, hb⟩
          obtain rfl : e = .returned (.slice pa1 0 pc1) := he
          have B6 := Lib.hid (B5.out.trans (hb.mono B5.out.size))
          clear hb C1 B5 SF
          go_wp2_with fail
          have C1 := dWant_any al a c (al.map mkK) va vc (by omega) (by rw [ML.out]; omega) HC.out u1 (FR.out u1 B6.out) (by rw [ML.out]; exact FM.out u1 B6.out)
          rw [WF.out, ML.out] at C1
          refine C1.mono ?_
          rintro e u2 ⟨⟨pa2, pc2, he, -, -⟩, hb⟩
          obtain rfl : e = .returned (.slice pa2 0 pc2) := he
          have B7 := Lib.hid (B6.out.trans (hb.mono B6.out.size))
          clear hb C1 B6 WF
          go_wp2_with fail
          have C1 := dSend_any al a c [] none 0 (by omega) (by decide) (by decide) RL.out.short u2 (FR.out u2 B7.out) ⟨Nat.zero_le _, .inl rfl⟩
          rw [send_none] at C1
          refine C1.mono ?_
          rintro e u3 ⟨⟨pa3, pc3, he, -, -⟩, hb⟩
          rw [List.length_map] at he
          subst he
          have B8 := Lib.hid (B7.out.trans (hb.mono B7.out.size))
          clear hb C1 B7
          go_wp2_with fail
          have C1 := dWant_any [] none 0 (al.map mkK) va vc (by decide) (by rw [ML.out]; omega) (by decide) u3 ⟨Nat.zero_le _, .inl rfl⟩ (by rw [ML.out]; exact FM.out u3 B8.out)
          rw [want_none, map_mk, ML.out] at C1
          refine C1.mono ?_
          rintro e u4 ⟨⟨pa4, pc4, he, -, -⟩, hb⟩
          rw [List.length_map] at he
          subst he
          have B9 := Lib.hid (B8.out.trans (hb.mono B8.out.size))
          clear hb C1 B8
          go_wp2_with fail
          have C1 := dPick_any al a c [] none 0 (by omega) (by decide) List.Pairwise.nil RL.out.short u4 (FR.out u4 B9.out) ⟨Nat.zero_le _, .inl rfl⟩
          rw [pick_none] at C1
          refine C1.mono ?_
          rintro e u5 ⟨⟨pa5, pc5, he, -, -⟩, hb⟩
          obtain rfl : e = .returned (.slice pa5 0 pc5) := he
          have B10 := Lib.hid (B9.out.trans (hb.mono B9.out.size))
          clear hb C1 B9
          go_wp2_with fail
          have C1 := dCheck_any (al.map mkK) va vc (by rw [ML.out]; omega) (fun m hm => by
            obtain ⟨x, hx, rfl⟩ := List.mem_map.1 hm
            have := RL.out.f x hx
            exact ⟨Nat.le_trans this.k (by omega), Nat.le_trans this.o (by omega)⟩) u5 (by rw [ML.out]; exact FM.out u5 B10.out)
          rw [errMarks_fine RL.out, ML.out] at C1
          refine C1.mono ?_
          rintro e u6 ⟨rfl, hb⟩
          have B11 := Lib.hid (B3.out.trans ((B10.out.trans (hb.mono B10.out.size)).mono hz3))
          clear hb C1 B10
          go_wp2_with fail
          go_ret
          exact ⟨rfl, B11.out⟩

end Go.Proofs.Ytijoljpblfjeiaa
