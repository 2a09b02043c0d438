/-
  No statement: DigestAny's walk.
-/
import Derived.Test.YtijoljpblfjeiaaGreatDgM2
import Derived.Test.YtijoljpblfjeiaaGreatDgKnown
import Derived.Test.YtijoljpblfjeiaaGreatDgSameR
import Derived.Test.YtijoljpblfjeiaaGreatDgRef2
import Derived.Test.YtijoljpblfjeiaaGreatDgRSend
import Derived.Test.YtijoljpblfjeiaaGreatDgRWant
import Derived.Test.YtijoljpblfjeiaaGreatDgRPick
import Derived.Test.YtijoljpblfjeiaaGreatDgRCheck
set_option linter.unusedVariables false
set_option linter.unusedSimpArgs false
namespace Go.Proofs.YtijoljpblfjeiaaGreat
open Go.RowKit

/-- A mark whose texts are those of Go. -/
def GoM (m : MK) : Prop := m.key.size ≤ maxLen ∧ m.o.size ≤ maxLen

theorem rows_cmp {L : List RD} (hL : ∀ x ∈ L, FewR x) : ∀ j, j < (L.map dtR).length → (atD (L.map dtR) j).len ≤ 1000 := fun j hj => by
  have hj2 : j < L.length := by rwa [List.length_map] at hj
  rw [atD_lt hj, List.getElem_map]
  exact Nat.le_trans (hL _ (List.getElem_mem hj2)).l (by omega)

/-- What the program answers of rows, beside the document's. -/
theorem rowsBoth {w u : World} {L : List RD} {T : List RTd} {va vb : Option Addr} {vc vd : Nat} (hn : L.length ≤ 100) (hf : ∀ x ∈ L, FewR x) (hT : T.map (·.1) = L) (hb : Below w.heap.size w u)
    (hr : ReadsRG (fun q => q < u.heap.size) u va (L.map dtR).length (atD (L.map dtR))) {B : Nat} {G : Nat → Prop} (ho : OwnQ G u B (.slice vb T.length vd) T) :
    Calls Tryz.prog 31 #[.slice va L.length vc, .slice vb T.length vd] u fun e w' => e = .returned (.bool true) ∧ Below u.heap.size u w' := by
  have hl : (L.map dtR).length = L.length := List.length_map ..
  have hTl : T.length = L.length := by rw [← hT, List.length_map]
  have hrd := ho.reads (H := fun _ => True) (atD L) (fun j x hx => by
    have h1 : (T.map (·.1))[j]? = some x.1 := by rw [List.getElem?_map, hx]; rfl
    rw [hT] at h1
    obtain ⟨h2, h3⟩ := List.getElem?_eq_some_iff.1 h1
    rw [atD_lt h2, h3]) (fun _ _ => trivial) (fun _ _ => trivial)
  have hrd2 : ReadsR u vb T.length (atD L) := hrd.2.2.mono (fun k _ h => h)
  have hcm := rows_cmp hf
  rw [hTl] at hrd2 ⊢
  rw [hl] at hr hcm
  exact rows14_any (atD (L.map dtR)) (atD L) L.length va vb vc vd hn hcm (same_dt L) u hr hrd2

set_option maxHeartbeats 32000000 in
set_option maxRecDepth 100000 in
theorem digestAny_walk (a : Option Addr) (c : Nat) (al : List RD) (b : Option Addr) (d : Nat) (bl : List MK) (x : Option Addr) (f : Nat) (kl : List ByteArray) (hc : al.length ≤ c) (g : ∀ x ∈ al, GoR x) (hd : bl.length ≤ d) (gm : ∀ m ∈ bl, GoM m) (hf : kl.length ≤ f) (gk : ∀ k ∈ kl, k.size ≤ maxLen) (w : World)
    (h : ReadsRG (fun q => q < w.heap.size) w a al.length (atD al)) (h2 : ReadsMG (fun q => q < w.heap.size) w b bl.length (atK bl)) (h3 : ReadsSG (fun q => q < w.heap.size) w x kl.length (atS kl)) :
    Calls Tryz.prog 4 #[.slice a al.length c, .slice b bl.length d, .slice x kl.length f] w fun e w' => e = .returned (.bool true) ∧ Below w.heap.size w w' := by
  have HA := Lib.hid (p := ∀ u, Below w.heap.size w u → ReadsRG (fun q => q < u.heap.size) u a al.length (atD al)) (fun u hb => (h.kept (keptBelow hb) (fun q hq h => by omega)).mono (fun q h _ => by have := hb.size; omega))
  have HM := Lib.hid (p := ∀ u, Below w.heap.size w u → ReadsMG (fun q => q < u.heap.size) u b bl.length (atK bl)) (fun u hb => (h2.kept (keptBelow hb) (fun q hq h => by omega)).mono (fun q h _ => by have := hb.size; omega))
  have HK := Lib.hid (p := ∀ u, Below w.heap.size w u → ReadsSG (fun q => q < u.heap.size) u x kl.length (atS kl)) (fun u hb => (h3.kept (keptBelow hb) (fun q hq h => by omega)).mono (fun q h _ => by have := hb.size; omega))
  have K0 := Lib.hid h3
  have HG := Lib.hid g
  have HC := Lib.hid hc
  have HD := Lib.hid hd
  have HF := Lib.hid hf
  have hkm : kl.length ≤ 9223372036854775807 := h3.1
  have GM := Lib.hid (p := ∀ m ∈ bl, m.key.size ≤ maxLen ∧ m.o.size ≤ maxLen) gm
  have GK := Lib.hid (p := ∀ j, j < kl.length → (atS kl j).size ≤ 9223372036854775807) (fun j hj => by rw [atS_lt hj]; exact gk _ (List.getElem_mem _))
  clear h h2 h3 hc g hd gm hf gk
  go_enter Tryz.func4, Tryz.ntmps4
  go_wp2_with fail
  refine (known14_any w).mono ?_
  rintro e w1 ⟨rfl, hb1⟩
  have B1 := Lib.hid hb1
  clear hb1
  go_wp2_with fail
  refine (few14_any bl b d GM.out w1 (HM.out w1 B1.out)).mono ?_
  rintro e w2 ⟨⟨r, rfl, hr⟩, hb2⟩
  have B2 := Lib.hid (B1.out.trans (hb2.mono B1.out.size))
  have HR := Lib.hid hr
  clear hb2 hr B1
  cases r with
  | false =>
    go_wp2_with fail
    go_ret
    exact ⟨rfl, B2.out⟩
  | true =>
  have FM := Lib.hid (HR.out (by trivial))
  have hbl70 := FM.out.1
  clear HR
  by_cases h40 : 40 < kl.length
  · have d1 : (40 : Int) < (kl.length : Int) := by omega
    go_wp2_with fail
    go_ret
    exact ⟨rfl, B2.out⟩
  have d1 : ¬ (40 : Int) < (kl.length : Int) := by omega
  go_wp2_with fail
  clear d1
  refine (of14_any bl b d (by omega) w2 (HM.out w2 B2.out)).mono ?_
  rintro e w3 ⟨⟨na, nc, rfl, -, hm3⟩, hb3⟩
  have B3 := Lib.hid (B2.out.trans (hb3.mono B2.out.size))
  have N3 := Lib.hid (hm3.mono (H := fun q => q < w3.heap.size) (fun q _ h => h))
  clear hm3 hb3 B2
  go_wp2_with fail
  obtain ⟨E, hE⟩ : ∃ E, errMarks bl = E := ⟨_, rfl⟩
  have HE := Lib.hid hE
  have C1 := rCheckMarks_any bl na nc (by omega) FM.out.2 w3 N3.out
  rw [hE] at C1
  refine C1.mono ?_
  rintro e w4 ⟨rfl, hb4⟩
  have B4 := Lib.hid (B3.out.trans (hb4.mono B3.out.size))
  clear C1 hb4 B3 N3
  go_wp2_with fail
  have C1 := dCheck_any bl b d (by omega) (fun m hm => ⟨Nat.le_trans (FM.out.2 m hm).1 (by omega), Nat.le_trans (FM.out.2 m hm).2 (by omega)⟩) w4 (HM.out w4 B4.out)
  rw [hE] at C1
  refine C1.mono ?_
  rintro e w5 ⟨rfl, hb5⟩
  have B5 := Lib.hid (B4.out.trans (hb5.mono B4.out.size))
  have q0 : (E != E) = false := by simp
  clear C1 hb5 B4 hE
  by_cases hE0 : E = 0
  case neg =>
    have q1 : (E == 0) = false := by simpa using hE0
    have q2 : (E != 0) = true := by simpa using hE0
    clear hE0
    go_wp2_with fail
    go_ret
    exact ⟨rfl, B5.out⟩
  case pos =>
  subst hE0
  have MR := Lib.hid (errMarks_rise HE.out)
  have hbl64 := MR.out.1
  clear HE q0
  go_wp2_with fail
  refine (rise_any al a c HG.out w5 (HA.out w5 B5.out)).mono ?_
  rintro e w6 ⟨⟨r, rfl, hr⟩, hb6⟩
  have B6 := Lib.hid (B5.out.trans (hb6.mono B5.out.size))
  have HR := Lib.hid hr
  clear hb6 hr B5 HG
  cases r with
  | false =>
    go_wp2_with fail
    go_ret
    exact ⟨rfl, B6.out⟩
  | true =>
  have RL := Lib.hid (HR.out (by trivial))
  have hn64 := RL.out.n
  clear HR
  go_wp2_with fail
  have KR := Lib.hid (p := (∀ j, j + 1 < kl.length → lsS (atS kl j) (atS kl (j + 1)) = true) → Rising lsS kl) riseS_of
  obtain ⟨kn, hkn⟩ : ∃ kn, kl.length = kn := ⟨_, rfl⟩
  have HKN := Lib.hid hkn
  rw [hkn] at K0 GK KR h40 hkm ⊢
  clear hkn
  go_loopw [8] (fun i wr => ∃ k : Nat, i = .int .i64 k ∧ k ≤ kn ∧ Hid (∀ j, j + 1 < k → lsS (atS kl j) (atS kl (j + 1)) = true) ∧ Hid (Below w.heap.size w wr)) (fun i _ => kn - (intOf i).toNat)
  case atStart => exact ⟨0, rfl, Nat.zero_le _, Lib.hid (fun j h => by omega), B6⟩
  case round =>
    clear B6
    obtain ⟨k, rfl, hk, N5, B7⟩ := hrel
    by_cases hlt : k < kn
    · have e1 : (k : Int) < (kn : Int) := by omega
      obtain ⟨kb, ko, rfl, hkb, g0⟩ := K0.out.cells hlt
      have hsz := GK.out k hlt
      have HP := Lib.hid (p := 0 < k → B7.out.size = B7.out.size ∧ w.cell? ⟨kb, ko + (k - 1), none⟩ = some (.string (atS kl (k - 1)))) (fun h0 => by
        obtain ⟨b', o', hab, hb', g6⟩ := K0.out.cells (k := k - 1) (by omega)
        simp only [Option.some.injEq, Addr.mk.injEq, and_true] at hab
        obtain ⟨rfl, rfl⟩ := hab
        exact ⟨rfl, g6⟩)
      obtain ⟨s, hs⟩ : ∃ s, atS kl k = s := ⟨_, rfl⟩
      have HS := Lib.hid hs
      rw [hs] at g0 hsz
      have s0 : wr.cell? ⟨kb, ko + k, none⟩ = some (.string s) := (keptBelow B7.out).cell g0 (by show ¬ w.heap.size ≤ kb; omega)
      have D0 := Lib.hid (p := ∀ n, Below w.heap.size w (wr.drewN n)) (fun n => B7.out.trans ((drewND wr n).mono B7.out.size))
      clear g0 hs
      by_cases h100 : 100 < s.size
      · have e2 : (100 : Int) < (s.size : Int) := by omega
        clear HP
        go_wp2_with (go_quiet (fail))
        go_ret
        exact ⟨rfl, D0.out _⟩
      · have e2 : ¬ (100 : Int) < (s.size : Int) := by omega
        have e2' : decide ((100 : Int) < (s.size : Int)) = false := decide_eq_false e2
        by_cases hk0 : k = 0
        · subst hk0
          rw [Nat.add_zero] at s0
          have e1' : (0 : Int) < (kn : Int) := by omega
          have e1'' : 0 < kn := hlt
          have N6 := Lib.hid (p := ∀ j, j + 1 < 0 + 1 → lsS (atS kl j) (atS kl (j + 1)) = true) (fun j h => by omega)
          clear HP
          go_wp2_with (go_quiet (fail))
          go_roundw
          case rel => exact ⟨0 + 1, by go_num, by omega, N6, Lib.hid (D0.out _)⟩
          case measure => simp [intOf]; omega
        · have e0 : 0 < k := by omega
          have dp0 := (HP.out e0).2
          obtain ⟨p, hp⟩ : ∃ p, atS kl (k - 1) = p := ⟨_, rfl⟩
          have HPP := Lib.hid hp
          rw [hp] at dp0
          have dp : wr.cell? ⟨kb, ko + (k - 1), none⟩ = some (.string p) := (keptBelow B7.out).cell dp0 (by show ¬ w.heap.size ≤ kb; omega)
          have e3 : IntKind.i64.wrap ((k : Int) - 1) = (k : Int) - 1 := IntWalk.i64_in _ (by omega)
          have e4 : 0 ≤ (k : Int) - 1 := by omega
          have e5 : ((k : Int) - 1).toNat = k - 1 := by omega
          have e6 : (k : Int) - 1 < kn := by omega
          have e7 : (1 : Int) ≤ (k : Int) := by omega
          cases hl : lsS p s with
          | false =>
            have l1 := leqS_yes hl
            have l2 : Op.bytesLess p.toList s.toList = false := hl
            clear hl HP dp0 hp
            go_wp2_with (go_quiet (fail))
            go_ret
            exact ⟨rfl, D0.out _⟩
          | true =>
            have N6 := Lib.hid (p := ∀ j, j + 1 < k + 1 → lsS (atS kl j) (atS kl (j + 1)) = true) (fun j h => by
              by_cases e : j + 1 = k
              · rw [e, HS.out, show j = k - 1 by omega, HPP.out]; exact hl
              · exact N5.out j (by omega))
            obtain ⟨l1, l2⟩ := leqS_no hl
            have l3 : Op.bytesLess p.toList s.toList = true := hl
            clear hl HP dp0 hp
            go_wp2_with (go_quiet (fail))
            clear e3 e4 e5 e6 e7
            go_roundw
            case rel => exact ⟨k + 1, by go_num, by omega, N6, Lib.hid (D0.out _)⟩
            case measure => simp [intOf]; omega
    · obtain rfl : k = kn := by omega
      have KS := Lib.hid (KR.out N5.out)
      clear N5 KR GK
      rw [HKN.out.symm]
      have hk40 : kl.length ≤ 40 := by rw [HKN.out]; omega
      clear K0 hkm h40
      have hLj : ∀ j, j < al.length → (atD al j).len ≤ 1000 := fun j hj => by rw [atD_lt hj]; exact Nat.le_trans (RL.out.f _ (List.getElem_mem _)).l (by omega)
      have HLJ := Lib.hid hLj
      clear hLj
      go_wp2_with fail
      refine (ofRows_any a al.length c (atD al) HLJ.out (by omega) wr (HA.out wr B7.out)).mono ?_
      rintro e w8 ⟨⟨ma, mc, rfl, hm8⟩, hb8⟩
      have B8 := Lib.hid (B7.out.trans (hb8.mono B7.out.size))
      have MM := Lib.hid (p := ∀ u, Below w8.heap.size w8 u → ReadsRG (fun q => q < u.heap.size) u ma al.length (atD al)) (fun u hb => (ReadsRG.kept (G := fun q => q < w8.heap.size) hm8 (keptBelow hb) (fun q hq h => by omega)).mono (fun q h _ => by have := hb.size; omega))
      have hz8 := B8.out.size
      clear hm8 hb8 B7
      go_wp2_with fail
      refine (dOf_any al a c (by omega) w8 (HA.out w8 B8.out)).mono ?_
      rintro e w9 ⟨⟨va, vc, rfl, -, hv9⟩, hb9⟩
      have U9 := Lib.hid hb9
      have V9 := Lib.hid (hv9.mono (H := fun q => q < w9.heap.size) (fun q _ h => h))
      have ML := Lib.hid (p := (al.map mkK).length = al.length) (List.length_map ..)
      clear hv9 hb9
      go_wp2_with fail
      have C1 := of14_any (al.map mkK) va vc (by rw [ML.out]; omega) w9 (by rw [ML.out]; exact V9.out)
      rw [ML.out] at C1
      refine C1.mono ?_
      rintro e w10 ⟨⟨xa, xc, he, -, hx10⟩, hb10⟩
      rw [ML.out] at he hx10
      subst he
      have U10 := Lib.hid (U9.out.trans (hb10.mono U9.out.size))
      have X10 := Lib.hid (hx10.mono (H := fun q => q < w10.heap.size) (fun q _ h => h))
      clear hx10 hb10 V9 U9 C1
      go_wp2_with fail
      refine (rMarks_any al ma mc (by omega) w10 (MM.out w10 U10.out)).mono ?_
      rintro e w11 ⟨⟨ya, yc, he, -, hy11⟩, hb11⟩
      rw [ML.out] at he hy11
      subst he
      have U11 := Lib.hid (U10.out.trans (hb11.mono U10.out.size))
      have X11 := Lib.hid ((X10.out.kept (keptBelow hb11) (fun q hq h => by omega)).mono (H := fun q => q < w11.heap.size) (fun q h _ => by have := hb11.size; omega))
      have Y11 := Lib.hid (hy11.mono (H := fun q => q < w11.heap.size) (fun q _ h => h))
      clear hy11 hb11 X10 U10
      go_wp2_with fail
      go_loopw [12] (fun i wr => ∃ k : Nat, i = .int .i64 k ∧ k ≤ al.length ∧ Hid (Below w11.heap.size w11 wr)) (fun i _ => al.length - (intOf i).toNat)
      case atStart => exact ⟨0, rfl, Nat.zero_le _, Lib.hid (Below.refl _ _)⟩
      case round =>
        obtain ⟨k, rfl, hk, HL⟩ := hrel
        by_cases hkl : k < al.length
        · have e1 : (k : Int) < (al.length : Int) := by omega
          obtain ⟨xb, xo, rfl, hxb, gx⟩ := X11.out.cells hkl
          obtain ⟨yb, yo, rfl, hyb, gy⟩ := Y11.out.cells hkl
          obtain ⟨m, hm⟩ : ∃ m, atK (al.map mkK) k = m := ⟨_, rfl⟩
          rw [hm] at gx gy
          obtain ⟨x0, x1, x2, x3, x4⟩ := (gx.keptS (keptBelow HL.out) (by omega) : CellsK wr xb (xo + k * 5) m)
          obtain ⟨y0, y1, y2, y3, y4⟩ := (gy.keptS (keptBelow HL.out) (by omega) : CellsK wr yb (yo + k * 5) m)
          have D0 := Lib.hid (p := ∀ n, Below w11.heap.size w11 (wr.drewN n)) (fun n => HL.out.trans ((drewND wr n).mono HL.out.size))
          clear gx gy hm
          go_wp2_with (go_quiet (fail))
          go_roundw
          case rel => exact ⟨k + 1, by go_num, by omega, Lib.hid (D0.out _)⟩
          case measure => simp [intOf]; omega
        · obtain rfl : k = al.length := by omega
          have U12 := Lib.hid (U11.out.trans (HL.out.mono U11.out.size))
          have B12 := Lib.hid (B8.out.trans (U12.out.mono hz8))
          clear HL X11 Y11 U11
          have ARISE := RL.out.r
          have BRISE := MR.out.2
          have SQ := Lib.hid (send_same ARISE BRISE)
          have WQ := Lib.hid (want_same ARISE BRISE)
          have PQ := Lib.hid (pick_same ARISE KS.out)
          clear ARISE BRISE
          go_wp2_with fail
          -- Send
          have C1 := dSend_any al a c bl b d (by omega) (by omega) HD.out RL.out.short wr (HA.out wr B12.out) (HM.out wr B12.out)
          rw [SQ.out] at C1
          refine C1.mono ?_
          rintro e u1 ⟨⟨sa, sc, rfl, -, hs1⟩, hb⟩
          have V1 := Lib.hid (U12.out.trans (hb.mono U12.out.size))
          have B13 := Lib.hid (B12.out.trans (hb.mono B12.out.size))
          have S1 := Lib.hid (hs1.mono (H := fun q => q < u1.heap.size) (fun q _ h => h))
          clear C1 hb hs1 U12 B12
          go_wp2_with fail
          refine (of14_any bl b d (by omega) u1 (HM.out u1 B13.out)).mono ?_
          rintro e u2 ⟨⟨oa, oc, rfl, -, ho2⟩, hb⟩
          have V2 := Lib.hid (V1.out.trans (hb.mono V1.out.size))
          have B14 := Lib.hid (B13.out.trans (hb.mono B13.out.size))
          have O2 := Lib.hid (ho2.mono (H := fun q => q < u2.heap.size) (fun q _ h => h))
          have S2 := Lib.hid ((ReadsRG.kept (G := fun q => q < u1.heap.size) S1.out (keptBelow hb) (fun q hq h => by omega)).mono (H := fun q => q < u2.heap.size) (fun q h _ => by have := hb.size; omega))
          clear hb ho2 S1 V1 B13
          go_wp2_with fail
          refine (rSend_any al ma mc bl oa oc (by omega) (by omega) u2 (MM.out u2 V2.out) O2.out).mono ?_
          rintro e u3 ⟨⟨ta, tc, T, rfl, hT, hTe⟩, hb⟩
          have V3 := Lib.hid (V2.out.trans (hb.mono V2.out.size))
          have B15 := Lib.hid (B14.out.trans (hb.mono B14.out.size))
          have S3 := Lib.hid ((ReadsRG.kept (G := fun q => q < u2.heap.size) S2.out (keptBelow hb) (fun q hq h => by omega)).mono (H := fun q => q < u3.heap.size) (fun q h _ => by have := hb.size; omega))
          have R3 := Lib.hid (rowsBoth (w := u3) (u := u3) (L := sendQ al bl) (vc := sc) (Nat.le_trans (List.length_filter_le _ _) (by omega)) (fun x hx => RL.out.f x (List.mem_filter.1 hx).1) hTe (Below.refl _ _) S3.out hT)
          clear hb hT hTe S2 O2 V2 B14
          go_wp2_with fail
          refine R3.out.mono ?_
          rintro e u4 ⟨rfl, hb⟩
          have V4 := Lib.hid (V3.out.trans (hb.mono V3.out.size))
          have B16 := Lib.hid (B15.out.trans (hb.mono B15.out.size))
          clear hb R3 S3 V3 B15 SQ
          -- Want
          go_wp2_with fail
          have C1 := dWant_any al a c bl b d (by omega) (by omega) HC.out u4 (HA.out u4 B16.out) (HM.out u4 B16.out)
          rw [WQ.out] at C1
          refine C1.mono ?_
          rintro e u5 ⟨⟨sa2, sc2, rfl, -, hs5⟩, hb⟩
          have V5 := Lib.hid (V4.out.trans (hb.mono V4.out.size))
          have B17 := Lib.hid (B16.out.trans (hb.mono B16.out.size))
          have S5 := Lib.hid (hs5.mono (H := fun q => q < u5.heap.size) (fun q _ h => h))
          clear C1 hb hs5 V4 B16
          go_wp2_with fail
          refine (of14_any bl b d (by omega) u5 (HM.out u5 B17.out)).mono ?_
          rintro e u6 ⟨⟨oa2, oc2, rfl, -, ho6⟩, hb⟩
          have V6 := Lib.hid (V5.out.trans (hb.mono V5.out.size))
          have B18 := Lib.hid (B17.out.trans (hb.mono B17.out.size))
          have O6 := Lib.hid (ho6.mono (H := fun q => q < u6.heap.size) (fun q _ h => h))
          have S6 := Lib.hid ((S5.out.kept (keptBelow hb) (fun q hq h => by omega)).mono (H := fun q => q < u6.heap.size) (fun q h _ => by have := hb.size; omega))
          clear hb ho6 S5 V5 B17
          go_wp2_with fail
          refine (rWant_any al ma mc bl oa2 oc2 (by omega) (by omega) u6 (MM.out u6 V6.out) O6.out).mono ?_
          rintro e u7 ⟨⟨ta2, tc2, T2, rfl, hT, hTe⟩, hb⟩
          have V7 := Lib.hid (V6.out.trans (hb.mono V6.out.size))
          have B19 := Lib.hid (B18.out.trans (hb.mono B18.out.size))
          have S7 := Lib.hid ((S6.out.kept (keptBelow hb) (fun q hq h => by omega)).mono (H := fun q => q < u7.heap.size) (fun q h _ => by have := hb.size; omega))
          have hwl : (wantQ al bl).length ≤ 1000 := by unfold wantQ; rw [List.length_map]; exact Nat.le_trans (List.length_filter_le _ _) (by omega)
          subst hTe
          have R7 := Lib.hid (texts14_any (wantQ al bl) sa2 ta2 sc2 tc2 hwl u7 S7.out (hT.reads.2.2.mono (fun q _ h => h)))
          clear hb hT S6 O6 V6 B18 hwl
          go_wp2_with fail
          refine R7.out.mono ?_
          rintro e u8 ⟨rfl, hb⟩
          have V8 := Lib.hid (V7.out.trans (hb.mono V7.out.size))
          have B20 := Lib.hid (B19.out.trans (hb.mono B19.out.size))
          clear hb R7 S7 V7 B19 WQ
          -- Pick
          go_wp2_with fail
          have C1 := dPick_any al a c kl x f (by omega) (by omega) KS.out RL.out.short u8 (HA.out u8 B20.out) (HK.out u8 B20.out)
          rw [PQ.out] at C1
          refine C1.mono ?_
          rintro e u9 ⟨⟨sa3, sc3, rfl, -, hs9⟩, hb⟩
          have V9 := Lib.hid (V8.out.trans (hb.mono V8.out.size))
          have B21 := Lib.hid (B20.out.trans (hb.mono B20.out.size))
          have S9 := Lib.hid (hs9.mono (H := fun q => q < u9.heap.size) (fun q _ h => h))
          clear C1 hb hs9 V8 B20
          go_wp2_with fail
          refine (rPick_any al ma mc kl x f (by omega) (by omega) u9 (MM.out u9 V9.out) (HK.out u9 B21.out)).mono ?_
          rintro e u10 ⟨⟨ta3, tc3, T3, rfl, hT, hTe⟩, hb⟩
          have B22 := Lib.hid (B21.out.trans (hb.mono B21.out.size))
          have S10 := Lib.hid ((ReadsRG.kept (G := fun q => q < u9.heap.size) S9.out (keptBelow hb) (fun q hq h => by omega)).mono (H := fun q => q < u10.heap.size) (fun q h _ => by have := hb.size; omega))
          have R10 := Lib.hid (rowsBoth (w := u10) (u := u10) (L := pickQ al kl) (vc := sc3) (Nat.le_trans (List.length_filter_le _ _) (by omega)) (fun x hx => RL.out.f x (List.mem_filter.1 hx).1) hTe (Below.refl _ _) S10.out hT)
          clear hb hT hTe S9 V9 B21
          go_wp2_with fail
          refine R10.out.mono ?_
          rintro e u11 ⟨rfl, hb⟩
          have B23 := Lib.hid (B22.out.trans (hb.mono B22.out.size))
          clear hb R10 S10 B22 PQ
          go_wp2_with fail
          go_ret
          exact ⟨rfl, B23.out⟩

end Go.Proofs.YtijoljpblfjeiaaGreat
