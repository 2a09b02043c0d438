/-
  No statement: the document's CheckMarks.
-/
import Derived.Test.YtijoljpblfjeiaaGreatDgSame
import Derived.Test.YtijoljpblfjeiaaGreatDgRef1
set_option linter.unusedVariables false
set_option linter.unusedSimpArgs false
namespace Go.Proofs.YtijoljpblfjeiaaGreat
open Go.RowKit

set_option maxRecDepth 100000 in
set_option maxHeartbeats 8000000 in
theorem rCheckMarks_any (bl : List MK) (a : Option Addr) (c : Nat) (hn : bl.length ≤ 1000) (hs : ∀ m ∈ bl, m.key.size ≤ 100 ∧ m.o.size ≤ 100) (w : World) (h : ReadsMG (fun q => q < w.heap.size) w a bl.length (atK bl)) :
    Calls Tryz.prog 24 #[.slice a bl.length c] w fun e w' => e = .returned (.int .i64 (errMarks bl)) ∧ Below w.heap.size w w' := by
  have HA := Lib.hid h
  have HSZ := Lib.hid (p := ∀ j, j < bl.length → (atK bl j).key.size ≤ 100 ∧ (atK bl j).o.size ≤ 100) (fun j hj => by rw [atK_lt hj]; exact hs _ (List.getElem_mem _))
  have TD := Lib.hid (p := ∀ k, k < bl.length → bl.drop k = atK bl k :: bl.drop (k + 1)) (fun k hk => by rw [List.drop_eq_getElem_cons hk, atK_lt hk])
  have FD := Lib.hid (p := bl.drop bl.length = []) (List.drop_length ..)
  obtain ⟨E, hE⟩ : ∃ E, errMarks bl = E := ⟨_, rfl⟩
  rw [hE]
  have HE4 := Lib.hid (p := 64 < bl.length → (4 : Int) = E) (fun h => by rw [← hE]; unfold errMarks; rw [if_pos h])
  have HE0 := Lib.hid (p := ¬ 64 < bl.length → errMs ⟨#[]⟩ (bl.drop 0) = E) (fun h => by rw [← hE]; unfold errMarks; rw [if_neg h]; rfl)
  obtain ⟨n, hnn⟩ : ∃ n, bl.length = n := ⟨_, rfl⟩
  rw [hnn] at HA hn HSZ TD FD HE4 HE0 ⊢
  clear h hs hnn hE
  go_enter Tryz.func24, Tryz.ntmps24
  by_cases h64 : 64 < n
  · have e1 : (64 : Int) < (n : Int) := by omega
    have H4 := Lib.hid (HE4.out h64)
    go_wp2_with fail
    go_ret
    exact ⟨congrArg (fun z => Ending.returned (.int .i64 z)) H4.out, Below.refl _ _⟩
  have e1 : ¬ (64 : Int) < (n : Int) := by omega
  have H0 := Lib.hid (HE0.out h64)
  have B0 := Lib.hid (Below.refl w.heap.size w)
  clear HE0 HE4
  go_wp2_with fail
  clear e1
  go_loopw [3] (fun i wr => ∃ (k : Nat) (p : ByteArray), i = .int .i64 k ∧ k ≤ n ∧ Hid (k = 0 → p = ⟨#[]⟩) ∧ Hid (0 < k → (atK bl (k - 1)).key = p) ∧ Hid (errMs p (bl.drop k) = E) ∧ Hid (Below w.heap.size w wr)) (fun i _ => n - (intOf i).toNat)
  case atStart => exact ⟨0, _, rfl, Nat.zero_le _, Lib.hid (fun _ => rfl), Lib.hid (fun h => absurd h (by omega)), H0, B0⟩
  case round =>
    clear H0 B0
    obtain ⟨k, p, rfl, hk, P0, PP, HE, HB⟩ := hrel
    by_cases hlt : k < n
    · have e1 : (k : Int) < (n : Int) := by omega
      obtain ⟨b, off, rfl, hbw, h6⟩ := HA.out.cells hlt
      obtain ⟨hs1, hs2⟩ := HSZ.out k hlt
      have hdr := TD.out k hlt
      have HP := Lib.hid (p := 0 < k → ∀ w', Below w.heap.size w w' → w'.cell? ⟨b, off + (k - 1) * 5, none⟩ = some (.string p)) (fun h0 w' hb => by
        obtain ⟨b', off', hab, hb', g6⟩ := HA.out.cells (k := k - 1) (by omega)
        simp only [Option.some.injEq, Addr.mk.injEq, and_true] at hab
        obtain ⟨rfl, rfl⟩ := hab
        have := (g6.keptS (keptBelow hb) (by omega) : CellsK w' b (off + (k - 1) * 5) (atK bl (k - 1))).1
        rw [PP.out h0] at this
        exact this)
      obtain ⟨x, hx⟩ : ∃ x, atK bl k = x := ⟨_, rfl⟩
      have HX := Lib.hid hx
      rw [hx] at h6 hs1 hs2 hdr
      have HE1 := Lib.hid (show (if errM p x = 0 then errMs x.key (bl.drop (k + 1)) else errM p x) = E by have := HE.out; rw [hdr] at this; exact this)
      have C5 := Lib.hid (p := ∀ w', Below w.heap.size w w' → CellsK w' b (off + k * 5) x) (fun w' hb => h6.keptS (keptBelow hb) (by omega))
      obtain ⟨es, hes⟩ : ∃ es, errS x.t x.i x.q x.o = es := ⟨_, rfl⟩
      have CS := Lib.hid (p := ∀ w, Calls Tryz.prog 63 #[.agg #[.int .i64 x.t, .int .i64 x.i, .int .i64 x.q, .string x.o]] w fun e w' => e = .returned (.int .i64 es) ∧ Below w.heap.size w w') (fun w => by have := rCheckStamp_any x.t x.i x.q x.o (by omega) w; rwa [hes] at this)
      obtain ⟨g, hg⟩ : ∃ g, goodB x.key.data.toList = g := ⟨_, rfl⟩
      have NM := Lib.hid (p := ∀ w, Calls Tryz.prog 64 #[.string x.key] w fun e w' => e = .returned (.bool g) ∧ w = w') (fun w => by have := rName_any x.key (by omega) w; rwa [hg] at this)
      have HM := Lib.hid (show errM p x = if g = false then 5 else if lsS p x.key = false then 6 else es by unfold errM; rw [hg, hes])
      have HG := Lib.hid hg
      obtain ⟨c0, c1, c2, c3, c4⟩ := C5.out wr HB.out
      clear hx h6 hdr HE hes hg
      go_wp2_with fail
      refine (CS.out wr).mono ?_
      rintro e w2 ⟨rfl, hb⟩
      have B2 := Lib.hid (HB.out.trans (hb.mono HB.out.size))
      clear hb HB c0 c1 c2 c3 c4 CS
      obtain ⟨c0, c1, c2, c3, c4⟩ := C5.out w2 B2.out
      go_wp2_with fail
      refine (NM.out w2).mono ?_
      rintro e w3 ⟨rfl, rfl⟩
      clear NM
      cases g with
      | false =>
        have H5 := Lib.hid (show (5 : Int) = E by have := HE1.out; rw [HM.out, if_pos rfl, if_neg (by decide)] at this; exact this)
        go_wp2_with fail
        go_ret
        exact ⟨congrArg (fun z => Ending.returned (.int .i64 z)) H5.out, B2.out⟩
      | true =>
        have HM2 := Lib.hid (show errM p x = if lsS p x.key = false then 6 else es by rw [HM.out, if_neg (by decide)])
        have P9 := Lib.hid (p := k + 1 = 0 → x.key = ⟨#[]⟩) (fun h => absurd h (by omega))
        have PP9 := Lib.hid (p := 0 < k + 1 → (atK bl (k + 1 - 1)).key = x.key) (fun _ => by rw [Nat.add_sub_cancel, HX.out])
        have D2 := Lib.hid (p := ∀ n, Below w.heap.size w (w2.drewN n)) (fun n => B2.out.trans ((drewND w2 n).mono B2.out.size))
        by_cases hk0 : k = 0
        · subst hk0
          have hl : lsS p x.key = true := by rw [P0.out rfl]; exact lsS_empty HG.out
          have HE2 := Lib.hid (show (if es = 0 then errMs x.key (bl.drop (0 + 1)) else es) = E by have := HE1.out; rwa [show errM p x = es from HM2.out.trans (by rw [hl]; exact if_neg (by decide))] at this)
          clear hl HP
          go_wp2_with fail
          go_quiet (fail)
          by_cases he : es = 0
          · subst he
            have HE3 := Lib.hid (show errMs x.key (bl.drop (0 + 1)) = E by have := HE2.out; rwa [if_pos rfl] at this)
            clear HE2
            go_wp2_with fail
            go_roundw
            case rel => exact ⟨0 + 1, x.key, by go_num, by omega, P9, PP9, HE3, Lib.hid (D2.out _)⟩
            case measure => simp [intOf]; omega
          · have HE3 := Lib.hid (show es = E by have := HE2.out; rwa [if_neg he] at this)
            have he' : (es == 0) = false := by simpa using he
            have he2 : (es != 0) = true := by simpa using he
            clear HE2 he
            go_wp2_with fail
            go_ret
            exact ⟨congrArg (fun z => Ending.returned (.int .i64 z)) HE3.out, D2.out _⟩
        · have e0 : 0 < k := by omega
          have dp := HP.out e0 _ B2.out
          have e3 : IntKind.i64.wrap ((k : Int) - 1) = (k : Int) - 1 := IntWalk.i64_in _ (by omega)
          have e4 : 0 ≤ (k : Int) - 1 := by omega
          have e5 : ((k : Int) - 1).toNat = k - 1 := by omega
          have e6 : (k : Int) - 1 < n := by omega
          have e7 : (1 : Int) ≤ (k : Int) := by omega
          cases hl : lsS p x.key with
          | false =>
            have H6 := Lib.hid (show (6 : Int) = E by have := HE1.out; rw [HM2.out, hl, if_pos rfl, if_neg (by decide)] at this; exact this)
            have l1 := leqS_yes hl
            have l2 : Op.bytesLess p.toList x.key.toList = false := hl
            clear hl HP
            go_wp2_with fail
            go_quiet (fail)
            clear e3 e4 e5 e6 e7
            go_wp2_with fail
            go_ret
            exact ⟨congrArg (fun z => Ending.returned (.int .i64 z)) H6.out, D2.out _⟩
          | true =>
            have HE2 := Lib.hid (show (if es = 0 then errMs x.key (bl.drop (k + 1)) else es) = E by have := HE1.out; rwa [show errM p x = es from HM2.out.trans (by rw [hl]; exact if_neg (by decide))] at this)
            obtain ⟨l1, l2⟩ := leqS_no hl
            have l3 : Op.bytesLess p.toList x.key.toList = true := hl
            clear hl HP
            go_wp2_with fail
            go_quiet (fail)
            clear e3 e4 e5 e6 e7
            by_cases he : es = 0
            · subst he
              have HE3 := Lib.hid (show errMs x.key (bl.drop (k + 1)) = E by have := HE2.out; rwa [if_pos rfl] at this)
              clear HE2
              go_wp2_with fail
              go_roundw
              case rel => exact ⟨k + 1, x.key, by go_num, by omega, P9, PP9, HE3, Lib.hid (D2.out _)⟩
              case measure => simp [intOf]; omega
            · have HE3 := Lib.hid (show es = E by have := HE2.out; rwa [if_neg he] at this)
              have he' : (es == 0) = false := by simpa using he
              have he2 : (es != 0) = true := by simpa using he
              clear HE2 he
              go_wp2_with fail
              go_ret
              exact ⟨congrArg (fun z => Ending.returned (.int .i64 z)) HE3.out, D2.out _⟩
    · obtain rfl : k = n := by omega
      have HE2 := Lib.hid (show (0 : Int) = E by have := HE.out; rw [FD.out] at this; exact this)
      go_wp2_with fail
      go_ret
      exact ⟨congrArg (fun z => Ending.returned (.int .i64 z)) HE2.out, HB.out⟩

/-- Two rows of the same texts. -/
theorem texts14_any (kl : List ByteArray) (a b : Option Addr) (c d : Nat) (hn : kl.length ≤ 1000) (w : World) (h1 : ReadsSG (fun q => q < w.heap.size) w a kl.length (atS kl)) (h2 : ReadsSG (fun q => q < w.heap.size) w b kl.length (atS kl)) :
    Calls Tryz.prog 16 #[.slice a kl.length c, .slice b kl.length d] w fun e w' => e = .returned (.bool true) ∧ Below w.heap.size w w' := by
  obtain ⟨n, hnn⟩ : ∃ n, kl.length = n := ⟨_, rfl⟩
  rw [hnn] at h1 h2 hn ⊢
  have H1 := Lib.hid h1
  have H2 := Lib.hid h2
  clear h1 h2 hnn
  go_enter Tryz.func16, Tryz.ntmps16
  go_wp2_with fail
  go_loopw [5] (fun i wr => ∃ k : Nat, i = .int .i64 k ∧ k ≤ n ∧ Hid (Below w.heap.size w wr)) (fun i _ => n - (intOf i).toNat)
  case atStart => exact ⟨0, rfl, Nat.zero_le _, Lib.hid (Below.refl _ _)⟩
  case round =>
    obtain ⟨k, rfl, hk, hB⟩ := hrel
    by_cases hlt : k < n
    · have e1 : (k : Int) < (n : Int) := by omega
      obtain ⟨b1, o1, rfl, hb1, g1⟩ := H1.out.cells hlt
      obtain ⟨b2, o2, rfl, hb2, g2⟩ := H2.out.cells hlt
      obtain ⟨s, hs⟩ : ∃ s, atS kl k = s := ⟨_, rfl⟩
      rw [hs] at g1 g2
      have p1 : wr.cell? ⟨b1, o1 + k, none⟩ = some (.string s) := (keptBelow hB.out).cell g1 (by show ¬ w.heap.size ≤ b1; omega)
      have p2 : wr.cell? ⟨b2, o2 + k, none⟩ = some (.string s) := (keptBelow hB.out).cell g2 (by show ¬ w.heap.size ≤ b2; omega)
      have q2 : (s.toList != s.toList) = false := by simp
      have D0 := Lib.hid (p := ∀ n, Below w.heap.size w (wr.drewN n)) (fun n => hB.out.trans ((drewND wr n).mono hB.out.size))
      clear g1 g2 hs
      go_wp2_with (go_quiet (fail))
      go_roundw
      case rel => exact ⟨k + 1, by go_num, by omega, Lib.hid (D0.out _)⟩
      case measure => simp [intOf]; omega
    · obtain rfl : k = n := by omega
      go_wp2_with fail
      go_ret
      exact ⟨rfl, hB.out⟩

end Go.Proofs.YtijoljpblfjeiaaGreat
