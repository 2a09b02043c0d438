/-
  No statement: the walk of the law CodecBack.
-/
import Derived.Test.YtnjfpgnhmfankaaCBack
import Derived.Test.YtnjfpgnhmfankaaTake
import Derived.Deep.RegionHeldLaw
namespace Go.Proofs.Ytnjfpgnhmfankaa
open Go.RowKit

set_option maxRecDepth 100000 in
set_option maxHeartbeats 4000000 in
theorem codecBack_walk (a : Option Addr) (c : Nat) (l : List It) (w : World) (hl : IsIts w a l) :
    Calls Try.prog 3 #[.slice a l.length c] w fun e w' => e = .returned (.bool true) ∧ Below w.heap.size w w' := by
  obtain ⟨i0, hi, hz0, hz1, hz2⟩ := info_parts infoB
  have und := undB
  have hlm : l.length ≤ 9223372036854775807 := hl.1
  have HI := Lib.hid hl
  clear hl
  go_enter Try.func3, Try.ntmps3
  go_wp2_with fail
  refine (known_any w).mono ?_
  rintro e w1 ⟨rfl, hb1⟩
  have B1 := Lib.hid hb1
  clear hb1
  by_cases hl2 : 60 < l.length
  · go_wp2_with fail
    go_ret
    exact ⟨rfl, B1.out⟩
  have L1 := Lib.hid (LB.start w w1 B1.out)
  obtain ⟨p, hp⟩ : ∃ p, w1.heap.size = p := ⟨_, rfl⟩
  go_wp2_with fail
  generalize hW : World.alloc w1 _ = W
  rw [hW, hp] at L1
  clear hp hW
  go_loopw [4, 5] (fun v i wr => ∃ (k m : Nat) (va : Option Addr) (vc : Nat) (o : List UInt8), i = .int .i64 k ∧ k ≤ l.length ∧ v = .slice va m vc ∧ o.length ≤ 320 * k ∧ m ≤ 320 * k ∧ Hid (m = o.length) ∧ Hid (o = itsB (l.take k)) ∧ Hid (LB w wr p (.slice va m vc) o o)) (fun _ i _ => l.length - (intOf i).toNat)
  case atStart => exact ⟨0, 0, none, 0, [], rfl, Nat.zero_le _, rfl, by simp, by omega, Lib.hid rfl, Lib.hid rfl, L1⟩
  case round =>
    obtain ⟨k, m, va, vc, o, rfl, hk, rfl, hol, hml, hm, hO, hL⟩ := hrel
    by_cases hlt : k < l.length
    · have HX := Lib.hid (fun (w' : World) (hb : Below w.heap.size w w') => by
        obtain ⟨b', off', hx, hc⟩ := (HI.out.kept hb).2.2.resolve_left (fun h => by rw [h] at hlt; simp at hlt)
        exact (show ∃ b' off', a = some ⟨b', off', none⟩ ∧ w'.cell? ⟨b', off' + k * 4, none⟩ = some (.int .i64 l[k].k) ∧ w'.cell? ⟨b', off' + k * 4 + 1, none⟩ = some (.int .i64 l[k].n) ∧ w'.cell? ⟨b', off' + k * 4 + 2, none⟩ = some (.string l[k].s) from ⟨b', off', hx, (hc k hlt).1, (hc k hlt).2.1, (hc k hlt).2.2.1⟩))
      obtain ⟨-, xn, xs, -⟩ := HI.out.2.1 l[k] (List.getElem_mem hlt)
      have hnx := itsB_take l hlt
      obtain ⟨x, hx⟩ : ∃ x, l[k] = x := ⟨_, rfl⟩
      rw [hx] at HX xn xs hnx
      rw [← hO.out] at hnx
      have NX := Lib.hid hnx
      have XN := Lib.hid xn
      clear hx xn hnx
      obtain ⟨b, off, rfl, x0, x1, x2⟩ := HX.out wr hL.out.b
      by_cases hbig : 300 < x.s.size
      · have P := Lib.hid hL.out.b
        go_wp2_with fail
        go_ret
        exact ⟨rfl, P.out⟩
      have hIL := Lib.hid (itB_len XN.out (show x.s.size ≤ 300 by omega))
      have HC2 := Lib.hid (fun (w' : World) (hb : Below w.heap.size w w') => by
        obtain ⟨b', off', hx, h⟩ := HX.out w' hb
        cases hx
        exact h)
      clear xs
      by_cases hk2 : x.k = 2
      · have hB : itB x = encI (x.s.size : Nat) ++ x.s.data.toList := by unfold itB; rw [if_pos hk2]
        rw [hk2] at x0
        have TX := Lib.hid (hL.out.text x.s (by omega) (by omega))
        rw [← hB] at TX
        have PT := Lib.hid (fun w' => rPutText_any x.s (by omega) w')
        rw [← hB] at PT
        obtain ⟨I, hI⟩ : ∃ I, itB x = I := ⟨_, rfl⟩
        rw [hI] at TX PT hIL NX
        obtain ⟨s, hs⟩ : ∃ s, x.s = s := ⟨_, rfl⟩
        rw [hs] at x2 TX PT HC2 hbig
        have hIl := hIL.out
        clear hB hI hk2 x1 HX hs
        go_wp2_with fail
        refine TX.out.mono ?_
        rintro e w3 ⟨rfl, h3⟩
        have L3 := Lib.hid h3
        clear h3 x0 x2
        obtain ⟨x0, x1, x2⟩ := HC2.out w3 L3.out.b
        clear x0 x1
        go_wp2_with fail
        refine (PT.out _).mono ?_
        rintro e w4 ⟨a4, c4, rfl, ho, hb⟩
        have L4 := Lib.hid (L3.out.below hb)
        have F4 := Lib.hid ho.br.from
        clear ho hb x2
        go_wp2_with (at_builtin; refine wpList_append_src rfl _ _ 25 25 rfl und hi hz0 hz1 hz2 rfl _ _ m I.length (bC o) (bC I) rfl rfl (L4.out.wt.row hm.out) (F4.out.src und (bC_one I)) (by unfold maxLen; omega) (by omega) L4.out.b.size ?_)
        intro v' w5 ho hg hb
        obtain ⟨va', vc', rfl⟩ := own_row_slice ho
        rw [← bC_app] at ho
        have L5 := Lib.hid (L4.out.grow ho hg hb)
        have HM5 := Lib.hid (own_row_len ho)
        have HOL := Lib.hid (show (o ++ I).length ≤ 320 * (k + 1) by rw [List.length_append]; omega)
        clear ho hg hb
        go_wp2_with fail
        go_roundw
        case rel => exact ⟨k + 1, m + I.length, va', vc', o ++ I, by go_num, by omega, rfl, HOL.out, by omega, HM5, Lib.hid NX.out.symm, L5⟩
        case measure => simp [intOf]; omega
      · have hB : itB x = encI x.n := by unfold itB; rw [if_neg hk2]
        have hk2' : (x.k == 2) = false := by simpa using hk2
        have TX := Lib.hid (hL.out.int x.n XN.out.1 XN.out.2 (by omega))
        rw [← hB] at TX
        have PT := Lib.hid (fun w' => rPutInt_any x.n XN.out.1 XN.out.2 w')
        rw [← hB] at PT
        obtain ⟨I, hI⟩ : ∃ I, itB x = I := ⟨_, rfl⟩
        rw [hI] at TX PT hIL NX
        have hIl := hIL.out
        clear hB hI hk2 HX
        go_wp2_with fail
        refine TX.out.mono ?_
        rintro e w3 ⟨rfl, h3⟩
        have L3 := Lib.hid h3
        clear h3 x0 x1 x2
        obtain ⟨x0, x1, x2⟩ := HC2.out w3 L3.out.b
        clear x0 x2
        go_wp2_with fail
        refine (PT.out _).mono ?_
        rintro e w4 ⟨a4, c4, rfl, ho, hb⟩
        have L4 := Lib.hid (L3.out.below hb)
        have F4 := Lib.hid ho.br.from
        clear ho hb x1
        go_wp2_with (at_builtin; refine wpList_append_src rfl _ _ 25 25 rfl und hi hz0 hz1 hz2 rfl _ _ m I.length (bC o) (bC I) rfl rfl (L4.out.wt.row hm.out) (F4.out.src und (bC_one I)) (by unfold maxLen; omega) (by omega) L4.out.b.size ?_)
        intro v' w5 ho hg hb
        obtain ⟨va', vc', rfl⟩ := own_row_slice ho
        rw [← bC_app] at ho
        have L5 := Lib.hid (L4.out.grow ho hg hb)
        have HM5 := Lib.hid (own_row_len ho)
        have HOL := Lib.hid (show (o ++ I).length ≤ 320 * (k + 1) by rw [List.length_append]; omega)
        clear ho hg hb
        go_wp2_with fail
        go_roundw
        case rel => exact ⟨k + 1, m + I.length, va', vc', o ++ I, by go_num, by omega, rfl, HOL.out, by omega, HM5, Lib.hid NX.out.symm, L5⟩
        case measure => simp [intOf]; omega
    · obtain rfl : k = l.length := by omega
      obtain rfl := hm.out
      have hO2 := hO.out
      rw [List.take_length] at hO2
      have HO2 := Lib.hid hO2
      have hobl : o.length ≤ 1000000 := by omega
      have cc : (convert 25 9 (.slice va o.length vc)).run Try.prog wr.drew = .ok (.string ⟨o.toArray⟩) wr.drew := strB (w := wr.drew) (OwnB.br (B := w.heap.size) hL.out.wt)
      have BY := Lib.hid (show Calls Try.prog 13 #[.pointer (some ⟨p, 0, none⟩)] wr.drew (OutB wr.drew o) from by
        obtain ⟨⟨F, hE, _⟩, _, _⟩ := hL.out
        exact encBytes_any p F o (by omega) wr.drew hE)
      have hdr : Below wr.heap.size wr wr.drew := ⟨rfl, rfl, rfl, Nat.le_refl _, fun _ _ => rfl⟩
      have HDR := Lib.hid hdr
      clear hO2 hdr
      go_wp2_with fail
      go_region_held_law (fun w' => (convert 25 9 (.slice va o.length vc)).run Try.prog w' = .ok (.string ⟨o.toArray⟩) w') (first | assumption | exact cc) (first
        | (go_at_call 13
           with_reducible refine BY.out.mono ?_
           rintro e w2 ⟨a2, c2, rfl, ho, hb⟩
           have L2 := Lib.hid (hL.out.below (HDR.out.trans hb))
           have cc := strB (OwnB.br (B := w.heap.size) L2.out.wt)
           have t2 := strB ho.br
           clear ho hb)
        | fail)
      clear cc t2
      go_wp2_with fail
      refine (of_any va vc o (by omega) w2 (OwnB.br (B := w.heap.size) L2.out.wt)).mono ?_
      rintro e w3 hP
      obtain ⟨q, rfl, hD⟩ := DecN.of hP
      have D3 := Lib.hid hD
      clear hP hD
      go_wp2_with fail
      go_loopw [7] (fun i wr => ∃ j : Nat, i = .int .i64 j ∧ j ≤ l.length ∧ Hid (DecN w2 wr q (itsB (l.drop j), 0))) (fun i _ => l.length - (intOf i).toNat)
      case atStart => exact ⟨0, rfl, Nat.zero_le _, Lib.hid (by rw [List.drop_zero, ← HO2.out]; exact D3.out)⟩
      case round =>
        obtain ⟨j, rfl, hj, hD⟩ := hrel
        have B4 := Lib.hid (L2.out.b.trans (hD.out.2.mono L2.out.b.size))
        by_cases hlt : j < l.length
        · have hBL := itsB_drop l hlt
          have HX0 := Lib.hid (fun (w' : World) (hb : Below w.heap.size w w') => by
            obtain ⟨b', off', hx, hc⟩ := (HI.out.kept hb).2.2.resolve_left (fun h => by rw [h] at hlt; simp at hlt)
            exact (show ∃ b' off', a = some ⟨b', off', none⟩ ∧ w'.cell? ⟨b', off' + j * 4, none⟩ = some (.int .i64 l[j].k) ∧ w'.cell? ⟨b', off' + j * 4 + 1, none⟩ = some (.int .i64 l[j].n) ∧ w'.cell? ⟨b', off' + j * 4 + 2, none⟩ = some (.string l[j].s) from ⟨b', off', hx, (hc j hlt).1, (hc j hlt).2.1, (hc j hlt).2.2.1⟩))
          obtain ⟨-, xn, xs, -⟩ := HI.out.2.1 l[j] (List.getElem_mem hlt)
          obtain ⟨x, hx⟩ : ∃ x, l[j] = x := ⟨_, rfl⟩
          rw [hx] at HX0 xn xs hBL
          rw [hBL] at hD
          have XN := Lib.hid (And.intro xn xs)
          clear hx xn xs hBL
          obtain ⟨b, off, rfl, x0, x1, x2⟩ := HX0.out wr B4.out
          have HX1 := Lib.hid (fun (w' : World) (hb : Below w.heap.size w w') => by
            obtain ⟨b', off', hx, h⟩ := HX0.out w' hb
            cases hx
            exact h)
          have HDD := Lib.hid (show DecN w2 wr.drew q (itB x ++ itsB (l.drop (j + 1)), 0) from ⟨hD.out.1, hD.out.2.trans (((Kept.refl (fun _ => False) wr).drewN 1).below (fun _ h => h.elim) hD.out.2.size)⟩)
          have bdr : Below w.heap.size w wr.drew := B4.out.trans (((Kept.refl (fun _ => False) wr).drewN 1).below (fun _ h => h.elim) B4.out.size)
          have BDR := Lib.hid bdr
          clear bdr
          by_cases hk2 : x.k = 2
          · have hT : dText (itB x ++ itsB (l.drop (j + 1)), 0) = (x.s.data.toList, itsB (l.drop (j + 1)), 0) := by
              have hsl : x.s.data.toList.length = x.s.size := by rw [Array.length_toList]; rfl
              have hB : itB x = encT x.s.data.toList := by unfold itB encT; rw [if_pos hk2, hsl]
              rw [hB]
              exact dText_enc (by rw [hsl]; exact XN.out.2) _ _
            have DX0 := HDD.out.text
            rw [hT] at DX0
            have hstr : (⟨x.s.data.toList.toArray⟩ : ByteArray) = x.s := by cases x.s; simp
            rw [hstr] at DX0
            have HX : Hid (∀ w' : World, Below w.heap.size w w' → w'.cell? ⟨b, off + j * 4, none⟩ = some (.int .i64 2) ∧ w'.cell? ⟨b, off + j * 4 + 2, none⟩ = some (.string x.s)) := Lib.hid (fun w' hb => by have h := HX1.out w' hb; rw [hk2] at h; exact ⟨h.1, h.2.2⟩)
            obtain ⟨s, hs⟩ : ∃ s, x.s = s := ⟨_, rfl⟩
            rw [hs] at HX DX0
            have DX := Lib.hid DX0
            have cc := HX.out wr.drew BDR.out
            clear hT hstr hk2 hs x0 x1 x2 DX0 HDD HX0 HX1
            go_wp2_with fail
            refine wp_region_held (S := fun w' => w'.cell? ⟨b, off + j * 4, none⟩ = some (.int .i64 2) ∧ w'.cell? ⟨b, off + j * 4 + 2, none⟩ = some (.string s)) (by kernel_rfl) ?_
            have hHeld : (fun w' : World => w'.cell? ⟨b, off + j * 4, none⟩ = some (.int .i64 2) ∧ w'.cell? ⟨b, off + j * 4 + 2, none⟩ = some (.string s)) { wr with drawn := wr.drawn + 1 } := cc
            clear cc
            refine takeHYtnjfpgnhmfankaa (i := 0) (d := some 80) (v := .slice (some ⟨b, off, none⟩) l.length c) rfl rfl (by kernel_rfl) (by kernel_rfl) (by kernel_rfl) (fun _ _ _ h => h) (Or.inl ⟨by rfl, by intro w hSw; obtain ⟨hS1, hS2⟩ := hSw; go_simp⟩) hHeld ?_
            simp only [Act.put, List.setIfInBounds_toArray, List.set_cons_zero, List.set_cons_succ]
            refine takeHYtnjfpgnhmfankaa (i := 1) (d := some 81) (v := .int .i64 j) rfl rfl (by kernel_rfl) (by kernel_rfl) (by kernel_rfl) (fun _ _ _ h => h) (Or.inl ⟨by rfl, by intro w hSw; obtain ⟨hS1, hS2⟩ := hSw; go_simp⟩) hHeld ?_
            simp only [Act.put, List.setIfInBounds_toArray, List.set_cons_zero, List.set_cons_succ]
            refine takeHYtnjfpgnhmfankaa (i := 2) (d := some 82) (v := .pointer (some ⟨b, off + j * 4, none⟩)) rfl rfl (by kernel_rfl) (by kernel_rfl) (by kernel_rfl) (fun _ _ _ h => h) (Or.inl ⟨by rfl, by intro w hSw; obtain ⟨hS1, hS2⟩ := hSw; go_simp⟩) hHeld ?_
            simp only [Act.put, List.setIfInBounds_toArray, List.set_cons_zero, List.set_cons_succ]
            refine takeHYtnjfpgnhmfankaa (i := 3) (d := some 83) (v := .pointer (some ⟨b, off + j * 4, none⟩)) rfl rfl (by kernel_rfl) (by kernel_rfl) (by kernel_rfl) (fun _ _ _ h => h) (Or.inl ⟨by rfl, by intro w hSw; obtain ⟨hS1, hS2⟩ := hSw; go_simp⟩) hHeld ?_
            simp only [Act.put, List.setIfInBounds_toArray, List.set_cons_zero, List.set_cons_succ]
            refine takeHYtnjfpgnhmfankaa (i := 4) (d := some 84) (v := .int .i64 2) rfl rfl (by kernel_rfl) (by kernel_rfl) (by kernel_rfl) (fun _ _ _ h => h) (Or.inl ⟨by rfl, by intro w hSw; obtain ⟨hS1, hS2⟩ := hSw; go_simp⟩) hHeld ?_
            simp only [Act.put, List.setIfInBounds_toArray, List.set_cons_zero, List.set_cons_succ]
            refine takeHYtnjfpgnhmfankaa (i := 5) (d := some 85) (v := .bool true) rfl rfl (by kernel_rfl) (by kernel_rfl) (by kernel_rfl) (fun _ _ _ h => h) (Or.inl ⟨by rfl, by intro w hSw; obtain ⟨hS1, hS2⟩ := hSw; go_simp⟩) hHeld ?_
            simp only [Act.put, List.setIfInBounds_toArray, List.set_cons_zero, List.set_cons_succ]
            refine takeHYtnjfpgnhmfankaa (i := 6) (d := some 86) (v := .bool true) rfl rfl (by kernel_rfl) (by kernel_rfl) (by kernel_rfl) (fun _ _ _ h => h) (Or.inl ⟨by rfl, by intro w hSw; obtain ⟨hS1, hS2⟩ := hSw; go_simp⟩) hHeld ?_
            simp only [Act.put, List.setIfInBounds_toArray, List.set_cons_zero, List.set_cons_succ]
            refine takeHYtnjfpgnhmfankaa (i := 7) (d := some 87) (v := .pointer (some ⟨q, 0, none⟩)) rfl rfl (by kernel_rfl) (by kernel_rfl) (by kernel_rfl) (fun _ _ _ h => h) (Or.inl ⟨by rfl, by intro w hSw; obtain ⟨hS1, hS2⟩ := hSw; go_simp⟩) hHeld ?_
            simp only [Act.put, List.setIfInBounds_toArray, List.set_cons_zero, List.set_cons_succ]
            refine takeHYtnjfpgnhmfankaa (i := 9) (d := some 89) (v := .slice (some ⟨b, off, none⟩) l.length c) rfl rfl (by kernel_rfl) (by kernel_rfl) (by kernel_rfl) (fun _ _ _ h => h) (Or.inl ⟨by rfl, by intro w hSw; obtain ⟨hS1, hS2⟩ := hSw; go_simp⟩) hHeld ?_
            simp only [Act.put, List.setIfInBounds_toArray, List.set_cons_zero, List.set_cons_succ]
            refine takeHYtnjfpgnhmfankaa (i := 10) (d := some 90) (v := .int .i64 j) rfl rfl (by kernel_rfl) (by kernel_rfl) (by kernel_rfl) (fun _ _ _ h => h) (Or.inl ⟨by rfl, by intro w hSw; obtain ⟨hS1, hS2⟩ := hSw; go_simp⟩) hHeld ?_
            simp only [Act.put, List.setIfInBounds_toArray, List.set_cons_zero, List.set_cons_succ]
            refine takeHYtnjfpgnhmfankaa (i := 11) (d := some 91) (v := .pointer (some ⟨b, off + j * 4, none⟩)) rfl rfl (by kernel_rfl) (by kernel_rfl) (by kernel_rfl) (fun _ _ _ h => h) (Or.inl ⟨by rfl, by intro w hSw; obtain ⟨hS1, hS2⟩ := hSw; go_simp⟩) hHeld ?_
            simp only [Act.put, List.setIfInBounds_toArray, List.set_cons_zero, List.set_cons_succ]
            refine takeHYtnjfpgnhmfankaa (i := 12) (d := some 92) (v := .pointer (some ⟨b, off + j * 4 + 2, none⟩)) rfl rfl (by kernel_rfl) (by kernel_rfl) (by kernel_rfl) (fun _ _ _ h => h) (Or.inl ⟨by rfl, by intro w hSw; obtain ⟨hS1, hS2⟩ := hSw; go_simp⟩) hHeld ?_
            simp only [Act.put, List.setIfInBounds_toArray, List.set_cons_zero, List.set_cons_succ]
            refine takeHYtnjfpgnhmfankaa (i := 13) (d := some 93) (v := .string s) rfl rfl (by kernel_rfl) (by kernel_rfl) (by kernel_rfl) (fun _ _ _ h => h) (Or.inl ⟨by rfl, by intro w hSw; obtain ⟨hS1, hS2⟩ := hSw; go_simp⟩) hHeld ?_
            simp only [Act.put, List.setIfInBounds_toArray, List.set_cons_zero, List.set_cons_succ]
            refine wpAnyH_ready (rs := [8]) (by kernel_rfl) (by simp) ?_
            refine AllReadyH.cons (o := { dst := some 88, op := Op.call { callee := Callee.value (Operand.func 15), args := #[Operand.tmp 87], argTypes := #[35] }, type := 9, pos := "law.go:61", after := #[{ on := 7, ground := Ground.data }, { on := 6, ground := Ground.chain }, { on := 6, ground := Ground.guard }], guard := some (6, true) }) rfl (fun K hK => ?_) AllReadyH.nil
            go_simp
            refine DX.out.mono ?_
            rintro e w5 ⟨rfl, h5, -⟩
            have D5 := Lib.hid h5
            have cc := HX.out w5 (L2.out.b.trans (D5.out.2.mono L2.out.b.size))
            clear h5
            refine hK.out _ _ cc (fun hHeld2 => ?_)
            try simp only [Act.put, List.setIfInBounds_toArray, List.set_cons_zero, List.set_cons_succ]
            clear hK K hHeld
            refine takeHYtnjfpgnhmfankaa (i := 14) (d := some 94) (v := .bool false) rfl rfl (by kernel_rfl) (by kernel_rfl) (by kernel_rfl) (fun _ _ _ h => h) (Or.inl ⟨by rfl, by intro w hSw; obtain ⟨hS1, hS2⟩ := hSw; go_simp⟩) hHeld2 ?_
            simp only [Act.put, List.setIfInBounds_toArray, List.set_cons_zero, List.set_cons_succ]
            refine takeHYtnjfpgnhmfankaa (i := 15) (d := some 95) (v := .bool false) rfl rfl (by kernel_rfl) (by kernel_rfl) (by kernel_rfl) (fun _ _ _ h => h) (Or.inl ⟨by rfl, by intro w hSw; obtain ⟨hS1, hS2⟩ := hSw; go_simp⟩) hHeld2 ?_
            simp only [Act.put, List.setIfInBounds_toArray, List.set_cons_zero, List.set_cons_succ]
            refine takeHYtnjfpgnhmfankaa (i := 16) (d := some 96) (v := .bool false) rfl rfl (by kernel_rfl) (by kernel_rfl) (by kernel_rfl) (fun _ _ _ h => h) (Or.inl ⟨by rfl, by intro w hSw; obtain ⟨hS1, hS2⟩ := hSw; go_simp⟩) hHeld2 ?_
            simp only [Act.put, List.setIfInBounds_toArray, List.set_cons_zero, List.set_cons_succ]
            refine takeHYtnjfpgnhmfankaa (i := 17) (d := some 97) (v := .slice (some ⟨b, off, none⟩) l.length c) rfl rfl (by kernel_rfl) (by kernel_rfl) (by kernel_rfl) (fun _ _ _ h => h) (Or.inl ⟨by rfl, by intro w hSw; obtain ⟨hS1, hS2⟩ := hSw; go_simp⟩) hHeld2 ?_
            simp only [Act.put, List.setIfInBounds_toArray, List.set_cons_zero, List.set_cons_succ]
            refine takeHYtnjfpgnhmfankaa (i := 18) (d := some 98) (v := .int .i64 j) rfl rfl (by kernel_rfl) (by kernel_rfl) (by kernel_rfl) (fun _ _ _ h => h) (Or.inl ⟨by rfl, by intro w hSw; obtain ⟨hS1, hS2⟩ := hSw; go_simp⟩) hHeld2 ?_
            simp only [Act.put, List.setIfInBounds_toArray, List.set_cons_zero, List.set_cons_succ]
            refine takeHYtnjfpgnhmfankaa (i := 19) (d := some 99) (v := .pointer (some ⟨b, off + j * 4, none⟩)) rfl rfl (by kernel_rfl) (by kernel_rfl) (by kernel_rfl) (fun _ _ _ h => h) (Or.inl ⟨by rfl, by intro w hSw; obtain ⟨hS1, hS2⟩ := hSw; go_simp⟩) hHeld2 ?_
            simp only [Act.put, List.setIfInBounds_toArray, List.set_cons_zero, List.set_cons_succ]
            refine takeHYtnjfpgnhmfankaa (i := 20) (d := some 100) (v := .pointer (some ⟨b, off + j * 4, none⟩)) rfl rfl (by kernel_rfl) (by kernel_rfl) (by kernel_rfl) (fun _ _ _ h => h) (Or.inl ⟨by rfl, by intro w hSw; obtain ⟨hS1, hS2⟩ := hSw; go_simp⟩) hHeld2 ?_
            simp only [Act.put, List.setIfInBounds_toArray, List.set_cons_zero, List.set_cons_succ]
            refine takeHYtnjfpgnhmfankaa (i := 21) (d := some 101) (v := .int .i64 2) rfl rfl (by kernel_rfl) (by kernel_rfl) (by kernel_rfl) (fun _ _ _ h => h) (Or.inl ⟨by rfl, by intro w hSw; obtain ⟨hS1, hS2⟩ := hSw; go_simp⟩) hHeld2 ?_
            simp only [Act.put, List.setIfInBounds_toArray, List.set_cons_zero, List.set_cons_succ]
            refine takeHYtnjfpgnhmfankaa (i := 22) (d := some 102) (v := .bool false) rfl rfl (by kernel_rfl) (by kernel_rfl) (by kernel_rfl) (fun _ _ _ h => h) (Or.inl ⟨by rfl, by intro w hSw; obtain ⟨hS1, hS2⟩ := hSw; go_simp⟩) hHeld2 ?_
            simp only [Act.put, List.setIfInBounds_toArray, List.set_cons_zero, List.set_cons_succ]
            refine takeHYtnjfpgnhmfankaa (i := 23) (d := some 103) (v := .bool false) rfl rfl (by kernel_rfl) (by kernel_rfl) (by kernel_rfl) (fun _ _ _ h => h) (Or.inl ⟨by rfl, by intro w hSw; obtain ⟨hS1, hS2⟩ := hSw; go_simp⟩) hHeld2 ?_
            simp only [Act.put, List.setIfInBounds_toArray, List.set_cons_zero, List.set_cons_succ]
            refine takeHYtnjfpgnhmfankaa (i := 24) (d := some 104) (v := undef) rfl rfl (by kernel_rfl) (by kernel_rfl) (by kernel_rfl) (fun _ _ _ h => h) (Or.inr ⟨by rfl, rfl⟩) hHeld2 ?_
            simp only [Act.put, List.setIfInBounds_toArray, List.set_cons_zero, List.set_cons_succ]
            refine takeHYtnjfpgnhmfankaa (i := 25) (d := some 105) (v := undef) rfl rfl (by kernel_rfl) (by kernel_rfl) (by kernel_rfl) (fun _ _ _ h => h) (Or.inr ⟨by rfl, rfl⟩) hHeld2 ?_
            simp only [Act.put, List.setIfInBounds_toArray, List.set_cons_zero, List.set_cons_succ]
            refine takeHYtnjfpgnhmfankaa (i := 26) (d := some 106) (v := undef) rfl rfl (by kernel_rfl) (by kernel_rfl) (by kernel_rfl) (fun _ _ _ h => h) (Or.inr ⟨by rfl, rfl⟩) hHeld2 ?_
            simp only [Act.put, List.setIfInBounds_toArray, List.set_cons_zero, List.set_cons_succ]
            refine takeHYtnjfpgnhmfankaa (i := 27) (d := some 107) (v := undef) rfl rfl (by kernel_rfl) (by kernel_rfl) (by kernel_rfl) (fun _ _ _ h => h) (Or.inr ⟨by rfl, rfl⟩) hHeld2 ?_
            simp only [Act.put, List.setIfInBounds_toArray, List.set_cons_zero, List.set_cons_succ]
            refine takeHYtnjfpgnhmfankaa (i := 28) (d := some 108) (v := undef) rfl rfl (by kernel_rfl) (by kernel_rfl) (by kernel_rfl) (fun _ _ _ h => h) (Or.inr ⟨by rfl, rfl⟩) hHeld2 ?_
            simp only [Act.put, List.setIfInBounds_toArray, List.set_cons_zero, List.set_cons_succ]
            refine takeHYtnjfpgnhmfankaa (i := 29) (d := some 109) (v := undef) rfl rfl (by kernel_rfl) (by kernel_rfl) (by kernel_rfl) (fun _ _ _ h => h) (Or.inr ⟨by rfl, rfl⟩) hHeld2 ?_
            simp only [Act.put, List.setIfInBounds_toArray, List.set_cons_zero, List.set_cons_succ]
            refine takeHYtnjfpgnhmfankaa (i := 30) (d := some 110) (v := undef) rfl rfl (by kernel_rfl) (by kernel_rfl) (by kernel_rfl) (fun _ _ _ h => h) (Or.inr ⟨by rfl, rfl⟩) hHeld2 ?_
            simp only [Act.put, List.setIfInBounds_toArray, List.set_cons_zero, List.set_cons_succ]
            refine takeHYtnjfpgnhmfankaa (i := 31) (d := some 111) (v := undef) rfl rfl (by kernel_rfl) (by kernel_rfl) (by kernel_rfl) (fun _ _ _ h => h) (Or.inr ⟨by rfl, rfl⟩) hHeld2 ?_
            simp only [Act.put, List.setIfInBounds_toArray, List.set_cons_zero, List.set_cons_succ]
            refine takeHYtnjfpgnhmfankaa (i := 32) (d := some 112) (v := .bool false) rfl rfl (by kernel_rfl) (by kernel_rfl) (by kernel_rfl) (fun _ _ _ h => h) (Or.inl ⟨by rfl, by intro w hSw; obtain ⟨hS1, hS2⟩ := hSw; go_simp⟩) hHeld2 ?_
            simp only [Act.put, List.setIfInBounds_toArray, List.set_cons_zero, List.set_cons_succ]
            refine takeHYtnjfpgnhmfankaa (i := 33) (d := some 113) (v := .bool false) rfl rfl (by kernel_rfl) (by kernel_rfl) (by kernel_rfl) (fun _ _ _ h => h) (Or.inl ⟨by rfl, by intro w hSw; obtain ⟨hS1, hS2⟩ := hSw; go_simp⟩) hHeld2 ?_
            simp only [Act.put, List.setIfInBounds_toArray, List.set_cons_zero, List.set_cons_succ]
            refine wpAnyH_done (by kernel_rfl) ?_ _
            clear hHeld2
            go_wp2_with fail
            go_roundw
            case rel => exact ⟨j + 1, by go_num, by omega, D5⟩
            case measure => simp [intOf]; omega
          · have hI : dInt (itB x ++ itsB (l.drop (j + 1)), 0) = (x.n, itsB (l.drop (j + 1)), 0) := by
              have hB : itB x = encI x.n := by unfold itB; rw [if_neg hk2]
              rw [hB]
              exact dInt_enc XN.out.1.1 XN.out.1.2 _ _
            have DX0 := HDD.out.int
            rw [hI] at DX0
            have HX : Hid (∀ w' : World, Below w.heap.size w w' → w'.cell? ⟨b, off + j * 4, none⟩ = some (.int .i64 x.k) ∧ w'.cell? ⟨b, off + j * 4 + 1, none⟩ = some (.int .i64 x.n)) := Lib.hid (fun w' hb => by have h := HX1.out w' hb; exact ⟨h.1, h.2.1⟩)
            obtain ⟨km, hkm⟩ : ∃ km, x.k = km := ⟨_, rfl⟩
            obtain ⟨n, hn⟩ : ∃ n, x.n = n := ⟨_, rfl⟩
            rw [hkm, hn] at HX
            rw [hn] at DX0
            rw [hkm] at hk2
            have hk2' : (km == 2) = false := by simpa using hk2
            have DX := Lib.hid DX0
            have cc := HX.out wr.drew BDR.out
            clear hI hkm hn x0 x1 x2 DX0 HDD HX0 HX1
            go_wp2_with fail
            refine wp_region_held (S := fun w' => w'.cell? ⟨b, off + j * 4, none⟩ = some (.int .i64 km) ∧ w'.cell? ⟨b, off + j * 4 + 1, none⟩ = some (.int .i64 n)) (by kernel_rfl) ?_
            have hHeld : (fun w' : World => w'.cell? ⟨b, off + j * 4, none⟩ = some (.int .i64 km) ∧ w'.cell? ⟨b, off + j * 4 + 1, none⟩ = some (.int .i64 n)) { wr with drawn := wr.drawn + 1 } := cc
            clear cc
            refine takeHYtnjfpgnhmfankaa (i := 0) (d := some 80) (v := .slice (some ⟨b, off, none⟩) l.length c) rfl rfl (by kernel_rfl) (by kernel_rfl) (by kernel_rfl) (fun _ _ _ h => h) (Or.inl ⟨by rfl, by intro w hSw; obtain ⟨hS1, hS2⟩ := hSw; go_simp⟩) hHeld ?_
            simp only [Act.put, List.setIfInBounds_toArray, List.set_cons_zero, List.set_cons_succ]
            refine takeHYtnjfpgnhmfankaa (i := 1) (d := some 81) (v := .int .i64 j) rfl rfl (by kernel_rfl) (by kernel_rfl) (by kernel_rfl) (fun _ _ _ h => h) (Or.inl ⟨by rfl, by intro w hSw; obtain ⟨hS1, hS2⟩ := hSw; go_simp⟩) hHeld ?_
            simp only [Act.put, List.setIfInBounds_toArray, List.set_cons_zero, List.set_cons_succ]
            refine takeHYtnjfpgnhmfankaa (i := 2) (d := some 82) (v := .pointer (some ⟨b, off + j * 4, none⟩)) rfl rfl (by kernel_rfl) (by kernel_rfl) (by kernel_rfl) (fun _ _ _ h => h) (Or.inl ⟨by rfl, by intro w hSw; obtain ⟨hS1, hS2⟩ := hSw; go_simp⟩) hHeld ?_
            simp only [Act.put, List.setIfInBounds_toArray, List.set_cons_zero, List.set_cons_succ]
            refine takeHYtnjfpgnhmfankaa (i := 3) (d := some 83) (v := .pointer (some ⟨b, off + j * 4, none⟩)) rfl rfl (by kernel_rfl) (by kernel_rfl) (by kernel_rfl) (fun _ _ _ h => h) (Or.inl ⟨by rfl, by intro w hSw; obtain ⟨hS1, hS2⟩ := hSw; go_simp⟩) hHeld ?_
            simp only [Act.put, List.setIfInBounds_toArray, List.set_cons_zero, List.set_cons_succ]
            refine takeHYtnjfpgnhmfankaa (i := 4) (d := some 84) (v := .int .i64 km) rfl rfl (by kernel_rfl) (by kernel_rfl) (by kernel_rfl) (fun _ _ _ h => h) (Or.inl ⟨by rfl, by intro w hSw; obtain ⟨hS1, hS2⟩ := hSw; go_simp⟩) hHeld ?_
            simp only [Act.put, List.setIfInBounds_toArray, List.set_cons_zero, List.set_cons_succ]
            refine takeHYtnjfpgnhmfankaa (i := 5) (d := some 85) (v := .bool false) rfl rfl (by kernel_rfl) (by kernel_rfl) (by kernel_rfl) (fun _ _ _ h => h) (Or.inl ⟨by rfl, by intro w hSw; obtain ⟨hS1, hS2⟩ := hSw; go_simp⟩) hHeld ?_
            simp only [Act.put, List.setIfInBounds_toArray, List.set_cons_zero, List.set_cons_succ]
            refine takeHYtnjfpgnhmfankaa (i := 6) (d := some 86) (v := .bool false) rfl rfl (by kernel_rfl) (by kernel_rfl) (by kernel_rfl) (fun _ _ _ h => h) (Or.inl ⟨by rfl, by intro w hSw; obtain ⟨hS1, hS2⟩ := hSw; go_simp⟩) hHeld ?_
            simp only [Act.put, List.setIfInBounds_toArray, List.set_cons_zero, List.set_cons_succ]
            refine takeHYtnjfpgnhmfankaa (i := 7) (d := some 87) (v := undef) rfl rfl (by kernel_rfl) (by kernel_rfl) (by kernel_rfl) (fun _ _ _ h => h) (Or.inr ⟨by rfl, rfl⟩) hHeld ?_
            simp only [Act.put, List.setIfInBounds_toArray, List.set_cons_zero, List.set_cons_succ]
            refine takeHYtnjfpgnhmfankaa (i := 8) (d := some 88) (v := undef) rfl rfl (by kernel_rfl) (by kernel_rfl) (by kernel_rfl) (fun _ _ _ h => h) (Or.inr ⟨by rfl, rfl⟩) hHeld ?_
            simp only [Act.put, List.setIfInBounds_toArray, List.set_cons_zero, List.set_cons_succ]
            refine takeHYtnjfpgnhmfankaa (i := 9) (d := some 89) (v := undef) rfl rfl (by kernel_rfl) (by kernel_rfl) (by kernel_rfl) (fun _ _ _ h => h) (Or.inr ⟨by rfl, rfl⟩) hHeld ?_
            simp only [Act.put, List.setIfInBounds_toArray, List.set_cons_zero, List.set_cons_succ]
            refine takeHYtnjfpgnhmfankaa (i := 10) (d := some 90) (v := undef) rfl rfl (by kernel_rfl) (by kernel_rfl) (by kernel_rfl) (fun _ _ _ h => h) (Or.inr ⟨by rfl, rfl⟩) hHeld ?_
            simp only [Act.put, List.setIfInBounds_toArray, List.set_cons_zero, List.set_cons_succ]
            refine takeHYtnjfpgnhmfankaa (i := 11) (d := some 91) (v := undef) rfl rfl (by kernel_rfl) (by kernel_rfl) (by kernel_rfl) (fun _ _ _ h => h) (Or.inr ⟨by rfl, rfl⟩) hHeld ?_
            simp only [Act.put, List.setIfInBounds_toArray, List.set_cons_zero, List.set_cons_succ]
            refine takeHYtnjfpgnhmfankaa (i := 12) (d := some 92) (v := undef) rfl rfl (by kernel_rfl) (by kernel_rfl) (by kernel_rfl) (fun _ _ _ h => h) (Or.inr ⟨by rfl, rfl⟩) hHeld ?_
            simp only [Act.put, List.setIfInBounds_toArray, List.set_cons_zero, List.set_cons_succ]
            refine takeHYtnjfpgnhmfankaa (i := 13) (d := some 93) (v := undef) rfl rfl (by kernel_rfl) (by kernel_rfl) (by kernel_rfl) (fun _ _ _ h => h) (Or.inr ⟨by rfl, rfl⟩) hHeld ?_
            simp only [Act.put, List.setIfInBounds_toArray, List.set_cons_zero, List.set_cons_succ]
            refine takeHYtnjfpgnhmfankaa (i := 14) (d := some 94) (v := undef) rfl rfl (by kernel_rfl) (by kernel_rfl) (by kernel_rfl) (fun _ _ _ h => h) (Or.inr ⟨by rfl, rfl⟩) hHeld ?_
            simp only [Act.put, List.setIfInBounds_toArray, List.set_cons_zero, List.set_cons_succ]
            refine takeHYtnjfpgnhmfankaa (i := 15) (d := some 95) (v := .bool false) rfl rfl (by kernel_rfl) (by kernel_rfl) (by kernel_rfl) (fun _ _ _ h => h) (Or.inl ⟨by rfl, by intro w hSw; obtain ⟨hS1, hS2⟩ := hSw; go_simp⟩) hHeld ?_
            simp only [Act.put, List.setIfInBounds_toArray, List.set_cons_zero, List.set_cons_succ]
            refine takeHYtnjfpgnhmfankaa (i := 16) (d := some 96) (v := .bool false) rfl rfl (by kernel_rfl) (by kernel_rfl) (by kernel_rfl) (fun _ _ _ h => h) (Or.inl ⟨by rfl, by intro w hSw; obtain ⟨hS1, hS2⟩ := hSw; go_simp⟩) hHeld ?_
            simp only [Act.put, List.setIfInBounds_toArray, List.set_cons_zero, List.set_cons_succ]
            refine takeHYtnjfpgnhmfankaa (i := 17) (d := some 97) (v := .slice (some ⟨b, off, none⟩) l.length c) rfl rfl (by kernel_rfl) (by kernel_rfl) (by kernel_rfl) (fun _ _ _ h => h) (Or.inl ⟨by rfl, by intro w hSw; obtain ⟨hS1, hS2⟩ := hSw; go_simp⟩) hHeld ?_
            simp only [Act.put, List.setIfInBounds_toArray, List.set_cons_zero, List.set_cons_succ]
            refine takeHYtnjfpgnhmfankaa (i := 18) (d := some 98) (v := .int .i64 j) rfl rfl (by kernel_rfl) (by kernel_rfl) (by kernel_rfl) (fun _ _ _ h => h) (Or.inl ⟨by rfl, by intro w hSw; obtain ⟨hS1, hS2⟩ := hSw; go_simp⟩) hHeld ?_
            simp only [Act.put, List.setIfInBounds_toArray, List.set_cons_zero, List.set_cons_succ]
            refine takeHYtnjfpgnhmfankaa (i := 19) (d := some 99) (v := .pointer (some ⟨b, off + j * 4, none⟩)) rfl rfl (by kernel_rfl) (by kernel_rfl) (by kernel_rfl) (fun _ _ _ h => h) (Or.inl ⟨by rfl, by intro w hSw; obtain ⟨hS1, hS2⟩ := hSw; go_simp⟩) hHeld ?_
            simp only [Act.put, List.setIfInBounds_toArray, List.set_cons_zero, List.set_cons_succ]
            refine takeHYtnjfpgnhmfankaa (i := 20) (d := some 100) (v := .pointer (some ⟨b, off + j * 4, none⟩)) rfl rfl (by kernel_rfl) (by kernel_rfl) (by kernel_rfl) (fun _ _ _ h => h) (Or.inl ⟨by rfl, by intro w hSw; obtain ⟨hS1, hS2⟩ := hSw; go_simp⟩) hHeld ?_
            simp only [Act.put, List.setIfInBounds_toArray, List.set_cons_zero, List.set_cons_succ]
            refine takeHYtnjfpgnhmfankaa (i := 21) (d := some 101) (v := .int .i64 km) rfl rfl (by kernel_rfl) (by kernel_rfl) (by kernel_rfl) (fun _ _ _ h => h) (Or.inl ⟨by rfl, by intro w hSw; obtain ⟨hS1, hS2⟩ := hSw; go_simp⟩) hHeld ?_
            simp only [Act.put, List.setIfInBounds_toArray, List.set_cons_zero, List.set_cons_succ]
            refine takeHYtnjfpgnhmfankaa (i := 22) (d := some 102) (v := .bool true) rfl rfl (by kernel_rfl) (by kernel_rfl) (by kernel_rfl) (fun _ _ _ h => h) (Or.inl ⟨by rfl, by intro w hSw; obtain ⟨hS1, hS2⟩ := hSw; go_simp⟩) hHeld ?_
            simp only [Act.put, List.setIfInBounds_toArray, List.set_cons_zero, List.set_cons_succ]
            refine takeHYtnjfpgnhmfankaa (i := 23) (d := some 103) (v := .bool true) rfl rfl (by kernel_rfl) (by kernel_rfl) (by kernel_rfl) (fun _ _ _ h => h) (Or.inl ⟨by rfl, by intro w hSw; obtain ⟨hS1, hS2⟩ := hSw; go_simp⟩) hHeld ?_
            simp only [Act.put, List.setIfInBounds_toArray, List.set_cons_zero, List.set_cons_succ]
            refine takeHYtnjfpgnhmfankaa (i := 24) (d := some 104) (v := .pointer (some ⟨q, 0, none⟩)) rfl rfl (by kernel_rfl) (by kernel_rfl) (by kernel_rfl) (fun _ _ _ h => h) (Or.inl ⟨by rfl, by intro w hSw; obtain ⟨hS1, hS2⟩ := hSw; go_simp⟩) hHeld ?_
            simp only [Act.put, List.setIfInBounds_toArray, List.set_cons_zero, List.set_cons_succ]
            refine takeHYtnjfpgnhmfankaa (i := 26) (d := some 106) (v := .slice (some ⟨b, off, none⟩) l.length c) rfl rfl (by kernel_rfl) (by kernel_rfl) (by kernel_rfl) (fun _ _ _ h => h) (Or.inl ⟨by rfl, by intro w hSw; obtain ⟨hS1, hS2⟩ := hSw; go_simp⟩) hHeld ?_
            simp only [Act.put, List.setIfInBounds_toArray, List.set_cons_zero, List.set_cons_succ]
            refine takeHYtnjfpgnhmfankaa (i := 27) (d := some 107) (v := .int .i64 j) rfl rfl (by kernel_rfl) (by kernel_rfl) (by kernel_rfl) (fun _ _ _ h => h) (Or.inl ⟨by rfl, by intro w hSw; obtain ⟨hS1, hS2⟩ := hSw; go_simp⟩) hHeld ?_
            simp only [Act.put, List.setIfInBounds_toArray, List.set_cons_zero, List.set_cons_succ]
            refine takeHYtnjfpgnhmfankaa (i := 28) (d := some 108) (v := .pointer (some ⟨b, off + j * 4, none⟩)) rfl rfl (by kernel_rfl) (by kernel_rfl) (by kernel_rfl) (fun _ _ _ h => h) (Or.inl ⟨by rfl, by intro w hSw; obtain ⟨hS1, hS2⟩ := hSw; go_simp⟩) hHeld ?_
            simp only [Act.put, List.setIfInBounds_toArray, List.set_cons_zero, List.set_cons_succ]
            refine takeHYtnjfpgnhmfankaa (i := 29) (d := some 109) (v := .pointer (some ⟨b, off + j * 4 + 1, none⟩)) rfl rfl (by kernel_rfl) (by kernel_rfl) (by kernel_rfl) (fun _ _ _ h => h) (Or.inl ⟨by rfl, by intro w hSw; obtain ⟨hS1, hS2⟩ := hSw; go_simp⟩) hHeld ?_
            simp only [Act.put, List.setIfInBounds_toArray, List.set_cons_zero, List.set_cons_succ]
            refine takeHYtnjfpgnhmfankaa (i := 30) (d := some 110) (v := .int .i64 n) rfl rfl (by kernel_rfl) (by kernel_rfl) (by kernel_rfl) (fun _ _ _ h => h) (Or.inl ⟨by rfl, by intro w hSw; obtain ⟨hS1, hS2⟩ := hSw; go_simp⟩) hHeld ?_
            simp only [Act.put, List.setIfInBounds_toArray, List.set_cons_zero, List.set_cons_succ]
            refine wpAnyH_ready (rs := [25]) (by kernel_rfl) (by simp) ?_
            refine AllReadyH.cons (o := { dst := some 105, op := Op.call { callee := Callee.value (Operand.func 16), args := #[Operand.tmp 104], argTypes := #[35] }, type := 2, pos := "law.go:61", after := #[{ on := 24, ground := Ground.data }, { on := 23, ground := Ground.chain }, { on := 23, ground := Ground.guard }], guard := some (23, true) }) rfl (fun K hK => ?_) AllReadyH.nil
            go_simp
            refine DX.out.mono ?_
            rintro e w5 ⟨rfl, h5, -⟩
            have D5 := Lib.hid h5
            have cc := HX.out w5 (L2.out.b.trans (D5.out.2.mono L2.out.b.size))
            clear h5
            refine hK.out _ _ cc (fun hHeld2 => ?_)
            try simp only [Act.put, List.setIfInBounds_toArray, List.set_cons_zero, List.set_cons_succ]
            clear hK K hHeld
            refine takeHYtnjfpgnhmfankaa (i := 31) (d := some 111) (v := .bool false) rfl rfl (by kernel_rfl) (by kernel_rfl) (by kernel_rfl) (fun _ _ _ h => h) (Or.inl ⟨by rfl, by intro w hSw; obtain ⟨hS1, hS2⟩ := hSw; go_simp⟩) hHeld2 ?_
            simp only [Act.put, List.setIfInBounds_toArray, List.set_cons_zero, List.set_cons_succ]
            refine takeHYtnjfpgnhmfankaa (i := 32) (d := some 112) (v := .bool false) rfl rfl (by kernel_rfl) (by kernel_rfl) (by kernel_rfl) (fun _ _ _ h => h) (Or.inl ⟨by rfl, by intro w hSw; obtain ⟨hS1, hS2⟩ := hSw; go_simp⟩) hHeld2 ?_
            simp only [Act.put, List.setIfInBounds_toArray, List.set_cons_zero, List.set_cons_succ]
            refine takeHYtnjfpgnhmfankaa (i := 33) (d := some 113) (v := .bool false) rfl rfl (by kernel_rfl) (by kernel_rfl) (by kernel_rfl) (fun _ _ _ h => h) (Or.inl ⟨by rfl, by intro w hSw; obtain ⟨hS1, hS2⟩ := hSw; go_simp⟩) hHeld2 ?_
            simp only [Act.put, List.setIfInBounds_toArray, List.set_cons_zero, List.set_cons_succ]
            refine wpAnyH_done (by kernel_rfl) ?_ _
            clear hHeld2
            go_wp2_with fail
            go_roundw
            case rel => exact ⟨j + 1, by go_num, by omega, D5⟩
            case measure => simp [intOf]; omega
        · obtain rfl : j = l.length := by omega
          have D5 := Lib.hid (show DecN w2 wr q ([], 0) from by have := hD.out; rwa [List.drop_length] at this)
          have P := Lib.hid B4.out
          clear hD
          go_wp2_with fail
          refine (decLeft_any q _ _ wr D5.out.1).mono ?_
          rintro e w5 ⟨rfl, rfl⟩
          go_wp2_with fail
          refine (decErr_any q _ _ w5 D5.out.1).mono ?_
          rintro e w6 ⟨rfl, rfl⟩
          go_wp2_with fail
          go_ret
          exact ⟨rfl, P.out⟩

end Go.Proofs.Ytnjfpgnhmfankaa
