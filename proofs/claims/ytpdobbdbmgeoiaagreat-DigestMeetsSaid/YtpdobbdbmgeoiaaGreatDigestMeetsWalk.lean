/-
  No statement: DigestMeets' walk.
-/
import Derived.Test.YtpdobbdbmgeoiaaGreatDgM4
import Derived.Test.YtpdobbdbmgeoiaaGreatDgKnown
import Derived.Test.YtpdobbdbmgeoiaaGreatDgSameR
import Derived.Test.YtpdobbdbmgeoiaaGreatDgTab
import Derived.Test.YtpdobbdbmgeoiaaGreatDgM1
import Derived.Test.YtpdobbdbmgeoiaaGreatRT5
import Derived.Test.YtpdobbdbmgeoiaaGreatTake
import Derived.Deep.Cut
import Derived.Deep.RegionHeld3
import Derived.Deep.RegionLaw
set_option linter.unusedVariables false
set_option linter.unusedSimpArgs false
namespace Go.Proofs.YtpdobbdbmgeoiaaGreat
open Go.RowKit

/-- Two rows of one key and one stamp are the same. -/
def NoCl (x y : RD) : Prop := x.key = y.key → cmR x y = 0 → sameR x y = true

set_option maxHeartbeats 32000000 in
set_option maxRecDepth 100000 in
theorem digestMeets_walk (a : Option Addr) (c : Nat) (al : List RD) (b : Option Addr) (d : Nat) (bl : List RD) (hc : al.length ≤ c) (ga : ∀ x ∈ al, GoR x) (hd : bl.length ≤ d) (gb : ∀ x ∈ bl, GoR x) (w : World)
    (h : ReadsRG (fun q => q < w.heap.size) w a al.length (atD al)) (h2 : ReadsRG (fun q => q < w.heap.size) w b bl.length (atD bl)) :
    Calls Tryz.prog 4 #[.slice a al.length c, .slice b bl.length d] w fun e w' => e = .returned (.bool true) ∧ Below w.heap.size w w' := by
  have HA := Lib.hid (p := ∀ u, Below w.heap.size w u → ReadsRG (fun q => q < u.heap.size) u a al.length (atD al)) (fun u hb => (h.kept (keptBelow hb) (fun q hq h => by omega)).mono (fun q h _ => by have := hb.size; omega))
  have HB := Lib.hid (p := ∀ u, Below w.heap.size w u → ReadsRG (fun q => q < u.heap.size) u b bl.length (atD bl)) (fun u hb => (h2.kept (keptBelow hb) (fun q hq h => by omega)).mono (fun q h _ => by have := hb.size; omega))
  have GA := Lib.hid ga
  have GB := Lib.hid gb
  have HC := Lib.hid hc
  have HD := Lib.hid hd
  clear h h2 ga gb hc hd
  go_enter Tryz.func4, Tryz.ntmps4
  go_wp2_with fail
  refine (known14_any w).mono ?_
  rintro e w1 ⟨rfl, hb1⟩
  have B1 := Lib.hid hb1
  clear hb1
  go_wp2_with fail
  refine (rise_any al a c GA.out w1 (HA.out w1 B1.out)).mono ?_
  rintro e w2 ⟨⟨r, rfl, hr⟩, hb2⟩
  have B2 := Lib.hid (B1.out.trans (hb2.mono B1.out.size))
  have HR := Lib.hid hr
  clear hb2 hr B1 GA
  cases r with
  | false =>
    go_wp2_with fail
    go_ret
    exact ⟨rfl, B2.out⟩
  | true =>
  have RA := Lib.hid (HR.out (by trivial))
  have ha64 := RA.out.n
  clear HR
  go_wp2_with fail
  refine (rise_any bl b d GB.out w2 (HB.out w2 B2.out)).mono ?_
  rintro e w3 ⟨⟨r, rfl, hr⟩, hb3⟩
  have B3 := Lib.hid (B2.out.trans (hb3.mono B2.out.size))
  have HR := Lib.hid hr
  clear hb3 hr B2 GB
  cases r with
  | false =>
    go_wp2_with fail
    go_ret
    exact ⟨rfl, B3.out⟩
  | true =>
  have RB := Lib.hid (HR.out (by trivial))
  have hb64 := RB.out.n
  clear HR
  have hwr : IntKind.i64.wrap ((al.length : Int) + (bl.length : Int)) = (al.length : Int) + (bl.length : Int) := IntWalk.i64_in _ (by omega)
  by_cases h64 : 64 < al.length + bl.length
  · have d1 : (64 : Int) < (al.length : Int) + (bl.length : Int) := by omega
    have d2 : (64 : Int) < ((al.length + bl.length : Nat) : Int) := by omega
    go_wp2_with fail
    go_ret
    exact ⟨rfl, B3.out⟩
  have d1 : ¬ (64 : Int) < (al.length : Int) + (bl.length : Int) := by omega
  go_wp2_with fail
  clear d1 hwr
  have NB := Lib.hid (p := ∀ i, i < al.length → ∀ k, k < bl.length → ∀ q, NoCl (atD al i) (atD bl k) → (q = false ∨ q = true)) (fun i hi k hk q _ => by cases q <;> simp)
  clear NB
  go_loopw [5, 6] (fun i _ wr => ∃ k : Nat, i = .int .i64 k ∧ k ≤ al.length ∧ Hid (∀ i, i < k → ∀ j, j < bl.length → NoCl (atD al i) (atD bl j)) ∧ Hid (Below w.heap.size w wr)) (fun i _ _ => al.length - (intOf i).toNat)
  case atStart => exact ⟨0, rfl, Nat.zero_le _, Lib.hid (fun j h => by omega), B3⟩
  case round =>
    clear B3
    obtain ⟨i, rfl, hi, NI, B4⟩ := hrel
    by_cases hlt : i < al.length
    · have e1 : (i : Int) < (al.length : Int) := by omega
      go_wp2_with fail
      go_loopw [6] (fun k wr => ∃ j : Nat, k = .int .i64 j ∧ j ≤ bl.length ∧ Hid (∀ j', j' < j → NoCl (atD al i) (atD bl j')) ∧ Hid (Below w.heap.size w wr)) (fun k _ => bl.length - (intOf k).toNat)
      case atStart => exact ⟨0, rfl, Nat.zero_le _, Lib.hid (fun j h => by omega), B4⟩
      case round =>
        clear B4
        obtain ⟨j, rfl, hj, NJ, B5⟩ := hrel
        by_cases hlj : j < bl.length
        · have e2 : (j : Int) < (bl.length : Int) := by omega
          obtain ⟨b1, o1, y1, c1, hab1, hb1, p6, hy1⟩ := (HA.out wr B5.out).cellsD hlt
          obtain ⟨b2, o2, y2, c2, hab2, hb2, q6, hy2⟩ := (HB.out wr B5.out).cellsD hlj
          subst hab1
          subst hab2
          have hxl : (atD al i).len ≤ 1000000 := by rw [atD_lt hlt]; exact Nat.le_trans (RA.out.f _ (List.getElem_mem _)).l (by omega)
          obtain ⟨x, hx⟩ : ∃ x, atD al i = x := ⟨_, rfl⟩
          obtain ⟨X, hX⟩ : ∃ X, atD bl j = X := ⟨_, rfl⟩
          have HX := Lib.hid hx
          have HXX := Lib.hid hX
          rw [hx] at p6 hy1 hxl
          rw [hX] at q6 hy2
          have HDR := Lib.hid (drewD wr)
          have CMP := Lib.hid (p := ∀ W, Calls Tryz.prog 23 #[.agg #[.int .i64 x.t, .int .i64 x.i, .int .i64 x.q, .string x.o], .agg #[.int .i64 X.t, .int .i64 X.i, .int .i64 X.q, .string X.o]] W fun e w' => e = .returned (.int .i64 (cmR x X)) ∧ Below W.heap.size W w') (fun W => stampCompare_any x.t x.i x.q x.o X.t X.i X.q X.o W)
          have SAM := Lib.hid (p := ∀ W, Below wr.heap.size wr W → Calls Tryz.prog 24 #[.agg #[.string x.key, .int .i64 x.t, .int .i64 x.i, .int .i64 x.q, .string x.o, .slice y1 x.len c1], .agg #[.string X.key, .int .i64 X.t, .int .i64 X.i, .int .i64 X.q, .string X.o, .slice y2 X.len c2]] W fun e w' => e = .returned (.bool (sameR x X)) ∧ Below W.heap.size W w') (fun W hb => rowSame_any x X y1 y2 c1 c2 hxl W (hy1.plain.kept hb) (hy2.plain.kept hb))
          have HCC := Lib.hid (p := ∀ w', Below wr.heap.size wr w' → (w'.cell? ⟨b1, o1 + i * 6, none⟩ = some (.string x.key) ∧ w'.cell? ⟨b1, o1 + i * 6 + 1, none⟩ = some (.int .i64 x.t) ∧ w'.cell? ⟨b1, o1 + i * 6 + 2, none⟩ = some (.int .i64 x.i) ∧ w'.cell? ⟨b1, o1 + i * 6 + 3, none⟩ = some (.int .i64 x.q) ∧ w'.cell? ⟨b1, o1 + i * 6 + 4, none⟩ = some (.string x.o) ∧ w'.cell? ⟨b1, o1 + i * 6 + 5, none⟩ = some (.slice y1 x.len c1)) ∧ (w'.cell? ⟨b2, o2 + j * 6, none⟩ = some (.string X.key) ∧ w'.cell? ⟨b2, o2 + j * 6 + 1, none⟩ = some (.int .i64 X.t) ∧ w'.cell? ⟨b2, o2 + j * 6 + 2, none⟩ = some (.int .i64 X.i) ∧ w'.cell? ⟨b2, o2 + j * 6 + 3, none⟩ = some (.int .i64 X.q) ∧ w'.cell? ⟨b2, o2 + j * 6 + 4, none⟩ = some (.string X.o) ∧ w'.cell? ⟨b2, o2 + j * 6 + 5, none⟩ = some (.slice y2 X.len c2))) (fun w' hb => ⟨p6.keptS (keptNew hb) (fun h => h), q6.keptS (keptNew hb) (fun h => h)⟩)
          obtain ⟨⟨x0, x1, x2, x3, x4, x5⟩, z0, z1, z2, z3, z4, z5⟩ := HCC.out wr (Below.refl _ _)
          clear p6 q6 hy1 hy2 hx hX hxl hb1 hb2
          cases hk : (x.key.toList == X.key.toList) with
          | false =>
            have D0 := Lib.hid (p := ∀ n, Below w.heap.size w (wr.drewN n)) (fun n => B5.out.trans ((drewND wr n).mono B5.out.size))
            have NJ2 := Lib.hid (p := ∀ j', j' < j + 1 → NoCl (atD al i) (atD bl j')) (fun j' hj' => by
              by_cases e : j' = j
              · rw [e, HX.out, HXX.out]; exact fun he _ => by rw [key_eq.2 he] at hk; cases hk
              · exact NJ.out j' (by omega))
            clear CMP SAM HDR HCC
            go_wp2_with (go_quiet (fail))
            go_roundw
            case rel => exact ⟨j + 1, by go_num, by omega, NJ2, Lib.hid (D0.out _)⟩
            case measure => simp [intOf]; omega
          | true =>
            obtain ⟨C, hC⟩ : ∃ C, cmR x X = C := ⟨_, rfl⟩
            have HCR := Lib.hid hC
            rw [hC] at CMP
            clear hC
            by_cases hC0 : C = 0
            · subst hC0
              cases hs : sameR x X with
              | true =>
                rw [hs] at SAM
                go_upto_region 11 with fail
                go_region_held3 (fun w' => (w'.cell? ⟨b1, o1 + i * 6, none⟩ = some (.string x.key) ∧ w'.cell? ⟨b1, o1 + i * 6 + 1, none⟩ = some (.int .i64 x.t) ∧ w'.cell? ⟨b1, o1 + i * 6 + 2, none⟩ = some (.int .i64 x.i) ∧ w'.cell? ⟨b1, o1 + i * 6 + 3, none⟩ = some (.int .i64 x.q) ∧ w'.cell? ⟨b1, o1 + i * 6 + 4, none⟩ = some (.string x.o) ∧ w'.cell? ⟨b1, o1 + i * 6 + 5, none⟩ = some (.slice y1 x.len c1)) ∧ (w'.cell? ⟨b2, o2 + j * 6, none⟩ = some (.string X.key) ∧ w'.cell? ⟨b2, o2 + j * 6 + 1, none⟩ = some (.int .i64 X.t) ∧ w'.cell? ⟨b2, o2 + j * 6 + 2, none⟩ = some (.int .i64 X.i) ∧ w'.cell? ⟨b2, o2 + j * 6 + 3, none⟩ = some (.int .i64 X.q) ∧ w'.cell? ⟨b2, o2 + j * 6 + 4, none⟩ = some (.string X.o) ∧ w'.cell? ⟨b2, o2 + j * 6 + 5, none⟩ = some (.slice y2 X.len c2))) (first | assumption | exact HCC.out _ B10.out | exact HCC.out _ B9.out | (refine ⟨⟨?_, ?_, ?_, ?_, ?_, ?_⟩, ?_, ?_, ?_, ?_, ?_, ?_⟩ <;> (first | assumption | (go_keep; done)))) (first
                  | (go_at_call 23
                     with_reducible refine (CMP.out _).mono ?_
                     rintro e w9 ⟨rfl, hb⟩
                     have B9 := Lib.hid (HDR.out.trans (hb.mono HDR.out.size))
                     have cc := HCC.out _ B9.out
                     clear hb)
                  | (go_at_call 24
                     with_reducible refine (SAM.out _ B9.out).mono ?_
                     rintro e w10 ⟨rfl, hb⟩
                     have B10 := Lib.hid (B9.out.trans (hb.mono B9.out.size))
                     have cc := HCC.out _ B10.out
                     clear hb)
                  | fail)
                have P9 := Lib.hid (B5.out.trans (B10.out.mono B5.out.size))
                have NJ2 := Lib.hid (p := ∀ j', j' < j + 1 → NoCl (atD al i) (atD bl j')) (fun j' hj' => by
                  by_cases e : j' = j
                  · rw [e, HX.out, HXX.out]; exact fun _ _ => hs
                  · exact NJ.out j' (by omega))
                clear x0 x1 x2 x3 x4 x5 z0 z1 z2 z3 z4 z5
                go_wp2_with fail
                go_roundw
                case rel => exact ⟨j + 1, by go_num, by omega, NJ2, P9⟩
                case measure => simp [intOf]; omega
              | false =>
                rw [hs] at SAM
                go_upto_region 11 with fail
                go_region_held3 (fun w' => (w'.cell? ⟨b1, o1 + i * 6, none⟩ = some (.string x.key) ∧ w'.cell? ⟨b1, o1 + i * 6 + 1, none⟩ = some (.int .i64 x.t) ∧ w'.cell? ⟨b1, o1 + i * 6 + 2, none⟩ = some (.int .i64 x.i) ∧ w'.cell? ⟨b1, o1 + i * 6 + 3, none⟩ = some (.int .i64 x.q) ∧ w'.cell? ⟨b1, o1 + i * 6 + 4, none⟩ = some (.string x.o) ∧ w'.cell? ⟨b1, o1 + i * 6 + 5, none⟩ = some (.slice y1 x.len c1)) ∧ (w'.cell? ⟨b2, o2 + j * 6, none⟩ = some (.string X.key) ∧ w'.cell? ⟨b2, o2 + j * 6 + 1, none⟩ = some (.int .i64 X.t) ∧ w'.cell? ⟨b2, o2 + j * 6 + 2, none⟩ = some (.int .i64 X.i) ∧ w'.cell? ⟨b2, o2 + j * 6 + 3, none⟩ = some (.int .i64 X.q) ∧ w'.cell? ⟨b2, o2 + j * 6 + 4, none⟩ = some (.string X.o) ∧ w'.cell? ⟨b2, o2 + j * 6 + 5, none⟩ = some (.slice y2 X.len c2))) (first | assumption | exact HCC.out _ B10.out | exact HCC.out _ B9.out | (refine ⟨⟨?_, ?_, ?_, ?_, ?_, ?_⟩, ?_, ?_, ?_, ?_, ?_, ?_⟩ <;> (first | assumption | (go_keep; done)))) (first
                  | (go_at_call 23
                     with_reducible refine (CMP.out _).mono ?_
                     rintro e w9 ⟨rfl, hb⟩
                     have B9 := Lib.hid (HDR.out.trans (hb.mono HDR.out.size))
                     have cc := HCC.out _ B9.out
                     clear hb)
                  | (go_at_call 24
                     with_reducible refine (SAM.out _ B9.out).mono ?_
                     rintro e w10 ⟨rfl, hb⟩
                     have B10 := Lib.hid (B9.out.trans (hb.mono B9.out.size))
                     have cc := HCC.out _ B10.out
                     clear hb)
                  | fail)
                have P9 := Lib.hid (B5.out.trans (B10.out.mono B5.out.size))
                go_wp2_with fail
                go_ret
                exact ⟨rfl, P9.out⟩
            · have hC3 : C = -1 ∨ C = 1 := by
                have h3 := cmpSt_three x.t x.i x.q x.o X.t X.i X.q X.o
                have h4 : cmpSt x.t x.i x.q x.o X.t X.i X.q X.o = C := HCR.out
                omega
              rcases hC3 with rfl | rfl
              · go_upto_region 11 with fail
                refine wp_region_held_drew (S := fun w' => (w'.cell? ⟨b1, o1 + i * 6, none⟩ = some (.string x.key) ∧ w'.cell? ⟨b1, o1 + i * 6 + 1, none⟩ = some (.int .i64 x.t) ∧ w'.cell? ⟨b1, o1 + i * 6 + 2, none⟩ = some (.int .i64 x.i) ∧ w'.cell? ⟨b1, o1 + i * 6 + 3, none⟩ = some (.int .i64 x.q) ∧ w'.cell? ⟨b1, o1 + i * 6 + 4, none⟩ = some (.string x.o) ∧ w'.cell? ⟨b1, o1 + i * 6 + 5, none⟩ = some (.slice y1 x.len c1)) ∧ (w'.cell? ⟨b2, o2 + j * 6, none⟩ = some (.string X.key) ∧ w'.cell? ⟨b2, o2 + j * 6 + 1, none⟩ = some (.int .i64 X.t) ∧ w'.cell? ⟨b2, o2 + j * 6 + 2, none⟩ = some (.int .i64 X.i) ∧ w'.cell? ⟨b2, o2 + j * 6 + 3, none⟩ = some (.int .i64 X.q) ∧ w'.cell? ⟨b2, o2 + j * 6 + 4, none⟩ = some (.string X.o) ∧ w'.cell? ⟨b2, o2 + j * 6 + 5, none⟩ = some (.slice y2 X.len c2))) (by kernel_rfl) (HCC.out _ HDR.out) (fun hHeld => ?_)
                refine takeHYtpdobbdbmgeoiaaGreat (i := 0) (d := some 44) (v := .slice (some ⟨b1, o1, none⟩) al.length c) rfl rfl (by kernel_rfl) (by kernel_rfl) (by kernel_rfl) (fun _ _ _ h => h) (Or.inl ⟨by rfl, by intro w hSw; obtain ⟨⟨u0, u1, u2, u3, u4, u5⟩, v0, v1, v2, v3, v4, v5⟩ := hSw; go_simp⟩) hHeld ?_
                simp only [Act.put, List.setIfInBounds_toArray, List.set_cons_zero, List.set_cons_succ]
                refine takeHYtpdobbdbmgeoiaaGreat (i := 1) (d := some 45) (v := .int .i64 (i : Nat)) rfl rfl (by kernel_rfl) (by kernel_rfl) (by kernel_rfl) (fun _ _ _ h => h) (Or.inl ⟨by rfl, by intro w hSw; obtain ⟨⟨u0, u1, u2, u3, u4, u5⟩, v0, v1, v2, v3, v4, v5⟩ := hSw; go_simp⟩) hHeld ?_
                simp only [Act.put, List.setIfInBounds_toArray, List.set_cons_zero, List.set_cons_succ]
                refine takeHYtpdobbdbmgeoiaaGreat (i := 2) (d := some 46) (v := .pointer (some ⟨b1, o1 + i * 6, none⟩)) rfl rfl (by kernel_rfl) (by kernel_rfl) (by kernel_rfl) (fun _ _ _ h => h) (Or.inl ⟨by rfl, by intro w hSw; obtain ⟨⟨u0, u1, u2, u3, u4, u5⟩, v0, v1, v2, v3, v4, v5⟩ := hSw; go_simp⟩) hHeld ?_
                simp only [Act.put, List.setIfInBounds_toArray, List.set_cons_zero, List.set_cons_succ]
                refine takeHYtpdobbdbmgeoiaaGreat (i := 3) (d := some 47) (v := .pointer (some ⟨b1, o1 + i * 6, none⟩)) rfl rfl (by kernel_rfl) (by kernel_rfl) (by kernel_rfl) (fun _ _ _ h => h) (Or.inl ⟨by rfl, by intro w hSw; obtain ⟨⟨u0, u1, u2, u3, u4, u5⟩, v0, v1, v2, v3, v4, v5⟩ := hSw; go_simp⟩) hHeld ?_
                simp only [Act.put, List.setIfInBounds_toArray, List.set_cons_zero, List.set_cons_succ]
                refine takeHYtpdobbdbmgeoiaaGreat (i := 4) (d := some 48) (v := .string x.key) rfl rfl (by kernel_rfl) (by kernel_rfl) (by kernel_rfl) (fun _ _ _ h => h) (Or.inl ⟨by rfl, by intro w hSw; obtain ⟨⟨u0, u1, u2, u3, u4, u5⟩, v0, v1, v2, v3, v4, v5⟩ := hSw; go_simp⟩) hHeld ?_
                simp only [Act.put, List.setIfInBounds_toArray, List.set_cons_zero, List.set_cons_succ]
                refine takeHYtpdobbdbmgeoiaaGreat (i := 5) (d := some 49) (v := .slice (some ⟨b2, o2, none⟩) bl.length d) rfl rfl (by kernel_rfl) (by kernel_rfl) (by kernel_rfl) (fun _ _ _ h => h) (Or.inl ⟨by rfl, by intro w hSw; obtain ⟨⟨u0, u1, u2, u3, u4, u5⟩, v0, v1, v2, v3, v4, v5⟩ := hSw; go_simp⟩) hHeld ?_
                simp only [Act.put, List.setIfInBounds_toArray, List.set_cons_zero, List.set_cons_succ]
                refine takeHYtpdobbdbmgeoiaaGreat (i := 6) (d := some 50) (v := .int .i64 (j : Nat)) rfl rfl (by kernel_rfl) (by kernel_rfl) (by kernel_rfl) (fun _ _ _ h => h) (Or.inl ⟨by rfl, by intro w hSw; obtain ⟨⟨u0, u1, u2, u3, u4, u5⟩, v0, v1, v2, v3, v4, v5⟩ := hSw; go_simp⟩) hHeld ?_
                simp only [Act.put, List.setIfInBounds_toArray, List.set_cons_zero, List.set_cons_succ]
                refine takeHYtpdobbdbmgeoiaaGreat (i := 7) (d := some 51) (v := .pointer (some ⟨b2, o2 + j * 6, none⟩)) rfl rfl (by kernel_rfl) (by kernel_rfl) (by kernel_rfl) (fun _ _ _ h => h) (Or.inl ⟨by rfl, by intro w hSw; obtain ⟨⟨u0, u1, u2, u3, u4, u5⟩, v0, v1, v2, v3, v4, v5⟩ := hSw; go_simp⟩) hHeld ?_
                simp only [Act.put, List.setIfInBounds_toArray, List.set_cons_zero, List.set_cons_succ]
                refine takeHYtpdobbdbmgeoiaaGreat (i := 8) (d := some 52) (v := .pointer (some ⟨b2, o2 + j * 6, none⟩)) rfl rfl (by kernel_rfl) (by kernel_rfl) (by kernel_rfl) (fun _ _ _ h => h) (Or.inl ⟨by rfl, by intro w hSw; obtain ⟨⟨u0, u1, u2, u3, u4, u5⟩, v0, v1, v2, v3, v4, v5⟩ := hSw; go_simp⟩) hHeld ?_
                simp only [Act.put, List.setIfInBounds_toArray, List.set_cons_zero, List.set_cons_succ]
                refine takeHYtpdobbdbmgeoiaaGreat (i := 9) (d := some 53) (v := .string X.key) rfl rfl (by kernel_rfl) (by kernel_rfl) (by kernel_rfl) (fun _ _ _ h => h) (Or.inl ⟨by rfl, by intro w hSw; obtain ⟨⟨u0, u1, u2, u3, u4, u5⟩, v0, v1, v2, v3, v4, v5⟩ := hSw; go_simp⟩) hHeld ?_
                simp only [Act.put, List.setIfInBounds_toArray, List.set_cons_zero, List.set_cons_succ]
                refine takeHYtpdobbdbmgeoiaaGreat (i := 10) (d := some 54) (v := .bool true) rfl rfl (by kernel_rfl) (by kernel_rfl) (by kernel_rfl) (fun _ _ _ h => h) (Or.inl ⟨by rfl, by intro w hSw; obtain ⟨⟨u0, u1, u2, u3, u4, u5⟩, v0, v1, v2, v3, v4, v5⟩ := hSw; go_simp⟩) hHeld ?_
                simp only [Act.put, List.setIfInBounds_toArray, List.set_cons_zero, List.set_cons_succ]
                refine takeHYtpdobbdbmgeoiaaGreat (i := 11) (d := some 55) (v := .bool true) rfl rfl (by kernel_rfl) (by kernel_rfl) (by kernel_rfl) (fun _ _ _ h => h) (Or.inl ⟨by rfl, by intro w hSw; obtain ⟨⟨u0, u1, u2, u3, u4, u5⟩, v0, v1, v2, v3, v4, v5⟩ := hSw; go_simp⟩) hHeld ?_
                simp only [Act.put, List.setIfInBounds_toArray, List.set_cons_zero, List.set_cons_succ]
                refine takeHYtpdobbdbmgeoiaaGreat (i := 12) (d := some 56) (v := .slice (some ⟨b1, o1, none⟩) al.length c) rfl rfl (by kernel_rfl) (by kernel_rfl) (by kernel_rfl) (fun _ _ _ h => h) (Or.inl ⟨by rfl, by intro w hSw; obtain ⟨⟨u0, u1, u2, u3, u4, u5⟩, v0, v1, v2, v3, v4, v5⟩ := hSw; go_simp⟩) hHeld ?_
                simp only [Act.put, List.setIfInBounds_toArray, List.set_cons_zero, List.set_cons_succ]
                refine takeHYtpdobbdbmgeoiaaGreat (i := 13) (d := some 57) (v := .int .i64 (i : Nat)) rfl rfl (by kernel_rfl) (by kernel_rfl) (by kernel_rfl) (fun _ _ _ h => h) (Or.inl ⟨by rfl, by intro w hSw; obtain ⟨⟨u0, u1, u2, u3, u4, u5⟩, v0, v1, v2, v3, v4, v5⟩ := hSw; go_simp⟩) hHeld ?_
                simp only [Act.put, List.setIfInBounds_toArray, List.set_cons_zero, List.set_cons_succ]
                refine takeHYtpdobbdbmgeoiaaGreat (i := 14) (d := some 58) (v := .pointer (some ⟨b1, o1 + i * 6, none⟩)) rfl rfl (by kernel_rfl) (by kernel_rfl) (by kernel_rfl) (fun _ _ _ h => h) (Or.inl ⟨by rfl, by intro w hSw; obtain ⟨⟨u0, u1, u2, u3, u4, u5⟩, v0, v1, v2, v3, v4, v5⟩ := hSw; go_simp⟩) hHeld ?_
                simp only [Act.put, List.setIfInBounds_toArray, List.set_cons_zero, List.set_cons_succ]
                refine takeHYtpdobbdbmgeoiaaGreat (i := 15) (d := some 59) (v := .pointer (some ⟨b1, o1 + i * 6 + 1, none⟩)) rfl rfl (by kernel_rfl) (by kernel_rfl) (by kernel_rfl) (fun _ _ _ h => h) (Or.inl ⟨by rfl, by intro w hSw; obtain ⟨⟨u0, u1, u2, u3, u4, u5⟩, v0, v1, v2, v3, v4, v5⟩ := hSw; go_simp⟩) hHeld ?_
                simp only [Act.put, List.setIfInBounds_toArray, List.set_cons_zero, List.set_cons_succ]
                refine takeHYtpdobbdbmgeoiaaGreat (i := 16) (d := some 60) (v := .agg #[.int .i64 x.t, .int .i64 x.i, .int .i64 x.q, .string x.o]) rfl rfl (by kernel_rfl) (by kernel_rfl) (by kernel_rfl) (fun _ _ _ h => h) (Or.inl ⟨by rfl, by intro w hSw; obtain ⟨⟨u0, u1, u2, u3, u4, u5⟩, v0, v1, v2, v3, v4, v5⟩ := hSw; go_simp⟩) hHeld ?_
                simp only [Act.put, List.setIfInBounds_toArray, List.set_cons_zero, List.set_cons_succ]
                refine takeHYtpdobbdbmgeoiaaGreat (i := 17) (d := some 61) (v := .slice (some ⟨b2, o2, none⟩) bl.length d) rfl rfl (by kernel_rfl) (by kernel_rfl) (by kernel_rfl) (fun _ _ _ h => h) (Or.inl ⟨by rfl, by intro w hSw; obtain ⟨⟨u0, u1, u2, u3, u4, u5⟩, v0, v1, v2, v3, v4, v5⟩ := hSw; go_simp⟩) hHeld ?_
                simp only [Act.put, List.setIfInBounds_toArray, List.set_cons_zero, List.set_cons_succ]
                refine takeHYtpdobbdbmgeoiaaGreat (i := 18) (d := some 62) (v := .int .i64 (j : Nat)) rfl rfl (by kernel_rfl) (by kernel_rfl) (by kernel_rfl) (fun _ _ _ h => h) (Or.inl ⟨by rfl, by intro w hSw; obtain ⟨⟨u0, u1, u2, u3, u4, u5⟩, v0, v1, v2, v3, v4, v5⟩ := hSw; go_simp⟩) hHeld ?_
                simp only [Act.put, List.setIfInBounds_toArray, List.set_cons_zero, List.set_cons_succ]
                refine takeHYtpdobbdbmgeoiaaGreat (i := 19) (d := some 63) (v := .pointer (some ⟨b2, o2 + j * 6, none⟩)) rfl rfl (by kernel_rfl) (by kernel_rfl) (by kernel_rfl) (fun _ _ _ h => h) (Or.inl ⟨by rfl, by intro w hSw; obtain ⟨⟨u0, u1, u2, u3, u4, u5⟩, v0, v1, v2, v3, v4, v5⟩ := hSw; go_simp⟩) hHeld ?_
                simp only [Act.put, List.setIfInBounds_toArray, List.set_cons_zero, List.set_cons_succ]
                refine takeHYtpdobbdbmgeoiaaGreat (i := 20) (d := some 64) (v := .pointer (some ⟨b2, o2 + j * 6 + 1, none⟩)) rfl rfl (by kernel_rfl) (by kernel_rfl) (by kernel_rfl) (fun _ _ _ h => h) (Or.inl ⟨by rfl, by intro w hSw; obtain ⟨⟨u0, u1, u2, u3, u4, u5⟩, v0, v1, v2, v3, v4, v5⟩ := hSw; go_simp⟩) hHeld ?_
                simp only [Act.put, List.setIfInBounds_toArray, List.set_cons_zero, List.set_cons_succ]
                refine takeHYtpdobbdbmgeoiaaGreat (i := 21) (d := some 65) (v := .agg #[.int .i64 X.t, .int .i64 X.i, .int .i64 X.q, .string X.o]) rfl rfl (by kernel_rfl) (by kernel_rfl) (by kernel_rfl) (fun _ _ _ h => h) (Or.inl ⟨by rfl, by intro w hSw; obtain ⟨⟨u0, u1, u2, u3, u4, u5⟩, v0, v1, v2, v3, v4, v5⟩ := hSw; go_simp⟩) hHeld ?_
                simp only [Act.put, List.setIfInBounds_toArray, List.set_cons_zero, List.set_cons_succ]
                refine wpAnyH_ready (rs := [22]) (by kernel_rfl) (by simp) ?_
                refine AllReadyH.cons (o := _) rfl (fun K hK => ?_) AllReadyH.nil
                go_simp
                refine (CMP.out _).mono ?_
                rintro e w9 ⟨rfl, hb⟩
                have B9 := Lib.hid (HDR.out.trans (hb.mono HDR.out.size))
                have cc := HCC.out _ B9.out
                clear hb
                refine hK.out _ _ cc (fun hHeld2 => ?_)
                try simp only [Act.put, List.setIfInBounds_toArray, List.set_cons_zero, List.set_cons_succ]
                clear hK K
                refine takeHYtpdobbdbmgeoiaaGreat (i := 23) (d := some 67) (v := .bool false) rfl rfl (by kernel_rfl) (by kernel_rfl) (by kernel_rfl) (fun _ _ _ h => h) (Or.inl ⟨by rfl, by intro w hSw; obtain ⟨⟨u0, u1, u2, u3, u4, u5⟩, v0, v1, v2, v3, v4, v5⟩ := hSw; go_simp⟩) hHeld2 ?_
                simp only [Act.put, List.setIfInBounds_toArray, List.set_cons_zero, List.set_cons_succ]
                refine takeHYtpdobbdbmgeoiaaGreat (i := 24) (d := some 68) (v := .bool false) rfl rfl (by kernel_rfl) (by kernel_rfl) (by kernel_rfl) (fun _ _ _ h => h) (Or.inl ⟨by rfl, by intro w hSw; obtain ⟨⟨u0, u1, u2, u3, u4, u5⟩, v0, v1, v2, v3, v4, v5⟩ := hSw; go_simp⟩) hHeld2 ?_
                simp only [Act.put, List.setIfInBounds_toArray, List.set_cons_zero, List.set_cons_succ]
                refine takeHYtpdobbdbmgeoiaaGreat (i := 25) (d := some 69) (v := .bool false) rfl rfl (by kernel_rfl) (by kernel_rfl) (by kernel_rfl) (fun _ _ _ h => h) (Or.inl ⟨by rfl, by intro w hSw; obtain ⟨⟨u0, u1, u2, u3, u4, u5⟩, v0, v1, v2, v3, v4, v5⟩ := hSw; go_simp⟩) hHeld2 ?_
                simp only [Act.put, List.setIfInBounds_toArray, List.set_cons_zero, List.set_cons_succ]
                refine takeHYtpdobbdbmgeoiaaGreat (i := 26) (d := some 70) (v := undef) rfl rfl (by kernel_rfl) (by kernel_rfl) (by kernel_rfl) (fun _ _ _ h => h) (Or.inr ⟨by rfl, rfl⟩) hHeld2 ?_
                simp only [Act.put, List.setIfInBounds_toArray, List.set_cons_zero, List.set_cons_succ]
                refine takeHYtpdobbdbmgeoiaaGreat (i := 27) (d := some 71) (v := undef) rfl rfl (by kernel_rfl) (by kernel_rfl) (by kernel_rfl) (fun _ _ _ h => h) (Or.inr ⟨by rfl, rfl⟩) hHeld2 ?_
                simp only [Act.put, List.setIfInBounds_toArray, List.set_cons_zero, List.set_cons_succ]
                refine takeHYtpdobbdbmgeoiaaGreat (i := 28) (d := some 72) (v := undef) rfl rfl (by kernel_rfl) (by kernel_rfl) (by kernel_rfl) (fun _ _ _ h => h) (Or.inr ⟨by rfl, rfl⟩) hHeld2 ?_
                simp only [Act.put, List.setIfInBounds_toArray, List.set_cons_zero, List.set_cons_succ]
                refine takeHYtpdobbdbmgeoiaaGreat (i := 29) (d := some 73) (v := undef) rfl rfl (by kernel_rfl) (by kernel_rfl) (by kernel_rfl) (fun _ _ _ h => h) (Or.inr ⟨by rfl, rfl⟩) hHeld2 ?_
                simp only [Act.put, List.setIfInBounds_toArray, List.set_cons_zero, List.set_cons_succ]
                refine takeHYtpdobbdbmgeoiaaGreat (i := 30) (d := some 74) (v := undef) rfl rfl (by kernel_rfl) (by kernel_rfl) (by kernel_rfl) (fun _ _ _ h => h) (Or.inr ⟨by rfl, rfl⟩) hHeld2 ?_
                simp only [Act.put, List.setIfInBounds_toArray, List.set_cons_zero, List.set_cons_succ]
                refine takeHYtpdobbdbmgeoiaaGreat (i := 31) (d := some 75) (v := undef) rfl rfl (by kernel_rfl) (by kernel_rfl) (by kernel_rfl) (fun _ _ _ h => h) (Or.inr ⟨by rfl, rfl⟩) hHeld2 ?_
                simp only [Act.put, List.setIfInBounds_toArray, List.set_cons_zero, List.set_cons_succ]
                refine takeHYtpdobbdbmgeoiaaGreat (i := 32) (d := some 76) (v := undef) rfl rfl (by kernel_rfl) (by kernel_rfl) (by kernel_rfl) (fun _ _ _ h => h) (Or.inr ⟨by rfl, rfl⟩) hHeld2 ?_
                simp only [Act.put, List.setIfInBounds_toArray, List.set_cons_zero, List.set_cons_succ]
                refine takeHYtpdobbdbmgeoiaaGreat (i := 33) (d := some 77) (v := undef) rfl rfl (by kernel_rfl) (by kernel_rfl) (by kernel_rfl) (fun _ _ _ h => h) (Or.inr ⟨by rfl, rfl⟩) hHeld2 ?_
                simp only [Act.put, List.setIfInBounds_toArray, List.set_cons_zero, List.set_cons_succ]
                refine takeHYtpdobbdbmgeoiaaGreat (i := 34) (d := some 78) (v := undef) rfl rfl (by kernel_rfl) (by kernel_rfl) (by kernel_rfl) (fun _ _ _ h => h) (Or.inr ⟨by rfl, rfl⟩) hHeld2 ?_
                simp only [Act.put, List.setIfInBounds_toArray, List.set_cons_zero, List.set_cons_succ]
                refine takeHYtpdobbdbmgeoiaaGreat (i := 35) (d := some 79) (v := undef) rfl rfl (by kernel_rfl) (by kernel_rfl) (by kernel_rfl) (fun _ _ _ h => h) (Or.inr ⟨by rfl, rfl⟩) hHeld2 ?_
                simp only [Act.put, List.setIfInBounds_toArray, List.set_cons_zero, List.set_cons_succ]
                refine takeHYtpdobbdbmgeoiaaGreat (i := 36) (d := some 80) (v := .bool false) rfl rfl (by kernel_rfl) (by kernel_rfl) (by kernel_rfl) (fun _ _ _ h => h) (Or.inl ⟨by rfl, by intro w hSw; obtain ⟨⟨u0, u1, u2, u3, u4, u5⟩, v0, v1, v2, v3, v4, v5⟩ := hSw; go_simp⟩) hHeld2 ?_
                simp only [Act.put, List.setIfInBounds_toArray, List.set_cons_zero, List.set_cons_succ]
                refine wpAnyH_done (by kernel_rfl) ?_ _
                clear hHeld hHeld2 cc
                have P9 := Lib.hid (B5.out.trans (B9.out.mono B5.out.size))
                have NJ2 := Lib.hid (p := ∀ j', j' < j + 1 → NoCl (atD al i) (atD bl j')) (fun j' hj' => by
                  by_cases e : j' = j
                  · rw [e, HX.out, HXX.out]; exact fun _ h0 => absurd (HCR.out.symm.trans h0) hC0
                  · exact NJ.out j' (by omega))
                clear x0 x1 x2 x3 x4 x5 z0 z1 z2 z3 z4 z5
                go_wp2_with fail
                go_roundw
                case rel => exact ⟨j + 1, by go_num, by omega, NJ2, P9⟩
                case measure => simp [intOf]; omega
              · go_upto_region 11 with fail
                refine wp_region_held_drew (S := fun w' => (w'.cell? ⟨b1, o1 + i * 6, none⟩ = some (.string x.key) ∧ w'.cell? ⟨b1, o1 + i * 6 + 1, none⟩ = some (.int .i64 x.t) ∧ w'.cell? ⟨b1, o1 + i * 6 + 2, none⟩ = some (.int .i64 x.i) ∧ w'.cell? ⟨b1, o1 + i * 6 + 3, none⟩ = some (.int .i64 x.q) ∧ w'.cell? ⟨b1, o1 + i * 6 + 4, none⟩ = some (.string x.o) ∧ w'.cell? ⟨b1, o1 + i * 6 + 5, none⟩ = some (.slice y1 x.len c1)) ∧ (w'.cell? ⟨b2, o2 + j * 6, none⟩ = some (.string X.key) ∧ w'.cell? ⟨b2, o2 + j * 6 + 1, none⟩ = some (.int .i64 X.t) ∧ w'.cell? ⟨b2, o2 + j * 6 + 2, none⟩ = some (.int .i64 X.i) ∧ w'.cell? ⟨b2, o2 + j * 6 + 3, none⟩ = some (.int .i64 X.q) ∧ w'.cell? ⟨b2, o2 + j * 6 + 4, none⟩ = some (.string X.o) ∧ w'.cell? ⟨b2, o2 + j * 6 + 5, none⟩ = some (.slice y2 X.len c2))) (by kernel_rfl) (HCC.out _ HDR.out) (fun hHeld => ?_)
                refine takeHYtpdobbdbmgeoiaaGreat (i := 0) (d := some 44) (v := .slice (some ⟨b1, o1, none⟩) al.length c) rfl rfl (by kernel_rfl) (by kernel_rfl) (by kernel_rfl) (fun _ _ _ h => h) (Or.inl ⟨by rfl, by intro w hSw; obtain ⟨⟨u0, u1, u2, u3, u4, u5⟩, v0, v1, v2, v3, v4, v5⟩ := hSw; go_simp⟩) hHeld ?_
                simp only [Act.put, List.setIfInBounds_toArray, List.set_cons_zero, List.set_cons_succ]
                refine takeHYtpdobbdbmgeoiaaGreat (i := 1) (d := some 45) (v := .int .i64 (i : Nat)) rfl rfl (by kernel_rfl) (by kernel_rfl) (by kernel_rfl) (fun _ _ _ h => h) (Or.inl ⟨by rfl, by intro w hSw; obtain ⟨⟨u0, u1, u2, u3, u4, u5⟩, v0, v1, v2, v3, v4, v5⟩ := hSw; go_simp⟩) hHeld ?_
                simp only [Act.put, List.setIfInBounds_toArray, List.set_cons_zero, List.set_cons_succ]
                refine takeHYtpdobbdbmgeoiaaGreat (i := 2) (d := some 46) (v := .pointer (some ⟨b1, o1 + i * 6, none⟩)) rfl rfl (by kernel_rfl) (by kernel_rfl) (by kernel_rfl) (fun _ _ _ h => h) (Or.inl ⟨by rfl, by intro w hSw; obtain ⟨⟨u0, u1, u2, u3, u4, u5⟩, v0, v1, v2, v3, v4, v5⟩ := hSw; go_simp⟩) hHeld ?_
                simp only [Act.put, List.setIfInBounds_toArray, List.set_cons_zero, List.set_cons_succ]
                refine takeHYtpdobbdbmgeoiaaGreat (i := 3) (d := some 47) (v := .pointer (some ⟨b1, o1 + i * 6, none⟩)) rfl rfl (by kernel_rfl) (by kernel_rfl) (by kernel_rfl) (fun _ _ _ h => h) (Or.inl ⟨by rfl, by intro w hSw; obtain ⟨⟨u0, u1, u2, u3, u4, u5⟩, v0, v1, v2, v3, v4, v5⟩ := hSw; go_simp⟩) hHeld ?_
                simp only [Act.put, List.setIfInBounds_toArray, List.set_cons_zero, List.set_cons_succ]
                refine takeHYtpdobbdbmgeoiaaGreat (i := 4) (d := some 48) (v := .string x.key) rfl rfl (by kernel_rfl) (by kernel_rfl) (by kernel_rfl) (fun _ _ _ h => h) (Or.inl ⟨by rfl, by intro w hSw; obtain ⟨⟨u0, u1, u2, u3, u4, u5⟩, v0, v1, v2, v3, v4, v5⟩ := hSw; go_simp⟩) hHeld ?_
                simp only [Act.put, List.setIfInBounds_toArray, List.set_cons_zero, List.set_cons_succ]
                refine takeHYtpdobbdbmgeoiaaGreat (i := 5) (d := some 49) (v := .slice (some ⟨b2, o2, none⟩) bl.length d) rfl rfl (by kernel_rfl) (by kernel_rfl) (by kernel_rfl) (fun _ _ _ h => h) (Or.inl ⟨by rfl, by intro w hSw; obtain ⟨⟨u0, u1, u2, u3, u4, u5⟩, v0, v1, v2, v3, v4, v5⟩ := hSw; go_simp⟩) hHeld ?_
                simp only [Act.put, List.setIfInBounds_toArray, List.set_cons_zero, List.set_cons_succ]
                refine takeHYtpdobbdbmgeoiaaGreat (i := 6) (d := some 50) (v := .int .i64 (j : Nat)) rfl rfl (by kernel_rfl) (by kernel_rfl) (by kernel_rfl) (fun _ _ _ h => h) (Or.inl ⟨by rfl, by intro w hSw; obtain ⟨⟨u0, u1, u2, u3, u4, u5⟩, v0, v1, v2, v3, v4, v5⟩ := hSw; go_simp⟩) hHeld ?_
                simp only [Act.put, List.setIfInBounds_toArray, List.set_cons_zero, List.set_cons_succ]
                refine takeHYtpdobbdbmgeoiaaGreat (i := 7) (d := some 51) (v := .pointer (some ⟨b2, o2 + j * 6, none⟩)) rfl rfl (by kernel_rfl) (by kernel_rfl) (by kernel_rfl) (fun _ _ _ h => h) (Or.inl ⟨by rfl, by intro w hSw; obtain ⟨⟨u0, u1, u2, u3, u4, u5⟩, v0, v1, v2, v3, v4, v5⟩ := hSw; go_simp⟩) hHeld ?_
                simp only [Act.put, List.setIfInBounds_toArray, List.set_cons_zero, List.set_cons_succ]
                refine takeHYtpdobbdbmgeoiaaGreat (i := 8) (d := some 52) (v := .pointer (some ⟨b2, o2 + j * 6, none⟩)) rfl rfl (by kernel_rfl) (by kernel_rfl) (by kernel_rfl) (fun _ _ _ h => h) (Or.inl ⟨by rfl, by intro w hSw; obtain ⟨⟨u0, u1, u2, u3, u4, u5⟩, v0, v1, v2, v3, v4, v5⟩ := hSw; go_simp⟩) hHeld ?_
                simp only [Act.put, List.setIfInBounds_toArray, List.set_cons_zero, List.set_cons_succ]
                refine takeHYtpdobbdbmgeoiaaGreat (i := 9) (d := some 53) (v := .string X.key) rfl rfl (by kernel_rfl) (by kernel_rfl) (by kernel_rfl) (fun _ _ _ h => h) (Or.inl ⟨by rfl, by intro w hSw; obtain ⟨⟨u0, u1, u2, u3, u4, u5⟩, v0, v1, v2, v3, v4, v5⟩ := hSw; go_simp⟩) hHeld ?_
                simp only [Act.put, List.setIfInBounds_toArray, List.set_cons_zero, List.set_cons_succ]
                refine takeHYtpdobbdbmgeoiaaGreat (i := 10) (d := some 54) (v := .bool true) rfl rfl (by kernel_rfl) (by kernel_rfl) (by kernel_rfl) (fun _ _ _ h => h) (Or.inl ⟨by rfl, by intro w hSw; obtain ⟨⟨u0, u1, u2, u3, u4, u5⟩, v0, v1, v2, v3, v4, v5⟩ := hSw; go_simp⟩) hHeld ?_
                simp only [Act.put, List.setIfInBounds_toArray, List.set_cons_zero, List.set_cons_succ]
                refine takeHYtpdobbdbmgeoiaaGreat (i := 11) (d := some 55) (v := .bool true) rfl rfl (by kernel_rfl) (by kernel_rfl) (by kernel_rfl) (fun _ _ _ h => h) (Or.inl ⟨by rfl, by intro w hSw; obtain ⟨⟨u0, u1, u2, u3, u4, u5⟩, v0, v1, v2, v3, v4, v5⟩ := hSw; go_simp⟩) hHeld ?_
                simp only [Act.put, List.setIfInBounds_toArray, List.set_cons_zero, List.set_cons_succ]
                refine takeHYtpdobbdbmgeoiaaGreat (i := 12) (d := some 56) (v := .slice (some ⟨b1, o1, none⟩) al.length c) rfl rfl (by kernel_rfl) (by kernel_rfl) (by kernel_rfl) (fun _ _ _ h => h) (Or.inl ⟨by rfl, by intro w hSw; obtain ⟨⟨u0, u1, u2, u3, u4, u5⟩, v0, v1, v2, v3, v4, v5⟩ := hSw; go_simp⟩) hHeld ?_
                simp only [Act.put, List.setIfInBounds_toArray, List.set_cons_zero, List.set_cons_succ]
                refine takeHYtpdobbdbmgeoiaaGreat (i := 13) (d := some 57) (v := .int .i64 (i : Nat)) rfl rfl (by kernel_rfl) (by kernel_rfl) (by kernel_rfl) (fun _ _ _ h => h) (Or.inl ⟨by rfl, by intro w hSw; obtain ⟨⟨u0, u1, u2, u3, u4, u5⟩, v0, v1, v2, v3, v4, v5⟩ := hSw; go_simp⟩) hHeld ?_
                simp only [Act.put, List.setIfInBounds_toArray, List.set_cons_zero, List.set_cons_succ]
                refine takeHYtpdobbdbmgeoiaaGreat (i := 14) (d := some 58) (v := .pointer (some ⟨b1, o1 + i * 6, none⟩)) rfl rfl (by kernel_rfl) (by kernel_rfl) (by kernel_rfl) (fun _ _ _ h => h) (Or.inl ⟨by rfl, by intro w hSw; obtain ⟨⟨u0, u1, u2, u3, u4, u5⟩, v0, v1, v2, v3, v4, v5⟩ := hSw; go_simp⟩) hHeld ?_
                simp only [Act.put, List.setIfInBounds_toArray, List.set_cons_zero, List.set_cons_succ]
                refine takeHYtpdobbdbmgeoiaaGreat (i := 15) (d := some 59) (v := .pointer (some ⟨b1, o1 + i * 6 + 1, none⟩)) rfl rfl (by kernel_rfl) (by kernel_rfl) (by kernel_rfl) (fun _ _ _ h => h) (Or.inl ⟨by rfl, by intro w hSw; obtain ⟨⟨u0, u1, u2, u3, u4, u5⟩, v0, v1, v2, v3, v4, v5⟩ := hSw; go_simp⟩) hHeld ?_
                simp only [Act.put, List.setIfInBounds_toArray, List.set_cons_zero, List.set_cons_succ]
                refine takeHYtpdobbdbmgeoiaaGreat (i := 16) (d := some 60) (v := .agg #[.int .i64 x.t, .int .i64 x.i, .int .i64 x.q, .string x.o]) rfl rfl (by kernel_rfl) (by kernel_rfl) (by kernel_rfl) (fun _ _ _ h => h) (Or.inl ⟨by rfl, by intro w hSw; obtain ⟨⟨u0, u1, u2, u3, u4, u5⟩, v0, v1, v2, v3, v4, v5⟩ := hSw; go_simp⟩) hHeld ?_
                simp only [Act.put, List.setIfInBounds_toArray, List.set_cons_zero, List.set_cons_succ]
                refine takeHYtpdobbdbmgeoiaaGreat (i := 17) (d := some 61) (v := .slice (some ⟨b2, o2, none⟩) bl.length d) rfl rfl (by kernel_rfl) (by kernel_rfl) (by kernel_rfl) (fun _ _ _ h => h) (Or.inl ⟨by rfl, by intro w hSw; obtain ⟨⟨u0, u1, u2, u3, u4, u5⟩, v0, v1, v2, v3, v4, v5⟩ := hSw; go_simp⟩) hHeld ?_
                simp only [Act.put, List.setIfInBounds_toArray, List.set_cons_zero, List.set_cons_succ]
                refine takeHYtpdobbdbmgeoiaaGreat (i := 18) (d := some 62) (v := .int .i64 (j : Nat)) rfl rfl (by kernel_rfl) (by kernel_rfl) (by kernel_rfl) (fun _ _ _ h => h) (Or.inl ⟨by rfl, by intro w hSw; obtain ⟨⟨u0, u1, u2, u3, u4, u5⟩, v0, v1, v2, v3, v4, v5⟩ := hSw; go_simp⟩) hHeld ?_
                simp only [Act.put, List.setIfInBounds_toArray, List.set_cons_zero, List.set_cons_succ]
                refine takeHYtpdobbdbmgeoiaaGreat (i := 19) (d := some 63) (v := .pointer (some ⟨b2, o2 + j * 6, none⟩)) rfl rfl (by kernel_rfl) (by kernel_rfl) (by kernel_rfl) (fun _ _ _ h => h) (Or.inl ⟨by rfl, by intro w hSw; obtain ⟨⟨u0, u1, u2, u3, u4, u5⟩, v0, v1, v2, v3, v4, v5⟩ := hSw; go_simp⟩) hHeld ?_
                simp only [Act.put, List.setIfInBounds_toArray, List.set_cons_zero, List.set_cons_succ]
                refine takeHYtpdobbdbmgeoiaaGreat (i := 20) (d := some 64) (v := .pointer (some ⟨b2, o2 + j * 6 + 1, none⟩)) rfl rfl (by kernel_rfl) (by kernel_rfl) (by kernel_rfl) (fun _ _ _ h => h) (Or.inl ⟨by rfl, by intro w hSw; obtain ⟨⟨u0, u1, u2, u3, u4, u5⟩, v0, v1, v2, v3, v4, v5⟩ := hSw; go_simp⟩) hHeld ?_
                simp only [Act.put, List.setIfInBounds_toArray, List.set_cons_zero, List.set_cons_succ]
                refine takeHYtpdobbdbmgeoiaaGreat (i := 21) (d := some 65) (v := .agg #[.int .i64 X.t, .int .i64 X.i, .int .i64 X.q, .string X.o]) rfl rfl (by kernel_rfl) (by kernel_rfl) (by kernel_rfl) (fun _ _ _ h => h) (Or.inl ⟨by rfl, by intro w hSw; obtain ⟨⟨u0, u1, u2, u3, u4, u5⟩, v0, v1, v2, v3, v4, v5⟩ := hSw; go_simp⟩) hHeld ?_
                simp only [Act.put, List.setIfInBounds_toArray, List.set_cons_zero, List.set_cons_succ]
                refine wpAnyH_ready (rs := [22]) (by kernel_rfl) (by simp) ?_
                refine AllReadyH.cons (o := _) rfl (fun K hK => ?_) AllReadyH.nil
                go_simp
                refine (CMP.out _).mono ?_
                rintro e w9 ⟨rfl, hb⟩
                have B9 := Lib.hid (HDR.out.trans (hb.mono HDR.out.size))
                have cc := HCC.out _ B9.out
                clear hb
                refine hK.out _ _ cc (fun hHeld2 => ?_)
                try simp only [Act.put, List.setIfInBounds_toArray, List.set_cons_zero, List.set_cons_succ]
                clear hK K
                refine takeHYtpdobbdbmgeoiaaGreat (i := 23) (d := some 67) (v := .bool false) rfl rfl (by kernel_rfl) (by kernel_rfl) (by kernel_rfl) (fun _ _ _ h => h) (Or.inl ⟨by rfl, by intro w hSw; obtain ⟨⟨u0, u1, u2, u3, u4, u5⟩, v0, v1, v2, v3, v4, v5⟩ := hSw; go_simp⟩) hHeld2 ?_
                simp only [Act.put, List.setIfInBounds_toArray, List.set_cons_zero, List.set_cons_succ]
                refine takeHYtpdobbdbmgeoiaaGreat (i := 24) (d := some 68) (v := .bool false) rfl rfl (by kernel_rfl) (by kernel_rfl) (by kernel_rfl) (fun _ _ _ h => h) (Or.inl ⟨by rfl, by intro w hSw; obtain ⟨⟨u0, u1, u2, u3, u4, u5⟩, v0, v1, v2, v3, v4, v5⟩ := hSw; go_simp⟩) hHeld2 ?_
                simp only [Act.put, List.setIfInBounds_toArray, List.set_cons_zero, List.set_cons_succ]
                refine takeHYtpdobbdbmgeoiaaGreat (i := 25) (d := some 69) (v := .bool false) rfl rfl (by kernel_rfl) (by kernel_rfl) (by kernel_rfl) (fun _ _ _ h => h) (Or.inl ⟨by rfl, by intro w hSw; obtain ⟨⟨u0, u1, u2, u3, u4, u5⟩, v0, v1, v2, v3, v4, v5⟩ := hSw; go_simp⟩) hHeld2 ?_
                simp only [Act.put, List.setIfInBounds_toArray, List.set_cons_zero, List.set_cons_succ]
                refine takeHYtpdobbdbmgeoiaaGreat (i := 26) (d := some 70) (v := undef) rfl rfl (by kernel_rfl) (by kernel_rfl) (by kernel_rfl) (fun _ _ _ h => h) (Or.inr ⟨by rfl, rfl⟩) hHeld2 ?_
                simp only [Act.put, List.setIfInBounds_toArray, List.set_cons_zero, List.set_cons_succ]
                refine takeHYtpdobbdbmgeoiaaGreat (i := 27) (d := some 71) (v := undef) rfl rfl (by kernel_rfl) (by kernel_rfl) (by kernel_rfl) (fun _ _ _ h => h) (Or.inr ⟨by rfl, rfl⟩) hHeld2 ?_
                simp only [Act.put, List.setIfInBounds_toArray, List.set_cons_zero, List.set_cons_succ]
                refine takeHYtpdobbdbmgeoiaaGreat (i := 28) (d := some 72) (v := undef) rfl rfl (by kernel_rfl) (by kernel_rfl) (by kernel_rfl) (fun _ _ _ h => h) (Or.inr ⟨by rfl, rfl⟩) hHeld2 ?_
                simp only [Act.put, List.setIfInBounds_toArray, List.set_cons_zero, List.set_cons_succ]
                refine takeHYtpdobbdbmgeoiaaGreat (i := 29) (d := some 73) (v := undef) rfl rfl (by kernel_rfl) (by kernel_rfl) (by kernel_rfl) (fun _ _ _ h => h) (Or.inr ⟨by rfl, rfl⟩) hHeld2 ?_
                simp only [Act.put, List.setIfInBounds_toArray, List.set_cons_zero, List.set_cons_succ]
                refine takeHYtpdobbdbmgeoiaaGreat (i := 30) (d := some 74) (v := undef) rfl rfl (by kernel_rfl) (by kernel_rfl) (by kernel_rfl) (fun _ _ _ h => h) (Or.inr ⟨by rfl, rfl⟩) hHeld2 ?_
                simp only [Act.put, List.setIfInBounds_toArray, List.set_cons_zero, List.set_cons_succ]
                refine takeHYtpdobbdbmgeoiaaGreat (i := 31) (d := some 75) (v := undef) rfl rfl (by kernel_rfl) (by kernel_rfl) (by kernel_rfl) (fun _ _ _ h => h) (Or.inr ⟨by rfl, rfl⟩) hHeld2 ?_
                simp only [Act.put, List.setIfInBounds_toArray, List.set_cons_zero, List.set_cons_succ]
                refine takeHYtpdobbdbmgeoiaaGreat (i := 32) (d := some 76) (v := undef) rfl rfl (by kernel_rfl) (by kernel_rfl) (by kernel_rfl) (fun _ _ _ h => h) (Or.inr ⟨by rfl, rfl⟩) hHeld2 ?_
                simp only [Act.put, List.setIfInBounds_toArray, List.set_cons_zero, List.set_cons_succ]
                refine takeHYtpdobbdbmgeoiaaGreat (i := 33) (d := some 77) (v := undef) rfl rfl (by kernel_rfl) (by kernel_rfl) (by kernel_rfl) (fun _ _ _ h => h) (Or.inr ⟨by rfl, rfl⟩) hHeld2 ?_
                simp only [Act.put, List.setIfInBounds_toArray, List.set_cons_zero, List.set_cons_succ]
                refine takeHYtpdobbdbmgeoiaaGreat (i := 34) (d := some 78) (v := undef) rfl rfl (by kernel_rfl) (by kernel_rfl) (by kernel_rfl) (fun _ _ _ h => h) (Or.inr ⟨by rfl, rfl⟩) hHeld2 ?_
                simp only [Act.put, List.setIfInBounds_toArray, List.set_cons_zero, List.set_cons_succ]
                refine takeHYtpdobbdbmgeoiaaGreat (i := 35) (d := some 79) (v := undef) rfl rfl (by kernel_rfl) (by kernel_rfl) (by kernel_rfl) (fun _ _ _ h => h) (Or.inr ⟨by rfl, rfl⟩) hHeld2 ?_
                simp only [Act.put, List.setIfInBounds_toArray, List.set_cons_zero, List.set_cons_succ]
                refine takeHYtpdobbdbmgeoiaaGreat (i := 36) (d := some 80) (v := .bool false) rfl rfl (by kernel_rfl) (by kernel_rfl) (by kernel_rfl) (fun _ _ _ h => h) (Or.inl ⟨by rfl, by intro w hSw; obtain ⟨⟨u0, u1, u2, u3, u4, u5⟩, v0, v1, v2, v3, v4, v5⟩ := hSw; go_simp⟩) hHeld2 ?_
                simp only [Act.put, List.setIfInBounds_toArray, List.set_cons_zero, List.set_cons_succ]
                refine wpAnyH_done (by kernel_rfl) ?_ _
                clear hHeld hHeld2 cc
                have P9 := Lib.hid (B5.out.trans (B9.out.mono B5.out.size))
                have NJ2 := Lib.hid (p := ∀ j', j' < j + 1 → NoCl (atD al i) (atD bl j')) (fun j' hj' => by
                  by_cases e : j' = j
                  · rw [e, HX.out, HXX.out]; exact fun _ h0 => absurd (HCR.out.symm.trans h0) hC0
                  · exact NJ.out j' (by omega))
                clear x0 x1 x2 x3 x4 x5 z0 z1 z2 z3 z4 z5
                go_wp2_with fail
                go_roundw
                case rel => exact ⟨j + 1, by go_num, by omega, NJ2, P9⟩
                case measure => simp [intOf]; omega
        · have NI2 := Lib.hid (p := ∀ i', i' < i + 1 → ∀ j, j < bl.length → NoCl (atD al i') (atD bl j)) (fun i' hi' j' hj' => by
            by_cases e : i' = i
            · rw [e]; exact NJ.out j' (by omega)
            · exact NI.out i' (by omega) j' hj')
          have e2 : ¬ (j : Int) < (bl.length : Int) := by omega
          go_wp2_with fail
          go_roundw
          case rel => exact ⟨i + 1, by go_num, by omega, NI2, B5⟩
          case measure => simp [intOf]; omega
    · obtain rfl : i = al.length := by omega
      have e1 : ¬ ((al.length : Nat) : Int) < (al.length : Int) := by omega
      have NO := Lib.hid (p := ∀ x ∈ al, ∀ y ∈ bl, x.key = y.key → cmR x y = 0 → sameR x y = true) (fun x hx y hy => by
        obtain ⟨i, hi, rfl⟩ := List.getElem_of_mem hx
        obtain ⟨j, hj, rfl⟩ := List.getElem_of_mem hy
        have := NI.out i hi j hj
        rw [atD_lt hi, atD_lt hj] at this
        exact this)
      obtain ⟨SL, FL, KL, hMT⟩ := meets_all RA.out RB.out NO.out
      have MT := Lib.hid hMT
      clear hMT
      have HLA := Lib.hid (p := ∀ j, j < al.length → (atD al j).len ≤ 1000) (fun j hj => by rw [atD_lt hj]; exact Nat.le_trans (RA.out.f _ (List.getElem_mem _)).l (by omega))
      have HLB := Lib.hid (p := ∀ j, j < bl.length → (atD bl j).len ≤ 1000) (fun j hj => by rw [atD_lt hj]; exact Nat.le_trans (RB.out.f _ (List.getElem_mem _)).l (by omega))
      have hab64 : al.length + bl.length ≤ 64 := by omega
      clear NI NO h64
      go_wp2_with fail
      refine (ofRowsO_any a al.length c (atD al) HLA.out (by omega) wr (HA.out wr B4.out)).mono ?_
      rintro e w5 ⟨⟨ma, mc, TA, rfl, hl, hm, ho⟩, hb⟩
      rw [tkR_list] at hm
      have B5 := Lib.hid (B4.out.trans (hb.mono B4.out.size))
      have MA := Lib.hid hm
      have LA := Lib.hid hl
      rw [← hl] at ho
      have OA := Lib.hid ho
      clear hb hl hm ho B4
      go_upto_region 14 with fail
      generalize hW : World.alloc w5 _ = W5
      have hbW : Below w5.heap.size w5 W5 := by rw [← hW]; exact (Below.refl _ _).alloc (Nat.le_refl _) _
      have TX5 : Hid (TabK W5 w5.heap.size ma mc TA) := Lib.hid (TabK.new OA.out (fun q h => h) hbW (by rw [LA.out, ← hW]; exact heap_alloc_new w5 _) (Nat.le_refl _))
      have XW5 : Hid (w5.heap.size < W5.heap.size) := Lib.hid (by rw [← hW]; simp)
      have B6 := Lib.hid (B5.out.trans (hbW.mono B5.out.size))
      have XB : Hid (∀ b off, ma = some ⟨b, off, none⟩ → b < w5.heap.size) := Lib.hid (fun b off e => (OA.out.block b off e).2)
      have XG : Hid (w.heap.size ≤ w5.heap.size) := Lib.hid B5.out.size
      clear hW hbW OA B5
      obtain ⟨X, hX⟩ : ∃ X, w5.heap.size = X := ⟨_, rfl⟩
      rw [hX] at TX5 XW5 XB XG ⊢
      clear hX
      -- the other's rows
      go_wp2_with fail
      refine (ofRowsO_any b bl.length d (atD bl) HLB.out (by omega) W5 (HB.out W5 B6.out)).mono ?_
      rintro e w7 ⟨⟨mb, md, TB, rfl, hl, hm, ho⟩, hb⟩
      rw [tkR_list] at hm
      have B7 := Lib.hid (B6.out.trans (hb.mono B6.out.size))
      have TX7 := Lib.hid (TX5.out.below hb)
      have MB := Lib.hid hm
      have LB := Lib.hid hl
      have hz57 := hb.size
      rw [← hl] at ho
      have OB := Lib.hid ho
      clear hb hl hm ho B6 TX5
      go_upto_region 15 with fail
      generalize hW : World.alloc w7 _ = W7
      have hbW : Below w7.heap.size w7 W7 := by rw [← hW]; exact (Below.refl _ _).alloc (Nat.le_refl _) _
      have TY8 : Hid (TabK W7 w7.heap.size mb md TB) := Lib.hid (TabK.new OB.out (fun q h => h) hbW (by rw [LB.out, ← hW]; exact heap_alloc_new w7 _) (Nat.le_refl _))
      have TX8 := Lib.hid (TX7.out.below hbW)
      have B8 := Lib.hid (B7.out.trans (hbW.mono B7.out.size))
      have XY : Hid (X < w7.heap.size) := Lib.hid (by have := XW5.out; omega)
      have YB : Hid (∀ b off, mb = some ⟨b, off, none⟩ → b ≠ X) := Lib.hid (fun b off e => by have := (OB.out.block b off e).1; have := XW5.out; omega)
      have XB2 : Hid (∀ b off, ma = some ⟨b, off, none⟩ → b ≠ w7.heap.size) := Lib.hid (fun b off e => by have := XB.out b off e; have := XY.out; omega)
      have YG : Hid (w.heap.size ≤ w7.heap.size) := Lib.hid B7.out.size
      clear hW hbW OB B7 TX7 XB hz57 XW5
      obtain ⟨Y, hY⟩ : ∃ Y, w7.heap.size = Y := ⟨_, rfl⟩
      rw [hY] at TY8 XY XB2 YG ⊢
      clear hY
      -- what is sent
      go_wp2_with fail
      have ML := Lib.hid (p := (bl.map mkK).length = bl.length) (List.length_map ..)
      refine (dOf_any bl b d (by omega) W7 (HB.out W7 B8.out)).mono ?_
      rintro e w9 ⟨⟨oa, oc, rfl, hoc, hom⟩, hb⟩
      have U9 := Lib.hid hb
      have O9 := Lib.hid (hom.mono (H := fun q => q < w9.heap.size) (fun q _ h => h))
      have OC := Lib.hid hoc
      clear hb hom hoc
      go_wp2_with fail
      have C1 := dSend_any al a c (bl.map mkK) oa oc (by omega) (by rw [ML.out]; omega) (by rw [ML.out]; exact OC.out) RA.out.short w9 (HA.out w9 (B8.out.trans (U9.out.mono B8.out.size))) (by rw [ML.out]; exact O9.out)
      rw [ML.out, MT.out.sq] at C1
      refine C1.mono ?_
      rintro e w10 ⟨⟨sa, sc, rfl, -, hs1⟩, hb⟩
      have U10 := Lib.hid (U9.out.trans (hb.mono U9.out.size))
      have S10 := Lib.hid (hs1.mono (H := fun q => q < w10.heap.size) (fun q _ h => h))
      clear C1 hb hs1 U9 O9 OC
      go_wp2_with fail
      refine (ofRows_any sa SL.length sc (atD SL) MT.out.sl (Nat.le_trans MT.out.sn (by omega)) w10 S10.out).mono ?_
      rintro e w11 ⟨⟨ta, tc, rfl, ht11⟩, hb⟩
      have U11 := Lib.hid (U10.out.trans (hb.mono U10.out.size))
      have S11 := Lib.hid ht11
      clear hb ht11 S10 U10
      -- what is wanted back of oneself: nothing
      go_upto_region 16 with fail
      go_wp2_with fail
      have C1 := dWant_any bl b d [] none 0 (by omega) (Nat.zero_le _) HD.out w11 (HB.out w11 (B8.out.trans (U11.out.mono B8.out.size))) ⟨Nat.zero_le _, .inl rfl⟩
      refine C1.mono ?_
      rintro e w12 ⟨⟨ka, kc, rfl, -, hk⟩, hb⟩
      have U12 := Lib.hid (U11.out.trans (hb.mono U11.out.size))
      have S12 := Lib.hid (S11.out.below hb)
      have K12 := Lib.hid (ReadsSG.mono (H := fun q => q < w12.heap.size) hk (fun q _ h => h))
      clear C1 hk hb U11 S11
      go_wp2_with fail
      have C1 := dPick_any bl b d [] ka kc (by omega) (Nat.zero_le _) List.Pairwise.nil RB.out.short w12 (HB.out w12 (B8.out.trans (U12.out.mono B8.out.size))) K12.out
      rw [pick_same RB.out.r List.Pairwise.nil, show pickQ bl [] = [] by unfold pickQ; simp] at C1
      refine C1.mono ?_
      rintro e w13 ⟨⟨pa, pc, rfl, -, hp⟩, hb⟩
      have U13 := Lib.hid (U12.out.trans (hb.mono U12.out.size))
      have S13 := Lib.hid (S12.out.below hb)
      have P13 := Lib.hid (hp.mono (H := fun q => q < w13.heap.size) (fun q _ h => h))
      clear C1 hp hb U12 S12 K12
      go_wp2_with fail
      refine (ofRows_any pa (([] : List RD).map dtR).length pc (atD (([] : List RD).map dtR)) (fun j hj => by cases hj) (Nat.zero_le _) w13 P13.out).mono ?_
      rintro e w14 ⟨⟨na, nc, rfl, -⟩, hb⟩
      have U14 := Lib.hid (U13.out.trans (hb.mono U13.out.size))
      have S14 := Lib.hid (S13.out.below hb)
      clear hb P13 U13 S13
      -- what one wants of the other
      go_upto_region 17 with fail
      go_wp2_with fail
      refine (dOf_any bl b d (by omega) w14 (HB.out w14 (B8.out.trans (U14.out.mono B8.out.size)))).mono ?_
      rintro e w15 ⟨⟨oa2, oc2, rfl, hoc, hom⟩, hb⟩
      have U15 := Lib.hid (U14.out.trans (hb.mono U14.out.size))
      have S15 := Lib.hid (S14.out.below hb)
      have O15 := Lib.hid (hom.mono (H := fun q => q < w15.heap.size) (fun q _ h => h))
      have OC := Lib.hid hoc
      clear hb hom hoc U14 S14
      go_wp2_with fail
      have C1 := dWant_any al a c (bl.map mkK) oa2 oc2 (by omega) (by rw [ML.out]; omega) HC.out w15 (HA.out w15 (B8.out.trans (U15.out.mono B8.out.size))) (by rw [ML.out]; exact O15.out)
      rw [ML.out, MT.out.wq] at C1
      refine C1.mono ?_
      rintro e w16 ⟨⟨ka2, kc2, rfl, -, hk⟩, hb⟩
      have U16 := Lib.hid (U15.out.trans (hb.mono U15.out.size))
      have S16 := Lib.hid (S15.out.below hb)
      have K16 := Lib.hid (ReadsSG.mono (H := fun q => q < w16.heap.size) hk (fun q _ h => h))
      clear C1 hk hb U15 S15 O15 OC
      go_wp2_with fail
      have C1 := dPick_any bl b d KL ka2 kc2 (by omega) (Nat.le_trans MT.out.wn (by omega)) MT.out.wr RB.out.short w16 (HB.out w16 (B8.out.trans (U16.out.mono B8.out.size))) K16.out
      rw [MT.out.pq] at C1
      refine C1.mono ?_
      rintro e w17 ⟨⟨pa2, pc2, rfl, -, hp⟩, hb⟩
      have U17 := Lib.hid (U16.out.trans (hb.mono U16.out.size))
      have S17 := Lib.hid (S16.out.below hb)
      have P17 := Lib.hid (hp.mono (H := fun q => q < w17.heap.size) (fun q _ h => h))
      clear C1 hp hb U16 S16 K16
      go_wp2_with fail
      refine (ofRows_any pa2 FL.length pc2 (atD FL) MT.out.fl (Nat.le_trans MT.out.fn (by omega)) w17 P17.out).mono ?_
      rintro e w18 ⟨⟨fa, fc, rfl, hf18⟩, hb⟩
      have U18 := Lib.hid (U17.out.trans (hb.mono U17.out.size))
      have S18 := Lib.hid (S17.out.below hb)
      have F18 := Lib.hid hf18
      clear hb hf18 P17 U17 S17
      go_upto_region 18 with fail
      have TX18 := Lib.hid (TX8.out.below U18.out)
      have TY18 := Lib.hid (TY8.out.below U18.out)
      have B18 := Lib.hid (B8.out.trans (U18.out.mono B8.out.size))
      clear U18 B8 TX8 TY8 HA HB HC HD HLA HLB ML
      have SN := Lib.hid (show SL.length ≤ 64 from Nat.le_trans MT.out.sn (by omega))
      have FN := Lib.hid (show FL.length ≤ 64 from Nat.le_trans MT.out.fn (by omega))
      obtain ⟨sn, hsn⟩ : ∃ sn, SL.length = sn := ⟨_, rfl⟩
      obtain ⟨fn, hfn⟩ : ∃ fn, FL.length = fn := ⟨_, rfl⟩
      have HSN := Lib.hid hsn
      have HFN := Lib.hid hfn
      rw [hsn] at SN S18 ⊢
      rw [hfn] at FN F18 ⊢
      clear hsn hfn
      have hsn64 := SN.out
      have hfn64 := FN.out
      go_wp2_with fail
      go_loopw [12] (fun i wr => ∃ (j : Nat) (va : Option Addr) (vc : Nat) (T : List RTd), i = .int .i64 j ∧ j ≤ sn ∧ Hid (TabK wr Y va vc T) ∧ Hid (∀ b off, va = some ⟨b, off, none⟩ → b ≠ X) ∧ Hid (T.map (·.1) = insAll bl (SL.take j)) ∧ Hid (TabK wr X ma mc TA) ∧ Hid (ReadsR wr ta sn (atD SL)) ∧ Hid (ReadsR wr fa fn (atD FL)) ∧ Hid (Below w.heap.size w wr)) (fun i _ => sn - (intOf i).toNat)
      case atStart => exact ⟨0, mb, md, TB, rfl, Nat.zero_le _, TY18, YB, Lib.hid MB.out, TX18, S18, F18, B18⟩
      case round =>
        clear TY18 YB TX18 S18 F18 B18
        obtain ⟨j, va, vc, T, rfl, hj, TY, YB, MJ, TX, SR, FR, B⟩ := hrel
        by_cases hjl : j < sn
        · have a1 : (j : Int) < (sn : Int) := by omega
          obtain ⟨bb, oo, y, cy, rfl, hbb, h6, hy⟩ := SR.out.cellsD hjl
          obtain ⟨⟨t0, t1⟩, g0, g1⟩ := twoE TY.out.1
          have ST := Lib.hid (step_ok (show RiR bl from RB.out.r) MT.out.sr MT.out.so (j := j) (by rw [HSN.out]; exact hjl))
          have CK := Lib.hid (MT.out.sc (atD SL j) (by have h : j < SL.length := by rw [HSN.out]; exact hjl
                                                       rw [atD_lt h]; exact List.getElem_mem _))
          have PT := Lib.hid (put_step TY.out MJ.out (atD SL j) y cy CK.out ST.out.1 (by have := ST.out.2.1; have := MT.out.sn; have := HSN.out; omega) hy)
          obtain ⟨x, hx⟩ : ∃ x, atD SL j = x := ⟨_, rfl⟩
          rw [hx] at h6 PT ST
          obtain ⟨x0, x1, x2, x3, x4, x5⟩ := h6
          clear hx hy CK
          go_upto_region 21 with fail
          go_region_law
            (go_simp
             go_at_call 8
             with_reducible refine (PT.out _ (drewD wr)).mono ?_
             rintro e w9 ⟨⟨va', vc', T', rfl, ho, hm⟩, hb⟩
             have TW := TY.out.below (drewD wr)
             have B9 := Lib.hid ((drewD wr).trans (hb.mono (drewD wr).size))
             have TP := Lib.hid (TabK.put TW hb ho)
             have HT := Lib.hid (TW.below hb).1
             have HO := Lib.hid (show ∀ b off, va' = some ⟨b, off, none⟩ → wr.heap.size ≤ b from fun b off e => (ho.block b off e).1)
             have HM := Lib.hid hm
             obtain ⟨⟨s0, s1⟩, q0, q1⟩ := twoE HT.out
             clear ho hb hm TW)
          all_goals
            have XL : X < wr.heap.size := lt_of_block TX.out.1
            have FIN := Lib.hid (And.intro TP.out (And.intro (show ∀ b off, va' = some ⟨b, off, none⟩ → b ≠ X from fun b off e => by have := HO.out b off e; omega) (And.intro (show T'.map (·.1) = insAll bl (SL.take (j + 1)) by rw [HM.out, ST.out.2.2]) (And.intro ((TX.out.below B9.out).other (v := .slice va' T'.length vc') HT.out (by have := XY.out; omega) XB2.out) (And.intro (show ReadsR (boxed w9 Y (.slice va' T'.length vc')) _ sn (atD SL) from (ReadsRG.box HT.out (SR.out.below B9.out)).mono (fun q hq _ => by rw [boxed_size]; exact hq)) (And.intro (show ReadsR (boxed w9 Y (.slice va' T'.length vc')) fa fn (atD FL) from (ReadsRG.box HT.out (FR.out.below B9.out)).mono (fun q hq _ => by rw [boxed_size]; exact hq)) (((B.out.trans (B9.out.mono B.out.size)).setCell (p := ⟨Y, 0, none⟩) YG.out (.int .i64 64)).setCell (p := ⟨Y, 1, none⟩) YG.out (.slice va' T'.length vc'))))))))
            clear TY YB MJ TX SR FR B TP HT HO HM B9 PT ST t0 t1 g0 g1 x0 x1 x2 x3 x4 x5 s0 s1 q0 q1
          go_wp2_with fail
          all_goals
            go_roundw
            case rel => exact ⟨j + 1, va', vc', T', by go_num, by omega, Lib.hid FIN.out.1, Lib.hid FIN.out.2.1, Lib.hid FIN.out.2.2.1, Lib.hid FIN.out.2.2.2.1, Lib.hid FIN.out.2.2.2.2.1, Lib.hid FIN.out.2.2.2.2.2.1, Lib.hid FIN.out.2.2.2.2.2.2⟩
            case measure => simp [intOf]; omega
        · obtain rfl : j = sn := by omega
          have MJ2 := Lib.hid (show T.map (·.1) = insAll bl SL by rw [MJ.out, ← HSN.out, List.take_length])
          have a1 : ¬ ((j : Nat) : Int) < (j : Int) := by omega
          clear MJ SR
          go_wp2_with fail
          go_loopw [13] (fun i wr => ∃ (k : Nat) (ua : Option Addr) (uc : Nat) (T2 : List RTd), i = .int .i64 k ∧ k ≤ fn ∧ Hid (TabK wr X ua uc T2) ∧ Hid (∀ b off, ua = some ⟨b, off, none⟩ → b ≠ Y) ∧ Hid (T2.map (·.1) = insAll al (FL.take k)) ∧ Hid (TabK wr Y va vc T) ∧ Hid (ReadsR wr fa fn (atD FL)) ∧ Hid (Below w.heap.size w wr)) (fun i _ => fn - (intOf i).toNat)
          case atStart => exact ⟨0, ma, mc, TA, rfl, Nat.zero_le _, TX, XB2, Lib.hid MA.out, TY, FR, B⟩
          case round =>
            clear TY TX XB2 FR B
            obtain ⟨k, ua, uc, T2, rfl, hk, TX, XB, MK2, TY, FR, B⟩ := hrel
            by_cases hkl : k < fn
            · have a2 : (k : Int) < (fn : Int) := by omega
              obtain ⟨bb, oo, y, cy, rfl, hbb, h6, hy⟩ := FR.out.cellsD hkl
              obtain ⟨⟨t0, t1⟩, g0, g1⟩ := twoE TX.out.1
              have ST := Lib.hid (step_ok (show RiR al from RA.out.r) MT.out.fr MT.out.fo (j := k) (by rw [HFN.out]; exact hkl))
              have CK := Lib.hid (MT.out.fc (atD FL k) (by have h : k < FL.length := by rw [HFN.out]; exact hkl
                                                           rw [atD_lt h]; exact List.getElem_mem _))
              have PT := Lib.hid (put_step TX.out MK2.out (atD FL k) y cy CK.out ST.out.1 (by have := ST.out.2.1; have := MT.out.fn; have := HFN.out; omega) hy)
              obtain ⟨x, hx⟩ : ∃ x, atD FL k = x := ⟨_, rfl⟩
              rw [hx] at h6 PT ST
              obtain ⟨x0, x1, x2, x3, x4, x5⟩ := h6
              clear hx hy CK
              go_upto_region 25 with fail
              go_region_law
                (go_simp
                 go_at_call 8
                 with_reducible refine (PT.out _ (drewD wr)).mono ?_
                 rintro e w9 ⟨⟨va', vc', T', rfl, ho, hm⟩, hb⟩
                 have TW := TX.out.below (drewD wr)
                 have B9 := Lib.hid ((drewD wr).trans (hb.mono (drewD wr).size))
                 have TP := Lib.hid (TabK.put TW hb ho)
                 have HT := Lib.hid (TW.below hb).1
                 have HO := Lib.hid (show ∀ b off, va' = some ⟨b, off, none⟩ → wr.heap.size ≤ b from fun b off e => (ho.block b off e).1)
                 have HM := Lib.hid hm
                 obtain ⟨⟨s0, s1⟩, q0, q1⟩ := twoE HT.out
                 clear ho hb hm TW)
              all_goals
                have YL : Y < wr.heap.size := lt_of_block TY.out.1
                have FIN := Lib.hid (And.intro TP.out (And.intro (show ∀ b off, va' = some ⟨b, off, none⟩ → b ≠ Y from fun b off e => by have := HO.out b off e; omega) (And.intro (show T'.map (·.1) = insAll al (FL.take (k + 1)) by rw [HM.out, ST.out.2.2]) (And.intro ((TY.out.below B9.out).other (v := .slice va' T'.length vc') HT.out (by have := XY.out; omega) YB.out) (And.intro (show ReadsR (boxed w9 X (.slice va' T'.length vc')) _ fn (atD FL) from (ReadsRG.box HT.out (FR.out.below B9.out)).mono (fun q hq _ => by rw [boxed_size]; exact hq)) (((B.out.trans (B9.out.mono B.out.size)).setCell (p := ⟨X, 0, none⟩) XG.out (.int .i64 64)).setCell (p := ⟨X, 1, none⟩) XG.out (.slice va' T'.length vc')))))))
                clear TY XB MK2 TX FR B TP HT HO HM B9 PT ST t0 t1 g0 g1 x0 x1 x2 x3 x4 x5 s0 s1 q0 q1
              go_wp2_with fail
              all_goals
                go_roundw
                case rel => exact ⟨k + 1, va', vc', T', by go_num, by omega, Lib.hid FIN.out.1, Lib.hid FIN.out.2.1, Lib.hid FIN.out.2.2.1, Lib.hid FIN.out.2.2.2.1, Lib.hid FIN.out.2.2.2.2.1, Lib.hid FIN.out.2.2.2.2.2⟩
                case measure => simp [intOf]; omega
            · obtain rfl : k = fn := by omega
              have MK3 := Lib.hid (show T2.map (·.1) = insAll al FL by rw [MK2.out, ← HFN.out, List.take_length])
              have a2 : ¬ ((k : Nat) : Int) < (k : Int) := by omega
              obtain ⟨⟨t0, t1⟩, g0, g1⟩ := twoE TX.out.1
              obtain ⟨⟨u0, u1⟩, f0, f1⟩ := twoE TY.out.1
              have HL2 := Lib.hid (show T2.length = (insAll al FL).length by rw [← MK3.out, List.length_map])
              have HL := Lib.hid (show T.length = T2.length by rw [HL2.out, MT.out.len, ← MJ2.out, List.length_map])
              have hT2 : T2.length ≤ 1000 := by
                have h1 := (insAll_all MT.out.fr (show RiR al from RA.out.r)).2.1
                have h2 := HL2.out
                have h3 := MT.out.fn
                omega
              have SM := Lib.hid (p := Calls Tryz.prog 30 #[.slice ua T2.length uc, .slice va T.length vc] wr fun e w' => e = .returned (.bool true) ∧ Below wr.heap.size wr w') (by
                have h1 := TX.out.reads (by omega)
                have h2 := TY.out.reads (by rw [HL.out]; omega)
                rw [MK3.out] at h1
                rw [MJ2.out] at h2
                rw [HL.out] at h2 ⊢
                exact same21_any ua va T2.length uc vc (atD (insAll al FL)) (atD (insAll bl SL)) (fun j hj => MT.out.sz j (by rw [← HL2.out]; exact hj)) (fun j hj => MT.out.same j (by rw [← HL2.out]; exact hj)) wr h1 h2)
              clear MK2 FR TX TY HL HL2 MK3 MJ2 MT
              go_wp2_with fail
              refine SM.out.mono ?_
              rintro e w20 ⟨rfl, hb⟩
              have B20 := Lib.hid (B.out.trans (hb.mono B.out.size))
              clear hb B SM t0 t1 g0 g1 u0 u1 f0 f1
              go_wp2_with fail
              go_ret
              exact ⟨rfl, B20.out⟩

end Go.Proofs.YtpdobbdbmgeoiaaGreat
