/-
  No statement: TableNewest's walk.
-/
import Derived.Test.YtikifgenfpkidaaTbNew
import Derived.Test.YtikifgenfpkidaaTbRef
import Derived.Test.YtikifgenfpkidaaTbRowOf
import Derived.Deep.CutBlock
import Derived.Deep.DeepCutAuto
set_option linter.unusedVariables false
set_option linter.unusedSimpArgs false
namespace Go.Proofs.Ytikifgenfpkidaa
open Go.RowKit

set_option maxHeartbeats 16000000 in
set_option maxRecDepth 100000 in
theorem tableNewest_walk (a : Option Addr) (n c : Nat) (R : Nat → RD) (tn : UInt8) (g : ∀ j, j < n → GoR (R j)) (w : World) (hr : ReadsR w a n R) :
    Calls Try.prog 3 #[.slice a n c, .int .u8 tn.toNat] w fun e w' => e = .returned (.bool true) ∧ Below w.heap.size w w' := by
  have FR := Lib.hid (p := ∀ w', Below w.heap.size w w' → _) (fun w' hb => fewRows_any a n c R g w' (hr.below hb))
  have HR := Lib.hid hr
  have HFB := Lib.hid (p := fewRs n R = true → ∀ j, j < n → BoundR (R j) ∧ (R j).len ≤ 40 ∧ (R j).key.size ≤ 4000 ∧ (R j).o.size ≤ 4000 ∧ ∀ i, i < (R j).len → ((R j).A i).m.size ≤ 4000 ∧ ((R j).A i).s.size ≤ 4000) (fun h j hj => by
    have f := (fewRs_all g h).2 j hj
    exact ⟨few_bound f, f.l, Nat.le_trans f.k (by omega), Nat.le_trans f.o (by omega), fun i hi => ⟨Nat.le_trans (f.f i hi).1 (by omega), Nat.le_trans (f.f i hi).2.1 (by omega)⟩⟩)
  obtain ⟨q1, hq1⟩ : ∃ q, fewRs n R = q := ⟨_, rfl⟩
  rw [hq1] at FR HFB
  have hnm : n ≤ 9223372036854775807 := hr.1
  have ht256 := tn.toNat_lt
  obtain ⟨tt, htt⟩ : ∃ tt, tn.toNat = tt := ⟨_, rfl⟩
  rw [htt] at ht256 ⊢
  clear hr g hq1 htt
  go_enter Try.func3, Try.ntmps3
  go_wp2_with fail
  refine (known_any w).mono ?_
  rintro e w1 ⟨rfl, hb⟩
  have B1 := Lib.hid hb
  have hz1 := hb.size
  clear hb
  by_cases h60 : 60 < n
  · have d1 : decide ((60 : Int) < (n : Int)) = true := decide_eq_true (by omega)
    go_wp2_with fail
    go_ret
    exact ⟨rfl, B1.out⟩
  have d1 : decide ((60 : Int) < (n : Int)) = false := decide_eq_false (by omega)
  go_wp2_with fail
  refine (FR.out w1 B1.out).mono ?_
  rintro e w2 ⟨rfl, hb⟩
  have B2 := Lib.hid (B1.out.trans (hb.mono hz1))
  have hz2 := B2.out.size
  clear hb FR d1
  cases q1 with
  | false =>
    go_wp2_with fail
    go_ret
    exact ⟨rfl, B2.out⟩
  | true =>
  have HB := Lib.hid (HFB.out (by trivial))
  clear HFB
  go_wp2_with fail
  refine (new_any w2 64 (by omega) (by omega)).mono ?_
  rintro e w3 ⟨p1, rfl, F1, hT1, hF1, hb1⟩
  have T3 := Lib.hid (And.intro hT1 (And.intro hF1 hb1))
  clear hT1 hF1 hb1
  go_wp2_with fail
  refine (new_any w3 64 (by omega) (by omega)).mono ?_
  rintro e w4 ⟨p2, rfl, F2, hT2, hF2, hb2⟩
  have T4 : Hid (Two w w4 p1 p2 [] []) := Lib.hid (Two.start (B2.out.trans (T3.out.2.2.mono hz2)) T3.out.1 hT2 (fun k hk => by have := T3.out.2.1 k hk; omega) hF2 hb2)
  clear hT2 hF2 hb2 T3 B1 B2 hz1 hz2
  go_wp2_with fail
  go_loopw [9] (fun iv wr => ∃ i : Nat, iv = .int .i64 i ∧ i ≤ n ∧ Hid (∀ j, j < i → errR (R j) = 0) ∧ Hid (NoTwo R i) ∧ Hid (Two w wr p1 p2 [] [])) (fun iv _ => n - (intOf iv).toNat)
  case atStart => exact ⟨0, rfl, Nat.zero_le _, Lib.hid (fun j h => by omega), Lib.hid (fun j k h => by omega), T4⟩
  case round =>
    obtain ⟨i, rfl, hi, E5, N5, T5⟩ := hrel
    clear T4
    by_cases hlt : i < n
    · have e1 : (i : Int) < (n : Int) := by omega
      obtain ⟨b, off, y, cy, rfl, hbw, h6, hry⟩ := HR.out.cells hlt
      obtain ⟨hB, hl40, hk4, ho4, hA4⟩ := HB.out i hlt
      have HEI := Lib.hid (show errR (R i) = errR (R i) from rfl)
      obtain ⟨r, hrr⟩ : ∃ r, R i = r := ⟨_, rfl⟩
      have HRR := Lib.hid hrr
      rw [hrr] at h6 hry hB hl40 hk4 ho4 hA4
      have OFI := Lib.hid (ofR_any r y cy (by omega) wr (hry.plain.kept T5.out.bel))
      have HA4 := Lib.hid hA4
      obtain ⟨x0, x1, x2, x3, x4, x5⟩ := (h6.keptS (keptBelow T5.out.bel) (by omega) : Cells6 wr b (off + i * 6) r y cy)
      have H6 := Lib.hid h6
      clear hrr h6 hry hA4 hB HEI
      go_wp2_with fail
      refine OFI.out.mono ?_
      rintro e w5 ⟨⟨oa, oc, rfl, hro⟩, hb⟩
      have T6 := Lib.hid (T5.out.below hb)
      have CHK := Lib.hid (xCheck_any r oa oc hk4 ho4 HA4.out w5 hro)
      obtain ⟨E, hE⟩ : ∃ E, errR r = E := ⟨_, rfl⟩
      rw [hE] at CHK
      have HE := Lib.hid hE
      clear hE hro hb OFI HA4 T5 x0 x1 x2 x3 x4 x5
      go_wp2_with fail
      refine CHK.out.mono ?_
      rintro e w6 ⟨rfl, hb⟩
      have T7 := Lib.hid (T6.out.below hb)
      clear hb T6 CHK
      by_cases hE0 : E = 0
      case neg =>
        have hE1 : (E == 0) = false := by rw [beq_eq_false_iff_ne]; exact hE0
        have hE2 : (E != 0) = true := by rw [bne, hE1]; rfl
        go_wp2_with fail
        go_ret
        exact ⟨rfl, T7.out.bel⟩
      case pos =>
      subst hE0
      go_wp2_with fail
      go_loopw [10] (fun kv ws => ∃ k : Nat, kv = .int .i64 k ∧ k ≤ i ∧ Hid (∀ j, j < k → (R j).key = r.key → cmpSt (R j).t (R j).i (R j).q (R j).o r.t r.i r.q r.o ≠ 0) ∧ Hid (Two w ws p1 p2 [] [])) (fun kv _ => i - (intOf kv).toNat)
      case atStart => exact ⟨0, rfl, Nat.zero_le _, Lib.hid (fun j h => by omega), T7⟩
      case round =>
        obtain ⟨k, rfl, hk, NK, T9⟩ := hrel
        clear T7
        by_cases hlt2 : k < i
        · have e2 : (k : Int) < (i : Int) := by omega
          have e3 : (k : Int) < (n : Int) := by omega
          obtain ⟨b', off', yk, ck, hab, hbw', h6k, hrk⟩ := HR.out.cells (k := k) (by omega)
          obtain ⟨e15, e16⟩ : b' = b ∧ off' = off := by
            simp only [Option.some.injEq, Addr.mk.injEq, and_true] at hab
            exact ⟨hab.1.symm, hab.2.symm⟩
          subst e15 e16
          obtain ⟨u, hu⟩ : ∃ u, R k = u := ⟨_, rfl⟩
          have HU := Lib.hid hu
          rw [hu] at h6k
          have D0 := Lib.hid (p := Below wr.heap.size wr wr.drew) (drewB wr)
          obtain ⟨C, hC⟩ : ∃ C, cmpSt u.t u.i u.q u.o r.t r.i r.q r.o = C := ⟨_, rfl⟩
          have CM := Lib.hid (p := ∀ V', Calls Try.prog 12 #[.agg #[.int .i64 u.t, .int .i64 u.i, .int .i64 u.q, .string u.o], .agg #[.int .i64 r.t, .int .i64 r.i, .int .i64 r.q, .string r.o]] V' fun e w' => e = .returned (.int .i64 C) ∧ Below V'.heap.size V' w') (fun V' => by rw [← hC]; exact stampCompare_any u.t u.i u.q u.o r.t r.i r.q r.o V')
          have HC := Lib.hid hC
          obtain ⟨k0, k1, k2, k3, k4, k5⟩ := (h6k.keptS (keptBelow T9.out.bel) (by omega) : Cells6 wr b' (off' + k * 6) u yk ck)
          obtain ⟨x0, x1, x2, x3, x4, x5⟩ := (H6.out.keptS (keptBelow T9.out.bel) (by omega) : Cells6 wr b' (off' + i * 6) r y cy)
          obtain ⟨q, hq⟩ : ∃ q : Bool, q = ((u.key.toList == r.key.toList) && (C == 0)) := ⟨_, rfl⟩
          have HQ := Lib.hid hq
          have CELLS := Lib.hid (p := ∀ w', Below wr.heap.size wr w' → w'.cell? ⟨b', off' + k * 6, none⟩ = some (.string u.key) ∧ w'.cell? ⟨b', off' + k * 6 + 1, none⟩ = some (.int .i64 u.t) ∧ w'.cell? ⟨b', off' + k * 6 + 2, none⟩ = some (.int .i64 u.i) ∧ w'.cell? ⟨b', off' + k * 6 + 3, none⟩ = some (.int .i64 u.q) ∧ w'.cell? ⟨b', off' + k * 6 + 4, none⟩ = some (.string u.o) ∧ w'.cell? ⟨b', off' + i * 6, none⟩ = some (.string r.key) ∧ w'.cell? ⟨b', off' + i * 6 + 1, none⟩ = some (.int .i64 r.t) ∧ w'.cell? ⟨b', off' + i * 6 + 2, none⟩ = some (.int .i64 r.i) ∧ w'.cell? ⟨b', off' + i * 6 + 3, none⟩ = some (.int .i64 r.q) ∧ w'.cell? ⟨b', off' + i * 6 + 4, none⟩ = some (.string r.o)) (fun w' hb => by
            have ht := T9.out.bel.trans (hb.mono T9.out.bel.size)
            obtain ⟨k0, k1, k2, k3, k4, k5⟩ := (h6k.keptS (keptBelow ht) (by omega) : Cells6 w' b' (off' + k * 6) u yk ck)
            obtain ⟨x0, x1, x2, x3, x4, x5⟩ := (H6.out.keptS (keptBelow ht) (by omega) : Cells6 w' b' (off' + i * 6) r y cy)
            exact ⟨k0, k1, k2, k3, k4, x0, x1, x2, x3, x4⟩)
          clear hC hu h6k hrk hab hq
          go_upto_region 15 with fail
          go_cut [78] (fun v78 wc => v78 = .bool q ∧ Hid (Two w wc p1 p2 [] []))
          case first =>
            cases hkk : (u.key.toList == r.key.toList) with
            | false =>
              have hq2 : q = false := by rw [HQ.out, hkk]; rfl
              have DQ := Lib.hid (p := ∀ m, Two w (wr.drewN m) p1 p2 [] []) (fun m => T9.out.below ⟨rfl, rfl, rfl, Nat.le_refl _, fun _ _ => rfl⟩)
              clear CM
              go_wp2_with (go_quiet (fail))
              go_meet
              case rel => exact ⟨by rw [hq2], Lib.hid (DQ.out _)⟩
            | true =>
              have hq2 : q = (C == 0) := by rw [HQ.out, hkk]; rfl
              clear HQ
              cases hC0 : (C == 0)
              all_goals
                rw [hC0] at hq2
                go_region_held3 (fun w' => w'.cell? ⟨b', off' + k * 6, none⟩ = some (.string u.key) ∧ w'.cell? ⟨b', off' + k * 6 + 1, none⟩ = some (.int .i64 u.t) ∧ w'.cell? ⟨b', off' + k * 6 + 2, none⟩ = some (.int .i64 u.i) ∧ w'.cell? ⟨b', off' + k * 6 + 3, none⟩ = some (.int .i64 u.q) ∧ w'.cell? ⟨b', off' + k * 6 + 4, none⟩ = some (.string u.o) ∧ w'.cell? ⟨b', off' + i * 6, none⟩ = some (.string r.key) ∧ w'.cell? ⟨b', off' + i * 6 + 1, none⟩ = some (.int .i64 r.t) ∧ w'.cell? ⟨b', off' + i * 6 + 2, none⟩ = some (.int .i64 r.i) ∧ w'.cell? ⟨b', off' + i * 6 + 3, none⟩ = some (.int .i64 r.q) ∧ w'.cell? ⟨b', off' + i * 6 + 4, none⟩ = some (.string r.o)) (first | assumption | exact ⟨k0, k1, k2, k3, k4, x0, x1, x2, x3, x4⟩ | exact CELLS.out _ E0.out) (first
                  | (go_at_call 12
                     with_reducible refine (CM.out wr.drew).mono ?_
                     rintro e v1 ⟨rfl, hb⟩
                     have E0 := Lib.hid (D0.out.trans (hb.mono D0.out.size))
                     have cc1 := CELLS.out _ E0.out
                     have E1 := Lib.hid (T9.out.below E0.out)
                     clear hb)
                  | fail)
                clear k0 k1 k2 k3 k4 k5 x0 x1 x2 x3 x4 x5 cc1
                go_wp2_with fail
                go_meet
                case rel => exact ⟨by rw [hq2], E1⟩
          case rest =>
          obtain ⟨rfl, T10⟩ := hcut
          clear T9 CM CELLS k0 k1 k2 k3 k4 k5 x0 x1 x2 x3 x4 x5
          cases q with
          | true =>
            go_wp2_with fail
            go_ret
            exact ⟨rfl, T10.out.bel⟩
          | false =>
            have NK2 := Lib.hid (p := ∀ j, j < k + 1 → (R j).key = r.key → cmpSt (R j).t (R j).i (R j).q (R j).o r.t r.i r.q r.o ≠ 0) (fun j hj he => by
              by_cases e : j = k
              · subst e
                rw [HU.out] at he ⊢
                rw [HC.out]
                have := HQ.out
                rw [he, beq_self_eq_true, Bool.true_and] at this
                exact beq_eq_false_iff_ne.1 this.symm
              · exact NK.out j (by omega) he)
            clear HQ
            go_wp2_with fail
            go_roundw
            case rel => exact ⟨k + 1, by go_num, by omega, NK2, T10⟩
            case measure => simp [intOf]; omega
        · have hki : k = i := by omega
          have E9 := Lib.hid (p := ∀ j, j < i + 1 → errR (R j) = 0) (fun j hj => by
            by_cases e : j = i
            · rw [e, HRR.out]; exact HE.out
            · exact E5.out j (by omega))
          have N9 := Lib.hid (p := NoTwo R (i + 1)) (fun j k' hj hk' => by
            by_cases e : j = i
            · rw [e, HRR.out]; rw [e] at hk'; exact NK.out k' (by omega)
            · exact N5.out j k' (by omega) hk')
          have e2 : ¬ (k : Int) < (i : Int) := by omega
          clear hki
          go_wp2_with fail
          go_roundw
          case rel => exact ⟨i + 1, by go_num, by omega, E9, N9, T9⟩
          case measure => simp [intOf]; omega
    · obtain rfl : n = i := by omega
      go_wp2_with fail
      go_loopw [11] (fun iv ws => ∃ (m : Nat) (L1 L2 : List RD), iv = .int .i64 m ∧ m ≤ n ∧ L1.length ≤ m ∧ L2.length ≤ m ∧ Hid (InvL L1 ∧ InvL L2) ∧ Hid (NewI R (fun j => j < m) L1 ∧ NewI R (fun j => ∃ i, i < m ∧ j = (i + tt) % n) L2) ∧ Hid (Two w ws p1 p2 L1 L2)) (fun iv _ => n - (intOf iv).toNat)
      case atStart => exact ⟨0, [], [], rfl, Nat.zero_le _, Nat.le_refl _, Nat.le_refl _, Lib.hid ⟨fun y hy => (by cases hy), fun y hy => (by cases hy)⟩, Lib.hid ⟨(newI_nil R).cong (fun j => ⟨fun h => h.elim, fun h => by omega⟩), (newI_nil R).cong (fun j => ⟨fun h => h.elim, fun ⟨i, h, _⟩ => by omega⟩)⟩, T5⟩
      case round =>
        obtain ⟨m, L1, L2, rfl, hm, hl1, hl2, I6, W6, T6⟩ := hrel
        clear T5
        by_cases hlt : m < n
        · have e1 : (m : Int) < (n : Int) := by omega
          obtain ⟨J, hJ⟩ : ∃ J, (m + tt) % n = J := ⟨_, rfl⟩
          have hJn : J < n := by rw [← hJ]; exact turn_lt hlt
          have r1 : ((m : Int) + (tt : Int)).tmod (n : Int) = (J : Int) := by
            rw [Int.tmod_eq_emod_of_nonneg (by omega), ← hJ]; simp
          have q5 : IntKind.i64.wrap (tt : Int) = (tt : Int) := IntWalk.i64_in _ (by omega)
          have q6 : IntKind.i64.wrap ((m : Int) + (tt : Int)) = (m : Int) + (tt : Int) := IntWalk.i64_in _ (by omega)
          have q7 : IntKind.i64.wrap (J : Int) = (J : Int) := IntWalk.i64_in _ (by omega)
          have q8 : ((n : Int) == 0) = false := by rw [beq_eq_false_iff_ne]; omega
          have q9 : ¬ (n : Int) = 0 := by omega
          have e2 : (J : Int) < (n : Int) := by omega
          obtain ⟨b, off, y, cy, rfl, hbw, h6, hry⟩ := HR.out.cells hlt
          obtain ⟨b', off', y2, cy2, hab, hbw', h62, hry2⟩ := HR.out.cells hJn
          obtain ⟨e15, e16⟩ : b' = b ∧ off' = off := by
            simp only [Option.some.injEq, Addr.mk.injEq, and_true] at hab
            exact ⟨hab.1.symm, hab.2.symm⟩
          subst e15 e16
          have P1 := Lib.hid (T6.out.put (by omega) (R m) y cy (HB.out m hlt).1 hry)
          have IN := Lib.hid (And.intro (putX_inv (most := 64) I6.out.1 (HB.out m hlt).1) (putX_inv (most := 64) I6.out.2 (HB.out J hJn).1))
          have hl3 := putX_len 64 L1 (R m)
          have hl4 := putX_len 64 L2 (R J)
          have WN := Lib.hid (And.intro (newI_next (most := 64) W6.out.1 (E5.out m hlt) (by omega)) (by have := newI_step (most := 64) W6.out.2 (by rw [hJ]; exact E5.out J hJn) (by omega); rw [hJ] at this; exact this))
          have P2 := Lib.hid (p := ∀ L w5, Two w w5 p1 p2 L L2 → _) (fun L w5 h => (Two.swap h).put (by omega) (R J) y2 cy2 (HB.out J hJn).1 hry2)
          have HBJ := Lib.hid h62
          obtain ⟨L3, hL3⟩ : ∃ L, (putX 64 L1 (R m)).2 = L := ⟨_, rfl⟩
          obtain ⟨L4, hL4⟩ : ∃ L, (putX 64 L2 (R J)).2 = L := ⟨_, rfl⟩
          rw [hL3] at P1 hl3 IN WN
          rw [hL4] at P2 hl4 IN WN
          obtain ⟨r, hrr⟩ : ∃ r, R m = r := ⟨_, rfl⟩
          obtain ⟨r2, hrr2⟩ : ∃ r, R J = r := ⟨_, rfl⟩
          rw [hrr] at P1 h6
          rw [hrr2] at P2 HBJ
          obtain ⟨V1, hV1⟩ : ∃ V, (putX 64 L1 r).1 = V := ⟨_, rfl⟩
          obtain ⟨V2, hV2⟩ : ∃ V, (putX 64 L2 r2).1 = V := ⟨_, rfl⟩
          rw [hV1] at P1
          rw [hV2] at P2
          obtain ⟨x0, x1, x2, x3, x4, x5⟩ := (h6.keptS (keptBelow T6.out.bel) (by omega) : Cells6 wr b' (off' + m * 6) r y cy)
          clear hJ h6 hry h62 hry2 hab hL3 hL4 hrr hrr2 hV1 hV2 I6 W6
          go_wp2_with fail
          refine P1.out.mono ?_
          rintro e w5 ⟨rfl, ht⟩
          have T7 := Lib.hid ht
          clear ht P1 x0 x1 x2 x3 x4 x5 T6
          have P3 := Lib.hid (P2.out L3 w5 T7.out)
          obtain ⟨x0, x1, x2, x3, x4, x5⟩ := (HBJ.out.keptS (keptBelow T7.out.bel) (by omega) : Cells6 w5 b' (off' + J * 6) r2 y2 cy2)
          clear P2
          go_wp2_with fail
          refine P3.out.mono ?_
          rintro e w6 ⟨rfl, ht⟩
          have T8 := Lib.hid ht.swap
          clear ht P3 x0 x1 x2 x3 x4 x5 T7 HBJ
          clear r1 q5 q6 q7 q8 q9 e2
          go_wp2_with fail
          go_roundw
          case rel => exact ⟨m + 1, L3, L4, by go_num, by omega, by omega, by omega, IN, WN, T8⟩
          case measure => simp [intOf]; omega
        · obtain rfl : n = m := by omega
          have hLL : L1 = L2 := newI_same N5.out W6.out.1 (newI_whole W6.out.2)
          subst hLL
          have HFX := Lib.hid I6.out.1.fix
          have HG := Lib.hid (p := ∀ i, i < n → isT L1 (R i).key = true ∧ newR (R i) (getZ L1 (R i).key) = false) (fun i hi => by
            obtain ⟨x, h1, h2⟩ := newI_get W6.out.1 hi
            unfold isT getZ
            rw [h1]; exact ⟨rfl, h2⟩)
          have HZ := Lib.hid (p := ∀ i, i < L1.length → twR (atL L1 i) = atL L1 i ∧ (atL L1 i).len ≤ 1000000) (fun i hi => by
            rw [atL_lt hi]
            have := HFX.out _ (List.getElem_mem hi)
            exact ⟨this.2, by have := this.1.1; omega⟩)
          obtain ⟨N, hN⟩ : ∃ N, L1.length = N := ⟨_, rfl⟩
          have RW1 := Lib.hid (p := ∀ w', Two w w' p1 p2 L1 L1 → _) (fun w' h => Two.rows h (by omega) HFX.out)
          have RW2 := Lib.hid (p := ∀ w', Two w w' p1 p2 L1 L1 → _) (fun w' h => Two.rows h.swap (by omega) HFX.out)
          unfold RowsPost at RW1 RW2
          have GT := Lib.hid (p := ∀ w', Two w w' p1 p2 L1 L1 → ∀ k, _) (fun w' h k => Two.get h (by omega) HFX.out k)
          rw [hN] at RW1 RW2 HZ
          have hN6 : N ≤ 60 := by omega
          clear I6 W6 hl1 hl2 hN E5 N5 HB
          go_wp2_with fail
          refine (RW1.out _ T6.out).mono ?_
          rintro e w5 ⟨⟨xa, xc, rfl, hx⟩, hb⟩
          have T7 := Lib.hid (T6.out.below hb)
          have X7 := Lib.hid (show ReadsR w5 xa N (atL L1) from by have h9 := hx; exact ReadsR.below (w := w5) (h9.mono (fun k hk hl => hl)) (Below.refl _ _))
          clear hb hx RW1 T6
          go_wp2_with fail
          refine (RW2.out _ T7.out).mono ?_
          rintro e w6 ⟨⟨ya, yc, rfl, hy⟩, hb⟩
          have T8 := Lib.hid (T7.out.below hb)
          have X8 := Lib.hid (And.intro (X7.out.below hb) (show ReadsR w6 ya N (atL L1) from hy.mono (fun k hk hl => hl)))
          clear hb hy RW2 T7 X7
          have n1 : ((N : Int) == (N : Int)) = true := beq_self_eq_true _
          have n2 : ((N : Int) != (N : Int)) = false := by rw [bne, n1]; rfl
          go_wp2_with fail
          go_loopw [14] (fun iv ws => ∃ i : Nat, iv = .int .i64 i ∧ i ≤ N ∧ Hid (Two w ws p1 p2 L1 L1) ∧ Hid (ReadsR ws xa N (atL L1) ∧ ReadsR ws ya N (atL L1))) (fun iv _ => N - (intOf iv).toNat)
          case atStart => exact ⟨0, rfl, Nat.zero_le _, T8, X8⟩
          case round =>
            obtain ⟨i, rfl, hi, T9, X9⟩ := hrel
            clear T8 X8
            by_cases hlt2 : i < N
            · have e3 : (i : Int) < (N : Int) := by omega
              obtain ⟨bx, ox, y1, c1, rfl, -, h61, hr1⟩ := X9.out.1.cells hlt2
              obtain ⟨by', oy, y2, c2, rfl, -, h62, hr2⟩ := X9.out.2.cells hlt2
              obtain ⟨T, hT⟩ : ∃ T, atL L1 i = T := ⟨_, rfl⟩
              have HT := HZ.out i hlt2
              rw [hT] at h61 h62 hr1 hr2 HT
              have D0 := Lib.hid (p := Below wr.heap.size wr wr.drew) (drewB wr)
              have SA := Lib.hid (p := ∀ V', Below wr.heap.size wr V' → Calls Try.prog 15 #[.agg #[.string T.key, .int .i64 T.t, .int .i64 T.i, .int .i64 T.q, .string T.o, .slice y1 T.len c1], .agg #[.string T.key, .int .i64 T.t, .int .i64 T.i, .int .i64 T.q, .string T.o, .slice y2 T.len c2]] V' fun e w' => e = .returned (.bool true) ∧ Below V'.heap.size V' w') (fun V' hV => sameOk_any T T y1 y2 c1 c2 HT.2 (sameR_self HT.1) V' (hr1.plain.kept hV) (hr2.plain.kept hV))
              obtain ⟨x0, x1, x2, x3, x4, x5⟩ := h61
              obtain ⟨z0, z1, z2, z3, z4, z5⟩ := h62
              clear hT HT hr1 hr2
              go_upto_region 29 with fail
              go_cut [127] (fun v127 wc => v127 = .bool false ∧ Hid (Two w wc p1 p2 L1 L1) ∧ Hid (ReadsR wc (some ⟨bx, ox, none⟩) N (atL L1) ∧ ReadsR wc (some ⟨by', oy, none⟩) N (atL L1)))
              case first =>
                go_region_with (first
                  | (go_at_call 15
                     with_reducible refine (SA.out wr.drew D0.out).mono ?_
                     rintro e v1 ⟨rfl, hb⟩
                     have E1 := Lib.hid (D0.out.trans (hb.mono D0.out.size))
                     clear hb)
                  | fail)
                all_goals
                  have T10 := Lib.hid (T9.out.below E1.out)
                  have X10 := Lib.hid (And.intro (X9.out.1.below E1.out) (X9.out.2.below E1.out))
                  clear x0 x1 x2 x3 x4 x5 z0 z1 z2 z3 z4 z5
                  go_wp2_with fail
                  go_meet
                  case rel => exact ⟨rfl, T10, X10⟩
              case rest =>
              obtain ⟨rfl, T10, X10⟩ := hcut
              clear T9 X9 SA x0 x1 x2 x3 x4 x5 z0 z1 z2 z3 z4 z5
              go_wp2_with fail
              go_roundw
              case rel => exact ⟨i + 1, by go_num, by omega, T10, X10⟩
              case measure => simp [intOf]; omega
            · obtain rfl : N = i := by omega
              clear X9 HZ n1 n2
              go_wp2_with fail
              go_loopw [15] (fun iv ws => ∃ i : Nat, iv = .int .i64 i ∧ i ≤ n ∧ Hid (Two w ws p1 p2 L1 L1)) (fun iv _ => n - (intOf iv).toNat)
              case atStart => exact ⟨0, rfl, Nat.zero_le _, T9⟩
              case round =>
                obtain ⟨j, rfl, hj, T10⟩ := hrel
                clear T9
                by_cases hlt3 : j < n
                · have e4 : (j : Int) < (n : Int) := by omega
                  obtain ⟨b, off, y, cy, rfl, hbw, h6, hry⟩ := HR.out.cells hlt3
                  obtain ⟨g1, g2⟩ := HG.out j hlt3
                  obtain ⟨r, hrr⟩ : ∃ r, R j = r := ⟨_, rfl⟩
                  rw [hrr] at h6 g1 g2
                  have GET := Lib.hid (GT.out wr T10.out r.key)
                  rw [g1] at GET
                  obtain ⟨Z, hZ⟩ : ∃ Z, getZ L1 r.key = Z := ⟨_, rfl⟩
                  rw [hZ] at GET g2
                  have H6 := Lib.hid h6
                  have NW := Lib.hid (p := ∀ V', Calls Try.prog 17 #[.agg #[.int .i64 r.t, .int .i64 r.i, .int .i64 r.q, .string r.o], .agg #[.int .i64 Z.t, .int .i64 Z.i, .int .i64 Z.q, .string Z.o]] V' fun e w' => e = .returned (.bool false) ∧ Below V'.heap.size V' w') (fun V' => by
                    have := stampNewer_any r.t r.i r.q r.o Z.t Z.i Z.q Z.o V'
                    unfold newR at g2
                    rw [g2] at this
                    exact this)
                  obtain ⟨x0, x1, x2, x3, x4, x5⟩ := (h6.keptS (keptBelow T10.out.bel) (by omega) : Cells6 wr b (off + j * 6) r y cy)
                  clear hrr h6 hry g1 g2 hZ
                  go_upto_region 35 with (go_at_call 16; refine GET.out.mono ?_; rintro e v5 ⟨⟨b3, d3, rfl, -⟩, hb⟩; unfold rowV)
                  generalize hV5 : World.alloc v5 _ = V5
                  have hb5 : Below v5.heap.size v5 V5 := by rw [← hV5]; exact (Below.refl _ _).alloc (Nat.le_refl _) _
                  have hO5 : V5.heap[v5.heap.size]? = some (rowO Z b3 d3) := by rw [← hV5]; exact heap_alloc_new v5 _
                  have T11 := Lib.hid (T10.out.below (hb.trans (hb5.mono hb.size)))
                  obtain ⟨B15, hB15⟩ : ∃ B, v5.heap.size = B := ⟨_, rfl⟩
                  rw [hB15] at hO5
                  rw [hB15]
                  have O5 := Lib.hid hO5
                  clear hV5 hb hb5 hB15 GET T10 x0 x1 x2 x3 x4 x5 hO5
                  have D0 := Lib.hid (p := Below V5.heap.size V5 V5.drew) (drewB V5)
                  obtain ⟨⟨u0, u1, u2, u3, u4, u5⟩, -⟩ := six O5.out
                  obtain ⟨x0, x1, x2, x3, x4, x5⟩ := (H6.out.keptS (keptBelow T11.out.bel) (by omega) : Cells6 V5 b (off + j * 6) r y cy)
                  go_cut [155] (fun v155 wc => v155 = .bool false ∧ Hid (Two w wc p1 p2 L1 L1))
                  case first =>
                    have CELLS := Lib.hid (p := ∀ w', Below V5.heap.size V5 w' → w'.cell? ⟨b, off + j * 6, none⟩ = some (.string r.key) ∧ w'.cell? ⟨b, off + j * 6 + 1, none⟩ = some (.int .i64 r.t) ∧ w'.cell? ⟨b, off + j * 6 + 2, none⟩ = some (.int .i64 r.i) ∧ w'.cell? ⟨b, off + j * 6 + 3, none⟩ = some (.int .i64 r.q) ∧ w'.cell? ⟨b, off + j * 6 + 4, none⟩ = some (.string r.o) ∧ w'.cell? ⟨B15, 0, none⟩ = some (.string Z.key) ∧ w'.cell? ⟨B15, 1, none⟩ = some (.int .i64 Z.t) ∧ w'.cell? ⟨B15, 2, none⟩ = some (.int .i64 Z.i) ∧ w'.cell? ⟨B15, 3, none⟩ = some (.int .i64 Z.q) ∧ w'.cell? ⟨B15, 4, none⟩ = some (.string Z.o)) (fun w' hb => by
                      have ht := T11.out.bel.trans (hb.mono T11.out.bel.size)
                      obtain ⟨x0, x1, x2, x3, x4, x5⟩ := (H6.out.keptS (keptBelow ht) (by omega) : Cells6 w' b (off + j * 6) r y cy)
                      obtain ⟨⟨u0, u1, u2, u3, u4, u5⟩, -⟩ := six ((hb.block _ (lt_of_block O5.out)).trans O5.out)
                      exact ⟨x0, x1, x2, x3, x4, u0, u1, u2, u3, u4⟩)
                    go_region_held3 (fun w' => w'.cell? ⟨b, off + j * 6, none⟩ = some (.string r.key) ∧ w'.cell? ⟨b, off + j * 6 + 1, none⟩ = some (.int .i64 r.t) ∧ w'.cell? ⟨b, off + j * 6 + 2, none⟩ = some (.int .i64 r.i) ∧ w'.cell? ⟨b, off + j * 6 + 3, none⟩ = some (.int .i64 r.q) ∧ w'.cell? ⟨b, off + j * 6 + 4, none⟩ = some (.string r.o) ∧ w'.cell? ⟨B15, 0, none⟩ = some (.string Z.key) ∧ w'.cell? ⟨B15, 1, none⟩ = some (.int .i64 Z.t) ∧ w'.cell? ⟨B15, 2, none⟩ = some (.int .i64 Z.i) ∧ w'.cell? ⟨B15, 3, none⟩ = some (.int .i64 Z.q) ∧ w'.cell? ⟨B15, 4, none⟩ = some (.string Z.o)) (first | assumption | exact ⟨x0, x1, x2, x3, x4, u0, u1, u2, u3, u4⟩ | exact CELLS.out _ E0.out) (first
                      | (go_at_call 17
                         with_reducible refine (NW.out V5.drew).mono ?_
                         rintro e v1 ⟨rfl, hb⟩
                         have E0 := Lib.hid (D0.out.trans (hb.mono D0.out.size))
                         have cc1 := CELLS.out _ E0.out
                         have E1 := Lib.hid (T11.out.below E0.out)
                         clear hb)
                      | fail)
                    clear x0 x1 x2 x3 x4 x5 u0 u1 u2 u3 u4 u5 cc1 CELLS
                    go_wp2_with fail
                    go_meet
                    case rel => exact ⟨rfl, E1⟩
                  case rest =>
                  obtain ⟨rfl, T12⟩ := hcut
                  clear T11 NW O5 x0 x1 x2 x3 x4 x5 u0 u1 u2 u3 u4 u5
                  go_wp2_with fail
                  go_roundw
                  case rel => exact ⟨j + 1, by go_num, by omega, T12⟩
                  case measure => simp [intOf]; omega
                · obtain rfl : n = j := by omega
                  go_wp2_with fail
                  go_ret
                  exact ⟨rfl, T10.out.bel⟩

end Go.Proofs.Ytikifgenfpkidaa
