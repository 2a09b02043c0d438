/-
  No statement: Rise of cantonlaw14; rows, marks and keys that came in.
-/
import Derived.Test.YtpdobbdbmgeoiaaDgRow
import Derived.Test.YtpdobbdbmgeoiaaTbRef
import Derived.Test.YtpdobbdbmgeoiaaDgMath
import Derived.Test.YtpdobbdbmgeoiaaTake
import Derived.Deep.DeepCutAuto
import Derived.Deep.RegionHeld3
set_option linter.unusedVariables false
set_option linter.unusedSimpArgs false
namespace Go.Proofs.Ytpdobbdbmgeoiaa
open Go.RowKit

/-- What Rise asks. -/
structure RiseL (al : List RD) : Prop where
  n : al.length ≤ 64
  f : ∀ x ∈ al, FewR x
  e : ∀ x ∈ al, errR x = 0
  r : Rising lsS (al.map RD.key)

theorem drewD (w : World) : Below w.heap.size w w.drew := ⟨rfl, rfl, rfl, Nat.le_refl _, fun _ _ => rfl⟩
theorem drewND (w : World) (m : Nat) : Below w.heap.size w (w.drewN m) := ⟨rfl, rfl, rfl, Nat.le_refl _, fun _ _ => rfl⟩

theorem rise_of {al : List RD} (h : ∀ j, j + 1 < al.length → lsS (atD al j).key (atD al (j + 1)).key = true) : Rising lsS (al.map RD.key) := by
  induction al with
  | nil => exact List.Pairwise.nil
  | cons x r ih =>
    have hr := ih (fun j hj => h (j + 1) (by simp at hj ⊢; omega))
    rw [List.map_cons]
    refine List.pairwise_cons.2 ⟨fun k hk => ?_, hr⟩
    cases r with
    | nil => cases hk
    | cons y t =>
      have h0 : lsS x.key y.key = true := h 0 (by simp)
      rw [List.map_cons] at hk hr
      rcases List.mem_cons.1 hk with rfl | hk
      · exact h0
      · exact strictS.trans _ _ _ h0 ((List.pairwise_cons.1 hr).1 k hk)

set_option maxRecDepth 100000 in
set_option maxHeartbeats 8000000 in
theorem rise_any (al : List RD) (a : Option Addr) (c : Nat) (g : ∀ x ∈ al, GoR x) (w : World) (h : ReadsRG (fun q => q < w.heap.size) w a al.length (atD al)) :
    Calls Try.prog 7 #[.slice a al.length c] w fun e w' => (∃ r, e = .returned (.bool r) ∧ (r = true → RiseL al)) ∧ Below w.heap.size w w' := by
  have gj : ∀ j, j < al.length → GoR (atD al j) := fun j hj => by rw [atD_lt hj]; exact g _ (List.getElem_mem _)
  have FR := Lib.hid (fewRows_any a al.length c (atD al) gj w h)
  have HF := Lib.hid (p := fewRs al.length (atD al) = true → ∀ j, j < al.length → FewR (atD al j)) (fun hq => (fewRs_all gj hq).2)
  obtain ⟨q, hq⟩ : ∃ q, fewRs al.length (atD al) = q := ⟨_, rfl⟩
  rw [hq] at FR HF
  have HA := Lib.hid h
  have hnm : al.length ≤ 9223372036854775807 := h.1
  have RL := Lib.hid (p := al.length ≤ 64 → (∀ j, j < al.length → FewR (atD al j)) → (∀ j, j < al.length → errR (atD al j) = 0) → (∀ j, j + 1 < al.length → lsS (atD al j).key (atD al (j + 1)).key = true) → RiseL al) (fun h1 h2 h3 h4 => ⟨h1, fun x hx => by obtain ⟨j, hj, rfl⟩ := List.getElem_of_mem hx; rw [← atD_lt hj]; exact h2 j hj, fun x hx => by obtain ⟨j, hj, rfl⟩ := List.getElem_of_mem hx; rw [← atD_lt hj]; exact h3 j hj, rise_of h4⟩)
  obtain ⟨R, hR⟩ : ∃ R, atD al = R := ⟨_, rfl⟩
  obtain ⟨n, hn⟩ : ∃ n, al.length = n := ⟨_, rfl⟩
  rw [hR] at HA HF RL
  rw [hn] at FR HA HF RL hnm ⊢
  clear h g gj hq hR hn
  go_enter Try.func7, Try.ntmps7
  go_wp2_with fail
  refine FR.out.mono ?_
  rintro e w1 ⟨rfl, hb⟩
  have B1 := Lib.hid hb
  clear hb FR
  cases q with
  | false =>
    go_wp2_with fail
    go_ret
    exact ⟨⟨_, rfl, fun h => by cases h⟩, B1.out⟩
  | true =>
  have HF2 := Lib.hid (HF.out (by trivial))
  clear HF
  by_cases h64 : 64 < n
  · have d1 : (64 : Int) < (n : Int) := by omega
    go_wp2_with fail
    go_ret
    exact ⟨⟨_, rfl, fun h => by cases h⟩, B1.out⟩
  have d1 : ¬ (64 : Int) < (n : Int) := by omega
  go_wp2_with fail
  clear d1
  go_loopw [3] (fun iv wr => ∃ i : Nat, iv = .int .i64 i ∧ i ≤ n ∧ Hid (∀ j, j < i → errR (R j) = 0) ∧ Hid (∀ j, j + 1 < i → lsS (R j).key (R (j + 1)).key = true) ∧ Hid (Below w.heap.size w wr)) (fun iv _ => n - (intOf iv).toNat)
  case atStart => exact ⟨0, rfl, Nat.zero_le _, Lib.hid (fun j h => by omega), Lib.hid (fun j h => by omega), B1⟩
  case round =>
    obtain ⟨i, rfl, hi, E5, N5, B5⟩ := hrel
    clear B1
    by_cases hlt : i < n
    · have e1 : (i : Int) < (n : Int) := by omega
      obtain ⟨b, off, y, cy, rfl, hbw, h6, hry⟩ := HA.out.cellsD hlt
      have hf := HF2.out i hlt
      have HP := Lib.hid (p := 0 < i → ∀ w', Below w.heap.size w w' → w'.cell? ⟨b, off + (i - 1) * 6, none⟩ = some (.string (R (i - 1)).key)) (fun h0 w' hb => by
        obtain ⟨b', off', y', c', hab, hb', g6, -⟩ := HA.out.cellsD (k := i - 1) (by omega)
        simp only [Option.some.injEq, Addr.mk.injEq, and_true] at hab
        obtain ⟨rfl, rfl⟩ := hab
        exact (g6.keptS (keptBelow hb) (by omega) : Cells6 w' b (off + (i - 1) * 6) (R (i - 1)) y' c').1)
      obtain ⟨p0, hp0⟩ : ∃ p, (R (i - 1)).key = p := ⟨_, rfl⟩
      rw [hp0] at HP
      have HP0 := Lib.hid hp0
      obtain ⟨r, hrr⟩ : ∃ r, R i = r := ⟨_, rfl⟩
      have HRR := Lib.hid hrr
      rw [hrr] at h6 hry hf
      have C6 := Lib.hid (p := ∀ w', Below w.heap.size w w' → w'.cell? ⟨b, off + i * 6, none⟩ = some (.string r.key) ∧ w'.cell? ⟨b, off + i * 6 + 1, none⟩ = some (.int .i64 r.t) ∧ w'.cell? ⟨b, off + i * 6 + 2, none⟩ = some (.int .i64 r.i) ∧ w'.cell? ⟨b, off + i * 6 + 3, none⟩ = some (.int .i64 r.q) ∧ w'.cell? ⟨b, off + i * 6 + 4, none⟩ = some (.string r.o) ∧ w'.cell? ⟨b, off + i * 6 + 5, none⟩ = some (.slice y r.len cy)) (fun w' hb => (h6.keptS (keptBelow hb) (by omega) : Cells6 w' b (off + i * 6) r y cy))
      have OFI := Lib.hid (p := ∀ w', Below w.heap.size w w' → Calls Try.prog 16 #[.agg #[.string r.key, .int .i64 r.t, .int .i64 r.i, .int .i64 r.q, .string r.o, .slice y r.len cy]] w' (OfRPost w' r)) (fun w' hb => ofR_any r y cy (Nat.le_trans hf.l (by omega)) w' (hry.kept (keptBelow hb) (fun q hq h => by omega)).plain)
      have CHK := Lib.hid (p := ∀ (oa : Option Addr) (oc : Nat) (w' : World), ReadsA w' oa r.len r.A → Calls Try.prog 15 #[.agg #[.string r.key, .int .i64 r.t, .int .i64 r.i, .int .i64 r.q, .string r.o, .slice oa r.len oc]] w' fun e w'' => e = .returned (.int .i64 (errR r)) ∧ Below w'.heap.size w' w'') (fun oa oc w' hr => xCheck_any r oa oc (Nat.le_trans hf.k (by omega)) (Nat.le_trans hf.o (by omega)) (fun j hj => ⟨Nat.le_trans (hf.f j hj).1 (by omega), Nat.le_trans (hf.f j hj).2.1 (by omega)⟩) w' hr)
      obtain ⟨E, hE⟩ : ∃ E, errR r = E := ⟨_, rfl⟩
      rw [hE] at CHK
      have HE := Lib.hid hE
      have D0 := Lib.hid (p := Below w.heap.size w wr.drew) (B5.out.trans (Below.mono (drewD wr) B5.out.size))
      have D1 := Lib.hid (C6.out wr B5.out)
      obtain ⟨x0, x1, x2, x3, x4, x5⟩ := D1.out
      obtain ⟨z, hz⟩ : ∃ z : Bool, z = (!(E == 0) || (decide (0 < i) && !(lsS p0 r.key))) := ⟨_, rfl⟩
      have HZ := Lib.hid hz
      clear hp0 hrr h6 hry hf hE hz
      go_upto_region 6 with fail
      go_cut [42] (fun v42 wc => v42 = .bool z ∧ Hid (Below w.heap.size w wc))
      case first =>
        by_cases hE0 : E = 0
        · subst hE0
          by_cases hi0 : 0 < i
          · have e2 : IntKind.i64.wrap ((i : Int) - 1) = (i : Int) - 1 := IntWalk.i64_in _ (by omega)
            have e3 : 0 ≤ (i : Int) - 1 := by omega
            have e4 : ((i : Int) - 1).toNat = i - 1 := by omega
            have e5 : (i : Int) - 1 < n := by omega
            have e8 : (1 : Int) ≤ (i : Int) := by omega
            have e9 : (i : Int) < (n : Int) := by omega
            have e6 : decide ((0 : Int) < (i : Int)) = true := decide_eq_true (by omega)
            have CP := Lib.hid (p := ∀ w', Below w.heap.size w w' → w'.cell? ⟨b, off + i * 6, none⟩ = some (.string r.key) ∧ w'.cell? ⟨b, off + i * 6 + 1, none⟩ = some (.int .i64 r.t) ∧ w'.cell? ⟨b, off + i * 6 + 2, none⟩ = some (.int .i64 r.i) ∧ w'.cell? ⟨b, off + i * 6 + 3, none⟩ = some (.int .i64 r.q) ∧ w'.cell? ⟨b, off + i * 6 + 4, none⟩ = some (.string r.o) ∧ w'.cell? ⟨b, off + i * 6 + 5, none⟩ = some (.slice y r.len cy) ∧ w'.cell? ⟨b, off + (i - 1) * 6, none⟩ = some (.string p0)) (fun w' hb => by
              obtain ⟨y0, y1, y2, y3, y4, y5⟩ := C6.out w' hb
              exact ⟨y0, y1, y2, y3, y4, y5, HP.out hi0 w' hb⟩)
            have pp := HP.out hi0 wr B5.out
            cases hl : lsS p0 r.key with
            | false =>
              have l1 := leqS_yes hl
              have l2 : Op.bytesLess p0.toList r.key.toList = false := hl
              have hz2 : z = true := by rw [HZ.out, hl, decide_eq_true hi0]; rfl
              clear hl HP
              go_region_held3 (fun w' => w'.cell? ⟨b, off + i * 6, none⟩ = some (.string r.key) ∧ w'.cell? ⟨b, off + i * 6 + 1, none⟩ = some (.int .i64 r.t) ∧ w'.cell? ⟨b, off + i * 6 + 2, none⟩ = some (.int .i64 r.i) ∧ w'.cell? ⟨b, off + i * 6 + 3, none⟩ = some (.int .i64 r.q) ∧ w'.cell? ⟨b, off + i * 6 + 4, none⟩ = some (.string r.o) ∧ w'.cell? ⟨b, off + i * 6 + 5, none⟩ = some (.slice y r.len cy) ∧ w'.cell? ⟨b, off + (i - 1) * 6, none⟩ = some (.string p0)) (first | assumption | exact ⟨x0, x1, x2, x3, x4, x5, pp⟩ | exact CP.out _ E1.out | exact CP.out _ E2.out) (first
                | (go_at_call 16
                   with_reducible refine (OFI.out wr.drew D0.out).mono ?_
                   rintro e v1 ⟨⟨oa, oc, rfl, hro⟩, hb⟩
                   have E1 := Lib.hid (D0.out.trans (hb.mono D0.out.size))
                   have RO := Lib.hid hro
                   have cc1 := CP.out _ E1.out
                   clear hb hro)
                | (go_at_call 15
                   with_reducible refine (CHK.out oa oc v1 RO.out).mono ?_
                   rintro e v2 ⟨rfl, hb⟩
                   have E2 := Lib.hid (E1.out.trans (hb.mono E1.out.size))
                   have cc2 := CP.out _ E2.out
                   clear hb)
                | fail)
              all_goals
                clear x0 x1 x2 x3 x4 x5 cc1 cc2
                go_wp2_with fail
                go_meet
                case rel => exact ⟨by rw [hz2], E2⟩
            | true =>
              obtain ⟨l1, l2⟩ := leqS_no hl
              have l3 : Op.bytesLess p0.toList r.key.toList = true := hl
              have hz2 : z = false := by rw [HZ.out, hl]; simp
              clear hl HP
              go_region_held3 (fun w' => w'.cell? ⟨b, off + i * 6, none⟩ = some (.string r.key) ∧ w'.cell? ⟨b, off + i * 6 + 1, none⟩ = some (.int .i64 r.t) ∧ w'.cell? ⟨b, off + i * 6 + 2, none⟩ = some (.int .i64 r.i) ∧ w'.cell? ⟨b, off + i * 6 + 3, none⟩ = some (.int .i64 r.q) ∧ w'.cell? ⟨b, off + i * 6 + 4, none⟩ = some (.string r.o) ∧ w'.cell? ⟨b, off + i * 6 + 5, none⟩ = some (.slice y r.len cy) ∧ w'.cell? ⟨b, off + (i - 1) * 6, none⟩ = some (.string p0)) (first | assumption | exact ⟨x0, x1, x2, x3, x4, x5, pp⟩ | exact CP.out _ E1.out | exact CP.out _ E2.out) (first
                | (go_at_call 16
                   with_reducible refine (OFI.out wr.drew D0.out).mono ?_
                   rintro e v1 ⟨⟨oa, oc, rfl, hro⟩, hb⟩
                   have E1 := Lib.hid (D0.out.trans (hb.mono D0.out.size))
                   have RO := Lib.hid hro
                   have cc1 := CP.out _ E1.out
                   clear hb hro)
                | (go_at_call 15
                   with_reducible refine (CHK.out oa oc v1 RO.out).mono ?_
                   rintro e v2 ⟨rfl, hb⟩
                   have E2 := Lib.hid (E1.out.trans (hb.mono E1.out.size))
                   have cc2 := CP.out _ E2.out
                   clear hb)
                | fail)
              all_goals
                clear x0 x1 x2 x3 x4 x5 cc1 cc2
                go_wp2_with fail
                go_meet
                case rel => exact ⟨by rw [hz2], E2⟩
          · have hz2 : z = false := by rw [HZ.out, decide_eq_false hi0]; rfl
            obtain rfl : i = 0 := by omega
            have C0 := Lib.hid (p := ∀ w', Below w.heap.size w w' → w'.cell? ⟨b, off, none⟩ = some (.string r.key) ∧ w'.cell? ⟨b, off + 1, none⟩ = some (.int .i64 r.t) ∧ w'.cell? ⟨b, off + 2, none⟩ = some (.int .i64 r.i) ∧ w'.cell? ⟨b, off + 3, none⟩ = some (.int .i64 r.q) ∧ w'.cell? ⟨b, off + 4, none⟩ = some (.string r.o) ∧ w'.cell? ⟨b, off + 5, none⟩ = some (.slice y r.len cy)) (fun w' hb => by have := C6.out w' hb; simpa using this)
            clear HP x0 x1 x2 x3 x4 x5
            obtain ⟨x0, x1, x2, x3, x4, x5⟩ := C0.out wr B5.out
            refine wp_region_held (S := fun w' => w'.cell? ⟨b, off, none⟩ = some (.string r.key) ∧ w'.cell? ⟨b, off + 1, none⟩ = some (.int .i64 r.t) ∧ w'.cell? ⟨b, off + 2, none⟩ = some (.int .i64 r.i) ∧ w'.cell? ⟨b, off + 3, none⟩ = some (.int .i64 r.q) ∧ w'.cell? ⟨b, off + 4, none⟩ = some (.string r.o) ∧ w'.cell? ⟨b, off + 5, none⟩ = some (.slice y r.len cy)) (by kernel_rfl) ?_
            have hHeld : (fun w' : World => w'.cell? ⟨b, off, none⟩ = some (.string r.key) ∧ w'.cell? ⟨b, off + 1, none⟩ = some (.int .i64 r.t) ∧ w'.cell? ⟨b, off + 2, none⟩ = some (.int .i64 r.i) ∧ w'.cell? ⟨b, off + 3, none⟩ = some (.int .i64 r.q) ∧ w'.cell? ⟨b, off + 4, none⟩ = some (.string r.o) ∧ w'.cell? ⟨b, off + 5, none⟩ = some (.slice y r.len cy)) wr.drew := ⟨x0, x1, x2, x3, x4, x5⟩
            refine takeHYtpdobbdbmgeoiaa (i := 0) (d := some 18) (v := .slice (some ⟨b, off, none⟩) n c) rfl rfl (by kernel_rfl) (by kernel_rfl) (by kernel_rfl) (fun _ _ _ h => h) (Or.inl ⟨by rfl, by intro w hSw; obtain ⟨hS0, hS1, hS2, hS3, hS4, hS5⟩ := hSw; go_simp⟩) hHeld ?_
            simp only [Act.put, List.setIfInBounds_toArray, List.set_cons_zero, List.set_cons_succ]
            refine takeHYtpdobbdbmgeoiaa (i := 1) (d := some 19) (v := .int .i64 0) rfl rfl (by kernel_rfl) (by kernel_rfl) (by kernel_rfl) (fun _ _ _ h => h) (Or.inl ⟨by rfl, by intro w hSw; obtain ⟨hS0, hS1, hS2, hS3, hS4, hS5⟩ := hSw; go_simp⟩) hHeld ?_
            simp only [Act.put, List.setIfInBounds_toArray, List.set_cons_zero, List.set_cons_succ]
            refine takeHYtpdobbdbmgeoiaa (i := 2) (d := some 20) (v := .pointer (some ⟨b, off, none⟩)) rfl rfl (by kernel_rfl) (by kernel_rfl) (by kernel_rfl) (fun _ _ _ h => h) (Or.inl ⟨by rfl, by intro w hSw; obtain ⟨hS0, hS1, hS2, hS3, hS4, hS5⟩ := hSw; go_simp⟩) hHeld ?_
            simp only [Act.put, List.setIfInBounds_toArray, List.set_cons_zero, List.set_cons_succ]
            refine takeHYtpdobbdbmgeoiaa (i := 3) (d := some 21) (v := .agg #[.string r.key, .int .i64 r.t, .int .i64 r.i, .int .i64 r.q, .string r.o, .slice y r.len cy]) rfl rfl (by kernel_rfl) (by kernel_rfl) (by kernel_rfl) (fun _ _ _ h => h) (Or.inl ⟨by rfl, by intro w hSw; obtain ⟨hS0, hS1, hS2, hS3, hS4, hS5⟩ := hSw; go_simp⟩) hHeld ?_
            simp only [Act.put, List.setIfInBounds_toArray, List.set_cons_zero, List.set_cons_succ]
            refine wpAnyH_ready (rs := [4]) (by kernel_rfl) (by simp) ?_
            refine AllReadyH.cons (o := _) rfl (fun K hK => ?_) AllReadyH.nil
            go_simp
            refine (OFI.out wr.drew D0.out).mono ?_
            rintro e v1 ⟨⟨oa, oc, rfl, hro⟩, hb⟩
            have E1 := Lib.hid (D0.out.trans (hb.mono D0.out.size))
            have RO := Lib.hid hro
            refine hK.out _ _ (C0.out _ E1.out) (fun hHeld1 => ?_)
            try simp only [Act.put, List.setIfInBounds_toArray, List.set_cons_zero, List.set_cons_succ]
            clear hK K hHeld hb hro
            refine wpAnyH_ready (rs := [5]) (by kernel_rfl) (by simp) ?_
            refine AllReadyH.cons (o := _) rfl (fun K hK => ?_) AllReadyH.nil
            go_simp
            refine (CHK.out oa oc v1 RO.out).mono ?_
            rintro e v2 ⟨rfl, hb⟩
            have E2 := Lib.hid (E1.out.trans (hb.mono E1.out.size))
            refine hK.out _ _ (C0.out _ E2.out) (fun hHeld2 => ?_)
            try simp only [Act.put, List.setIfInBounds_toArray, List.set_cons_zero, List.set_cons_succ]
            clear hK K hHeld1 hb
            refine takeHYtpdobbdbmgeoiaa (i := 6) (d := some 24) (v := .bool false) rfl rfl (by kernel_rfl) (by kernel_rfl) (by kernel_rfl) (fun _ _ _ h => h) (Or.inl ⟨by rfl, by intro w hSw; obtain ⟨hS0, hS1, hS2, hS3, hS4, hS5⟩ := hSw; go_simp⟩) hHeld2 ?_
            simp only [Act.put, List.setIfInBounds_toArray, List.set_cons_zero, List.set_cons_succ]
            refine takeHYtpdobbdbmgeoiaa (i := 7) (d := some 25) (v := .bool false) rfl rfl (by kernel_rfl) (by kernel_rfl) (by kernel_rfl) (fun _ _ _ h => h) (Or.inl ⟨by rfl, by intro w hSw; obtain ⟨hS0, hS1, hS2, hS3, hS4, hS5⟩ := hSw; go_simp⟩) hHeld2 ?_
            simp only [Act.put, List.setIfInBounds_toArray, List.set_cons_zero, List.set_cons_succ]
            refine takeHYtpdobbdbmgeoiaa (i := 8) (d := some 26) (v := .int .i64 0) rfl rfl (by kernel_rfl) (by kernel_rfl) (by kernel_rfl) (fun _ _ _ h => h) (Or.inl ⟨by rfl, by intro w hSw; obtain ⟨hS0, hS1, hS2, hS3, hS4, hS5⟩ := hSw; go_simp⟩) hHeld2 ?_
            simp only [Act.put, List.setIfInBounds_toArray, List.set_cons_zero, List.set_cons_succ]
            refine takeHYtpdobbdbmgeoiaa (i := 9) (d := some 27) (v := .bool false) rfl rfl (by kernel_rfl) (by kernel_rfl) (by kernel_rfl) (fun _ _ _ h => h) (Or.inl ⟨by rfl, by intro w hSw; obtain ⟨hS0, hS1, hS2, hS3, hS4, hS5⟩ := hSw; go_simp⟩) hHeld2 ?_
            simp only [Act.put, List.setIfInBounds_toArray, List.set_cons_zero, List.set_cons_succ]
            refine takeHYtpdobbdbmgeoiaa (i := 10) (d := some 28) (v := .bool false) rfl rfl (by kernel_rfl) (by kernel_rfl) (by kernel_rfl) (fun _ _ _ h => h) (Or.inl ⟨by rfl, by intro w hSw; obtain ⟨hS0, hS1, hS2, hS3, hS4, hS5⟩ := hSw; go_simp⟩) hHeld2 ?_
            simp only [Act.put, List.setIfInBounds_toArray, List.set_cons_zero, List.set_cons_succ]
            refine takeHYtpdobbdbmgeoiaa (i := 11) (d := some 29) (v := undef) rfl rfl (by kernel_rfl) (by kernel_rfl) (by kernel_rfl) (fun _ _ _ h => h) (Or.inr ⟨by rfl, rfl⟩) hHeld2 ?_
            simp only [Act.put, List.setIfInBounds_toArray, List.set_cons_zero, List.set_cons_succ]
            refine takeHYtpdobbdbmgeoiaa (i := 12) (d := some 30) (v := undef) rfl rfl (by kernel_rfl) (by kernel_rfl) (by kernel_rfl) (fun _ _ _ h => h) (Or.inr ⟨by rfl, rfl⟩) hHeld2 ?_
            simp only [Act.put, List.setIfInBounds_toArray, List.set_cons_zero, List.set_cons_succ]
            refine takeHYtpdobbdbmgeoiaa (i := 13) (d := some 31) (v := undef) rfl rfl (by kernel_rfl) (by kernel_rfl) (by kernel_rfl) (fun _ _ _ h => h) (Or.inr ⟨by rfl, rfl⟩) hHeld2 ?_
            simp only [Act.put, List.setIfInBounds_toArray, List.set_cons_zero, List.set_cons_succ]
            refine takeHYtpdobbdbmgeoiaa (i := 14) (d := some 32) (v := undef) rfl rfl (by kernel_rfl) (by kernel_rfl) (by kernel_rfl) (fun _ _ _ h => h) (Or.inr ⟨by rfl, rfl⟩) hHeld2 ?_
            simp only [Act.put, List.setIfInBounds_toArray, List.set_cons_zero, List.set_cons_succ]
            refine takeHYtpdobbdbmgeoiaa (i := 15) (d := some 33) (v := undef) rfl rfl (by kernel_rfl) (by kernel_rfl) (by kernel_rfl) (fun _ _ _ h => h) (Or.inr ⟨by rfl, rfl⟩) hHeld2 ?_
            simp only [Act.put, List.setIfInBounds_toArray, List.set_cons_zero, List.set_cons_succ]
            refine takeHYtpdobbdbmgeoiaa (i := 16) (d := some 34) (v := undef) rfl rfl (by kernel_rfl) (by kernel_rfl) (by kernel_rfl) (fun _ _ _ h => h) (Or.inr ⟨by rfl, rfl⟩) hHeld2 ?_
            simp only [Act.put, List.setIfInBounds_toArray, List.set_cons_zero, List.set_cons_succ]
            refine takeHYtpdobbdbmgeoiaa (i := 17) (d := some 35) (v := undef) rfl rfl (by kernel_rfl) (by kernel_rfl) (by kernel_rfl) (fun _ _ _ h => h) (Or.inr ⟨by rfl, rfl⟩) hHeld2 ?_
            simp only [Act.put, List.setIfInBounds_toArray, List.set_cons_zero, List.set_cons_succ]
            refine takeHYtpdobbdbmgeoiaa (i := 18) (d := some 36) (v := undef) rfl rfl (by kernel_rfl) (by kernel_rfl) (by kernel_rfl) (fun _ _ _ h => h) (Or.inr ⟨by rfl, rfl⟩) hHeld2 ?_
            simp only [Act.put, List.setIfInBounds_toArray, List.set_cons_zero, List.set_cons_succ]
            refine takeHYtpdobbdbmgeoiaa (i := 19) (d := some 37) (v := undef) rfl rfl (by kernel_rfl) (by kernel_rfl) (by kernel_rfl) (fun _ _ _ h => h) (Or.inr ⟨by rfl, rfl⟩) hHeld2 ?_
            simp only [Act.put, List.setIfInBounds_toArray, List.set_cons_zero, List.set_cons_succ]
            refine takeHYtpdobbdbmgeoiaa (i := 20) (d := some 38) (v := undef) rfl rfl (by kernel_rfl) (by kernel_rfl) (by kernel_rfl) (fun _ _ _ h => h) (Or.inr ⟨by rfl, rfl⟩) hHeld2 ?_
            simp only [Act.put, List.setIfInBounds_toArray, List.set_cons_zero, List.set_cons_succ]
            refine takeHYtpdobbdbmgeoiaa (i := 21) (d := some 39) (v := undef) rfl rfl (by kernel_rfl) (by kernel_rfl) (by kernel_rfl) (fun _ _ _ h => h) (Or.inr ⟨by rfl, rfl⟩) hHeld2 ?_
            simp only [Act.put, List.setIfInBounds_toArray, List.set_cons_zero, List.set_cons_succ]
            refine takeHYtpdobbdbmgeoiaa (i := 22) (d := some 40) (v := undef) rfl rfl (by kernel_rfl) (by kernel_rfl) (by kernel_rfl) (fun _ _ _ h => h) (Or.inr ⟨by rfl, rfl⟩) hHeld2 ?_
            simp only [Act.put, List.setIfInBounds_toArray, List.set_cons_zero, List.set_cons_succ]
            refine takeHYtpdobbdbmgeoiaa (i := 23) (d := some 41) (v := .bool false) rfl rfl (by kernel_rfl) (by kernel_rfl) (by kernel_rfl) (fun _ _ _ h => h) (Or.inl ⟨by rfl, by intro w hSw; obtain ⟨hS0, hS1, hS2, hS3, hS4, hS5⟩ := hSw; go_simp⟩) hHeld2 ?_
            simp only [Act.put, List.setIfInBounds_toArray, List.set_cons_zero, List.set_cons_succ]
            refine takeHYtpdobbdbmgeoiaa (i := 24) (d := some 42) (v := .bool false) rfl rfl (by kernel_rfl) (by kernel_rfl) (by kernel_rfl) (fun _ _ _ h => h) (Or.inl ⟨by rfl, by intro w hSw; obtain ⟨hS0, hS1, hS2, hS3, hS4, hS5⟩ := hSw; go_simp⟩) hHeld2 ?_
            simp only [Act.put, List.setIfInBounds_toArray, List.set_cons_zero, List.set_cons_succ]
            refine wpAnyH_done (by kernel_rfl) ?_ _
            clear hHeld2 x0 x1 x2 x3 x4 x5
            go_wp2_with fail
            go_meet
            case rel => exact ⟨by rw [hz2], E2⟩
        · have e6 : (E == 0) = false := by rw [beq_eq_false_iff_ne]; exact hE0
          have e7 : (E != 0) = true := by rw [bne, e6]; rfl
          have hz2 : z = true := by rw [HZ.out, e6]; rfl
          clear HP
          refine wp_region_held (S := fun w' => w'.cell? ⟨b, off + i * 6, none⟩ = some (.string r.key) ∧ w'.cell? ⟨b, off + i * 6 + 1, none⟩ = some (.int .i64 r.t) ∧ w'.cell? ⟨b, off + i * 6 + 2, none⟩ = some (.int .i64 r.i) ∧ w'.cell? ⟨b, off + i * 6 + 3, none⟩ = some (.int .i64 r.q) ∧ w'.cell? ⟨b, off + i * 6 + 4, none⟩ = some (.string r.o) ∧ w'.cell? ⟨b, off + i * 6 + 5, none⟩ = some (.slice y r.len cy)) (by kernel_rfl) ?_
          have hHeld : (fun w' : World => w'.cell? ⟨b, off + i * 6, none⟩ = some (.string r.key) ∧ w'.cell? ⟨b, off + i * 6 + 1, none⟩ = some (.int .i64 r.t) ∧ w'.cell? ⟨b, off + i * 6 + 2, none⟩ = some (.int .i64 r.i) ∧ w'.cell? ⟨b, off + i * 6 + 3, none⟩ = some (.int .i64 r.q) ∧ w'.cell? ⟨b, off + i * 6 + 4, none⟩ = some (.string r.o) ∧ w'.cell? ⟨b, off + i * 6 + 5, none⟩ = some (.slice y r.len cy)) wr.drew := ⟨x0, x1, x2, x3, x4, x5⟩
          refine takeHYtpdobbdbmgeoiaa (i := 0) (d := some 18) (v := .slice (some ⟨b, off, none⟩) n c) rfl rfl (by kernel_rfl) (by kernel_rfl) (by kernel_rfl) (fun _ _ _ h => h) (Or.inl ⟨by rfl, by intro w hSw; obtain ⟨hS0, hS1, hS2, hS3, hS4, hS5⟩ := hSw; go_simp⟩) hHeld ?_
          simp only [Act.put, List.setIfInBounds_toArray, List.set_cons_zero, List.set_cons_succ]
          refine takeHYtpdobbdbmgeoiaa (i := 1) (d := some 19) (v := .int .i64 i) rfl rfl (by kernel_rfl) (by kernel_rfl) (by kernel_rfl) (fun _ _ _ h => h) (Or.inl ⟨by rfl, by intro w hSw; obtain ⟨hS0, hS1, hS2, hS3, hS4, hS5⟩ := hSw; go_simp⟩) hHeld ?_
          simp only [Act.put, List.setIfInBounds_toArray, List.set_cons_zero, List.set_cons_succ]
          refine takeHYtpdobbdbmgeoiaa (i := 2) (d := some 20) (v := .pointer (some ⟨b, off + i * 6, none⟩)) rfl rfl (by kernel_rfl) (by kernel_rfl) (by kernel_rfl) (fun _ _ _ h => h) (Or.inl ⟨by rfl, by intro w hSw; obtain ⟨hS0, hS1, hS2, hS3, hS4, hS5⟩ := hSw; go_simp⟩) hHeld ?_
          simp only [Act.put, List.setIfInBounds_toArray, List.set_cons_zero, List.set_cons_succ]
          refine takeHYtpdobbdbmgeoiaa (i := 3) (d := some 21) (v := .agg #[.string r.key, .int .i64 r.t, .int .i64 r.i, .int .i64 r.q, .string r.o, .slice y r.len cy]) rfl rfl (by kernel_rfl) (by kernel_rfl) (by kernel_rfl) (fun _ _ _ h => h) (Or.inl ⟨by rfl, by intro w hSw; obtain ⟨hS0, hS1, hS2, hS3, hS4, hS5⟩ := hSw; go_simp⟩) hHeld ?_
          simp only [Act.put, List.setIfInBounds_toArray, List.set_cons_zero, List.set_cons_succ]
          refine wpAnyH_ready (rs := [4]) (by kernel_rfl) (by simp) ?_
          refine AllReadyH.cons (o := _) rfl (fun K hK => ?_) AllReadyH.nil
          go_simp
          refine (OFI.out wr.drew D0.out).mono ?_
          rintro e v1 ⟨⟨oa, oc, rfl, hro⟩, hb⟩
          have E1 := Lib.hid (D0.out.trans (hb.mono D0.out.size))
          have RO := Lib.hid hro
          refine hK.out _ _ (C6.out _ E1.out) (fun hHeld1 => ?_)
          try simp only [Act.put, List.setIfInBounds_toArray, List.set_cons_zero, List.set_cons_succ]
          clear hK K hHeld hb hro
          refine wpAnyH_ready (rs := [5]) (by kernel_rfl) (by simp) ?_
          refine AllReadyH.cons (o := _) rfl (fun K hK => ?_) AllReadyH.nil
          go_simp
          refine (CHK.out oa oc v1 RO.out).mono ?_
          rintro e v2 ⟨rfl, hb⟩
          have E2 := Lib.hid (E1.out.trans (hb.mono E1.out.size))
          refine hK.out _ _ (C6.out _ E2.out) (fun hHeld2 => ?_)
          try simp only [Act.put, List.setIfInBounds_toArray, List.set_cons_zero, List.set_cons_succ]
          clear hK K hHeld1 hb
          refine takeHYtpdobbdbmgeoiaa (i := 6) (d := some 24) (v := .bool true) rfl rfl (by kernel_rfl) (by kernel_rfl) (by kernel_rfl) (fun _ _ _ h => h) (Or.inl ⟨by rfl, by intro w hSw; obtain ⟨hS0, hS1, hS2, hS3, hS4, hS5⟩ := hSw; go_simp⟩) hHeld2 ?_
          simp only [Act.put, List.setIfInBounds_toArray, List.set_cons_zero, List.set_cons_succ]
          refine takeHYtpdobbdbmgeoiaa (i := 7) (d := some 25) (v := .bool true) rfl rfl (by kernel_rfl) (by kernel_rfl) (by kernel_rfl) (fun _ _ _ h => h) (Or.inl ⟨by rfl, by intro w hSw; obtain ⟨hS0, hS1, hS2, hS3, hS4, hS5⟩ := hSw; go_simp⟩) hHeld2 ?_
          simp only [Act.put, List.setIfInBounds_toArray, List.set_cons_zero, List.set_cons_succ]
          refine takeHYtpdobbdbmgeoiaa (i := 8) (d := some 26) (v := undef) rfl rfl (by kernel_rfl) (by kernel_rfl) (by kernel_rfl) (fun _ _ _ h => h) (Or.inr ⟨by rfl, rfl⟩) hHeld2 ?_
          simp only [Act.put, List.setIfInBounds_toArray, List.set_cons_zero, List.set_cons_succ]
          refine takeHYtpdobbdbmgeoiaa (i := 9) (d := some 27) (v := undef) rfl rfl (by kernel_rfl) (by kernel_rfl) (by kernel_rfl) (fun _ _ _ h => h) (Or.inr ⟨by rfl, rfl⟩) hHeld2 ?_
          simp only [Act.put, List.setIfInBounds_toArray, List.set_cons_zero, List.set_cons_succ]
          refine takeHYtpdobbdbmgeoiaa (i := 10) (d := some 28) (v := undef) rfl rfl (by kernel_rfl) (by kernel_rfl) (by kernel_rfl) (fun _ _ _ h => h) (Or.inr ⟨by rfl, rfl⟩) hHeld2 ?_
          simp only [Act.put, List.setIfInBounds_toArray, List.set_cons_zero, List.set_cons_succ]
          refine takeHYtpdobbdbmgeoiaa (i := 11) (d := some 29) (v := undef) rfl rfl (by kernel_rfl) (by kernel_rfl) (by kernel_rfl) (fun _ _ _ h => h) (Or.inr ⟨by rfl, rfl⟩) hHeld2 ?_
          simp only [Act.put, List.setIfInBounds_toArray, List.set_cons_zero, List.set_cons_succ]
          refine takeHYtpdobbdbmgeoiaa (i := 12) (d := some 30) (v := undef) rfl rfl (by kernel_rfl) (by kernel_rfl) (by kernel_rfl) (fun _ _ _ h => h) (Or.inr ⟨by rfl, rfl⟩) hHeld2 ?_
          simp only [Act.put, List.setIfInBounds_toArray, List.set_cons_zero, List.set_cons_succ]
          refine takeHYtpdobbdbmgeoiaa (i := 13) (d := some 31) (v := undef) rfl rfl (by kernel_rfl) (by kernel_rfl) (by kernel_rfl) (fun _ _ _ h => h) (Or.inr ⟨by rfl, rfl⟩) hHeld2 ?_
          simp only [Act.put, List.setIfInBounds_toArray, List.set_cons_zero, List.set_cons_succ]
          refine takeHYtpdobbdbmgeoiaa (i := 14) (d := some 32) (v := undef) rfl rfl (by kernel_rfl) (by kernel_rfl) (by kernel_rfl) (fun _ _ _ h => h) (Or.inr ⟨by rfl, rfl⟩) hHeld2 ?_
          simp only [Act.put, List.setIfInBounds_toArray, List.set_cons_zero, List.set_cons_succ]
          refine takeHYtpdobbdbmgeoiaa (i := 15) (d := some 33) (v := undef) rfl rfl (by kernel_rfl) (by kernel_rfl) (by kernel_rfl) (fun _ _ _ h => h) (Or.inr ⟨by rfl, rfl⟩) hHeld2 ?_
          simp only [Act.put, List.setIfInBounds_toArray, List.set_cons_zero, List.set_cons_succ]
          refine takeHYtpdobbdbmgeoiaa (i := 16) (d := some 34) (v := undef) rfl rfl (by kernel_rfl) (by kernel_rfl) (by kernel_rfl) (fun _ _ _ h => h) (Or.inr ⟨by rfl, rfl⟩) hHeld2 ?_
          simp only [Act.put, List.setIfInBounds_toArray, List.set_cons_zero, List.set_cons_succ]
          refine takeHYtpdobbdbmgeoiaa (i := 17) (d := some 35) (v := undef) rfl rfl (by kernel_rfl) (by kernel_rfl) (by kernel_rfl) (fun _ _ _ h => h) (Or.inr ⟨by rfl, rfl⟩) hHeld2 ?_
          simp only [Act.put, List.setIfInBounds_toArray, List.set_cons_zero, List.set_cons_succ]
          refine takeHYtpdobbdbmgeoiaa (i := 18) (d := some 36) (v := undef) rfl rfl (by kernel_rfl) (by kernel_rfl) (by kernel_rfl) (fun _ _ _ h => h) (Or.inr ⟨by rfl, rfl⟩) hHeld2 ?_
          simp only [Act.put, List.setIfInBounds_toArray, List.set_cons_zero, List.set_cons_succ]
          refine takeHYtpdobbdbmgeoiaa (i := 19) (d := some 37) (v := undef) rfl rfl (by kernel_rfl) (by kernel_rfl) (by kernel_rfl) (fun _ _ _ h => h) (Or.inr ⟨by rfl, rfl⟩) hHeld2 ?_
          simp only [Act.put, List.setIfInBounds_toArray, List.set_cons_zero, List.set_cons_succ]
          refine takeHYtpdobbdbmgeoiaa (i := 20) (d := some 38) (v := undef) rfl rfl (by kernel_rfl) (by kernel_rfl) (by kernel_rfl) (fun _ _ _ h => h) (Or.inr ⟨by rfl, rfl⟩) hHeld2 ?_
          simp only [Act.put, List.setIfInBounds_toArray, List.set_cons_zero, List.set_cons_succ]
          refine takeHYtpdobbdbmgeoiaa (i := 21) (d := some 39) (v := undef) rfl rfl (by kernel_rfl) (by kernel_rfl) (by kernel_rfl) (fun _ _ _ h => h) (Or.inr ⟨by rfl, rfl⟩) hHeld2 ?_
          simp only [Act.put, List.setIfInBounds_toArray, List.set_cons_zero, List.set_cons_succ]
          refine takeHYtpdobbdbmgeoiaa (i := 22) (d := some 40) (v := undef) rfl rfl (by kernel_rfl) (by kernel_rfl) (by kernel_rfl) (fun _ _ _ h => h) (Or.inr ⟨by rfl, rfl⟩) hHeld2 ?_
          simp only [Act.put, List.setIfInBounds_toArray, List.set_cons_zero, List.set_cons_succ]
          refine takeHYtpdobbdbmgeoiaa (i := 23) (d := some 41) (v := undef) rfl rfl (by kernel_rfl) (by kernel_rfl) (by kernel_rfl) (fun _ _ _ h => h) (Or.inr ⟨by rfl, rfl⟩) hHeld2 ?_
          simp only [Act.put, List.setIfInBounds_toArray, List.set_cons_zero, List.set_cons_succ]
          refine takeHYtpdobbdbmgeoiaa (i := 24) (d := some 42) (v := .bool true) rfl rfl (by kernel_rfl) (by kernel_rfl) (by kernel_rfl) (fun _ _ _ h => h) (Or.inl ⟨by rfl, by intro w hSw; obtain ⟨hS0, hS1, hS2, hS3, hS4, hS5⟩ := hSw; go_simp⟩) hHeld2 ?_
          simp only [Act.put, List.setIfInBounds_toArray, List.set_cons_zero, List.set_cons_succ]
          refine wpAnyH_done (by kernel_rfl) ?_ _
          clear hHeld2 x0 x1 x2 x3 x4 x5
          go_wp2_with fail
          go_meet
          case rel => exact ⟨by rw [hz2], E2⟩
      case rest =>
      obtain ⟨rfl, B6⟩ := hcut
      clear B5 C6 OFI CHK D0 D1 x0 x1 x2 x3 x4 x5 HP
      cases z with
      | true =>
        go_wp2_with fail
        go_ret
        exact ⟨⟨_, rfl, fun h => by cases h⟩, B6.out⟩
      | false =>
        obtain ⟨z1, z2⟩ : E = 0 ∧ (0 < i → lsS p0 r.key = true) := by
          have := HZ.out.symm
          simp only [Bool.or_eq_false_iff, Bool.and_eq_false_iff, Bool.not_eq_false', beq_iff_eq, decide_eq_false_iff_not] at this
          exact ⟨this.1, fun h => this.2.resolve_left (fun h2 => h2 h)⟩
        have E9 := Lib.hid (p := ∀ j, j < i + 1 → errR (R j) = 0) (fun j hj => by
          by_cases e : j = i
          · rw [e, HRR.out, HE.out]; exact z1
          · exact E5.out j (by omega))
        have N9 := Lib.hid (p := ∀ j, j + 1 < i + 1 → lsS (R j).key (R (j + 1)).key = true) (fun j hj => by
          by_cases e : j + 1 = i
          · have h3 := z2 (by omega)
            rw [← HP0.out, ← HRR.out] at h3
            rw [e, show j = i - 1 by omega]; exact h3
          · exact N5.out j (by omega))
        clear z1 z2 HZ
        go_wp2_with fail
        go_roundw
        case rel => exact ⟨i + 1, by go_num, by omega, E9, N9, B6⟩
        case measure => simp [intOf]; omega
    · obtain rfl : i = n := by omega
      have P := Lib.hid (RL.out (by omega) HF2.out E5.out N5.out)
      go_wp2_with fail
      go_ret
      exact ⟨⟨_, rfl, fun _ => P.out⟩, B5.out⟩

end Go.Proofs.Ytpdobbdbmgeoiaa
