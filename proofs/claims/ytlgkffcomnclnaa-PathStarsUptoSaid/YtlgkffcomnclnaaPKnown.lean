/-
  No statement: the contracts of Texts and known of cantonlaw6.
-/
import Derived.Test.YtlgkffcomnclnaaPRefE
namespace Go.Proofs.Ytlgkffcomnclnaa
open Go.RowKit

set_option maxRecDepth 100000 in
set_option maxHeartbeats 2000000 in
theorem texts_same (a b : Option Addr) (c d : Nat) (q : List (List UInt8)) (hq : q.length ≤ 1000) (w : World) (h : RT w a q) (k : RT w b q) : Calls Try.prog 13 #[.slice a q.length c, .slice b q.length d] w fun e w' => e = .returned (.bool true) ∧ Below w.heap.size w w' := by
  have H := Lib.hid h
  have K := Lib.hid k
  clear h k
  go_enter Try.func13, Try.ntmps13
  go_wp2_with fail
  go_loopw [5] (fun i wr => ∃ k : Nat, i = .int .i64 k ∧ k ≤ q.length ∧ Hid (Below w.heap.size w wr)) (fun i _ => q.length - (intOf i).toNat)
  case atStart => exact ⟨0, rfl, Nat.zero_le _, Lib.hid (Below.refl _ _)⟩
  case round =>
    obtain ⟨k, rfl, hk, hb⟩ := hrel
    by_cases hlt : k < q.length
    · obtain ⟨g1, rfl, u1⟩ := (H.out.below hb.out).at hlt
      obtain ⟨g2, rfl, u2⟩ := (K.out.below hb.out).at hlt
      obtain ⟨s, hs⟩ : ∃ x, q[k] = x := ⟨_, rfl⟩
      rw [hs] at u1 u2
      obtain ⟨S, hS⟩ : ∃ X : ByteArray, ⟨s.toArray⟩ = X := ⟨_, rfl⟩
      unfold tv at u1 u2
      rw [hS] at u1 u2
      have e1 : (S.toList == S.toList) = true := beq_iff_eq.2 rfl
      have r1 : (k : Int) < (q.length : Int) := by omega
      have r3 : (0 : Int) ≤ (k : Int) := by omega
      have r4 : ((k : Int)).toNat = k := by omega
      clear hs hS
      go_wp2_with (go_quiet (fail))
      go_roundw
      case rel => exact ⟨k + 1, by go_num, by omega, Lib.hid (below_drewN hb.out _)⟩
      case measure => simp [intOf]; omega
    · have hke : k = q.length := by omega
      subst hke
      go_wp2_with fail
      go_ret
      exact ⟨rfl, hb.out⟩

theorem kn1 (w : World) : Calls Try.prog 9 #[.string ⟨#[47, 97, 47, 98, 49]⟩] w fun e w' => (∃ v, e = .returned (.tuple #[v, .int .i64 0]) ∧ OwnT w.heap.size w' v [[97], [98, 49]]) ∧ Below w.heap.size w w' := by
  have h := parse_any ⟨#[47, 97, 47, 98, 49]⟩ (by decide) w
  rw [show errP (⟨#[47, 97, 47, 98, 49]⟩ : ByteArray).data.toList = 0 by decide, show partsP (⟨#[47, 97, 47, 98, 49]⟩ : ByteArray).data.toList = [[97], [98, 49]] by decide] at h
  exact h

theorem kn2 (w : World) : Calls Try.prog 9 #[.string ⟨#[47, 97, 47, 47, 98]⟩] w fun e w' => (∃ v, e = .returned (.tuple #[v, .int .i64 2]) ∧ OwnT w.heap.size w' v []) ∧ Below w.heap.size w w' := by
  have h := parse_any ⟨#[47, 97, 47, 47, 98]⟩ (by decide) w
  rw [show errP (⟨#[47, 97, 47, 47, 98]⟩ : ByteArray).data.toList = 2 by decide, show partsP (⟨#[47, 97, 47, 47, 98]⟩ : ByteArray).data.toList = [] by decide] at h
  exact h

theorem kn3 (w : World) : Calls Try.prog 9 #[.string ⟨#[47, 97, 47, 98, 47, 99, 47, 100, 47, 101]⟩] w fun e w' => (∃ v, e = .returned (.tuple #[v, .int .i64 4]) ∧ OwnT w.heap.size w' v []) ∧ Below w.heap.size w w' := by
  have h := parse_any ⟨#[47, 97, 47, 98, 47, 99, 47, 100, 47, 101]⟩ (by decide) w
  rw [show errP (⟨#[47, 97, 47, 98, 47, 99, 47, 100, 47, 101]⟩ : ByteArray).data.toList = 4 by decide, show partsP (⟨#[47, 97, 47, 98, 47, 99, 47, 100, 47, 101]⟩ : ByteArray).data.toList = [] by decide] at h
  exact h

theorem kn4 (w : World) : Calls Try.prog 11 #[.string ⟨#[47, 97]⟩, .string ⟨#[120]⟩] w fun e w' => e = .returned (.tuple #[.string ⟨#[47, 97, 47, 120]⟩, .int .i64 0]) ∧ Below w.heap.size w w' := by
  have h := join_any ⟨#[47, 97]⟩ ⟨#[120]⟩ (by decide) (by decide) w
  rw [show joinP (⟨#[47, 97]⟩ : ByteArray).data.toList (⟨#[120]⟩ : ByteArray).data.toList = [47, 97, 47, 120] by decide, show joinE (⟨#[47, 97]⟩ : ByteArray).data.toList (⟨#[120]⟩ : ByteArray).data.toList = 0 by decide] at h
  exact h

theorem kn5 (w : World) : Calls Try.prog 20 #[.string ⟨#[47, 97, 47, 98, 47, 99]⟩] w fun e w' => (∃ v, e = .returned v ∧ OwnT w.heap.size w' v [[47], [47, 97], [47, 97, 47, 98]]) ∧ Below w.heap.size w w' := by
  have h := zones_any ⟨#[47, 97, 47, 98, 47, 99]⟩ (by decide) w
  rw [show zonesP (⟨#[47, 97, 47, 98, 47, 99]⟩ : ByteArray).data.toList = [[47], [47, 97], [47, 97, 47, 98]] by decide] at h
  exact h

theorem kn6 (B : Nat) (v : Value) (w : World) (h : OwnT B w v [[97], [98, 49]]) : Calls Try.prog 22 #[v] w fun e w' => e = .returned (.string ⟨#[47, 97, 47, 98, 49]⟩) ∧ Below w.heap.size w w' := by
  have h := text_any B v [[97], [98, 49]] ⟨by decide, by decide⟩ w h
  rw [show textP [[97], [98, 49]] = [47, 97, 47, 98, 49] by decide] at h
  exact h

theorem kn7 (w : World) : Calls Try.prog 22 #[.slice none 0 0] w fun e w' => e = .returned (.string ⟨#[47]⟩) ∧ Below w.heap.size w w' := by
  have h := text_any 0 (.slice none 0 0) [] ⟨by decide, by decide⟩ w (OwnT.nil _ _)
  rw [show textP [] = [47] by decide] at h
  exact h

theorem kn8 (w : World) : Calls Try.prog 14 #[.string ⟨#[47, 97, 47, 98]⟩] w fun e w' => e = .returned (.int .i64 2) ∧ Below w.heap.size w w' := by
  have h := depth_any ⟨#[47, 97, 47, 98]⟩ (by decide) w
  rw [show depthP (⟨#[47, 97, 47, 98]⟩ : ByteArray).data.toList = 2 by decide] at h
  exact h

theorem kn9 (w : World) : Calls Try.prog 14 #[.string ⟨#[97]⟩] w fun e w' => e = .returned (.int .i64 (-1)) ∧ Below w.heap.size w w' := by
  have h := depth_any ⟨#[97]⟩ (by decide) w
  rw [show depthP (⟨#[97]⟩ : ByteArray).data.toList = -1 by decide] at h
  exact h

theorem kn10 (w : World) : Calls Try.prog 16 #[.string ⟨#[47, 97, 47, 98]⟩] w fun e w' => e = .returned (.string ⟨#[47, 97]⟩) ∧ Below w.heap.size w w' := by
  have h := parent_any ⟨#[47, 97, 47, 98]⟩ (by decide) w
  rw [show parentP (⟨#[47, 97, 47, 98]⟩ : ByteArray).data.toList = [47, 97] by decide] at h
  exact h

theorem kn11 (w : World) : Calls Try.prog 18 #[.string ⟨#[47, 97, 47, 98]⟩] w fun e w' => e = .returned (.string ⟨#[98]⟩) ∧ Below w.heap.size w w' := by
  have h := last_any ⟨#[47, 97, 47, 98]⟩ (by decide) w
  rw [show lastP (⟨#[47, 97, 47, 98]⟩ : ByteArray).data.toList = [98] by decide] at h
  exact h

theorem kn12 (w : World) : Calls Try.prog 23 #[.string ⟨#[47, 97, 47, 98]⟩, .string ⟨#[47, 97]⟩] w fun e w' => e = .returned (.bool true) ∧ Below w.heap.size w w' := by
  have h := under_any ⟨#[47, 97, 47, 98]⟩ ⟨#[47, 97]⟩ (by decide) (by decide) w
  rw [show underB (⟨#[47, 97, 47, 98]⟩ : ByteArray).data.toList (⟨#[47, 97]⟩ : ByteArray).data.toList = true by decide] at h
  exact h

theorem kn13 (w : World) : Calls Try.prog 23 #[.string ⟨#[47, 97, 98]⟩, .string ⟨#[47, 97]⟩] w fun e w' => e = .returned (.bool false) ∧ Below w.heap.size w w' := by
  have h := under_any ⟨#[47, 97, 98]⟩ ⟨#[47, 97]⟩ (by decide) (by decide) w
  rw [show underB (⟨#[47, 97, 98]⟩ : ByteArray).data.toList (⟨#[47, 97]⟩ : ByteArray).data.toList = false by decide] at h
  exact h

theorem kn14 (w : World) : Calls Try.prog 25 #[.string ⟨#[47, 97, 47, 98]⟩, .string ⟨#[47, 97, 47, 99, 47, 100]⟩] w fun e w' => e = .returned (.string ⟨#[47, 97]⟩) ∧ Below w.heap.size w w' := by
  have h := common_any ⟨#[47, 97, 47, 98]⟩ ⟨#[47, 97, 47, 99, 47, 100]⟩ (by decide) (by decide) w
  rw [show commonP (⟨#[47, 97, 47, 98]⟩ : ByteArray).data.toList (⟨#[47, 97, 47, 99, 47, 100]⟩ : ByteArray).data.toList = [47, 97] by decide] at h
  exact h

theorem kn15 (w : World) : Calls Try.prog 27 #[.string ⟨#[47, 97, 47, 42, 42]⟩, .string ⟨#[47, 97]⟩] w fun e w' => e = .returned (.bool true) ∧ Below w.heap.size w w' := by
  have h := match_any ⟨#[47, 97, 47, 42, 42]⟩ ⟨#[47, 97]⟩ (by decide) (by decide) w
  rw [show matchB (⟨#[47, 97, 47, 42, 42]⟩ : ByteArray).data.toList (⟨#[47, 97]⟩ : ByteArray).data.toList = true by decide] at h
  exact h

theorem kn16 (w : World) : Calls Try.prog 27 #[.string ⟨#[47, 42, 47, 98]⟩, .string ⟨#[47, 97, 47, 98]⟩] w fun e w' => e = .returned (.bool true) ∧ Below w.heap.size w w' := by
  have h := match_any ⟨#[47, 42, 47, 98]⟩ ⟨#[47, 97, 47, 98]⟩ (by decide) (by decide) w
  rw [show matchB (⟨#[47, 42, 47, 98]⟩ : ByteArray).data.toList (⟨#[47, 97, 47, 98]⟩ : ByteArray).data.toList = true by decide] at h
  exact h

theorem kn17 (w : World) : Calls Try.prog 27 #[.string ⟨#[47, 42]⟩, .string ⟨#[47, 97, 47, 98]⟩] w fun e w' => e = .returned (.bool false) ∧ Below w.heap.size w w' := by
  have h := match_any ⟨#[47, 42]⟩ ⟨#[47, 97, 47, 98]⟩ (by decide) (by decide) w
  rw [show matchB (⟨#[47, 42]⟩ : ByteArray).data.toList (⟨#[47, 97, 47, 98]⟩ : ByteArray).data.toList = false by decide] at h
  exact h

set_option maxRecDepth 100000 in
set_option maxHeartbeats 4000000 in
theorem known_any (w : World) : Calls Try.prog 8 #[] w fun e w' => e = .returned (.bool true) ∧ Below w.heap.size w w' := by
  go_enter Try.func8, Try.ntmps8
  go_wp2_with fail
  refine (kn1 _).mono ?_
  rintro e w1 ⟨⟨v1, rfl, ho1⟩, hb1⟩
  have B1 := Lib.hid hb1
  have O1 := Lib.hid ho1
  obtain ⟨a1, c1, rfl⟩ := row_slice' ho1
  clear hb1 ho1
  go_wp2_with fail
  refine (kn2 _).mono ?_
  rintro e w2 ⟨⟨v2, rfl, -⟩, hb2⟩
  have B2 := Lib.hid (B1.out.trans (hb2.mono B1.out.size))
  have O2 := Lib.hid (p := OwnT w.heap.size w2 _ _) (own_below O1.out hb2)
  clear hb2 B1 O1
  go_wp2_with fail
  refine (kn3 _).mono ?_
  rintro e w3 ⟨⟨v3, rfl, -⟩, hb3⟩
  have B3 := Lib.hid (B2.out.trans (hb3.mono B2.out.size))
  have O3 := Lib.hid (p := OwnT w.heap.size w3 _ _) (own_below O2.out hb3)
  clear hb3 B2 O2
  go_wp2_with fail
  refine (kn4 _).mono ?_
  rintro e w4 ⟨rfl, hb4⟩
  have B4 := Lib.hid (B3.out.trans (hb4.mono B3.out.size))
  have O4 := Lib.hid (p := OwnT w.heap.size w4 _ _) (own_below O3.out hb4)
  clear hb4 B3 O3
  go_wp2_with fail
  refine (kn5 _).mono ?_
  rintro e w5 ⟨⟨v5, rfl, hz5⟩, hb5⟩
  have B5 := Lib.hid (B4.out.trans (hb5.mono B4.out.size))
  have O5 := Lib.hid (p := OwnT w.heap.size w5 _ _) (own_below O4.out hb5)
  obtain ⟨a5, c5, rfl, -, -, hr5⟩ := hz5.reads
  have R5 := Lib.hid hr5
  clear hb5 hz5 hr5 B4 O4
  go_wp2_with fail
  refine (kn6 _ _ _ O5.out).mono ?_
  rintro e w6 ⟨rfl, hb6⟩
  have B6 := Lib.hid (B5.out.trans (hb6.mono B5.out.size))
  have R6 := Lib.hid (R5.out.below hb6)
  clear hb6 B5 O5 R5
  go_wp2_with fail
  refine (kn7 _).mono ?_
  rintro e w7 ⟨rfl, hb⟩
  have B7 := Lib.hid (B6.out.trans (hb.mono B6.out.size))
  have R7 := Lib.hid (R6.out.below hb)
  clear hb B6 R6
  go_wp2_with fail
  refine (kn8 _).mono ?_
  rintro e w8 ⟨rfl, hb⟩
  have B8 := Lib.hid (B7.out.trans (hb.mono B7.out.size))
  have R8 := Lib.hid (R7.out.below hb)
  clear hb B7 R7
  go_wp2_with fail
  refine (kn9 _).mono ?_
  rintro e w9 ⟨rfl, hb⟩
  have B9 := Lib.hid (B8.out.trans (hb.mono B8.out.size))
  have R9 := Lib.hid (R8.out.below hb)
  clear hb B8 R8
  go_wp2_with fail
  refine (kn10 _).mono ?_
  rintro e w10 ⟨rfl, hb⟩
  have B10 := Lib.hid (B9.out.trans (hb.mono B9.out.size))
  have R10 := Lib.hid (R9.out.below hb)
  clear hb B9 R9
  go_wp2_with fail
  refine (kn11 _).mono ?_
  rintro e w11 ⟨rfl, hb⟩
  have B11 := Lib.hid (B10.out.trans (hb.mono B10.out.size))
  have R11 := Lib.hid (R10.out.below hb)
  clear hb B10 R10
  go_wp2_with fail
  refine (kn12 _).mono ?_
  rintro e w12 ⟨rfl, hb⟩
  have B12 := Lib.hid (B11.out.trans (hb.mono B11.out.size))
  have R12 := Lib.hid (R11.out.below hb)
  clear hb B11 R11
  go_wp2_with fail
  refine (kn13 _).mono ?_
  rintro e w13 ⟨rfl, hb⟩
  have B13 := Lib.hid (B12.out.trans (hb.mono B12.out.size))
  have R13 := Lib.hid (R12.out.below hb)
  clear hb B12 R12
  go_wp2_with fail
  refine (kn14 _).mono ?_
  rintro e w14 ⟨rfl, hb⟩
  have B14 := Lib.hid (B13.out.trans (hb.mono B13.out.size))
  have R14 := Lib.hid (R13.out.below hb)
  clear hb B13 R13
  obtain ⟨g, rfl, z0⟩ := R14.out.at (k := 0) (by decide)
  obtain ⟨g', hg, z2⟩ := R14.out.at (k := 2) (by decide)
  obtain rfl : g = g' := (Addr.mk.inj (Option.some.inj hg)).1
  clear hg
  change _ = some (Value.string ⟨#[47]⟩) at z0
  change _ = some (Value.string ⟨#[47, 97, 47, 98]⟩) at z2
  go_wp2_with fail
  refine (kn15 _).mono ?_
  rintro e w15 ⟨rfl, hb⟩
  have B15 := Lib.hid (B14.out.trans (hb.mono B14.out.size))
  clear hb B14
  go_wp2_with fail
  refine (kn16 _).mono ?_
  rintro e w16 ⟨rfl, hb⟩
  have B16 := Lib.hid (B15.out.trans (hb.mono B15.out.size))
  clear hb B15
  go_wp2_with fail
  refine (kn17 _).mono ?_
  rintro e w17 ⟨rfl, hb⟩
  have B17 := Lib.hid (B16.out.trans (hb.mono B16.out.size))
  clear hb B16
  go_wp2_with fail
  go_ret
  exact ⟨rfl, B17.out⟩

end Go.Proofs.Ytlgkffcomnclnaa
