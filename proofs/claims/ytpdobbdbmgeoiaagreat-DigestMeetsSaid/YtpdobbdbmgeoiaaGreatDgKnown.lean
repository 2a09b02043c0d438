/-
  No statement: known of cantonlaw14 returns true.
-/
import Derived.Test.YtpdobbdbmgeoiaaGreatDgFace
import Derived.Test.YtpdobbdbmgeoiaaGreatDgCheck
import Derived.KernelRfl
set_option linter.unusedVariables false
set_option linter.unusedSimpArgs false
namespace Go.Proofs.YtpdobbdbmgeoiaaGreat
open Go.RowKit

def kdA : RD := ⟨⟨#[97]⟩, 5, 0, 0, ⟨#[47, 122]⟩, 0, zRD.A⟩
def kdB : RD := ⟨⟨#[98]⟩, 2, 0, 0, ⟨#[47, 122]⟩, 0, zRD.A⟩
def kmB : MK := ⟨⟨#[98]⟩, 3, 0, 0, ⟨#[47, 122]⟩⟩
def kmC : MK := ⟨⟨#[99]⟩, 1, 0, 0, ⟨#[47, 122]⟩⟩
def kmX : MK := ⟨⟨#[65]⟩, 0, 0, 0, ⟨#[]⟩⟩
theorem kD1 : (pickW RD.key MK.key sendK [kdA, kdB] [kmB, kmC]).map dtR = [kdA] := by kernel_rfl
theorem kD2 : (pickW MK.key RD.key wantK [kmB, kmC] [kdA, kdB]).map MK.key = [⟨#[98]⟩, ⟨#[99]⟩] := by kernel_rfl
theorem kD3 : (pickW RD.key idK bothK [kdA, kdB] [⟨#[98]⟩, ⟨#[120]⟩]).map dtR = [kdB] := by kernel_rfl
theorem kD4 : errMarks [kmB, kmC] = 0 := by kernel_rfl
theorem kD5 : errMarks [kmX] = 5 := by kernel_rfl
theorem kD6 : Rising lsS [(⟨#[98]⟩ : ByteArray), ⟨#[120]⟩] := by
  refine List.pairwise_cons.2 ⟨fun y hy => ?_, List.pairwise_singleton _ _⟩
  rw [List.mem_singleton] at hy; subst hy; kernel_rfl

theorem kdShort : ∀ x ∈ [kdA, kdB], ShortR x := fun x hx => by
  rcases List.mem_cons.1 hx with rfl | hx
  · exact ⟨Nat.zero_le _, fun j hj => absurd hj (Nat.not_lt_zero j)⟩
  · rw [List.mem_singleton] at hx; subst hx; exact ⟨Nat.zero_le _, fun j hj => absurd hj (Nat.not_lt_zero j)⟩

theorem two_cases {j : Nat} (h : j < 2) : j = 0 ∨ j = 1 := by omega

theorem kd_reads {w : World} {b : Nat} (h : w.heap[b]? = some (.cells #[.string ⟨#[97]⟩, .int .i64 5, .int .i64 0, .int .i64 0, .string ⟨#[47, 122]⟩, .slice none 0 0, .string ⟨#[98]⟩, .int .i64 2, .int .i64 0, .int .i64 0, .string ⟨#[47, 122]⟩, .slice none 0 0] 35 (0, 0))) :
    ReadsRG (fun q => q < w.heap.size) w (some ⟨b, 0, none⟩) 2 (atD [kdA, kdB]) := by
  refine ⟨by unfold maxLen; omega, .inr ⟨b, 0, rfl, lt_of_block h, fun j hj => ⟨none, 0, ?_, ?_⟩⟩⟩
  · rcases two_cases hj with rfl | rfl
    · refine ⟨?_, ?_, ?_, ?_, ?_, ?_⟩ <;> simp [World.cell?, h, atD, kdA]
    · refine ⟨?_, ?_, ?_, ?_, ?_, ?_⟩ <;> simp [World.cell?, h, atD, kdB]
  · rcases two_cases hj with rfl | rfl <;> exact ⟨Nat.zero_le _, .inl rfl⟩
theorem km_reads {w : World} {b : Nat} (h : w.heap[b]? = some (.cells #[.string ⟨#[98]⟩, .int .i64 3, .int .i64 0, .int .i64 0, .string ⟨#[47, 122]⟩, .string ⟨#[99]⟩, .int .i64 1, .int .i64 0, .int .i64 0, .string ⟨#[47, 122]⟩] 99 (0, 0))) :
    ReadsMG (fun q => q < w.heap.size) w (some ⟨b, 0, none⟩) 2 (atK [kmB, kmC]) := by
  refine ⟨by unfold maxLen; omega, .inr ⟨b, 0, rfl, lt_of_block h, fun j hj => ?_⟩⟩
  rcases two_cases hj with rfl | rfl
  · refine ⟨?_, ?_, ?_, ?_, ?_⟩ <;> simp [World.cell?, h, atK, kmB]
  · refine ⟨?_, ?_, ?_, ?_, ?_⟩ <;> simp [World.cell?, h, atK, kmC]
theorem ks_reads {w : World} {b : Nat} (h : w.heap[b]? = some (.cells #[.string ⟨#[98]⟩, .string ⟨#[120]⟩] 9 (0, 0))) :
    ReadsSG (fun q => q < w.heap.size) w (some ⟨b, 0, none⟩) 2 (atS [⟨#[98]⟩, ⟨#[120]⟩]) := by
  refine ⟨by unfold maxLen; omega, .inr ⟨b, 0, rfl, lt_of_block h, fun j hj => ?_⟩⟩
  rcases two_cases hj with rfl | rfl <;> simp [World.cell?, h, atS]
theorem kx_reads {w : World} {b : Nat} (h : w.heap[b]? = some (.cells #[.string ⟨#[65]⟩, .int .i64 0, .int .i64 0, .int .i64 0, .string ⟨#[]⟩] 99 (0, 0))) :
    ReadsMG (fun q => q < w.heap.size) w (some ⟨b, 0, none⟩) 1 (atK [kmX]) := by
  refine ⟨by unfold maxLen; omega, .inr ⟨b, 0, rfl, lt_of_block h, fun j hj => ?_⟩⟩
  obtain rfl : j = 0 := by omega
  refine ⟨?_, ?_, ?_, ?_, ?_⟩ <;> simp [World.cell?, h, atK, kmX]

set_option maxRecDepth 100000 in
set_option maxHeartbeats 16000000 in
theorem known14_any (w : World) : Calls Tryz.prog 21 #[] w fun e w' => e = .returned (.bool true) ∧ Below w.heap.size w w' := by
  go_enter Tryz.func21, Tryz.ntmps21
  go_upto_region 3 with fail
  generalize hW : World.alloc (World.alloc w _) _ = W
  obtain ⟨hb, b1, b2, -⟩ := two_boxes w (.cells #[.string ⟨#[97]⟩, .int .i64 5, .int .i64 0, .int .i64 0, .string ⟨#[47, 122]⟩, .slice none 0 0, .string ⟨#[98]⟩, .int .i64 2, .int .i64 0, .int .i64 0, .string ⟨#[47, 122]⟩, .slice none 0 0] 35) (.cells #[.string ⟨#[98]⟩, .int .i64 3, .int .i64 0, .int .i64 0, .string ⟨#[47, 122]⟩, .string ⟨#[99]⟩, .int .i64 1, .int .i64 0, .int .i64 0, .string ⟨#[47, 122]⟩] 99)
  rw [hW] at hb b1 b2
  clear hW
  have BW := Lib.hid hb
  have RA := Lib.hid (kd_reads b1)
  have MA := Lib.hid (km_reads b2)
  clear hb b1 b2
  have hzW := BW.out.size
  go_wp2_with fail
  refine (dOf_any [kdA, kdB] _ _ (by decide) W RA.out).mono ?_
  rintro e w1 ⟨⟨va1, vc1, rfl, -, hr1⟩, hb1⟩
  have M1 := Lib.hid hr1
  have R1 := Lib.hid ((RA.out.kept (keptNew hb1) (fun _ _ h => h)).mono (H := fun q => q < w1.heap.size) (fun q h _ => by have := hb1.size; omega))
  have K1 := Lib.hid ((MA.out.kept (keptNew hb1) (fun _ _ h => h)).mono (H := fun q => q < w1.heap.size) (fun q h _ => by have := hb1.size; omega))
  have B1 := Lib.hid (BW.out.trans (hb1.mono hzW))
  clear hr1 hb1 RA MA
  go_wp2_with fail
  refine (dSend_any [kdA, kdB] _ _ [kmB, kmC] _ _ (by decide) (by decide) (by decide) kdShort w1 R1.out K1.out).mono ?_
  rintro e w2 ⟨⟨va2, vc2, he, -, hr2⟩, hb2⟩
  rw [kD1] at he hr2
  obtain rfl : e = .returned (.slice va2 1 vc2) := he
  have hz1 := B1.out.size
  have M2 := Lib.hid (M1.out.kept (keptNew hb2) (fun _ _ h => h))
  have S2 := Lib.hid hr2
  have R2 := Lib.hid ((R1.out.kept (keptNew hb2) (fun _ _ h => h)).mono (H := fun q => q < w2.heap.size) (fun q h _ => by have := hb2.size; omega))
  have K2 := Lib.hid ((K1.out.kept (keptNew hb2) (fun _ _ h => h)).mono (H := fun q => q < w2.heap.size) (fun q h _ => by have := hb2.size; omega))
  have B2 := Lib.hid (B1.out.trans (hb2.mono hz1))
  clear hr2 hb2 R1 K1 M1 B1 hz1
  go_wp2_with fail
  refine (dWant_any [kdA, kdB] _ _ [kmB, kmC] _ _ (by decide) (by decide) (by decide) w2 R2.out K2.out).mono ?_
  rintro e w3 ⟨⟨va3, vc3, he, -, hr3⟩, hb3⟩
  rw [kD2] at he hr3
  obtain rfl : e = .returned (.slice va3 2 vc3) := he
  have hz2 := B2.out.size
  have M3 := Lib.hid (M2.out.kept (keptNew hb3) (fun _ _ h => h))
  have S3 := Lib.hid (S2.out.kept (keptNew hb3) (fun _ _ h => h))
  have T3 := Lib.hid hr3
  have R3 := Lib.hid ((R2.out.kept (keptNew hb3) (fun _ _ h => h)).mono (H := fun q => q < w3.heap.size) (fun q h _ => by have := hb3.size; omega))
  have K3 := Lib.hid ((K2.out.kept (keptNew hb3) (fun _ _ h => h)).mono (H := fun q => q < w3.heap.size) (fun q h _ => by have := hb3.size; omega))
  have B3 := Lib.hid (B2.out.trans (hb3.mono hz2))
  clear hr3 hb3 R2 K2 M2 S2 B2 hz2
  go_wp2_with fail
  generalize hV : World.alloc w3 _ = V
  have hbV : Below w3.heap.size w3 V := by rw [← hV]; exact (Below.refl _ _).alloc (Nat.le_refl _) _
  have hV2 : V.heap[w3.heap.size]? = some (.cells #[.string ⟨#[98]⟩, .string ⟨#[120]⟩] 9 (0, 0)) := by rw [← hV]; exact heap_alloc_new w3 _
  clear hV
  have hz3 := B3.out.size
  refine (dPick_any [kdA, kdB] _ _ [⟨#[98]⟩, ⟨#[120]⟩] _ _ (by decide) (by decide) kD6 kdShort V ((R3.out.kept (keptNew hbV) (fun _ _ h => h)).mono (fun q h _ => by have := hbV.size; omega)) (ks_reads hV2)).mono ?_
  rintro e w4 ⟨⟨va4, vc4, he, -, hr4⟩, hb4'⟩
  rw [kD3] at he hr4
  obtain rfl : e = .returned (.slice va4 1 vc4) := he
  have hb4 := hbV.trans (hb4'.mono hbV.size)
  have B4 := Lib.hid (B3.out.trans (hb4.mono hz3))
  have K4 := Lib.hid ((K3.out.kept (keptNew hb4) (fun _ _ h => h)).mono (H := fun q => q < w4.heap.size) (fun q h _ => by have := hb4.size; omega))
  obtain ⟨mb, mo, rfl, -, m0⟩ := (M3.out.kept (keptNew hb4) (fun _ _ h => h)).cells (k := 0) (by decide)
  obtain ⟨sb, so, y2, d2, rfl, -, s0, -⟩ := (S3.out.kept (keptNew hb4) (fun _ _ h => h)).cellsD (k := 0) (by decide)
  have T4 := T3.out.kept (keptNew hb4) (fun _ _ h => h)
  obtain ⟨tb, to, hta, -, t0⟩ := T4.cells (k := 0) (by decide)
  obtain ⟨tb', to', hta', -, t1⟩ := T4.cells (k := 1) (by decide)
  rw [hta] at hta'
  cases hta'
  subst hta
  obtain ⟨pb, po, y4, d4, rfl, -, p0, -⟩ := hr4.cellsD (k := 0) (by decide)
  have m0' : w4.cell? ⟨mb, mo, none⟩ = some (.string ⟨#[97]⟩) := m0.1
  have s0' : w4.cell? ⟨sb, so, none⟩ = some (.string ⟨#[97]⟩) := s0.1
  have t0' : w4.cell? ⟨tb, to, none⟩ = some (.string ⟨#[98]⟩) := t0
  have t1' : w4.cell? ⟨tb, to + 1, none⟩ = some (.string ⟨#[99]⟩) := t1
  have p0' : w4.cell? ⟨pb, po, none⟩ = some (.string ⟨#[98]⟩) := p0.1
  clear hr4 hb4 hb4' hbV hV2 R3 K3 M3 S3 T3 B3 hz3 m0 s0 t0 t1 p0 T4
  go_wp2_with fail
  refine (dCheck_any [kmB, kmC] _ _ (by decide) (fun m hm => by
    rcases List.mem_cons.1 hm with rfl | hm
    · exact ⟨by decide, by decide⟩
    · rw [List.mem_singleton] at hm; subst hm; exact ⟨by decide, by decide⟩) w4 K4.out).mono ?_
  rintro e w5 ⟨he, hb5⟩
  rw [kD4] at he
  subst he
  have B5 := Lib.hid (B4.out.trans (hb5.mono B4.out.size))
  clear hb5 K4 B4 m0' s0' t0' t1' p0'
  go_wp2_with fail
  generalize hU : World.alloc w5 _ = U
  have hbU : Below w5.heap.size w5 U := by rw [← hU]; exact (Below.refl _ _).alloc (Nat.le_refl _) _
  have hU2 : U.heap[w5.heap.size]? = some (.cells #[.string ⟨#[65]⟩, .int .i64 0, .int .i64 0, .int .i64 0, .string ⟨#[]⟩] 99 (0, 0)) := by rw [← hU]; exact heap_alloc_new w5 _
  clear hU
  have BU := Lib.hid (B5.out.trans (hbU.mono B5.out.size))
  refine (dCheck_any [kmX] _ _ (by decide) (fun m hm => by rw [List.mem_singleton] at hm; subst hm; exact ⟨by decide, by decide⟩) U (kx_reads hU2)).mono ?_
  rintro e w6 ⟨he, hb6⟩
  rw [kD5] at he
  subst he
  have B6 := Lib.hid (BU.out.trans (hb6.mono BU.out.size))
  clear hb6 hbU hU2
  go_wp2_with fail
  go_ret
  exact ⟨rfl, B6.out⟩

end Go.Proofs.YtpdobbdbmgeoiaaGreat
