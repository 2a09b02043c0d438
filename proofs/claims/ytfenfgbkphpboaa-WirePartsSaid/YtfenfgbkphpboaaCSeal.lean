/-
  No statement: Seal of package codec.
-/
import Derived.Test.YtfenfgbkphpboaaCBuf
namespace Go.Proofs.Ytfenfgbkphpboaa
open Go.RowKit

theorem le4_next (s : Nat) {k : Nat} (hk : k < 4) : ∃ b : UInt8, (le4 s).take (k + 1) = (le4 s).take k ++ [b] ∧ (s : Int) / 2 ^ (8 * k) % 256 = (b.toNat : Nat) := by
  have e : ∀ x : Nat, x < 256 → ((x.toUInt8).toNat : Int) = (x : Int) := fun x h => by rw [u8_nat h]
  rcases (show k = 0 ∨ k = 1 ∨ k = 2 ∨ k = 3 by omega) with rfl | rfl | rfl | rfl
  · exact ⟨_, rfl, by rw [e _ (by omega)]; omega⟩
  · exact ⟨_, rfl, by rw [e _ (by omega)]; omega⟩
  · exact ⟨_, rfl, by rw [e _ (by omega)]; omega⟩
  · exact ⟨_, rfl, by rw [e _ (by omega)]; omega⟩

theorem sealB_len (l : List UInt8) : (sealB l).length = l.length + 4 := by unfold sealB; rw [List.length_append, le4_len]

set_option maxHeartbeats 2000000 in
set_option maxRecDepth 100000 in
theorem seal_any (a : Option Addr) (c : Nat) (l : List UInt8) (hl : l.length ≤ 100000000000) (w : World) (h : BR w a c l) : Calls Try.prog 74 #[.slice a l.length c] w (OutB w (sealB l)) := by
  obtain ⟨i0, hi, hz0, hz1, hz2⟩ := info_parts infoB
  have und := undB
  have H := Lib.hid h
  have hcr := crc_lt l
  have hsl : sealB l = l ++ le4 (crc l) := rfl
  obtain ⟨s, hs⟩ : ∃ s, crc l = s := ⟨_, rfl⟩
  have SU := Lib.hid (fun w' (hb : Below w.heap.size w w') => sum_any a c l w' (h.kept hb))
  rw [hs] at SU hcr hsl
  have HS := Lib.hid hsl
  clear hs h hsl
  go_enter Try.func74, Try.ntmps74
  go_wp2_with (at_make; refine wpList_make_own _ rfl _ _ 36 rfl w.heap.size 5 i0 _ 1 und hi hz0 hz1 .i64 .i64 _ (l.length + 4) rfl rfl rfl (by rw [hz2]; omega) (by unfold maxLen; omega) (Nat.le_refl _) ?_)
  intro w2 ho hg
  have O2 := Lib.hid (OwnB.cast (l := []) ho (by simp) (by simp [Lib.byteCells]))
  have B2 := Lib.hid (p := Below w.heap.size w w2) ((Below.refl _ _).grown hg (Nat.le_refl _) (fun k h => by cases h))
  have F2 := Lib.hid (H.out.kept B2.out).from
  clear ho hg
  go_wp2_with (at_builtin; refine wpList_append_from rfl _ _ 36 rfl und hi hz0 hz1 hz2 rfl _ _ 0 l.length [] _ rfl rfl O2.out F2.out (bC_one l) (by unfold maxLen; omega) (by omega) B2.out.size ?_)
  intro v' w3 ho hg hnn
  clear hnn
  have O3 := Lib.hid (OwnB.cast (l := l) ho (by simp) (by simp))
  have B3 := Lib.hid (B2.out.grown hg B2.out.size (fun k hk => (O2.out.lt k hk).1))
  obtain ⟨va, vc, rfl⟩ := O3.out.slice
  clear ho hg
  go_wp2_with fail
  refine (SU.out _ B3.out).mono ?_
  rintro e w4 ⟨rfl, rfl⟩
  go_wp2_with fail
  go_loopw [3, 15] (fun v i wr => ∃ (k m : Nat) (va : Option Addr) (vc : Nat), i = .int .i64 k ∧ k ≤ 4 ∧ v = .slice va m vc ∧ m ≤ 100000000000 + k ∧ Hid (wr.ownsRow w.heap.size 5 1 (.slice va m vc) m (bC (l ++ (le4 s).take k))) ∧ Hid (Below w.heap.size w wr)) (fun _ i _ => 4 - (intOf i).toNat)
  case atStart => exact ⟨0, l.length, va, vc, rfl, by omega, rfl, by omega, Lib.hid (by rw [List.take_zero, List.append_nil]; exact O3.out), B3⟩
  case round =>
    obtain ⟨k, m, va, vc, rfl, hk, rfl, hm, hO, hB⟩ := hrel
    by_cases hlt : k < 4
    · obtain ⟨b, hb1, hb2⟩ := le4_next s hlt
      have HB := Lib.hid hb1
      clear hb1
      go_wp2_with (at_builtin; refine wpList_append_from rfl _ _ 36 rfl und hi hz0 hz1 hz2 rfl _ _ m 1 _ (bC [b]) rfl rfl (hO.out.alloc _) (from_one (by simp)) (bC_one [b]) (by unfold maxLen; omega) (by omega) (by have := hB.out.size; simp; omega) ?_)
      intro v' w5 ho hg hnn
      clear hnn
      obtain ⟨va', vc', rfl⟩ := own_row_slice ho
      have O5 := Lib.hid (p := w5.ownsRow w.heap.size 5 1 (.slice va' (m + 1) vc') (m + 1) (bC (l ++ (le4 s).take (k + 1)))) (by rw [HB.out, ← List.append_assoc, bC_app]; exact ho)
      have B5 := Lib.hid ((hB.out.alloc hB.out.size _).grown hg (by have := hB.out.size; simp; omega) (fun q hq => (hO.out.lt q hq).1))
      clear ho hg hb2
      go_wp2_with fail
      go_roundw
      case rel => exact ⟨k + 1, m + 1, va', vc', by go_num, by omega, rfl, by omega, O5, B5⟩
      case measure => simp [intOf]; omega
    · obtain rfl : k = 4 := by omega
      have hml := own_row_len hO.out
      have P := Lib.hid (show OutB w (sealB l) (.returned (.slice va m vc)) wr from by
        have hx : l ++ List.take 4 (le4 s) = sealB l := by rw [HS.out]; rfl
        have O := hO.out
        rw [hx] at O hml
        subst hml
        exact ⟨va, vc, rfl, O, hB.out⟩)
      clear hml
      go_wp2_with fail
      go_ret
      exact P.out

end Go.Proofs.Ytfenfgbkphpboaa
