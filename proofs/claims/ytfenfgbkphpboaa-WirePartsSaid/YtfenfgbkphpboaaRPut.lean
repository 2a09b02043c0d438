/-
  No statement: the document's own PutInt and PutText.
-/
import Derived.Test.YtfenfgbkphpboaaCBuf
import Derived.Test.YtfenfgbkphpboaaCFold
import Derived.Test.YtfenfgbkphpboaaAppS
import Derived.Lib.VarintBits
namespace Go.Proofs.Ytfenfgbkphpboaa
open Go.RowKit

theorem or128_u64 (x : Nat) : ∃ y : UInt8, bits .or .u64 ((x : Int) % 128) 128 = (y.toNat : Nat) ∧ (y.toNat = x % 128 + 128) := by
  refine ⟨(x % 128 + 128).toUInt8, ?_, Lib.toUInt8_toNat (by omega)⟩
  rw [Lib.toUInt8_toNat (by omega)]
  have := bits_join_low .u64 64 (by decide) wraps_u64 7 ((x : Int) % 128) 128 (by omega) (by omega) (by omega) (by omega) (by decide) (by decide)
  rw [this]
  omega

theorem and127_u64 (x : Nat) (h : x < 18446744073709551616) : bits .and .u64 (x : Int) 127 = (x : Int) % 128 := by
  have := bits_mask .u64 64 (by decide) wraps_u64 7 (by decide) (x : Int) (by omega) (by omega)
  simpa using this

theorem zig_or {n : Int} (h0 : -9223372036854775808 ≤ n) (hn : n < 0) : bits .or .u64 (-(n + 1) * 2) 1 = ((Lib.zigzag n : Nat) : Int) := by
  obtain ⟨a, ha⟩ : ∃ a : Nat, -(n + 1) * 2 = (a : Int) := ⟨(-(n + 1) * 2).toNat, by omega⟩
  have h := bits_join .u64 64 (by decide) wraps_u64 1 (-(n + 1) * 2) 1 (by omega) (by omega) (by omega) (by omega) (by omega) (by omega)
  rw [h]
  unfold Lib.zigzag
  rw [if_neg (by omega)]
  omega

set_option maxHeartbeats 4000000 in
set_option maxRecDepth 100000 in
theorem rPutInt_any (n : Int) (h0 : -9223372036854775808 ≤ n) (h1 : n ≤ 9223372036854775807) (w : World) : Calls Try.prog 39 #[.int .i64 n] w (OutB w (encI n)) := by
  obtain ⟨i0, hi, hz0, hz1, hz2⟩ := info_parts infoB
  have und := undB
  have hzl := zig_lt h0 h1
  have HL : Hid ((encI n).length ≤ 10) := Lib.hid (Lib.uvarint_length64 hzl)
  by_cases hn : n < 0
  · have HZ := Lib.hid (zig_or h0 hn)
    go_enter Try.func39, Try.ntmps39
    go_wp2_with fail
    go_loopw [3, 4] (fun u v wr => ∃ (un m : Nat) (pre : List UInt8) (va : Option Addr) (vc : Nat), u = .int .u64 un ∧ un < 18446744073709551616 ∧ v = .slice va m vc ∧ m ≤ 10 ∧ Hid (pre ++ Lib.uvarint un = encI n) ∧ Hid (wr.ownsRow w.heap.size 5 1 (.slice va m vc) m (bC pre)) ∧ Hid (Below w.heap.size w wr)) (fun u _ _ => (intOf u).toNat)
    case atStart => exact ⟨Lib.zigzag n, 0, [], none, 0, by rw [HZ.out], hzl, rfl, by omega, Lib.hid rfl, Lib.hid (World.ownsRow_nil _ _ _ _), Lib.hid (Below.refl _ _)⟩
    case round =>
      obtain ⟨un, m, pre, va, vc, rfl, hun, rfl, hm, hP, hO, hB⟩ := hrel
      by_cases h128 : 128 ≤ un
      · obtain ⟨y, hy, hyn⟩ := or128_u64 un
        have ha := and127_u64 un hun
        have hyl := byte_lt y
        have hyb : Lib.uvarint un = y :: Lib.uvarint (un / 128) := by rw [Lib.uvarint_big h128, ← hyn]; simp
        have hP2 := hP.out
        rw [hyb, List.append_cons] at hP2
        have HP2 := Lib.hid hP2
        have hpl2 := Lib.hid (show m + 1 ≤ 10 by
          have h1 := HL.out
          rw [← hP2, List.length_append, List.length_append] at h1
          have := own_row_len hO.out
          simp at h1; omega)
        clear hyb hP2 hyn
        go_wp2_with (at_builtin; refine wpList_append_from rfl _ _ 36 rfl und hi hz0 hz1 hz2 rfl _ _ m 1 _ (bC [y]) rfl rfl (hO.out.alloc _) (from_one (by simp)) (bC_one [y]) (by unfold maxLen; omega) (by omega) (by have := hB.out.size; simp; omega) ?_)
        intro v' w5 ho hg hnn
        clear hnn
        obtain ⟨va', vc', rfl⟩ := own_row_slice ho
        rw [← bC_app] at ho
        have O5 := Lib.hid ho
        have B5 := Lib.hid ((hB.out.alloc hB.out.size _).grown hg (by have := hB.out.size; simp; omega) (fun q hq => (hO.out.lt q hq).1))
        clear ho hg hy ha
        go_wp2_with fail
        go_roundw
        case rel => exact ⟨un / 128, m + 1, pre ++ [y], va', vc', by simp, by omega, rfl, hpl2.out, HP2, O5, B5⟩
        case measure => simp [intOf]; omega
      · obtain ⟨y, rfl⟩ : ∃ y : UInt8, un = y.toNat := ⟨un.toUInt8, by rw [Lib.toUInt8_toNat (by omega)]⟩
        have hyb : Lib.uvarint y.toNat = [y] := by rw [Lib.uvarint_small (by omega)]; simp
        have hP2 := hP.out
        rw [hyb] at hP2
        have HP2 := Lib.hid hP2
        clear hyb hP2
        go_wp2_with (at_builtin; refine wpList_append_from rfl _ _ 36 rfl und hi hz0 hz1 hz2 rfl _ _ m 1 _ (bC [y]) rfl rfl (hO.out.alloc _) (from_one (by simp)) (bC_one [y]) (by unfold maxLen; omega) (by omega) (by have := hB.out.size; simp; omega) ?_)
        intro v' w5 ho hg hnn
        clear hnn
        obtain ⟨va', vc', rfl⟩ := own_row_slice ho
        rw [← bC_app, HP2.out] at ho
        have P := Lib.hid (show OutB w (encI n) (.returned (.slice va' (m + 1) vc')) w5 from by
          have hml := own_row_len ho
          have B5 := (hB.out.alloc hB.out.size (.cells #[.int .u8 (y.toNat : Nat)] 5)).grown hg (by have := hB.out.size; simp; omega) (fun q hq => (hO.out.lt q hq).1)
          rw [hml] at ho ⊢
          exact ⟨va', vc', rfl, ho, B5⟩)
        clear ho hg
        go_wp2_with fail
        go_ret
        exact P.out
  · have HZ := Lib.hid (Lib.zigzag_nonneg (show 0 ≤ n by omega)).symm
    go_enter Try.func39, Try.ntmps39
    go_wp2_with fail
    go_loopw [3, 4] (fun u v wr => ∃ (un m : Nat) (pre : List UInt8) (va : Option Addr) (vc : Nat), u = .int .u64 un ∧ un < 18446744073709551616 ∧ v = .slice va m vc ∧ m ≤ 10 ∧ Hid (pre ++ Lib.uvarint un = encI n) ∧ Hid (wr.ownsRow w.heap.size 5 1 (.slice va m vc) m (bC pre)) ∧ Hid (Below w.heap.size w wr)) (fun u _ _ => (intOf u).toNat)
    case atStart => exact ⟨Lib.zigzag n, 0, [], none, 0, by rw [HZ.out], hzl, rfl, by omega, Lib.hid rfl, Lib.hid (World.ownsRow_nil _ _ _ _), Lib.hid (Below.refl _ _)⟩
    case round =>
      obtain ⟨un, m, pre, va, vc, rfl, hun, rfl, hm, hP, hO, hB⟩ := hrel
      by_cases h128 : 128 ≤ un
      · obtain ⟨y, hy, hyn⟩ := or128_u64 un
        have ha := and127_u64 un hun
        have hyl := byte_lt y
        have hyb : Lib.uvarint un = y :: Lib.uvarint (un / 128) := by rw [Lib.uvarint_big h128, ← hyn]; simp
        have hP2 := hP.out
        rw [hyb, List.append_cons] at hP2
        have HP2 := Lib.hid hP2
        have hpl2 := Lib.hid (show m + 1 ≤ 10 by
          have h1 := HL.out
          rw [← hP2, List.length_append, List.length_append] at h1
          have := own_row_len hO.out
          simp at h1; omega)
        clear hyb hP2 hyn
        go_wp2_with (at_builtin; refine wpList_append_from rfl _ _ 36 rfl und hi hz0 hz1 hz2 rfl _ _ m 1 _ (bC [y]) rfl rfl (hO.out.alloc _) (from_one (by simp)) (bC_one [y]) (by unfold maxLen; omega) (by omega) (by have := hB.out.size; simp; omega) ?_)
        intro v' w5 ho hg hnn
        clear hnn
        obtain ⟨va', vc', rfl⟩ := own_row_slice ho
        rw [← bC_app] at ho
        have O5 := Lib.hid ho
        have B5 := Lib.hid ((hB.out.alloc hB.out.size _).grown hg (by have := hB.out.size; simp; omega) (fun q hq => (hO.out.lt q hq).1))
        clear ho hg hy ha
        go_wp2_with fail
        go_roundw
        case rel => exact ⟨un / 128, m + 1, pre ++ [y], va', vc', by simp, by omega, rfl, hpl2.out, HP2, O5, B5⟩
        case measure => simp [intOf]; omega
      · obtain ⟨y, rfl⟩ : ∃ y : UInt8, un = y.toNat := ⟨un.toUInt8, by rw [Lib.toUInt8_toNat (by omega)]⟩
        have hyb : Lib.uvarint y.toNat = [y] := by rw [Lib.uvarint_small (by omega)]; simp
        have hP2 := hP.out
        rw [hyb] at hP2
        have HP2 := Lib.hid hP2
        clear hyb hP2
        go_wp2_with (at_builtin; refine wpList_append_from rfl _ _ 36 rfl und hi hz0 hz1 hz2 rfl _ _ m 1 _ (bC [y]) rfl rfl (hO.out.alloc _) (from_one (by simp)) (bC_one [y]) (by unfold maxLen; omega) (by omega) (by have := hB.out.size; simp; omega) ?_)
        intro v' w5 ho hg hnn
        clear hnn
        obtain ⟨va', vc', rfl⟩ := own_row_slice ho
        rw [← bC_app, HP2.out] at ho
        have P := Lib.hid (show OutB w (encI n) (.returned (.slice va' (m + 1) vc')) w5 from by
          have hml := own_row_len ho
          have B5 := (hB.out.alloc hB.out.size (.cells #[.int .u8 (y.toNat : Nat)] 5)).grown hg (by have := hB.out.size; simp; omega) (fun q hq => (hO.out.lt q hq).1)
          rw [hml] at ho ⊢
          exact ⟨va', vc', rfl, ho, B5⟩)
        clear ho hg
        go_wp2_with fail
        go_ret
        exact P.out

theorem strBytes' (s : ByteArray) : byteCells s = bC s.data.toList := rfl

set_option maxHeartbeats 1000000 in
set_option maxRecDepth 100000 in
theorem rPutText_any (s : ByteArray) (hs : s.size ≤ 1000000) (w : World) : Calls Try.prog 40 #[.string s] w (OutB w (encI (s.size : Nat) ++ s.data.toList)) := by
  obtain ⟨i0, hi, hz0, hz1, hz2⟩ := info_parts infoB
  have und := undB
  have PI := Lib.hid (rPutInt_any (s.size : Nat) (by omega) (by omega) w)
  have HL : Hid ((encI (s.size : Nat)).length ≤ 10) := Lib.hid (Lib.uvarint_length64 (zig_lt (by omega) (by omega)))
  obtain ⟨E, hE⟩ : ∃ E, encI (s.size : Nat) = E := ⟨_, rfl⟩
  rw [hE] at PI HL ⊢
  clear hE
  go_enter Try.func40, Try.ntmps40
  go_wp2_with fail
  refine PI.out.mono ?_
  rintro e w2 ⟨a2, c2, rfl, ho, hb⟩
  have O2 := Lib.hid ho
  have B2 := Lib.hid hb
  have hEl := HL.out
  clear ho hb
  go_wp2_with (at_builtin; refine wpList_append_src rfl _ _ 36 9 rfl und hi hz0 hz1 hz2 rfl _ _ E.length s.size _ (byteCells s) rfl rfl O2.out (Src.ofString w2 Try.underlying9 s) (by unfold maxLen; omega) (by omega) B2.out.size ?_)
  intro v' w5 ho hg hnb
  clear hnb
  obtain ⟨va', vc', rfl⟩ := own_row_slice ho
  have P := Lib.hid (show OutB w (E ++ s.data.toList) (.returned (.slice va' (E.length + s.size) vc')) w5 from by
    rw [strBytes', ← bC_app] at ho
    have hml := own_row_len ho
    rw [hml] at ho ⊢
    exact ⟨va', vc', rfl, ho, B2.out.grown hg B2.out.size (fun q hq => (O2.out.lt q hq).1)⟩)
  clear ho hg
  go_wp2_with fail
  go_ret
  exact P.out

end Go.Proofs.Ytfenfgbkphpboaa
