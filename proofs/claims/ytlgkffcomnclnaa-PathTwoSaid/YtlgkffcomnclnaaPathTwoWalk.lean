/-
  No statement: the walk of the law PathTwo.
-/
import Derived.Test.YtlgkffcomnclnaaPKnown
namespace Go.Proofs.Ytlgkffcomnclnaa
open Go.RowKit

theorem common_comm (a b : List UInt8) : commonP b a = commonP a b := by
  unfold commonP
  by_cases h : errP a = 0 ∧ errP b = 0
  · rw [if_pos h, if_pos ⟨h.2, h.1⟩, com_comm (partsP b) (partsP a), com_take]
  · rw [if_neg h, if_neg (fun k => h ⟨k.2, k.1⟩)]

set_option maxRecDepth 100000 in
set_option maxHeartbeats 8000000 in
theorem pathTwo_walk (a b p : ByteArray) (ha : a.size ≤ maxLen) (hb : b.size ≤ maxLen) (hp : p.size ≤ maxLen) (w : World) : Calls Try.prog 4 #[.string a, .string b, .string p] w fun e w' => e = .returned (.bool true) ∧ Below w.heap.size w w' := by
  have ha' : a.size ≤ 9223372036854775807 := ha
  have hb' : b.size ≤ 9223372036854775807 := hb
  have hp' : p.size ≤ 9223372036854775807 := hp
  clear ha hb hp
  go_enter Try.func4, Try.ntmps4
  go_wp2_with fail
  refine (known_any w).mono ?_
  rintro e w1 ⟨rfl, hb⟩
  have B1 := Lib.hid hb
  clear hb
  by_cases hl : 100 < a.size
  · go_wp2_with fail
    go_ret
    exact ⟨rfl, B1.out⟩
  by_cases hl2 : 100 < b.size
  · go_wp2_with fail
    go_ret
    exact ⟨rfl, B1.out⟩
  by_cases hl3 : 100 < p.size
  · go_wp2_with fail
    go_ret
    exact ⟨rfl, B1.out⟩
  have U1 := Lib.hid (fun w => under_any a b (by omega) (by omega) w)
  have U2 := Lib.hid (fun w => rUnder_any a b (by omega) (by omega) w)
  have C1 := Lib.hid (fun w => common_any a b (by omega) (by omega) w)
  have C2 := Lib.hid (fun w => rCommon_any a b (by omega) (by omega) w)
  have C3 := Lib.hid (fun w => common_any b a (by omega) (by omega) w)
  have M1 := Lib.hid (fun w => match_any p a (by omega) (by omega) w)
  have M2 := Lib.hid (fun w => rMatch_any p a (by omega) (by omega) w)
  rw [common_comm] at C3
  obtain ⟨u, hu⟩ : ∃ x, underB a.data.toList b.data.toList = x := ⟨_, rfl⟩
  obtain ⟨m, hm⟩ : ∃ x, matchB p.data.toList a.data.toList = x := ⟨_, rfl⟩
  obtain ⟨C, hC⟩ : ∃ J : ByteArray, tv (commonP a.data.toList b.data.toList) = .string J := ⟨_, rfl⟩
  rw [hu] at U1 U2
  rw [hm] at M1 M2
  rw [hC] at C1 C2 C3
  have es : (C.toList == C.toList) = true := beq_iff_eq.2 rfl
  clear hu hm hC
  go_wp2_with fail
  refine (U1.out _).mono ?_
  rintro e w2 ⟨rfl, hb⟩
  have B2 := Lib.hid (B1.out.trans (hb.mono B1.out.size))
  clear hb B1
  go_wp2_with fail
  refine (U2.out _).mono ?_
  rintro e w3 ⟨rfl, hb⟩
  have B3 := Lib.hid (B2.out.trans (hb.mono B2.out.size))
  clear hb B2
  go_wp2_with fail
  refine (C1.out _).mono ?_
  rintro e w4 ⟨rfl, hb⟩
  have B4 := Lib.hid (B3.out.trans (hb.mono B3.out.size))
  clear hb B3
  go_wp2_with fail
  refine (C2.out _).mono ?_
  rintro e w5 ⟨rfl, hb⟩
  have B5 := Lib.hid (B4.out.trans (hb.mono B4.out.size))
  clear hb B4
  go_wp2_with fail
  refine (C3.out _).mono ?_
  rintro e w6 ⟨rfl, hb⟩
  have B6 := Lib.hid (B5.out.trans (hb.mono B5.out.size))
  clear hb B5
  go_wp2_with fail
  refine (C2.out _).mono ?_
  rintro e w7 ⟨rfl, hb⟩
  have B7 := Lib.hid (B6.out.trans (hb.mono B6.out.size))
  clear hb B6
  go_wp2_with fail
  refine (M1.out _).mono ?_
  rintro e w8 ⟨rfl, hb⟩
  have B8 := Lib.hid (B7.out.trans (hb.mono B7.out.size))
  clear hb B7
  go_wp2_with fail
  refine (M2.out _).mono ?_
  rintro e w9 ⟨rfl, hb⟩
  have B9 := Lib.hid (B8.out.trans (hb.mono B8.out.size))
  clear hb B8
  cases u <;> cases m <;> (go_wp2_with fail; go_ret; exact ⟨rfl, B9.out⟩)

end Go.Proofs.Ytlgkffcomnclnaa
