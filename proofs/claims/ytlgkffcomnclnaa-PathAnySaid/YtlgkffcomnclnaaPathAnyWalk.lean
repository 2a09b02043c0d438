/-
  No statement: the walk of the law PathAny.
-/
import Derived.Test.YtlgkffcomnclnaaPKnown
namespace Go.Proofs.Ytlgkffcomnclnaa
open Go.RowKit

set_option maxRecDepth 100000 in
set_option maxHeartbeats 8000000 in
theorem pathAny_walk (s p : ByteArray) (hs : s.size ≤ maxLen) (hp : p.size ≤ maxLen) (w : World) : Calls Try.prog 3 #[.string s, .string p] w fun e w' => e = .returned (.bool true) ∧ Below w.heap.size w w' := by
  have hs' : s.size ≤ 9223372036854775807 := hs
  have hp' : p.size ≤ 9223372036854775807 := hp
  clear hs hp
  go_enter Try.func3, Try.ntmps3
  go_wp2_with fail
  refine (known_any w).mono ?_
  rintro e w1 ⟨rfl, hb⟩
  have B1 := Lib.hid hb
  clear hb
  by_cases hl : 100 < s.size
  · go_wp2_with fail
    go_ret
    exact ⟨rfl, B1.out⟩
  by_cases hl2 : 100 < p.size
  · go_wp2_with fail
    go_ret
    exact ⟨rfl, B1.out⟩
  have C1 := Lib.hid (fun w => parse_any s (by omega) w)
  have C2 := Lib.hid (fun w => rParseP s (by omega) w)
  have C3 := Lib.hid (fun w => join_any s p (by omega) (by omega) w)
  have C4 := Lib.hid (fun w => rJoin_any s p (by omega) (by omega) w)
  have D1 := Lib.hid (fun w => depth_any s (by omega) w)
  have D2 := Lib.hid (fun w => rDepth_any s (by omega) w)
  have D3 := Lib.hid (fun w => parent_any s (by omega) w)
  have D4 := Lib.hid (fun w => rParent_any s (by omega) w)
  have D5 := Lib.hid (fun w => last_any s (by omega) w)
  have D6 := Lib.hid (fun w => rLast_any s (by omega) w)
  have D7 := Lib.hid (fun w => zones_any s (by omega) w)
  have D8 := Lib.hid (fun w => rZones_any s (by omega) w)
  have FQ := few_parts s.data.toList
  have hql := FQ.few
  have FQ := Lib.hid FQ
  have hzl : (zonesP s.data.toList).length ≤ 1000 := by unfold zonesP; rw [List.length_map, List.length_range]; exact hql
  have TT := Lib.hid (show errP s.data.toList = 0 → tv (textP (partsP s.data.toList)) = .string s from fun h => by rw [(parts_ok h).2.2.1, str_tv])
  obtain ⟨x, hx⟩ : ∃ x, errP s.data.toList = x := ⟨_, rfl⟩
  obtain ⟨q, hq⟩ : ∃ q, partsP s.data.toList = q := ⟨_, rfl⟩
  obtain ⟨z, hz⟩ : ∃ q, zonesP s.data.toList = q := ⟨_, rfl⟩
  obtain ⟨d, hd⟩ : ∃ q, depthP s.data.toList = q := ⟨_, rfl⟩
  obtain ⟨je, hje⟩ : ∃ q, joinE s.data.toList p.data.toList = q := ⟨_, rfl⟩
  obtain ⟨J, hJ⟩ : ∃ J : ByteArray, tv (joinP s.data.toList p.data.toList) = .string J := ⟨_, rfl⟩
  obtain ⟨P, hP⟩ : ∃ J : ByteArray, tv (parentP s.data.toList) = .string J := ⟨_, rfl⟩
  obtain ⟨L, hL⟩ : ∃ J : ByteArray, tv (lastP s.data.toList) = .string J := ⟨_, rfl⟩
  rw [hx, hq] at C1 C2
  rw [hx, hq] at TT
  rw [hq] at FQ hql
  rw [hJ, hje] at C3 C4
  rw [hd] at D1 D2
  rw [hP] at D3 D4
  rw [hL] at D5 D6
  rw [hz] at D7 D8 hzl
  clear hx hq hz hd hje hJ hP hL
  go_wp2_with fail
  refine (C1.out _).mono ?_
  rintro e w2 ⟨⟨v2, rfl, ho⟩, hb⟩
  have B2 := Lib.hid (B1.out.trans (hb.mono B1.out.size))
  clear hb B1
  have OL := Lib.hid ho
  obtain ⟨a2, c2, rfl, -, -, hr⟩ := ho.reads
  have RL := Lib.hid hr
  clear ho hr C1
  go_wp2_with fail
  refine (C2.out _).mono ?_
  rintro e w3 ⟨⟨v3, rfl, ho⟩, hb⟩
  have B3 := Lib.hid (B2.out.trans (hb.mono B2.out.size))
  have OL := Lib.hid (own_below OL.out hb)
  have RL := Lib.hid (RL.out.below hb)
  clear hb B2
  obtain ⟨a3, c3, rfl, -, -, hr⟩ := ho.reads
  have RM := Lib.hid hr
  clear ho hr C2
  go_wp2_with fail
  refine (C3.out _).mono ?_
  rintro e w4 ⟨rfl, hb⟩
  have B4 := Lib.hid (B3.out.trans (hb.mono B3.out.size))
  have OL := Lib.hid (own_below OL.out hb)
  have RL := Lib.hid (RL.out.below hb)
  have RM := Lib.hid (RM.out.below hb)
  clear hb B3
  go_wp2_with fail
  refine (C4.out _).mono ?_
  rintro e w5 ⟨rfl, hb⟩
  have B5 := Lib.hid (B4.out.trans (hb.mono B4.out.size))
  have OL := Lib.hid (own_below OL.out hb)
  have RL := Lib.hid (RL.out.below hb)
  have RM := Lib.hid (RM.out.below hb)
  clear hb B4
  have TX := Lib.hid (texts_same a2 a3 c2 c3 q hql w5 RL.out RM.out)
  go_wp2_with fail
  refine (TX.out).mono ?_
  rintro e w6 ⟨rfl, hb⟩
  have B6 := Lib.hid (B5.out.trans (hb.mono B5.out.size))
  have OL := Lib.hid (own_below OL.out hb)
  have RL := Lib.hid (RL.out.below hb)
  have RM := Lib.hid (RM.out.below hb)
  clear hb B5
  clear TX RM
  go_wp2_with fail
  refine (D1.out _).mono ?_
  rintro e w7 ⟨rfl, hb⟩
  have B7 := Lib.hid (B6.out.trans (hb.mono B6.out.size))
  have OL := Lib.hid (own_below OL.out hb)
  have RL := Lib.hid (RL.out.below hb)
  clear hb B6
  go_wp2_with fail
  refine (D2.out _).mono ?_
  rintro e w8 ⟨rfl, hb⟩
  have B8 := Lib.hid (B7.out.trans (hb.mono B7.out.size))
  have OL := Lib.hid (own_below OL.out hb)
  have RL := Lib.hid (RL.out.below hb)
  clear hb B7
  go_wp2_with fail
  refine (D3.out _).mono ?_
  rintro e w9 ⟨rfl, hb⟩
  have B9 := Lib.hid (B8.out.trans (hb.mono B8.out.size))
  have OL := Lib.hid (own_below OL.out hb)
  have RL := Lib.hid (RL.out.below hb)
  clear hb B8
  go_wp2_with fail
  refine (D4.out _).mono ?_
  rintro e w10 ⟨rfl, hb⟩
  have B10 := Lib.hid (B9.out.trans (hb.mono B9.out.size))
  have OL := Lib.hid (own_below OL.out hb)
  have RL := Lib.hid (RL.out.below hb)
  clear hb B9
  go_wp2_with fail
  refine (D5.out _).mono ?_
  rintro e w11 ⟨rfl, hb⟩
  have B11 := Lib.hid (B10.out.trans (hb.mono B10.out.size))
  have OL := Lib.hid (own_below OL.out hb)
  have RL := Lib.hid (RL.out.below hb)
  clear hb B10
  go_wp2_with fail
  refine (D6.out _).mono ?_
  rintro e w12 ⟨rfl, hb⟩
  have B12 := Lib.hid (B11.out.trans (hb.mono B11.out.size))
  have OL := Lib.hid (own_below OL.out hb)
  have RL := Lib.hid (RL.out.below hb)
  clear hb B11
  go_wp2_with fail
  refine (D7.out _).mono ?_
  rintro e w13 ⟨⟨v7, rfl, ho⟩, hb⟩
  have B13 := Lib.hid (B12.out.trans (hb.mono B12.out.size))
  have OL := Lib.hid (own_below OL.out hb)
  have RL := Lib.hid (RL.out.below hb)
  clear hb B12
  obtain ⟨a7, c7, rfl, -, -, hr⟩ := ho.reads
  have RZ := Lib.hid hr
  clear ho hr D7
  go_wp2_with fail
  refine (D8.out _).mono ?_
  rintro e w14 ⟨⟨v8, rfl, ho⟩, hb⟩
  have B14 := Lib.hid (B13.out.trans (hb.mono B13.out.size))
  have OL := Lib.hid (own_below OL.out hb)
  have RL := Lib.hid (RL.out.below hb)
  have RZ := Lib.hid (RZ.out.below hb)
  clear hb B13
  obtain ⟨a8, c8, rfl, -, -, hr⟩ := ho.reads
  have RY := Lib.hid hr
  clear ho hr D8
  have TY := Lib.hid (texts_same a7 a8 c7 c8 z hzl w14 RZ.out RY.out)
  go_wp2_with fail
  refine (TY.out).mono ?_
  rintro e w15 ⟨rfl, hb⟩
  have B15 := Lib.hid (B14.out.trans (hb.mono B14.out.size))
  have OL := Lib.hid (own_below OL.out hb)
  have RL := Lib.hid (RL.out.below hb)
  have RZ := Lib.hid (RZ.out.below hb)
  have RY := Lib.hid (RY.out.below hb)
  clear hb B14
  clear TY RZ RY
  by_cases h0 : x = 0
  · have T := Lib.hid (text_any _ _ q FQ.out w15 OL.out)
    rw [TT.out h0] at T
    have ex : (x == 0) = true := beq_iff_eq.2 h0
    have es : (s.toList == s.toList) = true := beq_iff_eq.2 rfl
    subst h0
    clear ex
    go_wp2_with fail
    refine T.out.mono ?_
    rintro e w16 ⟨rfl, hb⟩
    have BB := Lib.hid (B15.out.trans (hb.mono B15.out.size))
    clear hb T
    go_wp2_with fail
    go_ret
    exact ⟨rfl, BB.out⟩
  · have ex : (x == 0) = false := beq_eq_false_iff_ne.2 h0
    go_wp2_with fail
    go_ret
    exact ⟨rfl, B15.out⟩

end Go.Proofs.Ytlgkffcomnclnaa
