/-
  No statement: the walk of the law PathCommon.
-/
import Derived.Test.YtlgkffcomnclnaaPKnown
namespace Go.Proofs.Ytlgkffcomnclnaa
open Go.RowKit

theorem cell_keep {w w' : World} {a : Addr} {v : Value} (h : w.cell? a = some v) (hb : Below w.heap.size w w') : w'.cell? a = some v :=
  (hb.cell (World.block_lt_of_cell? w a h)).trans h

theorem zones_is (s : List UInt8) : zonesP s = zonesQ (partsP s) (partsP s).length := rfl

theorem com_taken (p : List (List UInt8)) (n : Nat) (h : n ≤ p.length) : comN (p.take n) p = n := by
  rw [com_comm]
  have := (com_prefix p (p.take n)).2 (by rw [List.length_take, Nat.min_eq_left h])
  rw [this, List.length_take]
  omega

theorem common_facts {a b : ByteArray} (h0 : errP a.data.toList = 0) (h1 : errP b.data.toList = 0) : ∃ c : ByteArray, tv (commonP a.data.toList b.data.toList) = .string c ∧ c.size ≤ a.size + 1 ∧ underB a.data.toList c.data.toList = true ∧ underB b.data.toList c.data.toList = true ∧
    tv (commonP a.data.toList a.data.toList) = .string a := by
  have ok := parts_ok h0
  have ok1 := parts_ok h1
  obtain ⟨p, hp⟩ : ∃ q, partsP a.data.toList = q := ⟨_, rfl⟩
  obtain ⟨q, hq⟩ : ∃ q, partsP b.data.toList = q := ⟨_, rfl⟩
  rw [hp] at ok
  rw [hq] at ok1
  have hn := com_le p q
  have tp := text_parts (all_take ok.1 (comN p q)) (by rw [List.length_take]; omega)
  refine ⟨⟨(textP (p.take (comN p q))).toArray⟩, ?_, ?_, ?_, ?_, ?_⟩
  · unfold commonP
    rw [if_pos ⟨h0, h1⟩, hp, hq]
  · have e1 : (⟨(textP (p.take (comN p q))).toArray⟩ : ByteArray).size = (textP (p.take (comN p q))).length := by show (textP (p.take (comN p q))).toArray.size = _; simp
    have e2 : a.data.toList.length = a.size := by simp
    rw [e1]
    have h3 := congrArg List.length (joinT_take_drop p (comN p q))
    rw [List.length_append] at h3
    have h5 := textP_len (p.take (comN p q))
    have h6 : (joinT p).length ≤ a.size := by
      rw [← e2, ← ok.2.2.1]
      unfold textP
      by_cases hn : p = []
      · rw [hn]; simp [joinT]
      · rw [if_neg hn]; exact Nat.le_refl _
    omega
  · show underB a.data.toList (textP (p.take (comN p q))) = true
    unfold underB
    rw [tp.2, hp]
    exact decide_eq_true ⟨h0, tp.1, by rw [com_comm, com_taken p _ hn.1, List.length_take, Nat.min_eq_left hn.1]⟩
  · show underB b.data.toList (textP (p.take (comN p q))) = true
    unfold underB
    rw [tp.2, hq]
    refine decide_eq_true ⟨h1, tp.1, ?_⟩
    rw [com_take]
    exact (by rw [com_comm, com_taken q _ hn.2, List.length_take, Nat.min_eq_left hn.2])
  · unfold commonP
    rw [if_pos ⟨h0, h0⟩, hp, com_self, List.take_length, ok.2.2.1, str_tv]

theorem common_zones {a : ByteArray} (h0 : errP a.data.toList = 0) : (zonesQ (partsP a.data.toList) (partsP a.data.toList).length ++ [a.data.toList]).length ≤ 5 := by
  have ok := (parts_ok h0).2.1
  rw [List.length_append, zonesQ_len]
  simp; omega

/-- Each zone of the one: the other and what they share are both under it, or neither. -/
theorem common_each {a b c : ByteArray} (h0 : errP a.data.toList = 0) (h1 : errP b.data.toList = 0) (hc : tv (commonP a.data.toList b.data.toList) = .string c) :
    ∀ k (h : k < (zonesQ (partsP a.data.toList) (partsP a.data.toList).length ++ [a.data.toList]).length), ∃ (Z : ByteArray) (u : Bool), tv ((zonesQ (partsP a.data.toList) (partsP a.data.toList).length ++ [a.data.toList])[k]) = .string Z ∧ Z.size ≤ a.size + 1 ∧
      underB b.data.toList Z.data.toList = u ∧ underB c.data.toList Z.data.toList = u := by
  intro k h
  have ok := parts_ok h0
  have ok1 := parts_ok h1
  have hcl : c.data.toList = commonP a.data.toList b.data.toList := by cases hc; rfl
  unfold commonP at hcl
  rw [if_pos ⟨h0, h1⟩] at hcl
  obtain ⟨p, hp⟩ : ∃ q, partsP a.data.toList = q := ⟨_, rfl⟩
  obtain ⟨q, hq⟩ : ∃ q, partsP b.data.toList = q := ⟨_, rfl⟩
  rw [hp] at ok
  rw [hq] at ok1
  rw [hp, hq] at hcl
  have hn := com_le p q
  have hk : k ≤ p.length := by
    rw [hp] at h
    rw [List.length_append, zonesQ_len] at h
    simp at h; omega
  have e : (zonesQ (partsP a.data.toList) (partsP a.data.toList).length ++ [a.data.toList])[k] = textP (p.take k) := by
    have e' : (zonesQ p p.length ++ [a.data.toList])[k]? = some (textP (p.take k)) := by
      by_cases hkl : k < p.length
      · rw [List.getElem?_append_left (by rw [zonesQ_len]; exact hkl)]
        unfold zonesQ
        rw [List.getElem?_map, List.getElem?_range hkl]; rfl
      · rw [List.getElem?_append_right (by rw [zonesQ_len]; omega), zonesQ_len, show k - p.length = 0 by omega, show p.take k = p by exact List.take_of_length_le (by omega), ok.2.2.1]; rfl
    have h' := h
    rw [← hp] at e'
    rw [List.getElem?_eq_getElem h] at e'
    exact (Option.some.inj e').trans (by rw [hp])
  rw [e]
  have tp := text_parts (all_take ok.1 k) (by rw [List.length_take]; omega)
  have tc := text_parts (all_take ok.1 (comN p q)) (by rw [List.length_take]; omega)
  refine ⟨⟨(textP (p.take k)).toArray⟩, decide (k ≤ comN p q), rfl, ?_, ?_, ?_⟩
  · have e1 : (⟨(textP (p.take k)).toArray⟩ : ByteArray).size = (textP (p.take k)).length := by show (textP (p.take k)).toArray.size = _; simp
    have e2 : a.data.toList.length = a.size := by simp
    rw [e1]
    have h3 := congrArg List.length (joinT_take_drop p k)
    rw [List.length_append] at h3
    have h5 := textP_len (p.take k)
    have h6 : (joinT p).length ≤ a.size := by
      rw [← e2, ← ok.2.2.1]
      unfold textP
      by_cases hn : p = []
      · rw [hn]; simp [joinT]
      · rw [if_neg hn]; exact Nat.le_refl _
    omega
  · show underB b.data.toList (textP (p.take k)) = _
    unfold underB
    rw [tp.2, hq, List.length_take, Nat.min_eq_left hk]
    apply decide_eq_decide.2
    rw [com_take_le q p k hk, com_comm q p]
    exact ⟨fun h => h.2.2, fun h => ⟨h1, tp.1, h⟩⟩
  · show underB c.data.toList (textP (p.take k)) = _
    rw [hcl]
    unfold underB
    rw [tp.2, tc.2, List.length_take (i := k), Nat.min_eq_left hk]
    apply decide_eq_decide.2
    rw [com_take_le _ p k hk, com_taken p _ hn.1]
    exact ⟨fun h => h.2.2, fun h => ⟨tc.1, tp.1, h⟩⟩

set_option maxRecDepth 100000 in
set_option maxHeartbeats 8000000 in
theorem pathCommon_walk (a b : ByteArray) (ha : a.size ≤ maxLen) (hb : b.size ≤ maxLen) (w : World) : Calls Try.prog 6 #[.string a, .string b] w fun e w' => e = .returned (.bool true) ∧ Below w.heap.size w w' := by
  have ha' : a.size ≤ 9223372036854775807 := ha
  have hb' : b.size ≤ 9223372036854775807 := hb
  clear ha hb
  go_enter Try.func6, Try.ntmps6
  go_wp2_with fail
  refine (known_any w).mono ?_
  rintro e w1 ⟨rfl, hb⟩
  have B1 := Lib.hid hb
  clear hb
  by_cases hl : 100 < a.size
  · go_wp2_with fail
    go_ret
    exact ⟨rfl, B1.out⟩
  by_cases hl2 : 100 < b.size
  · go_wp2_with fail
    go_ret
    exact ⟨rfl, B1.out⟩
  have PA := Lib.hid (fun w => rPathB a (by omega) w)
  have PB := Lib.hid (fun w => rPathB b (by omega) w)
  by_cases h0 : errP a.data.toList = 0
  · rw [decide_eq_true h0] at PA
    go_wp2_with fail
    refine (PA.out _).mono ?_
    rintro e w2 ⟨rfl, hb⟩
    have B2 := Lib.hid (B1.out.trans (hb.mono B1.out.size))
    clear hb B1
    by_cases h1 : errP b.data.toList = 0
    · rw [decide_eq_true h1] at PB
      go_wp2_with fail
      refine (PB.out _).mono ?_
      rintro e w3 ⟨rfl, hb⟩
      have B3 := Lib.hid (B2.out.trans (hb.mono B2.out.size))
      clear hb B2
      have C1 := Lib.hid (fun w => common_any a b (by omega) (by omega) w)
      have C2 := Lib.hid (fun w => common_any a a (by omega) (by omega) w)
      have Z1 := Lib.hid (fun w => zones_any a (by omega) w)
      obtain ⟨c, hc, hcs, f1, f2, f3⟩ := common_facts h0 h1
      have G := Lib.hid (common_each h0 h1 hc)
      have hq4 := (parts_ok h0).2.1
      have hzl := common_zones h0
      have hal : a.size ≤ 100 := by omega
      have hbl : b.size ≤ 100 := by omega
      rw [hc] at C1
      rw [f3] at C2
      rw [zones_is] at Z1
      have U1 := Lib.hid (fun w => under_any a c (by omega) (by omega) w)
      rw [f1] at U1
      have U2 := Lib.hid (fun w => under_any b c (by omega) (by omega) w)
      rw [f2] at U2
      obtain ⟨p, hp⟩ : ∃ q, partsP a.data.toList = q := ⟨_, rfl⟩
      rw [hp] at Z1 G hq4 hzl
      obtain ⟨i0, hi0, hz0, hz1, hz2⟩ := info_parts infoStr
      have es : (a.toList == a.toList) = true := beq_iff_eq.2 rfl
      clear hp h0 h1 f1 f2 f3 hc PA PB
      go_wp2_with fail
      refine (C1.out _).mono ?_
      rintro e w4 ⟨rfl, hb⟩
      have B4 := Lib.hid (B3.out.trans (hb.mono B3.out.size))
      clear hb B3
      go_wp2_with fail
      refine (U1.out _).mono ?_
      rintro e w5 ⟨rfl, hb⟩
      have B5 := Lib.hid (B4.out.trans (hb.mono B4.out.size))
      clear hb B4
      go_wp2_with fail
      refine (U2.out _).mono ?_
      rintro e w6 ⟨rfl, hb⟩
      have B6 := Lib.hid (B5.out.trans (hb.mono B5.out.size))
      clear hb B5
      go_wp2_with fail
      refine (C2.out _).mono ?_
      rintro e w7 ⟨rfl, hb⟩
      have B7 := Lib.hid (B6.out.trans (hb.mono B6.out.size))
      clear hb B6
      go_wp2_with fail
      refine (Z1.out _).mono ?_
      rintro e w8 ⟨⟨v, rfl, ho⟩, hb⟩
      have BP := Lib.hid B7.out
      have hsz := hb.size
      have B8 := Lib.hid (B7.out.trans (hb.mono B7.out.size))
      clear hb B7
      have O := Lib.hid ho
      have hzn := zonesQ_len p p.length
      have hwn := B8.out.size
      have hwm : w7.heap.size ≤ w8.heap.size := hsz
      clear ho hsz
      go_wp2_with (at_builtin; (refine wpList_append_from rfl _ _ 23 rfl (base := w7.heap.size) (e := 9) (i := i0) (z := .string ⟨#[]⟩) (bytes := 16) Try.underlying23 hi0 hz0 hz1 hz2 rfl v (.slice (some ⟨w8.heap.size, 0, none⟩) 1 1) (zonesQ p p.length).length 1 ((zonesQ p p.length).map tv) [.string a] rfl rfl (O.out.alloc _) (from_one (by simp)) (by simp [Value.oneCell']) (by unfold maxLen; omega) (by omega) (by simp; omega) ?_
                                intro v4 w' ho4 hg4 _
                                have O4 := Lib.hid (own_more ho4)
                                have B' := Lib.hid ((B8.out.alloc hwn (.cells #[.string a] 9)).grown hg4 (by simp; omega) (fun k hk => Nat.le_trans BP.out.size (O.out.lt k hk).1))
                                clear ho4 hg4))
      obtain ⟨a3, c3, rfl, -, -, hr⟩ := O4.out.reads
      have RZ := Lib.hid hr
      clear hr O4 O
      obtain ⟨zz, hzz⟩ : ∃ zz, zonesQ p p.length ++ [a.data.toList] = zz := ⟨_, rfl⟩
      rw [hzz] at RZ hzl G
      rw [hzz]
      clear hzz
      go_wp2_with fail
      go_loopw [7] (fun i wr => ∃ k : Nat, i = .int .i64 k ∧ k ≤ zz.length ∧ Hid (RT wr a3 zz) ∧ Hid (Below w.heap.size w wr)) (fun i _ => zz.length - (intOf i).toNat)
      case atStart => exact ⟨0, rfl, Nat.zero_le _, RZ, B'⟩
      case round =>
        obtain ⟨k, rfl, hk, hr, hb⟩ := hrel
        by_cases hlt : k < zz.length
        · obtain ⟨Z, u, hZ, hZs, d1, d2⟩ := G.out k hlt
          obtain ⟨g, rfl, c0⟩ := hr.out.at hlt
          rw [hZ] at c0
          have F1 := Lib.hid (fun w => under_any b Z (by omega) (by omega) w)
          rw [d1] at F1
          have F2 := Lib.hid (fun w => under_any c Z (by omega) (by omega) w)
          rw [d2] at F2
          have r1 : (k : Int) < (zz.length : Int) := by omega
          have r3 : (0 : Int) ≤ (k : Int) := by omega
          have r4 : ((k : Int)).toNat = k := by omega
          have hr' := Lib.hid (p := RT wr.drew (some ⟨g, 0, none⟩) zz) hr.out
          have hb' := Lib.hid hb.out.drew
          have cc : wr.drew.cell? ⟨g, k, none⟩ = some (.string Z) := c0
          clear c0 d1 d2 hZ hr hb
          go_wp2_with fail
          go_region_held3 (fun w' => w'.cell? ⟨g, k, none⟩ = some (.string Z)) (first | assumption | exact cc) (first
            | (go_at_call 23
               with_reducible refine (F1.out _).mono ?_
               rintro e w5 ⟨rfl, h5⟩
               have b5 := Lib.hid (hb'.out.trans (h5.mono hb'.out.size))
               have q5 := Lib.hid (hr'.out.below h5)
               have cc := cell_keep cc h5
               clear h5)
            | (go_at_call 23
               with_reducible refine (F2.out _).mono ?_
               rintro e w6 ⟨rfl, h6⟩
               have b6 := Lib.hid (b5.out.trans (h6.mono b5.out.size))
               have q6 := Lib.hid (q5.out.below h6)
               have cc := cell_keep cc h6
               clear h6)
            | fail)
          clear cc
          cases u <;> (go_wp2_with fail; exact ⟨⟨k + 1, by go_num, by omega, q6, b6⟩, by simp [intOf]; omega⟩)
        · have hke : k = zz.length := by omega
          subst hke
          go_wp2_with fail
          go_ret
          exact ⟨rfl, hb.out⟩
    · rw [decide_eq_false h1] at PB
      go_wp2_with fail
      refine (PB.out _).mono ?_
      rintro e w3 ⟨rfl, hb⟩
      have B3 := Lib.hid (B2.out.trans (hb.mono B2.out.size))
      clear hb
      go_wp2_with fail
      go_ret
      exact ⟨rfl, B3.out⟩
  · rw [decide_eq_false h0] at PA
    go_wp2_with fail
    refine (PA.out _).mono ?_
    rintro e w2 ⟨rfl, hb⟩
    have B2 := Lib.hid (B1.out.trans (hb.mono B1.out.size))
    clear hb
    go_wp2_with fail
    go_ret
    exact ⟨rfl, B2.out⟩

end Go.Proofs.Ytlgkffcomnclnaa
