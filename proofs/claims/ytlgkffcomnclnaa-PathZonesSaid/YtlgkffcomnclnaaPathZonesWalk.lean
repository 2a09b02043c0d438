/-
  No statement: the walk of the law PathZones.
-/
import Derived.Test.YtlgkffcomnclnaaPKnown
import Derived.Test.YtlgkffcomnclnaaTake
namespace Go.Proofs.Ytlgkffcomnclnaa
open Go.RowKit

theorem cell_kept {w w' : World} {a : Addr} {v : Value} (h : w.cell? a = some v) (hb : Below w.heap.size w w') : w'.cell? a = some v :=
  (hb.cell (World.block_lt_of_cell? w a h)).trans h

theorem zones_eq (s : List UInt8) : zonesP s = zonesQ (partsP s) (partsP s).length := rfl

theorem zones_at (q : List (List UInt8)) (k : Nat) (hk : k < q.length) (h : k < (zonesQ q q.length).length) : (zonesQ q q.length)[k] = textP (q.take k) := by
  have e : (zonesQ q q.length)[k]? = some (textP (q.take k)) := by
    unfold zonesQ
    rw [List.getElem?_map, List.getElem?_range hk]; rfl
  rw [List.getElem?_eq_getElem h] at e
  exact Option.some.inj e

/-- What is true of each zone. -/
theorem zones_good {s : ByteArray} (h0 : errP s.data.toList = 0) : ∀ k, k < (partsP s.data.toList).length → ∃ Z : ByteArray, tv (textP ((partsP s.data.toList).take k)) = .string Z ∧ Z.size ≤ s.size ∧ depthP Z.data.toList = (k : Int) ∧
    underB s.data.toList Z.data.toList = true ∧ underB Z.data.toList s.data.toList = false ∧ (0 < k → tv (parentP Z.data.toList) = tv (textP ((partsP s.data.toList).take (k - 1)))) := by
  intro k hk
  have ok := parts_ok h0
  obtain ⟨q, hq⟩ : ∃ q, partsP s.data.toList = q := ⟨_, rfl⟩
  rw [hq] at ok hk
  have tp := text_parts (all_take ok.1 k) (by rw [List.length_take]; omega)
  refine ⟨⟨(textP (q.take k)).toArray⟩, by rw [hq], ?_, ?_, ?_, ?_, ?_⟩
  · have h1 : (⟨(textP (q.take k)).toArray⟩ : ByteArray).size = (textP (q.take k)).length := by show (textP (q.take k)).toArray.size = _; simp
    have h2 : s.data.toList.length = s.size := by simp
    rw [h1, ← h2, ← ok.2.2.1]
    have hne : ¬ q = [] := by rintro rfl; simp at hk
    rw [show textP q = joinT q from if_neg hne]
    have h3 := congrArg List.length (joinT_take_drop q k)
    rw [List.length_append] at h3
    have h4 : 1 ≤ (joinT (q.drop k)).length := by
      rw [List.drop_eq_getElem_cons hk, joinT_cons]; simp
    have h5 := textP_len (q.take k)
    omega
  · show depthP (textP (q.take k)) = _
    unfold depthP
    rw [if_pos tp.1, tp.2, List.length_take]
    congr 1
    omega
  · show underB s.data.toList (textP (q.take k)) = true
    unfold underB
    rw [tp.2, hq]
    apply decide_eq_true
    refine ⟨h0, tp.1, ?_⟩
    rw [com_prefix, List.length_take, Nat.min_eq_left (by omega)]
  · show underB (textP (q.take k)) s.data.toList = false
    unfold underB
    rw [tp.2, hq]
    apply decide_eq_false
    rintro ⟨-, -, h⟩
    have := (com_le (q.take k) q).1
    rw [List.length_take] at this
    omega
  · intro hpos
    show tv (parentP (textP (q.take k))) = _
    unfold parentP
    rw [tp.2]
    rw [if_neg (by intro e; have := congrArg List.length e; rw [List.length_take, List.length_nil] at this; omega), List.length_take, Nat.min_eq_left (by omega), List.take_take, Nat.min_eq_left (by omega), hq]

/-- What is true of the last zone and the first. -/
theorem zones_end {s : ByteArray} (h0 : errP s.data.toList = 0) : (partsP s.data.toList = [] → s.data.toList = [47]) ∧ (¬ partsP s.data.toList = [] → tv (textP ((partsP s.data.toList).take ((partsP s.data.toList).length - 1))) = tv (parentP s.data.toList)) := by
  have ok := parts_ok h0
  refine ⟨fun h => ?_, fun h => ?_⟩
  · have := ok.2.2.1
    rw [h] at this
    exact this.symm
  · unfold parentP
    rw [if_neg h]

set_option maxRecDepth 100000 in
set_option maxHeartbeats 8000000 in
theorem pathZones_walk (s : ByteArray) (hs : s.size ≤ maxLen) (w : World) : Calls Try.prog 5 #[.string s] w fun e w' => e = .returned (.bool true) ∧ Below w.heap.size w w' := by
  have hs' : s.size ≤ 9223372036854775807 := hs
  clear hs
  go_enter Try.func5, Try.ntmps5
  go_wp2_with fail
  refine (known_any w).mono ?_
  rintro e w1 ⟨rfl, hb⟩
  have B1 := Lib.hid hb
  clear hb
  by_cases hl : 100 < s.size
  · go_wp2_with fail
    go_ret
    exact ⟨rfl, B1.out⟩
  have C1 := Lib.hid (fun w => rPathB s (by omega) w)
  by_cases h0 : errP s.data.toList = 0
  · rw [decide_eq_true h0] at C1
    go_wp2_with fail
    refine (C1.out _).mono ?_
    rintro e w2 ⟨rfl, hb⟩
    have B2 := Lib.hid (B1.out.trans (hb.mono B1.out.size))
    clear hb B1
    have C2 := Lib.hid (fun w => zones_any s (by omega) w)
    have C3 := Lib.hid (fun w => depth_any s (by omega) w)
    have C4 := Lib.hid (fun w => parent_any s (by omega) w)
    have G := Lib.hid (zones_good h0)
    have hq4 := (parts_ok h0).2.1
    have hs100 : s.size ≤ 100 := by omega
    have E := Lib.hid (zones_end h0)
    rw [zones_eq] at C2
    rw [show depthP s.data.toList = ((partsP s.data.toList).length : Int) from if_pos h0] at C3
    obtain ⟨q, hq⟩ : ∃ q, partsP s.data.toList = q := ⟨_, rfl⟩
    rw [hq] at C2 C3 G hq4 E
    obtain ⟨P, hP⟩ : ∃ J : ByteArray, tv (parentP s.data.toList) = .string J := ⟨_, rfl⟩
    rw [hP] at C4 E
    clear hq hP h0 C1
    go_wp2_with fail
    refine (C2.out _).mono ?_
    rintro e w3 ⟨⟨v3, rfl, ho⟩, hb⟩
    have B3 := Lib.hid (B2.out.trans (hb.mono B2.out.size))
    clear hb B2
    obtain ⟨a3, c3, rfl, -, -, hr⟩ := ho.reads
    rw [zonesQ_len]
    have RZ := Lib.hid hr
    clear ho hr C2
    go_wp2_with fail
    refine (C3.out _).mono ?_
    rintro e w4 ⟨rfl, hb⟩
    have B4 := Lib.hid (B3.out.trans (hb.mono B3.out.size))
    have RZ := Lib.hid (RZ.out.below hb)
    clear hb B3
    go_wp2_with fail
    go_loopw [4] (fun i wr => ∃ k : Nat, i = .int .i64 k ∧ k ≤ q.length ∧ Hid (RT wr a3 (zonesQ q q.length)) ∧ Hid (Below w.heap.size w wr)) (fun i _ => q.length - (intOf i).toNat)
    case atStart => exact ⟨0, rfl, Nat.zero_le _, RZ, B4⟩
    case round =>
      obtain ⟨k, rfl, hk, hr, hb⟩ := hrel
      by_cases hlt : k < q.length
      · obtain ⟨Z, hZ, hZs, d1, d2, d3, d4⟩ := G.out k hlt
        have hzk : k < (zonesQ q q.length).length := by rw [zonesQ_len]; exact hlt
        obtain ⟨g, rfl, c0⟩ := hr.out.at hzk
        rw [zones_at q k hlt hzk, hZ] at c0
        have F1 := Lib.hid (fun w => depth_any Z (by omega) w)
        rw [d1] at F1
        have F2 := Lib.hid (fun w => under_any s Z (by omega) (by omega) w)
        rw [d2] at F2
        have F3 := Lib.hid (fun w => under_any Z s (by omega) (by omega) w)
        rw [d3] at F3
        have r1 : (k : Int) < (q.length : Int) := by omega
        have r3 : (0 : Int) ≤ (k : Int) := by omega
        have r4 : ((k : Int)).toNat = k := by omega
        have r5 : ((k : Int) != (k : Int)) = false := by simp
        have r5' : ((k : Int) == (k : Int)) = true := by simp
        have hr' := Lib.hid (p := RT wr.drew (some ⟨g, 0, none⟩) (zonesQ q q.length)) hr.out
        have hb' := Lib.hid hb.out.drew
        by_cases hk0 : k = 0
        · have r6 : decide (0 < k) = false := decide_eq_false (by omega)
          have hke : k + 1 ≤ q.length := by omega
          clear d1 d2 d3 d4 hk0 hk hlt r1 hzk
          have r1 : (k : Int) < (q.length : Int) := by omega
          have cc : wr.drew.cell? ⟨g, k, none⟩ = some (.string Z) := c0
          have cc0 := Lib.hid cc
          clear c0 hr hb
          go_wp2_with fail
          refine wp_region_held (S := fun w' => w'.cell? ⟨g, k, none⟩ = some (.string Z)) (by kernel_rfl) ?_
          have hHeld : (fun w' : World => w'.cell? ⟨g, k, none⟩ = some (.string Z)) { wr with drawn := wr.drawn + 1 } := cc
          clear cc
          refine takeHYtlgkffcomnclnaa (i := 0) (d := some 28) (v := .slice (some ⟨g, 0, none⟩) q.length c3) rfl rfl (by kernel_rfl) (by kernel_rfl) (by kernel_rfl) (fun _ _ _ h => h) (Or.inl ⟨by rfl, by intro w hSw; replace hSw : w.cell? ⟨g, k, none⟩ = some (.string Z) := hSw; go_simp⟩) hHeld ?_
          simp only [Act.put, List.setIfInBounds_toArray, List.set_cons_zero, List.set_cons_succ]
          refine takeHYtlgkffcomnclnaa (i := 1) (d := some 29) (v := .int .i64 (k : Nat)) rfl rfl (by kernel_rfl) (by kernel_rfl) (by kernel_rfl) (fun _ _ _ h => h) (Or.inl ⟨by rfl, by intro w hSw; replace hSw : w.cell? ⟨g, k, none⟩ = some (.string Z) := hSw; go_simp⟩) hHeld ?_
          simp only [Act.put, List.setIfInBounds_toArray, List.set_cons_zero, List.set_cons_succ]
          refine takeHYtlgkffcomnclnaa (i := 2) (d := some 30) (v := .pointer (some ⟨g, k, none⟩)) rfl rfl (by kernel_rfl) (by kernel_rfl) (by kernel_rfl) (fun _ _ _ h => h) (Or.inl ⟨by rfl, by intro w hSw; replace hSw : w.cell? ⟨g, k, none⟩ = some (.string Z) := hSw; go_simp⟩) hHeld ?_
          simp only [Act.put, List.setIfInBounds_toArray, List.set_cons_zero, List.set_cons_succ]
          refine takeHYtlgkffcomnclnaa (i := 3) (d := some 31) (v := .string Z) rfl rfl (by kernel_rfl) (by kernel_rfl) (by kernel_rfl) (fun _ _ _ h => h) (Or.inl ⟨by rfl, by intro w hSw; replace hSw : w.cell? ⟨g, k, none⟩ = some (.string Z) := hSw; go_simp⟩) hHeld ?_
          simp only [Act.put, List.setIfInBounds_toArray, List.set_cons_zero, List.set_cons_succ]
          refine takeHYtlgkffcomnclnaa (i := 5) (d := some 33) (v := .int .i64 (k : Nat)) rfl rfl (by kernel_rfl) (by kernel_rfl) (by kernel_rfl) (fun _ _ _ h => h) (Or.inl ⟨by rfl, by intro w hSw; replace hSw : w.cell? ⟨g, k, none⟩ = some (.string Z) := hSw; go_simp⟩) hHeld ?_
          simp only [Act.put, List.setIfInBounds_toArray, List.set_cons_zero, List.set_cons_succ]
          refine wpAnyH_ready (rs := [4]) (by kernel_rfl) (by simp) ?_
          refine AllReadyH.cons (o := _) rfl (fun K hK => ?_) AllReadyH.nil
          go_simp
          refine (F1.out _).mono ?_
          rintro e w5 ⟨rfl, h5⟩
          have b5 := Lib.hid (hb'.out.trans (h5.mono hb'.out.size))
          have q5 := Lib.hid (hr'.out.below h5)
          have cc := cell_kept cc0.out h5
          have cc5 := Lib.hid cc
          clear h5
          refine hK.out _ _ cc (fun hHeld5 => ?_)
          try simp only [Act.put, List.setIfInBounds_toArray, List.set_cons_zero, List.set_cons_succ]
          clear hK K
          clear hHeld
          refine takeHYtlgkffcomnclnaa (i := 6) (d := some 34) (v := .bool false) rfl rfl (by kernel_rfl) (by kernel_rfl) (by kernel_rfl) (fun _ _ _ h => h) (Or.inl ⟨by rfl, by intro w hSw; replace hSw : w.cell? ⟨g, k, none⟩ = some (.string Z) := hSw; go_simp⟩) hHeld5 ?_
          simp only [Act.put, List.setIfInBounds_toArray, List.set_cons_zero, List.set_cons_succ]
          refine takeHYtlgkffcomnclnaa (i := 7) (d := some 35) (v := .bool false) rfl rfl (by kernel_rfl) (by kernel_rfl) (by kernel_rfl) (fun _ _ _ h => h) (Or.inl ⟨by rfl, by intro w hSw; replace hSw : w.cell? ⟨g, k, none⟩ = some (.string Z) := hSw; go_simp⟩) hHeld5 ?_
          simp only [Act.put, List.setIfInBounds_toArray, List.set_cons_zero, List.set_cons_succ]
          refine takeHYtlgkffcomnclnaa (i := 8) (d := some 36) (v := .string s) rfl rfl (by kernel_rfl) (by kernel_rfl) (by kernel_rfl) (fun _ _ _ h => h) (Or.inl ⟨by rfl, by intro w hSw; replace hSw : w.cell? ⟨g, k, none⟩ = some (.string Z) := hSw; go_simp⟩) hHeld5 ?_
          simp only [Act.put, List.setIfInBounds_toArray, List.set_cons_zero, List.set_cons_succ]
          refine takeHYtlgkffcomnclnaa (i := 9) (d := some 37) (v := .slice (some ⟨g, 0, none⟩) q.length c3) rfl rfl (by kernel_rfl) (by kernel_rfl) (by kernel_rfl) (fun _ _ _ h => h) (Or.inl ⟨by rfl, by intro w hSw; replace hSw : w.cell? ⟨g, k, none⟩ = some (.string Z) := hSw; go_simp⟩) hHeld5 ?_
          simp only [Act.put, List.setIfInBounds_toArray, List.set_cons_zero, List.set_cons_succ]
          refine takeHYtlgkffcomnclnaa (i := 10) (d := some 38) (v := .int .i64 (k : Nat)) rfl rfl (by kernel_rfl) (by kernel_rfl) (by kernel_rfl) (fun _ _ _ h => h) (Or.inl ⟨by rfl, by intro w hSw; replace hSw : w.cell? ⟨g, k, none⟩ = some (.string Z) := hSw; go_simp⟩) hHeld5 ?_
          simp only [Act.put, List.setIfInBounds_toArray, List.set_cons_zero, List.set_cons_succ]
          refine takeHYtlgkffcomnclnaa (i := 11) (d := some 39) (v := .pointer (some ⟨g, k, none⟩)) rfl rfl (by kernel_rfl) (by kernel_rfl) (by kernel_rfl) (fun _ _ _ h => h) (Or.inl ⟨by rfl, by intro w hSw; replace hSw : w.cell? ⟨g, k, none⟩ = some (.string Z) := hSw; go_simp⟩) hHeld5 ?_
          simp only [Act.put, List.setIfInBounds_toArray, List.set_cons_zero, List.set_cons_succ]
          refine takeHYtlgkffcomnclnaa (i := 12) (d := some 40) (v := .string Z) rfl rfl (by kernel_rfl) (by kernel_rfl) (by kernel_rfl) (fun _ _ _ h => h) (Or.inl ⟨by rfl, by intro w hSw; replace hSw : w.cell? ⟨g, k, none⟩ = some (.string Z) := hSw; go_simp⟩) hHeld5 ?_
          simp only [Act.put, List.setIfInBounds_toArray, List.set_cons_zero, List.set_cons_succ]
          refine wpAnyH_ready (rs := [13]) (by kernel_rfl) (by simp) ?_
          refine AllReadyH.cons (o := _) rfl (fun K hK => ?_) AllReadyH.nil
          go_simp
          refine (F2.out _).mono ?_
          rintro e w6 ⟨rfl, h6⟩
          have b6 := Lib.hid (b5.out.trans (h6.mono b5.out.size))
          have q6 := Lib.hid (q5.out.below h6)
          have cc := cell_kept cc5.out h6
          have cc6 := Lib.hid cc
          clear h6
          refine hK.out _ _ cc (fun hHeld6 => ?_)
          try simp only [Act.put, List.setIfInBounds_toArray, List.set_cons_zero, List.set_cons_succ]
          clear hK K
          clear hHeld5
          refine takeHYtlgkffcomnclnaa (i := 14) (d := some 42) (v := .bool false) rfl rfl (by kernel_rfl) (by kernel_rfl) (by kernel_rfl) (fun _ _ _ h => h) (Or.inl ⟨by rfl, by intro w hSw; replace hSw : w.cell? ⟨g, k, none⟩ = some (.string Z) := hSw; go_simp⟩) hHeld6 ?_
          simp only [Act.put, List.setIfInBounds_toArray, List.set_cons_zero, List.set_cons_succ]
          refine takeHYtlgkffcomnclnaa (i := 15) (d := some 43) (v := .bool false) rfl rfl (by kernel_rfl) (by kernel_rfl) (by kernel_rfl) (fun _ _ _ h => h) (Or.inl ⟨by rfl, by intro w hSw; replace hSw : w.cell? ⟨g, k, none⟩ = some (.string Z) := hSw; go_simp⟩) hHeld6 ?_
          simp only [Act.put, List.setIfInBounds_toArray, List.set_cons_zero, List.set_cons_succ]
          refine takeHYtlgkffcomnclnaa (i := 16) (d := some 44) (v := .bool false) rfl rfl (by kernel_rfl) (by kernel_rfl) (by kernel_rfl) (fun _ _ _ h => h) (Or.inl ⟨by rfl, by intro w hSw; replace hSw : w.cell? ⟨g, k, none⟩ = some (.string Z) := hSw; go_simp⟩) hHeld6 ?_
          simp only [Act.put, List.setIfInBounds_toArray, List.set_cons_zero, List.set_cons_succ]
          refine takeHYtlgkffcomnclnaa (i := 17) (d := some 45) (v := .int .i64 (k : Nat)) rfl rfl (by kernel_rfl) (by kernel_rfl) (by kernel_rfl) (fun _ _ _ h => h) (Or.inl ⟨by rfl, by intro w hSw; replace hSw : w.cell? ⟨g, k, none⟩ = some (.string Z) := hSw; go_simp⟩) hHeld6 ?_
          simp only [Act.put, List.setIfInBounds_toArray, List.set_cons_zero, List.set_cons_succ]
          refine takeHYtlgkffcomnclnaa (i := 18) (d := some 46) (v := .bool false) rfl rfl (by kernel_rfl) (by kernel_rfl) (by kernel_rfl) (fun _ _ _ h => h) (Or.inl ⟨by rfl, by intro w hSw; replace hSw : w.cell? ⟨g, k, none⟩ = some (.string Z) := hSw; go_simp⟩) hHeld6 ?_
          simp only [Act.put, List.setIfInBounds_toArray, List.set_cons_zero, List.set_cons_succ]
          refine takeHYtlgkffcomnclnaa (i := 19) (d := some 47) (v := .bool false) rfl rfl (by kernel_rfl) (by kernel_rfl) (by kernel_rfl) (fun _ _ _ h => h) (Or.inl ⟨by rfl, by intro w hSw; replace hSw : w.cell? ⟨g, k, none⟩ = some (.string Z) := hSw; go_simp⟩) hHeld6 ?_
          simp only [Act.put, List.setIfInBounds_toArray, List.set_cons_zero, List.set_cons_succ]
          refine takeHYtlgkffcomnclnaa (i := 20) (d := some 48) (v := undef) rfl rfl (by kernel_rfl) (by kernel_rfl) (by kernel_rfl) (fun _ _ _ h => h) (Or.inr ⟨by rfl, rfl⟩) hHeld6 ?_
          simp only [Act.put, List.setIfInBounds_toArray, List.set_cons_zero, List.set_cons_succ]
          refine takeHYtlgkffcomnclnaa (i := 21) (d := some 49) (v := undef) rfl rfl (by kernel_rfl) (by kernel_rfl) (by kernel_rfl) (fun _ _ _ h => h) (Or.inr ⟨by rfl, rfl⟩) hHeld6 ?_
          simp only [Act.put, List.setIfInBounds_toArray, List.set_cons_zero, List.set_cons_succ]
          refine takeHYtlgkffcomnclnaa (i := 22) (d := some 50) (v := undef) rfl rfl (by kernel_rfl) (by kernel_rfl) (by kernel_rfl) (fun _ _ _ h => h) (Or.inr ⟨by rfl, rfl⟩) hHeld6 ?_
          simp only [Act.put, List.setIfInBounds_toArray, List.set_cons_zero, List.set_cons_succ]
          refine takeHYtlgkffcomnclnaa (i := 23) (d := some 51) (v := undef) rfl rfl (by kernel_rfl) (by kernel_rfl) (by kernel_rfl) (fun _ _ _ h => h) (Or.inr ⟨by rfl, rfl⟩) hHeld6 ?_
          simp only [Act.put, List.setIfInBounds_toArray, List.set_cons_zero, List.set_cons_succ]
          refine takeHYtlgkffcomnclnaa (i := 24) (d := some 52) (v := undef) rfl rfl (by kernel_rfl) (by kernel_rfl) (by kernel_rfl) (fun _ _ _ h => h) (Or.inr ⟨by rfl, rfl⟩) hHeld6 ?_
          simp only [Act.put, List.setIfInBounds_toArray, List.set_cons_zero, List.set_cons_succ]
          refine takeHYtlgkffcomnclnaa (i := 25) (d := some 53) (v := undef) rfl rfl (by kernel_rfl) (by kernel_rfl) (by kernel_rfl) (fun _ _ _ h => h) (Or.inr ⟨by rfl, rfl⟩) hHeld6 ?_
          simp only [Act.put, List.setIfInBounds_toArray, List.set_cons_zero, List.set_cons_succ]
          refine takeHYtlgkffcomnclnaa (i := 26) (d := some 54) (v := undef) rfl rfl (by kernel_rfl) (by kernel_rfl) (by kernel_rfl) (fun _ _ _ h => h) (Or.inr ⟨by rfl, rfl⟩) hHeld6 ?_
          simp only [Act.put, List.setIfInBounds_toArray, List.set_cons_zero, List.set_cons_succ]
          refine takeHYtlgkffcomnclnaa (i := 27) (d := some 55) (v := undef) rfl rfl (by kernel_rfl) (by kernel_rfl) (by kernel_rfl) (fun _ _ _ h => h) (Or.inr ⟨by rfl, rfl⟩) hHeld6 ?_
          simp only [Act.put, List.setIfInBounds_toArray, List.set_cons_zero, List.set_cons_succ]
          refine takeHYtlgkffcomnclnaa (i := 28) (d := some 56) (v := undef) rfl rfl (by kernel_rfl) (by kernel_rfl) (by kernel_rfl) (fun _ _ _ h => h) (Or.inr ⟨by rfl, rfl⟩) hHeld6 ?_
          simp only [Act.put, List.setIfInBounds_toArray, List.set_cons_zero, List.set_cons_succ]
          refine takeHYtlgkffcomnclnaa (i := 29) (d := some 57) (v := undef) rfl rfl (by kernel_rfl) (by kernel_rfl) (by kernel_rfl) (fun _ _ _ h => h) (Or.inr ⟨by rfl, rfl⟩) hHeld6 ?_
          simp only [Act.put, List.setIfInBounds_toArray, List.set_cons_zero, List.set_cons_succ]
          refine takeHYtlgkffcomnclnaa (i := 30) (d := some 58) (v := undef) rfl rfl (by kernel_rfl) (by kernel_rfl) (by kernel_rfl) (fun _ _ _ h => h) (Or.inr ⟨by rfl, rfl⟩) hHeld6 ?_
          simp only [Act.put, List.setIfInBounds_toArray, List.set_cons_zero, List.set_cons_succ]
          refine takeHYtlgkffcomnclnaa (i := 31) (d := some 59) (v := .bool false) rfl rfl (by kernel_rfl) (by kernel_rfl) (by kernel_rfl) (fun _ _ _ h => h) (Or.inl ⟨by rfl, by intro w hSw; replace hSw : w.cell? ⟨g, k, none⟩ = some (.string Z) := hSw; go_simp⟩) hHeld6 ?_
          simp only [Act.put, List.setIfInBounds_toArray, List.set_cons_zero, List.set_cons_succ]
          refine takeHYtlgkffcomnclnaa (i := 32) (d := some 60) (v := .bool false) rfl rfl (by kernel_rfl) (by kernel_rfl) (by kernel_rfl) (fun _ _ _ h => h) (Or.inl ⟨by rfl, by intro w hSw; replace hSw : w.cell? ⟨g, k, none⟩ = some (.string Z) := hSw; go_simp⟩) hHeld6 ?_
          simp only [Act.put, List.setIfInBounds_toArray, List.set_cons_zero, List.set_cons_succ]
          refine takeHYtlgkffcomnclnaa (i := 33) (d := some 61) (v := .bool false) rfl rfl (by kernel_rfl) (by kernel_rfl) (by kernel_rfl) (fun _ _ _ h => h) (Or.inl ⟨by rfl, by intro w hSw; replace hSw : w.cell? ⟨g, k, none⟩ = some (.string Z) := hSw; go_simp⟩) hHeld6 ?_
          simp only [Act.put, List.setIfInBounds_toArray, List.set_cons_zero, List.set_cons_succ]
          refine takeHYtlgkffcomnclnaa (i := 34) (d := some 62) (v := .slice (some ⟨g, 0, none⟩) q.length c3) rfl rfl (by kernel_rfl) (by kernel_rfl) (by kernel_rfl) (fun _ _ _ h => h) (Or.inl ⟨by rfl, by intro w hSw; replace hSw : w.cell? ⟨g, k, none⟩ = some (.string Z) := hSw; go_simp⟩) hHeld6 ?_
          simp only [Act.put, List.setIfInBounds_toArray, List.set_cons_zero, List.set_cons_succ]
          refine takeHYtlgkffcomnclnaa (i := 35) (d := some 63) (v := .int .i64 (k : Nat)) rfl rfl (by kernel_rfl) (by kernel_rfl) (by kernel_rfl) (fun _ _ _ h => h) (Or.inl ⟨by rfl, by intro w hSw; replace hSw : w.cell? ⟨g, k, none⟩ = some (.string Z) := hSw; go_simp⟩) hHeld6 ?_
          simp only [Act.put, List.setIfInBounds_toArray, List.set_cons_zero, List.set_cons_succ]
          refine takeHYtlgkffcomnclnaa (i := 36) (d := some 64) (v := .pointer (some ⟨g, k, none⟩)) rfl rfl (by kernel_rfl) (by kernel_rfl) (by kernel_rfl) (fun _ _ _ h => h) (Or.inl ⟨by rfl, by intro w hSw; replace hSw : w.cell? ⟨g, k, none⟩ = some (.string Z) := hSw; go_simp⟩) hHeld6 ?_
          simp only [Act.put, List.setIfInBounds_toArray, List.set_cons_zero, List.set_cons_succ]
          refine takeHYtlgkffcomnclnaa (i := 37) (d := some 65) (v := .string Z) rfl rfl (by kernel_rfl) (by kernel_rfl) (by kernel_rfl) (fun _ _ _ h => h) (Or.inl ⟨by rfl, by intro w hSw; replace hSw : w.cell? ⟨g, k, none⟩ = some (.string Z) := hSw; go_simp⟩) hHeld6 ?_
          simp only [Act.put, List.setIfInBounds_toArray, List.set_cons_zero, List.set_cons_succ]
          refine takeHYtlgkffcomnclnaa (i := 38) (d := some 66) (v := .string s) rfl rfl (by kernel_rfl) (by kernel_rfl) (by kernel_rfl) (fun _ _ _ h => h) (Or.inl ⟨by rfl, by intro w hSw; replace hSw : w.cell? ⟨g, k, none⟩ = some (.string Z) := hSw; go_simp⟩) hHeld6 ?_
          simp only [Act.put, List.setIfInBounds_toArray, List.set_cons_zero, List.set_cons_succ]
          refine wpAnyH_ready (rs := [39]) (by kernel_rfl) (by simp) ?_
          refine AllReadyH.cons (o := _) rfl (fun K hK => ?_) AllReadyH.nil
          go_simp
          refine (F3.out _).mono ?_
          rintro e w7 ⟨rfl, h7⟩
          have b7 := Lib.hid (b6.out.trans (h7.mono b6.out.size))
          have q7 := Lib.hid (q6.out.below h7)
          have cc := cell_kept cc6.out h7
          clear h7
          refine hK.out _ _ cc (fun hHeld7 => ?_)
          try simp only [Act.put, List.setIfInBounds_toArray, List.set_cons_zero, List.set_cons_succ]
          clear hK K
          clear hHeld6
          refine takeHYtlgkffcomnclnaa (i := 40) (d := some 68) (v := .bool false) rfl rfl (by kernel_rfl) (by kernel_rfl) (by kernel_rfl) (fun _ _ _ h => h) (Or.inl ⟨by rfl, by intro w hSw; replace hSw : w.cell? ⟨g, k, none⟩ = some (.string Z) := hSw; go_simp⟩) hHeld7 ?_
          simp only [Act.put, List.setIfInBounds_toArray, List.set_cons_zero, List.set_cons_succ]
          refine wpAnyH_done (by kernel_rfl) ?_ _
          clear hHeld7
          go_wp2_with fail
          exact ⟨⟨k + 1, by go_num, by omega, q7, b7⟩, by simp [intOf]; omega⟩
        · obtain ⟨j, hj⟩ : ∃ j, k = j + 1 := ⟨k - 1, by omega⟩
          have r6n : 0 < k := by omega
          have r6' : decide (0 < k) = true := decide_eq_true r6n
          have r7 : IntKind.i64.wrap ((k : Int) - 1) = (j : Int) := by rw [IntWalk.i64_in _ (by omega)]; omega
          have r8 : (0 : Int) ≤ (j : Int) := by omega
          have r9 : (j : Int) < (q.length : Int) := by omega
          have r10 : ((j : Int)).toNat = j := by omega
          have hjk : k - 1 = j := by omega
          have hjl : j < q.length := by omega
          have d4 := d4 (by omega)
          rw [hjk] at d4
          have hzj : j < (zonesQ q q.length).length := by rw [zonesQ_len]; exact hjl
          obtain ⟨g', hg', c1⟩ := hr.out.at hzj
          obtain rfl : g = g' := (Addr.mk.inj (Option.some.inj hg')).1
          rw [zones_at q j hjl hzj] at c1
          obtain ⟨Y, hY⟩ : ∃ Y : ByteArray, tv (textP (q.take j)) = .string Y := ⟨_, rfl⟩
          rw [hY] at c1 d4
          have F4 := Lib.hid (fun w => parent_any Z (by omega) w)
          rw [d4] at F4
          have s1 : (Y.toList == Y.toList) = true := beq_iff_eq.2 rfl
          have s2 : (Y.toList != Y.toList) = false := by rw [bne, s1]; rfl
          clear d1 d2 d3 d4 hg' hY hZ hjk hjl hzj hzk hk0 hj
          have cc := And.intro (show wr.drew.cell? ⟨g, k, none⟩ = some (.string Z) from c0) (show wr.drew.cell? ⟨g, j, none⟩ = some (.string Y) from c1)
          clear c0 c1 hr hb
          go_wp2_with fail
          first
            | (go_region_held3 (fun w' => w'.cell? ⟨g, k, none⟩ = some (.string Z) ∧ w'.cell? ⟨g, j, none⟩ = some (.string Y)) (first | assumption | exact cc) (first
                | (go_at_call 14
                   with_reducible refine (F1.out _).mono ?_
                   rintro e w5 ⟨rfl, h5⟩
                   have b5 := Lib.hid (hb'.out.trans (h5.mono hb'.out.size))
                   have q5 := Lib.hid (hr'.out.below h5)
                   have cc := And.intro (cell_kept cc.1 h5) (cell_kept cc.2 h5)
                   clear h5)
                | (go_at_call 23
                   with_reducible refine (F2.out _).mono ?_
                   rintro e w6 ⟨rfl, h6⟩
                   have b6 := Lib.hid (b5.out.trans (h6.mono b5.out.size))
                   have q6 := Lib.hid (q5.out.below h6)
                   have cc := And.intro (cell_kept cc.1 h6) (cell_kept cc.2 h6)
                   clear h6)
                | (go_at_call 16
                   with_reducible refine (F4.out _).mono ?_
                   rintro e w8 ⟨rfl, h8⟩
                   have b8 := Lib.hid (b6.out.trans (h8.mono b6.out.size))
                   have q8 := Lib.hid (q6.out.below h8)
                   have cc := And.intro (cell_kept cc.1 h8) (cell_kept cc.2 h8)
                   clear h8)
                | (go_at_call 23
                   with_reducible refine (F3.out _).mono ?_
                   rintro e w7 ⟨rfl, h7⟩
                   have b7 := Lib.hid (b8.out.trans (h7.mono b8.out.size))
                   have q7 := Lib.hid (q8.out.below h7)
                   have cc := And.intro (cell_kept cc.1 h7) (cell_kept cc.2 h7)
                   clear h7)
                | fail))
            | fail
          clear cc
          go_wp2_with fail
          exact ⟨⟨k + 1, by go_num, by omega, q7, b7⟩, by simp [intOf]; omega⟩
      · obtain rfl : k = q.length := by omega
        have hb' := Lib.hid hb.out.drew
        by_cases hq0 : q = []
        · have e1 : (s.toList == [47]) = true := beq_iff_eq.2 (by rw [Lib.toList_data]; exact E.out.1 hq0)
          subst hq0
          rw [show ([] : List (List UInt8)).length = 0 from rfl] at *
          go_wp2_with (go_quiet (fail))
          go_ret
          exact ⟨rfl, below_drewN hb.out _⟩
        · have hz := E.out.2 hq0
          have hpos : 0 < q.length := List.length_pos_iff.2 hq0
          obtain ⟨j, hj⟩ : ∃ j, q.length - 1 = j := ⟨_, rfl⟩
          rw [hj] at hz
          have hjl : j < q.length := by omega
          have hzj : j < (zonesQ q q.length).length := by rw [zonesQ_len]; exact hjl
          have hz0 : 0 < (zonesQ q q.length).length := by rw [zonesQ_len]; exact hpos
          obtain ⟨g, rfl, c0⟩ := hr.out.at hzj
          obtain ⟨g', hg', c1⟩ := hr.out.at hz0
          obtain rfl : g = g' := (Addr.mk.inj (Option.some.inj hg')).1
          rw [zones_at q j hjl hzj, hz] at c0
          rw [zones_at q 0 hpos hz0] at c1
          have r1 : ((q.length : Int) == 0) = false := by rw [beq_eq_false_iff_ne]; omega
          have r2 : decide (0 < q.length) = true := decide_eq_true hpos
          have r7 : IntKind.i64.wrap ((q.length : Int) - 1) = (j : Int) := by rw [IntWalk.i64_in _ (by omega)]; omega
          have r8 : (0 : Int) ≤ (j : Int) := by omega
          have r9 : (j : Int) < (q.length : Int) := by omega
          have r10 : ((j : Int)).toNat = j := by omega
          have s1 : (P.toList == P.toList) = true := beq_iff_eq.2 rfl
          clear hg' hz hzj hz0 hq0 hj
          have cc := And.intro (show wr.drew.cell? ⟨g, j, none⟩ = some (.string P) from c0) (show wr.drew.cell? ⟨g, 0, none⟩ = some (.string ⟨#[47]⟩) from c1)
          clear c0 c1 hb hr
          have cc0 := Lib.hid cc
          go_wp2_with fail
          refine wp_region_held (S := fun w' => w'.cell? ⟨g, j, none⟩ = some (.string P) ∧ w'.cell? ⟨g, 0, none⟩ = some (.string ⟨#[47]⟩)) (by kernel_rfl) ?_
          have hHeld : (fun w' : World => w'.cell? ⟨g, j, none⟩ = some (.string P) ∧ w'.cell? ⟨g, 0, none⟩ = some (.string ⟨#[47]⟩)) { wr with drawn := wr.drawn + 1 } := cc
          clear cc
          refine takeHYtlgkffcomnclnaa (i := 0) (d := some 69) (v := .slice (some ⟨g, 0, none⟩) q.length c3) rfl rfl (by kernel_rfl) (by kernel_rfl) (by kernel_rfl) (fun _ _ _ h => h) (Or.inl ⟨by rfl, by intro w hSw; obtain ⟨hS1, hS2⟩ := hSw; go_simp⟩) hHeld ?_
          simp only [Act.put, List.setIfInBounds_toArray, List.set_cons_zero, List.set_cons_succ]
          refine takeHYtlgkffcomnclnaa (i := 1) (d := some 70) (v := .int .i64 (q.length : Nat)) rfl rfl (by kernel_rfl) (by kernel_rfl) (by kernel_rfl) (fun _ _ _ h => h) (Or.inl ⟨by rfl, by intro w hSw; obtain ⟨hS1, hS2⟩ := hSw; go_simp⟩) hHeld ?_
          simp only [Act.put, List.setIfInBounds_toArray, List.set_cons_zero, List.set_cons_succ]
          refine takeHYtlgkffcomnclnaa (i := 2) (d := some 71) (v := .bool false) rfl rfl (by kernel_rfl) (by kernel_rfl) (by kernel_rfl) (fun _ _ _ h => h) (Or.inl ⟨by rfl, by intro w hSw; obtain ⟨hS1, hS2⟩ := hSw; go_simp⟩) hHeld ?_
          simp only [Act.put, List.setIfInBounds_toArray, List.set_cons_zero, List.set_cons_succ]
          refine takeHYtlgkffcomnclnaa (i := 3) (d := some 72) (v := .bool false) rfl rfl (by kernel_rfl) (by kernel_rfl) (by kernel_rfl) (fun _ _ _ h => h) (Or.inl ⟨by rfl, by intro w hSw; obtain ⟨hS1, hS2⟩ := hSw; go_simp⟩) hHeld ?_
          simp only [Act.put, List.setIfInBounds_toArray, List.set_cons_zero, List.set_cons_succ]
          refine takeHYtlgkffcomnclnaa (i := 4) (d := some 73) (v := undef) rfl rfl (by kernel_rfl) (by kernel_rfl) (by kernel_rfl) (fun _ _ _ h => h) (Or.inr ⟨by rfl, rfl⟩) hHeld ?_
          simp only [Act.put, List.setIfInBounds_toArray, List.set_cons_zero, List.set_cons_succ]
          refine takeHYtlgkffcomnclnaa (i := 5) (d := some 74) (v := undef) rfl rfl (by kernel_rfl) (by kernel_rfl) (by kernel_rfl) (fun _ _ _ h => h) (Or.inr ⟨by rfl, rfl⟩) hHeld ?_
          simp only [Act.put, List.setIfInBounds_toArray, List.set_cons_zero, List.set_cons_succ]
          refine takeHYtlgkffcomnclnaa (i := 6) (d := some 75) (v := .bool false) rfl rfl (by kernel_rfl) (by kernel_rfl) (by kernel_rfl) (fun _ _ _ h => h) (Or.inl ⟨by rfl, by intro w hSw; obtain ⟨hS1, hS2⟩ := hSw; go_simp⟩) hHeld ?_
          simp only [Act.put, List.setIfInBounds_toArray, List.set_cons_zero, List.set_cons_succ]
          refine takeHYtlgkffcomnclnaa (i := 7) (d := some 76) (v := .bool false) rfl rfl (by kernel_rfl) (by kernel_rfl) (by kernel_rfl) (fun _ _ _ h => h) (Or.inl ⟨by rfl, by intro w hSw; obtain ⟨hS1, hS2⟩ := hSw; go_simp⟩) hHeld ?_
          simp only [Act.put, List.setIfInBounds_toArray, List.set_cons_zero, List.set_cons_succ]
          refine takeHYtlgkffcomnclnaa (i := 8) (d := some 77) (v := .slice (some ⟨g, 0, none⟩) q.length c3) rfl rfl (by kernel_rfl) (by kernel_rfl) (by kernel_rfl) (fun _ _ _ h => h) (Or.inl ⟨by rfl, by intro w hSw; obtain ⟨hS1, hS2⟩ := hSw; go_simp⟩) hHeld ?_
          simp only [Act.put, List.setIfInBounds_toArray, List.set_cons_zero, List.set_cons_succ]
          refine takeHYtlgkffcomnclnaa (i := 9) (d := some 78) (v := .int .i64 (q.length : Nat)) rfl rfl (by kernel_rfl) (by kernel_rfl) (by kernel_rfl) (fun _ _ _ h => h) (Or.inl ⟨by rfl, by intro w hSw; obtain ⟨hS1, hS2⟩ := hSw; go_simp⟩) hHeld ?_
          simp only [Act.put, List.setIfInBounds_toArray, List.set_cons_zero, List.set_cons_succ]
          refine takeHYtlgkffcomnclnaa (i := 10) (d := some 79) (v := .bool true) rfl rfl (by kernel_rfl) (by kernel_rfl) (by kernel_rfl) (fun _ _ _ h => h) (Or.inl ⟨by rfl, by intro w hSw; obtain ⟨hS1, hS2⟩ := hSw; go_simp⟩) hHeld ?_
          simp only [Act.put, List.setIfInBounds_toArray, List.set_cons_zero, List.set_cons_succ]
          refine takeHYtlgkffcomnclnaa (i := 11) (d := some 80) (v := .bool true) rfl rfl (by kernel_rfl) (by kernel_rfl) (by kernel_rfl) (fun _ _ _ h => h) (Or.inl ⟨by rfl, by intro w hSw; obtain ⟨hS1, hS2⟩ := hSw; go_simp⟩) hHeld ?_
          simp only [Act.put, List.setIfInBounds_toArray, List.set_cons_zero, List.set_cons_succ]
          refine takeHYtlgkffcomnclnaa (i := 12) (d := some 81) (v := .slice (some ⟨g, 0, none⟩) q.length c3) rfl rfl (by kernel_rfl) (by kernel_rfl) (by kernel_rfl) (fun _ _ _ h => h) (Or.inl ⟨by rfl, by intro w hSw; obtain ⟨hS1, hS2⟩ := hSw; go_simp⟩) hHeld ?_
          simp only [Act.put, List.setIfInBounds_toArray, List.set_cons_zero, List.set_cons_succ]
          refine takeHYtlgkffcomnclnaa (i := 13) (d := some 82) (v := .slice (some ⟨g, 0, none⟩) q.length c3) rfl rfl (by kernel_rfl) (by kernel_rfl) (by kernel_rfl) (fun _ _ _ h => h) (Or.inl ⟨by rfl, by intro w hSw; obtain ⟨hS1, hS2⟩ := hSw; go_simp⟩) hHeld ?_
          simp only [Act.put, List.setIfInBounds_toArray, List.set_cons_zero, List.set_cons_succ]
          refine takeHYtlgkffcomnclnaa (i := 14) (d := some 83) (v := .int .i64 (q.length : Nat)) rfl rfl (by kernel_rfl) (by kernel_rfl) (by kernel_rfl) (fun _ _ _ h => h) (Or.inl ⟨by rfl, by intro w hSw; obtain ⟨hS1, hS2⟩ := hSw; go_simp⟩) hHeld ?_
          simp only [Act.put, List.setIfInBounds_toArray, List.set_cons_zero, List.set_cons_succ]
          refine takeHYtlgkffcomnclnaa (i := 15) (d := some 84) (v := .int .i64 (j : Nat)) rfl rfl (by kernel_rfl) (by kernel_rfl) (by kernel_rfl) (fun _ _ _ h => h) (Or.inl ⟨by rfl, by intro w hSw; obtain ⟨hS1, hS2⟩ := hSw; go_simp⟩) hHeld ?_
          simp only [Act.put, List.setIfInBounds_toArray, List.set_cons_zero, List.set_cons_succ]
          refine takeHYtlgkffcomnclnaa (i := 16) (d := some 85) (v := .pointer (some ⟨g, j, none⟩)) rfl rfl (by kernel_rfl) (by kernel_rfl) (by kernel_rfl) (fun _ _ _ h => h) (Or.inl ⟨by rfl, by intro w hSw; obtain ⟨hS1, hS2⟩ := hSw; go_simp⟩) hHeld ?_
          simp only [Act.put, List.setIfInBounds_toArray, List.set_cons_zero, List.set_cons_succ]
          refine takeHYtlgkffcomnclnaa (i := 17) (d := some 86) (v := .string P) rfl rfl (by kernel_rfl) (by kernel_rfl) (by kernel_rfl) (fun _ _ _ h => h) (Or.inl ⟨by rfl, by intro w hSw; obtain ⟨hS1, hS2⟩ := hSw; go_simp⟩) hHeld ?_
          simp only [Act.put, List.setIfInBounds_toArray, List.set_cons_zero, List.set_cons_succ]
          refine takeHYtlgkffcomnclnaa (i := 18) (d := some 87) (v := .string s) rfl rfl (by kernel_rfl) (by kernel_rfl) (by kernel_rfl) (fun _ _ _ h => h) (Or.inl ⟨by rfl, by intro w hSw; obtain ⟨hS1, hS2⟩ := hSw; go_simp⟩) hHeld ?_
          simp only [Act.put, List.setIfInBounds_toArray, List.set_cons_zero, List.set_cons_succ]
          refine wpAnyH_ready (rs := [19]) (by kernel_rfl) (by simp) ?_
          refine AllReadyH.cons (o := _) rfl (fun K hK => ?_) AllReadyH.nil
          go_simp
          refine (C4.out _).mono ?_
          rintro e w5 ⟨rfl, h5⟩
          have b5 := Lib.hid (hb'.out.trans (h5.mono hb'.out.size))
          have cc := And.intro (cell_kept cc0.out.1 h5) (cell_kept cc0.out.2 h5)
          clear h5
          refine hK.out _ _ cc (fun hHeld5 => ?_)
          try simp only [Act.put, List.setIfInBounds_toArray, List.set_cons_zero, List.set_cons_succ]
          clear hK K
          clear hHeld
          refine takeHYtlgkffcomnclnaa (i := 20) (d := some 89) (v := .bool true) rfl rfl (by kernel_rfl) (by kernel_rfl) (by kernel_rfl) (fun _ _ _ h => h) (Or.inl ⟨by rfl, by intro w hSw; obtain ⟨hS1, hS2⟩ := hSw; go_simp⟩) hHeld5 ?_
          simp only [Act.put, List.setIfInBounds_toArray, List.set_cons_zero, List.set_cons_succ]
          refine takeHYtlgkffcomnclnaa (i := 21) (d := some 90) (v := .bool true) rfl rfl (by kernel_rfl) (by kernel_rfl) (by kernel_rfl) (fun _ _ _ h => h) (Or.inl ⟨by rfl, by intro w hSw; obtain ⟨hS1, hS2⟩ := hSw; go_simp⟩) hHeld5 ?_
          simp only [Act.put, List.setIfInBounds_toArray, List.set_cons_zero, List.set_cons_succ]
          refine takeHYtlgkffcomnclnaa (i := 22) (d := some 91) (v := .bool true) rfl rfl (by kernel_rfl) (by kernel_rfl) (by kernel_rfl) (fun _ _ _ h => h) (Or.inl ⟨by rfl, by intro w hSw; obtain ⟨hS1, hS2⟩ := hSw; go_simp⟩) hHeld5 ?_
          simp only [Act.put, List.setIfInBounds_toArray, List.set_cons_zero, List.set_cons_succ]
          refine takeHYtlgkffcomnclnaa (i := 23) (d := some 92) (v := .slice (some ⟨g, 0, none⟩) q.length c3) rfl rfl (by kernel_rfl) (by kernel_rfl) (by kernel_rfl) (fun _ _ _ h => h) (Or.inl ⟨by rfl, by intro w hSw; obtain ⟨hS1, hS2⟩ := hSw; go_simp⟩) hHeld5 ?_
          simp only [Act.put, List.setIfInBounds_toArray, List.set_cons_zero, List.set_cons_succ]
          refine takeHYtlgkffcomnclnaa (i := 24) (d := some 93) (v := .pointer (some ⟨g, 0, none⟩)) rfl rfl (by kernel_rfl) (by kernel_rfl) (by kernel_rfl) (fun _ _ _ h => h) (Or.inl ⟨by rfl, by intro w hSw; obtain ⟨hS1, hS2⟩ := hSw; go_simp⟩) hHeld5 ?_
          simp only [Act.put, List.setIfInBounds_toArray, List.set_cons_zero, List.set_cons_succ]
          refine takeHYtlgkffcomnclnaa (i := 25) (d := some 94) (v := .string ⟨#[47]⟩) rfl rfl (by kernel_rfl) (by kernel_rfl) (by kernel_rfl) (fun _ _ _ h => h) (Or.inl ⟨by rfl, by intro w hSw; obtain ⟨hS1, hS2⟩ := hSw; go_simp⟩) hHeld5 ?_
          simp only [Act.put, List.setIfInBounds_toArray, List.set_cons_zero, List.set_cons_succ]
          refine takeHYtlgkffcomnclnaa (i := 26) (d := some 95) (v := .bool true) rfl rfl (by kernel_rfl) (by kernel_rfl) (by kernel_rfl) (fun _ _ _ h => h) (Or.inl ⟨by rfl, by intro w hSw; obtain ⟨hS1, hS2⟩ := hSw; go_simp⟩) hHeld5 ?_
          simp only [Act.put, List.setIfInBounds_toArray, List.set_cons_zero, List.set_cons_succ]
          refine takeHYtlgkffcomnclnaa (i := 27) (d := some 96) (v := .bool true) rfl rfl (by kernel_rfl) (by kernel_rfl) (by kernel_rfl) (fun _ _ _ h => h) (Or.inl ⟨by rfl, by intro w hSw; obtain ⟨hS1, hS2⟩ := hSw; go_simp⟩) hHeld5 ?_
          simp only [Act.put, List.setIfInBounds_toArray, List.set_cons_zero, List.set_cons_succ]
          refine takeHYtlgkffcomnclnaa (i := 28) (d := some 97) (v := .bool true) rfl rfl (by kernel_rfl) (by kernel_rfl) (by kernel_rfl) (fun _ _ _ h => h) (Or.inl ⟨by rfl, by intro w hSw; obtain ⟨hS1, hS2⟩ := hSw; go_simp⟩) hHeld5 ?_
          simp only [Act.put, List.setIfInBounds_toArray, List.set_cons_zero, List.set_cons_succ]
          refine takeHYtlgkffcomnclnaa (i := 29) (d := some 2) (v := .bool true) rfl rfl (by kernel_rfl) (by kernel_rfl) (by kernel_rfl) (fun _ _ _ h => h) (Or.inl ⟨by rfl, by intro w hSw; obtain ⟨hS1, hS2⟩ := hSw; go_simp⟩) hHeld5 ?_
          simp only [Act.put, List.setIfInBounds_toArray, List.set_cons_zero, List.set_cons_succ]
          refine wpAnyH_done (by kernel_rfl) ?_ _
          clear hHeld5
          go_wp2_with fail
          go_ret
          exact ⟨rfl, b5.out⟩
  · rw [decide_eq_false h0] at C1
    go_wp2_with fail
    refine (C1.out _).mono ?_
    rintro e w2 ⟨rfl, hb⟩
    have B2 := Lib.hid (B1.out.trans (hb.mono B1.out.size))
    clear hb
    go_wp2_with fail
    go_ret
    exact ⟨rfl, B2.out⟩

end Go.Proofs.Ytlgkffcomnclnaa
