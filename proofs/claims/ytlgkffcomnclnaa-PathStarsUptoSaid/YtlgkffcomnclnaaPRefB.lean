/-
  No statement: the contracts of the document's Depth, Parent, Last, Join, Zones.
-/
import Derived.Test.YtlgkffcomnclnaaPRefA
namespace Go.Proofs.Ytlgkffcomnclnaa
open Go.RowKit

theorem few_take {q : List (List UInt8)} (h : FewT q) (n : Nat) : FewT (q.take n) :=
  ⟨by have := h.few; rw [List.length_take]; omega, fun x hx => h.all x (List.mem_of_mem_take hx)⟩

theorem len_take (q : List (List UInt8)) (n : Nat) (h : n ≤ q.length) : (q.take n).length = n := by rw [List.length_take]; omega

set_option maxHeartbeats 2000000 in
theorem rDepth_any (s : ByteArray) (hm : s.size ≤ 1000) (w : World) : Calls Try.prog 15 #[.string s] w fun e w' => e = .returned (.int .i64 (depthP s.data.toList)) ∧ Below w.heap.size w w' := by
  have C := Lib.hid (fun w => rParseP s hm w)
  unfold depthP
  obtain ⟨q, hq⟩ : ∃ q, partsP s.data.toList = q := ⟨_, rfl⟩
  obtain ⟨x, hx⟩ : ∃ x, errP s.data.toList = x := ⟨_, rfl⟩
  rw [hq, hx] at C
  rw [hq, hx]
  clear hq hx
  by_cases h0 : x = 0
  · have e0 : (x == 0) = true := beq_iff_eq.2 h0
    rw [if_pos h0]
    subst h0
    clear e0
    go_enter Try.func15, Try.ntmps15
    go_wp2_with fail
    refine (C.out _).mono ?_
    rintro e w1 ⟨⟨v, rfl, ho⟩, hb⟩
    have B1 := Lib.hid hb
    obtain ⟨a, cap, rfl, -, -, -⟩ := ho.reads
    clear ho hb C
    go_wp2_with fail
    go_ret
    exact ⟨rfl, B1.out⟩
  · have e0 : (x == 0) = false := beq_eq_false_iff_ne.2 h0
    rw [if_neg h0]
    go_enter Try.func15, Try.ntmps15
    go_wp2_with fail
    refine (C.out _).mono ?_
    rintro e w1 ⟨⟨v, rfl, ho⟩, hb⟩
    have B1 := Lib.hid hb
    clear ho hb C
    go_wp2_with fail
    go_ret
    exact ⟨rfl, B1.out⟩

set_option maxRecDepth 100000 in
set_option maxHeartbeats 2000000 in
theorem rParent_any (s : ByteArray) (hm : s.size ≤ 1000) (w : World) : Calls Try.prog 17 #[.string s] w fun e w' => e = .returned (tv (parentP s.data.toList)) ∧ Below w.heap.size w w' := by
  have C := Lib.hid (fun w => rParseP s hm w)
  have F := few_parts s.data.toList
  have hbad : ¬ errP s.data.toList = 0 → partsP s.data.toList = [] := parts_bad
  unfold parentP
  obtain ⟨q, hq⟩ : ∃ q, partsP s.data.toList = q := ⟨_, rfl⟩
  obtain ⟨x, hx⟩ : ∃ x, errP s.data.toList = x := ⟨_, rfl⟩
  rw [hq, hx] at C hbad
  rw [hq] at F
  rw [hq]
  clear hq hx
  by_cases h0 : x = 0
  · subst h0
    clear hbad
    by_cases hq0 : q = []
    · subst hq0
      rw [if_pos rfl]
      go_enter Try.func17, Try.ntmps17
      go_wp2_with fail
      refine (C.out _).mono ?_
      rintro e w1 ⟨⟨v, rfl, ho⟩, hb⟩
      have B1 := Lib.hid hb
      obtain ⟨a, cap, rfl, -, -, -⟩ := ho.reads
      rw [show ([] : List (List UInt8)).length = 0 from rfl]
      clear ho hb C
      go_wp2_with fail
      go_ret
      exact ⟨rfl, B1.out⟩
    · rw [if_neg hq0]
      have hpos : 0 < q.length := List.length_pos_iff.2 hq0
      have e0 : ((q.length : Int) == 0) = false := by rw [beq_eq_false_iff_ne]; omega
      obtain ⟨n, hn⟩ : ∃ n, q.length = n + 1 := ⟨q.length - 1, by omega⟩
      rw [show q.length - 1 = n by omega]
      have hfew := F.few
      have T := Lib.hid (fun a cap w h => rPathText_any a cap (q.take n) (few_take F n) w h)
      rw [len_take q n (by omega)] at T
      have j0 : IntKind.i64.wrap ((q.length : Int) - 1) = (n : Int) := by rw [IntWalk.i64_in _ (by omega)]; omega
      have j1 : (0 : Int) ≤ (n : Int) := by omega
      have j3 : ((n : Int)).toNat = n := by omega
      clear hq0
      go_enter Try.func17, Try.ntmps17
      go_wp2_with fail
      refine (C.out _).mono ?_
      rintro e w1 ⟨⟨v, rfl, ho⟩, hb⟩
      have B1 := Lib.hid hb
      obtain ⟨a, cap, rfl, hcap, hmx, hr⟩ := ho.reads
      have R := Lib.hid (hr.take n)
      have j2 : (n : Int) ≤ (cap : Int) := by omega
      clear ho hb C hr hmx
      go_wp2_with fail
      refine (T.out a cap w1 R.out).mono ?_
      rintro e w2 ⟨rfl, hb2⟩
      have B2 := Lib.hid (B1.out.trans (hb2.mono B1.out.size))
      clear hb2
      go_wp2_with fail
      go_ret
      exact ⟨rfl, B2.out⟩
  · have hq := hbad h0
    subst hq
    rw [if_pos rfl]
    have e0 : (x == 0) = false := beq_eq_false_iff_ne.2 h0
    go_enter Try.func17, Try.ntmps17
    go_wp2_with fail
    refine (C.out _).mono ?_
    rintro e w1 ⟨⟨v, rfl, ho⟩, hb⟩
    have B1 := Lib.hid hb
    clear ho hb C
    go_wp2_with fail
    go_ret
    exact ⟨rfl, B1.out⟩

set_option maxRecDepth 100000 in
set_option maxHeartbeats 2000000 in
theorem rLast_any (s : ByteArray) (hm : s.size ≤ 1000) (w : World) : Calls Try.prog 19 #[.string s] w fun e w' => e = .returned (tv (lastP s.data.toList)) ∧ Below w.heap.size w w' := by
  have C := Lib.hid (fun w => rParseP s hm w)
  have hfew := (few_parts s.data.toList).few
  have hbad : ¬ errP s.data.toList = 0 → partsP s.data.toList = [] := parts_bad
  unfold lastP
  obtain ⟨q, hq⟩ : ∃ q, partsP s.data.toList = q := ⟨_, rfl⟩
  obtain ⟨x, hx⟩ : ∃ x, errP s.data.toList = x := ⟨_, rfl⟩
  rw [hq, hx] at C hbad
  rw [hq] at hfew
  rw [hq]
  clear hq hx
  by_cases h0 : x = 0
  · subst h0
    clear hbad
    by_cases hq0 : q = []
    · subst hq0
      go_enter Try.func19, Try.ntmps19
      go_wp2_with fail
      refine (C.out _).mono ?_
      rintro e w1 ⟨⟨v, rfl, ho⟩, hb⟩
      have B1 := Lib.hid hb
      obtain ⟨a, cap, rfl, -, -, -⟩ := ho.reads
      rw [show ([] : List (List UInt8)).length = 0 from rfl]
      clear ho hb C
      go_wp2_with fail
      go_ret
      exact ⟨rfl, B1.out⟩
    · obtain ⟨hi, hlast⟩ := last_get hq0
      have e0 : ((q.length : Int) == 0) = false := by rw [beq_eq_false_iff_ne]; omega
      obtain ⟨n, hn⟩ : ∃ n, q.length = n + 1 := ⟨q.length - 1, by omega⟩
      obtain ⟨z, hz⟩ : ∃ z, q.getLast?.getD [] = z := ⟨_, rfl⟩
      rw [hz] at hlast ⊢
      have hnl : n < q.length := by omega
      have hz2 : q[n] = z := by rw [← hlast]; congr 1; omega
      have j0 : IntKind.i64.wrap ((q.length : Int) - 1) = (n : Int) := by rw [IntWalk.i64_in _ (by omega)]; omega
      have j1 : (0 : Int) ≤ (n : Int) := by omega
      have j3 : ((n : Int)).toNat = n := by omega
      have j2 : (n : Int) < (q.length : Int) := by omega
      have HZ := Lib.hid hz2
      clear hq0 hlast hz hz2
      go_enter Try.func19, Try.ntmps19
      go_wp2_with fail
      refine (C.out _).mono ?_
      rintro e w1 ⟨⟨v, rfl, ho⟩, hb⟩
      have B1 := Lib.hid hb
      obtain ⟨a, cap, rfl, hcap, hmx, hr⟩ := ho.reads
      obtain ⟨g, rfl, c0⟩ := hr.at hnl
      rw [HZ.out] at c0
      clear ho hb C hr hmx
      go_wp2_with fail
      go_ret
      exact ⟨rfl, B1.out⟩
  · have hq := hbad h0
    subst hq
    have e0 : (x == 0) = false := beq_eq_false_iff_ne.2 h0
    go_enter Try.func19, Try.ntmps19
    go_wp2_with fail
    refine (C.out _).mono ?_
    rintro e w1 ⟨⟨v, rfl, ho⟩, hb⟩
    have B1 := Lib.hid hb
    clear ho hb C
    go_wp2_with fail
    go_ret
    exact ⟨rfl, B1.out⟩

theorem OwnT.from {B : Nat} {w : World} {v : Value} {q : List (List UInt8)} (h : OwnT B w v q) : From w v q.length (q.map tv) := by
  rcases h.2 with ⟨rfl, hn⟩ | ⟨g, cap, cur, rfl, hB, hg, hnc, hm, hs, ht⟩
  · have hq : q = [] := List.length_eq_zero_iff.1 hn
    subst hq
    exact .inl ⟨rfl, rfl, rfl⟩
  · rw [Nat.mul_one] at ht
    refine .inr ⟨_, cap, rfl, by simp, fun j x hj => ?_⟩
    rw [Addr.add_lit, Nat.zero_add]
    exact owns_cell hg ht hj

theorem From.below {w w' : World} {u : Value} {m : Nat} {news : List Value} (h : From w u m news) (hb : Below w.heap.size w w') : From w' u m news := by
  rcases h with h | ⟨a, c, e, hl, hn⟩
  · exact Or.inl h
  · refine Or.inr ⟨a, c, e, hl, fun j x hj => ?_⟩
    have := hn j x hj
    exact (hb.cell (World.block_lt_of_cell? w _ this)).trans this

theorem tv_one (q : List (List UInt8)) : ∀ x ∈ q.map tv, x.oneCell' = true := by
  intro x hx
  obtain ⟨y, _, rfl⟩ := List.mem_map.1 hx
  rfl

theorem own_more {B : Nat} {w : World} {v : Value} {q : List (List UInt8)} {p : ByteArray} (h : w.ownsRow B 9 1 v (q.length + 1) (q.map tv ++ [.string p])) : OwnT B w v (q ++ [p.data.toList]) := by
  unfold OwnT
  rw [List.length_append, List.map_append]
  simp only [List.map_cons, List.map_nil, ← str_tv]
  exact h

theorem made_nil (B : Nat) (w : World) (hB : B ≤ w.heap.size) : (w.alloc (.cells #[] 9)).ownsRow B 9 1 (.slice (some ⟨w.heap.size, 0, none⟩) 0 0) 0 [] :=
  World.ownsRow_made w #[] 0 hB (by decide) rfl

set_option maxRecDepth 100000 in
set_option maxHeartbeats 2000000 in
theorem rJoin_any (s p : ByteArray) (hm : s.size ≤ 1000) (hp : p.size ≤ 1000) (w : World) : Calls Try.prog 12 #[.string s, .string p] w fun e w' => e = .returned (.tuple #[tv (joinP s.data.toList p.data.toList), .int .i64 (joinE s.data.toList p.data.toList)]) ∧ Below w.heap.size w w' := by
  have PA := Lib.hid (fun w => rParseP s hm w)
  have FP := Lib.hid (few_parts s.data.toList)
  have N := Lib.hid (fun w => rName_any p (by omega) w)
  have hl4 : errP s.data.toList = 0 → (partsP s.data.toList).length ≤ 4 := fun h => (parts_ok h).2.1
  unfold joinP joinE
  obtain ⟨q, hq⟩ : ∃ q, partsP s.data.toList = q := ⟨_, rfl⟩
  obtain ⟨x, hx⟩ : ∃ x, errP s.data.toList = x := ⟨_, rfl⟩
  obtain ⟨b, hb⟩ : ∃ b, goodB p.data.toList = b := ⟨_, rfl⟩
  have hpl : b = true → p.data.toList.length ≤ 8 := fun h => (good_len (hb.trans h)).2
  rw [hq, hx] at PA hl4
  rw [hq] at FP
  rw [hb] at N
  rw [hq, hx, hb]
  clear hq hx hb
  by_cases h0 : x = 0
  · subst h0
    have hl4 := hl4 rfl
    rw [if_pos rfl]
    cases b with
    | false =>
      rw [if_neg (show ¬ (false = true) by decide), if_neg (show ¬ (5 : Int) = 0 by decide)]
      go_enter Try.func12, Try.ntmps12
      go_wp2_with fail
      refine (PA.out _).mono ?_
      rintro e w1 ⟨⟨v, rfl, ho⟩, hb1⟩
      have B1 := Lib.hid hb1
      clear hb1 PA ho
      go_wp2_with fail
      refine (N.out _).mono ?_
      rintro e w2 ⟨rfl, rfl⟩
      go_wp2_with fail
      go_ret2
      exact ⟨rfl, B1.out⟩
    | true =>
      have hpl := hpl rfl
      rw [if_pos rfl]
      by_cases h4 : q.length = 4
      · rw [if_pos h4]
        have h4' : (4 : Int) ≤ (q.length : Int) := by omega
        go_enter Try.func12, Try.ntmps12
        go_wp2_with fail
        refine (PA.out _).mono ?_
        rintro e w1 ⟨⟨v, rfl, ho⟩, hb1⟩
        have B1 := Lib.hid hb1
        obtain ⟨a, cap, rfl⟩ := row_slice' ho
        clear hb1 PA ho
        go_wp2_with fail
        refine (N.out _).mono ?_
        rintro e w2 ⟨rfl, rfl⟩
        go_wp2_with fail
        go_ret2
        exact ⟨rfl, B1.out⟩
      · rw [if_neg h4]
        have h4' : (q.length : Int) < 4 := by omega
        have FM := Lib.hid (few_more (a := p.data.toList) FP.out (by omega) (by omega))
        have TX := Lib.hid (fun a cap w h => rPathText_any a cap (q ++ [p.data.toList]) FM.out w h)
        obtain ⟨i0, hi0, hz0, hz1, hz2⟩ := info_parts infoStr
        go_enter Try.func12, Try.ntmps12
        go_wp2_with fail
        refine (PA.out _).mono ?_
        rintro e w1 ⟨⟨v, rfl, ho⟩, hb1⟩
        have B1 := Lib.hid hb1
        have O1 := Lib.hid ho
        obtain ⟨a, cap, rfl⟩ := row_slice' ho
        clear hb1 PA ho
        go_wp2_with fail
        refine (N.out _).mono ?_
        rintro e w2 ⟨rfl, rfl⟩
        have hw1 := B1.out.size
        have F1 := Lib.hid (O1.out.from.below ((Below.refl w1.heap.size w1).alloc (Nat.le_refl _) (.cells #[] 9)))
        go_wp2_with (at_builtin; first
          | (refine wpList_append_from rfl _ _ 23 rfl (base := w.heap.size) (e := 9) (i := i0) (z := .string ⟨#[]⟩) (bytes := 16) Try.underlying23 hi0 hz0 hz1 hz2 rfl (.slice (some ⟨w1.heap.size, 0, none⟩) 0 0) (.slice a q.length cap) 0 q.length [] (q.map tv) rfl rfl (made_nil w.heap.size w1 hw1) F1.out (tv_one q) (by unfold maxLen; omega) (by omega) (by simp; omega) ?_
             intro v3 w3 ho3 hg3 _
             have O3 := Lib.hid (show w3.ownsRow w.heap.size 9 1 v3 q.length (q.map tv) by simpa using ho3)
             have B3 := Lib.hid ((B1.out.alloc hw1 (.cells #[] 9)).grown hg3 (by simp; omega) (fun k hk => by simp [Value.ownBlock] at hk; omega))
             have hw3 := B3.out.size
             clear ho3 hg3)
          | (refine wpList_append_from rfl _ _ 23 rfl (base := w.heap.size) (e := 9) (i := i0) (z := .string ⟨#[]⟩) (bytes := 16) Try.underlying23 hi0 hz0 hz1 hz2 rfl v3 (.slice (some ⟨w3.heap.size, 0, none⟩) 1 1) q.length 1 (q.map tv) [.string p] rfl rfl (O3.out.alloc _) (from_one (by simp)) (by simp [Value.oneCell']) (by unfold maxLen; omega) (by omega) (by simp; omega) ?_
             intro v4 w4 ho4 hg4 _
             have O4 := Lib.hid (own_more ho4)
             have B4 := Lib.hid ((B3.out.alloc hw3 (.cells #[.string p] 9)).grown hg4 (by simp; omega) (fun k hk => (O3.out.lt k hk).1))
             clear ho4 hg4))
        obtain ⟨a4, cap4, rfl, -, -, hr4⟩ := O4.out.reads
        refine (TX.out _ _ _ hr4).mono ?_
        rintro e w5 ⟨rfl, hb5⟩
        have B5 := Lib.hid (B4.out.trans (hb5.mono B4.out.size))
        clear hb5 hr4
        go_wp2_with fail
        go_ret2
        exact ⟨rfl, B5.out⟩
  · have e0 : (x == 0) = false := beq_eq_false_iff_ne.2 h0
    rw [if_neg h0]
    go_enter Try.func12, Try.ntmps12
    go_wp2_with fail
    refine (PA.out _).mono ?_
    rintro e w1 ⟨⟨v, rfl, ho⟩, hb1⟩
    have B1 := Lib.hid hb1
    clear hb1 PA ho
    go_wp2_with fail
    go_ret2
    exact ⟨rfl, B1.out⟩

theorem zonesQ_more (q : List (List UInt8)) (k : Nat) : zonesQ q (k + 1) = zonesQ q k ++ [textP (q.take k)] := by
  unfold zonesQ
  rw [List.range_succ, List.map_append]; rfl

theorem zonesQ_len (q : List (List UInt8)) (k : Nat) : (zonesQ q k).length = k := by simp [zonesQ]

set_option maxRecDepth 100000 in
set_option maxHeartbeats 4000000 in
theorem rZones_any (s : ByteArray) (hm : s.size ≤ 1000) (w : World) : Calls Try.prog 21 #[.string s] w fun e w' => (∃ v, e = .returned v ∧ OwnT w.heap.size w' v (zonesP s.data.toList)) ∧ Below w.heap.size w w' := by
  have C := Lib.hid (fun w => rParseP s hm w)
  have F := Lib.hid (few_parts s.data.toList)
  have hbad : ¬ errP s.data.toList = 0 → partsP s.data.toList = [] := parts_bad
  have hl4 : errP s.data.toList = 0 → (partsP s.data.toList).length ≤ 4 := fun h => (parts_ok h).2.1
  rw [show zonesP s.data.toList = zonesQ (partsP s.data.toList) (partsP s.data.toList).length from rfl]
  obtain ⟨q, hq⟩ : ∃ q, partsP s.data.toList = q := ⟨_, rfl⟩
  obtain ⟨x, hx⟩ : ∃ x, errP s.data.toList = x := ⟨_, rfl⟩
  rw [hq, hx] at C hbad hl4
  rw [hq] at F
  rw [hq]
  clear hq hx
  by_cases h0 : x = 0
  · subst h0
    have hl4 := hl4 rfl
    clear hbad
    have TX := Lib.hid (fun a cap k w h => rPathText_any a cap (q.take k) (few_take F.out k) w h)
    obtain ⟨i0, hi0, hz0, hz1, hz2⟩ := info_parts infoStr
    go_enter Try.func21, Try.ntmps21
    go_wp2_with fail
    refine (C.out _).mono ?_
    rintro e w1 ⟨⟨v, rfl, ho⟩, hb⟩
    have B1 := Lib.hid hb
    obtain ⟨a, cap, rfl, hcap, hmx, hr⟩ := ho.reads
    have R := Lib.hid hr
    clear ho hb C hr
    have hmx' : cap ≤ 9223372036854775807 := hmx
    clear hmx
    go_wp2_with fail
    go_loopw [5, 6] (fun v i wr => ∃ k : Nat, k ≤ q.length ∧ i = .int .i64 k ∧ Hid (OwnT w1.heap.size wr v (zonesQ q k)) ∧ Hid (Below w1.heap.size w1 wr)) (fun _ i _ => q.length - (intOf i).toNat)
    case atStart => exact ⟨0, Nat.zero_le _, rfl, Lib.hid (OwnT.nil _ _), Lib.hid (Below.refl _ _)⟩
    case round =>
      obtain ⟨k, hk, rfl, ho, hb⟩ := hrel
      by_cases hlt : k < q.length
      · have T := Lib.hid (fun w h => TX.out a cap k w h)
        rw [len_take q k hk] at T
        have j1 : (0 : Int) ≤ (k : Int) := by omega
        have j2 : (k : Int) ≤ (cap : Int) := by omega
        have j3 : ((k : Int)).toNat = k := by omega
        have ZM := Lib.hid (zonesQ_more q k)
        have ZL := zonesQ_len q k
        obtain ⟨Z, hZ⟩ : ∃ Z : ByteArray, tv (textP (q.take k)) = .string Z := ⟨_, rfl⟩
        have hZl : Z.data.toList = textP (q.take k) := by cases hZ; rfl
        rw [hZ] at T
        rw [← hZl] at ZM
        clear hZ hZl
        obtain ⟨L, hL⟩ : ∃ L, zonesQ q k = L := ⟨_, rfl⟩
        rw [hL] at ho ZM ZL
        clear hL
        have hL4 : L.length ≤ 4 := by omega
        go_wp2_with fail
        refine (T.out wr ((R.out.below hb.out).take k)).mono ?_
        rintro e w2 ⟨rfl, hb2⟩
        have B2 := Lib.hid (hb.out.trans (hb2.mono hb.out.size))
        have O2 := Lib.hid (p := OwnT w1.heap.size w2 u5 L) (own_below ho.out hb2)
        have hw2 := B2.out.size
        clear hb2 ho hb T
        go_wp2_with (at_builtin; (refine wpList_append_from rfl _ _ 23 rfl (base := w1.heap.size) (e := 9) (i := i0) (z := .string ⟨#[]⟩) (bytes := 16) Try.underlying23 hi0 hz0 hz1 hz2 rfl u5 (.slice (some ⟨w2.heap.size, 0, none⟩) 1 1) L.length 1 (L.map tv) [.string Z] rfl rfl (O2.out.alloc _) (from_one (by simp)) (by simp [Value.oneCell']) (by unfold maxLen; omega) (by omega) (by simp; omega) ?_
                                  intro v4 w4 ho4 hg4 _
                                  have O4 := Lib.hid (own_more ho4)
                                  have B4 := Lib.hid ((B2.out.alloc hw2 (.cells #[.string Z] 9)).grown hg4 (by simp; omega) (fun k hk => (O2.out.lt k hk).1))
                                  clear ho4 hg4))
        go_roundw
        case rel => exact ⟨k + 1, by omega, by go_num, Lib.hid (by rw [ZM.out]; exact O4.out), B4⟩
        case measure => simp [intOf]; omega
      · obtain rfl : k = q.length := by omega
        go_wp2_with fail
        go_ret
        exact ⟨⟨_, rfl, ho.out.mono B1.out.size⟩, B1.out.trans (hb.out.mono B1.out.size)⟩
  · have hq := hbad h0
    subst hq
    have e0 : (x == 0) = false := beq_eq_false_iff_ne.2 h0
    go_enter Try.func21, Try.ntmps21
    go_wp2_with fail
    refine (C.out _).mono ?_
    rintro e w1 ⟨⟨v, rfl, ho⟩, hb⟩
    have B1 := Lib.hid hb
    clear ho hb C
    go_wp2_with fail
    go_ret
    exact ⟨⟨_, rfl, OwnT.nil _ _⟩, B1.out⟩

end Go.Proofs.Ytlgkffcomnclnaa
