/-
  No statement: the contracts of Under, Common of package path.
-/
import Derived.Test.YtlgkffcomnclnaaPText
namespace Go.Proofs.Ytlgkffcomnclnaa
open Go.RowKit

set_option maxRecDepth 100000 in
set_option maxHeartbeats 4000000 in
theorem under_any (a b : ByteArray) (ha : a.size ≤ 281474976710656) (hb : b.size ≤ 281474976710656) (w : World) : Calls Try.prog 23 #[.string a, .string b] w fun e w' => e = .returned (.bool (underB a.data.toList b.data.toList)) ∧ Below w.heap.size w w' := by
  have CA := Lib.hid (fun w => cut_any a ha w)
  have CB := Lib.hid (fun w => cut_any b hb w)
  obtain ⟨t, ht, I⟩ := cutV_is a ha
  obtain ⟨u, hu, J⟩ := cutV_is b hb
  rw [ht] at CA
  rw [hu] at CB
  clear ht hu
  have AL := Lib.hid (fun w => alike_any t u _ _ I J w)
  unfold underB
  obtain ⟨p, hp⟩ : ∃ q, partsP a.data.toList = q := ⟨_, rfl⟩
  obtain ⟨q, hq⟩ : ∃ q, partsP b.data.toList = q := ⟨_, rfl⟩
  obtain ⟨x, hx⟩ : ∃ x, errP a.data.toList = x := ⟨_, rfl⟩
  obtain ⟨y, hy⟩ : ∃ x, errP b.data.toList = x := ⟨_, rfl⟩
  rw [hp] at CA AL I
  rw [hq] at CB AL J
  rw [hx] at CA
  rw [hy] at CB
  rw [hp, hq, hx, hy]
  clear hp hq hx hy
  have l1 := I.few
  have l2 := J.few
  unfold cutsV at CA CB AL
  by_cases hx : x = 0
  · by_cases hy : y = 0
    · have ex : (x == 0) = true := beq_iff_eq.2 hx
      have ey : (y == 0) = true := beq_iff_eq.2 hy
      obtain ⟨n, hn⟩ : ∃ n, comN p q = n := ⟨_, rfl⟩
      rw [hn] at AL
      have E := Lib.hid (show decide (x = 0 ∧ y = 0 ∧ comN p q = q.length) = decide ((n : Int) = (q.length : Int)) from decide_eq_decide.2 ⟨fun h => by rw [← hn]; exact congrArg Nat.cast h.2.2, fun h => ⟨hx, hy, by rw [hn]; omega⟩⟩)
      have D := Lib.hid (show ((n : Int) == (q.length : Int)) = decide ((n : Int) = (q.length : Int)) from rfl)
      rw [E.out]
      clear hn hx hy
      go_enter Try.func23, Try.ntmps23
      go_wp2_with fail
      refine (CA.out _).mono ?_
      rintro e w1 ⟨rfl, hb1⟩
      have B1 := Lib.hid hb1
      clear hb1 CA
      go_upto_region 2 with fail
      generalize hW : World.alloc w1 _ = w2
      have P2 := Lib.hid (show C7 w2 w1.heap.size t p.length (endN p 0) (endN p 1) (endN p 2) (endN p 3) (endN p 4) by rw [← hW]; exact C7.boxed w1 t p)
      have B2 := Lib.hid (show Below w.heap.size w w2 by rw [← hW]; exact B1.out.alloc B1.out.size _)
      clear hW
      go_wp2_with fail
      refine (CB.out _).mono ?_
      rintro e w3 ⟨rfl, hb3⟩
      have P3 := Lib.hid (P2.out.kept hb3)
      have B3 := Lib.hid (B2.out.trans (hb3.mono B2.out.size))
      clear hb3 CB
      go_upto_region 3 with fail
      generalize hW : World.alloc w3 _ = w4
      have Q4 := Lib.hid (show C7 w4 w3.heap.size u q.length (endN q 0) (endN q 1) (endN q 2) (endN q 3) (endN q 4) by rw [← hW]; exact C7.boxed w3 u q)
      have P4 := Lib.hid (show C7 w4 w1.heap.size t p.length (endN p 0) (endN p 1) (endN p 2) (endN p 3) (endN p 4) by rw [← hW]; exact (Below.heap_alloc w3 _ _ (lt_of_block P3.out)).trans P3.out)
      have B4 := Lib.hid (show Below w.heap.size w w4 by rw [← hW]; exact B3.out.alloc B3.out.size _)
      clear hW
      have cc := And.intro (show C7 w4.drew w1.heap.size t p.length (endN p 0) (endN p 1) (endN p 2) (endN p 3) (endN p 4) from P4.out).cells (show C7 w4.drew w3.heap.size u q.length (endN q 0) (endN q 1) (endN q 2) (endN q 3) (endN q 4) from Q4.out).cells
      have P5 := Lib.hid (p := C7 w4.drew w1.heap.size t p.length (endN p 0) (endN p 1) (endN p 2) (endN p 3) (endN p 4)) P4.out
      have Q5 := Lib.hid (p := C7 w4.drew w3.heap.size u q.length (endN q 0) (endN q 1) (endN q 2) (endN q 3) (endN q 4)) Q4.out
      have B5 := Lib.hid B4.out.drew
      clear P4 Q4 B4
      go_region_held3 (fun w' => (w'.cell? ⟨w1.heap.size, 0, none⟩ = some (.string t) ∧ w'.cell? ⟨w1.heap.size, 1, none⟩ = some (.int .i64 p.length) ∧ w'.cell? ⟨w1.heap.size, 2, none⟩ = some (.int .i64 (endN p 0 : Nat)) ∧ w'.cell? ⟨w1.heap.size, 3, none⟩ = some (.int .i64 (endN p 1 : Nat)) ∧ w'.cell? ⟨w1.heap.size, 4, none⟩ = some (.int .i64 (endN p 2 : Nat)) ∧ w'.cell? ⟨w1.heap.size, 5, none⟩ = some (.int .i64 (endN p 3 : Nat)) ∧ w'.cell? ⟨w1.heap.size, 6, none⟩ = some (.int .i64 (endN p 4 : Nat))) ∧ (w'.cell? ⟨w3.heap.size, 0, none⟩ = some (.string u) ∧ w'.cell? ⟨w3.heap.size, 1, none⟩ = some (.int .i64 q.length) ∧ w'.cell? ⟨w3.heap.size, 2, none⟩ = some (.int .i64 (endN q 0 : Nat)) ∧ w'.cell? ⟨w3.heap.size, 3, none⟩ = some (.int .i64 (endN q 1 : Nat)) ∧ w'.cell? ⟨w3.heap.size, 4, none⟩ = some (.int .i64 (endN q 2 : Nat)) ∧ w'.cell? ⟨w3.heap.size, 5, none⟩ = some (.int .i64 (endN q 3 : Nat)) ∧ w'.cell? ⟨w3.heap.size, 6, none⟩ = some (.int .i64 (endN q 4 : Nat)))) (first | assumption | exact cc) (first
        | (go_at_call 38
           with_reducible refine (AL.out _).mono ?_
           rintro e w6 ⟨rfl, h6⟩
           have B6 := Lib.hid (B5.out.trans (h6.mono B5.out.size))
           have cc := And.intro (P5.out.kept h6).cells (Q5.out.kept h6).cells
           clear h6)
        | fail)
      clear cc
      go_wp2_with fail
      go_ret
      exact ⟨rfl, B6.out⟩
    · have ex : (x == 0) = true := beq_iff_eq.2 hx
      have ey : (y == 0) = false := beq_eq_false_iff_ne.2 hy
      rw [decide_eq_false (fun h => hy h.2.1)]
      clear hx hy
      go_enter Try.func23, Try.ntmps23
      go_wp2_with fail
      refine (CA.out _).mono ?_
      rintro e w1 ⟨rfl, hb1⟩
      have B1 := Lib.hid hb1
      clear hb1 CA
      go_upto_region 2 with fail
      generalize hW : World.alloc w1 _ = w2
      have P2 := Lib.hid (show C7 w2 w1.heap.size t p.length (endN p 0) (endN p 1) (endN p 2) (endN p 3) (endN p 4) by rw [← hW]; exact C7.boxed w1 t p)
      have B2 := Lib.hid (show Below w.heap.size w w2 by rw [← hW]; exact B1.out.alloc B1.out.size _)
      clear hW
      go_wp2_with fail
      refine (CB.out _).mono ?_
      rintro e w3 ⟨rfl, hb3⟩
      have P3 := Lib.hid (P2.out.kept hb3)
      have B3 := Lib.hid (B2.out.trans (hb3.mono B2.out.size))
      clear hb3 CB
      go_upto_region 3 with fail
      generalize hW : World.alloc w3 _ = w4
      have Q4 := Lib.hid (show C7 w4 w3.heap.size u q.length (endN q 0) (endN q 1) (endN q 2) (endN q 3) (endN q 4) by rw [← hW]; exact C7.boxed w3 u q)
      have P4 := Lib.hid (show C7 w4 w1.heap.size t p.length (endN p 0) (endN p 1) (endN p 2) (endN p 3) (endN p 4) by rw [← hW]; exact (Below.heap_alloc w3 _ _ (lt_of_block P3.out)).trans P3.out)
      have B4 := Lib.hid (show Below w.heap.size w w4 by rw [← hW]; exact B3.out.alloc B3.out.size _)
      clear hW
      go_quiet (fail)
      go_wp2_with fail
      go_ret
      exact ⟨rfl, below_drewN B4.out _⟩
  · have ex : (x == 0) = false := beq_eq_false_iff_ne.2 hx
    rw [decide_eq_false (fun h => hx h.1)]
    clear hx
    go_enter Try.func23, Try.ntmps23
    go_wp2_with fail
    refine (CA.out _).mono ?_
    rintro e w1 ⟨rfl, hb1⟩
    have B1 := Lib.hid hb1
    clear hb1 CA
    go_upto_region 2 with fail
    generalize hW : World.alloc w1 _ = w2
    have P2 := Lib.hid (show C7 w2 w1.heap.size t p.length (endN p 0) (endN p 1) (endN p 2) (endN p 3) (endN p 4) by rw [← hW]; exact C7.boxed w1 t p)
    have B2 := Lib.hid (show Below w.heap.size w w2 by rw [← hW]; exact B1.out.alloc B1.out.size _)
    clear hW
    go_wp2_with fail
    refine (CB.out _).mono ?_
    rintro e w3 ⟨rfl, hb3⟩
    have P3 := Lib.hid (P2.out.kept hb3)
    have B3 := Lib.hid (B2.out.trans (hb3.mono B2.out.size))
    clear hb3 CB
    go_upto_region 3 with fail
    generalize hW : World.alloc w3 _ = w4
    have Q4 := Lib.hid (show C7 w4 w3.heap.size u q.length (endN q 0) (endN q 1) (endN q 2) (endN q 3) (endN q 4) by rw [← hW]; exact C7.boxed w3 u q)
    have P4 := Lib.hid (show C7 w4 w1.heap.size t p.length (endN p 0) (endN p 1) (endN p 2) (endN p 3) (endN p 4) by rw [← hW]; exact (Below.heap_alloc w3 _ _ (lt_of_block P3.out)).trans P3.out)
    have B4 := Lib.hid (show Below w.heap.size w w4 by rw [← hW]; exact B3.out.alloc B3.out.size _)
    clear hW
    go_quiet (fail)
    go_wp2_with fail
    go_ret
    exact ⟨rfl, below_drewN B4.out _⟩

set_option maxRecDepth 100000 in
set_option maxHeartbeats 4000000 in
theorem common_any (a b : ByteArray) (ha : a.size ≤ 281474976710656) (hb : b.size ≤ 281474976710656) (w : World) : Calls Try.prog 25 #[.string a, .string b] w fun e w' => e = .returned (tv (commonP a.data.toList b.data.toList)) ∧ Below w.heap.size w w' := by
  have CA := Lib.hid (fun w => cut_any a ha w)
  have CB := Lib.hid (fun w => cut_any b hb w)
  obtain ⟨t, ht, I⟩ := cutV_is a ha
  obtain ⟨u, hu, J⟩ := cutV_is b hb
  rw [ht] at CA
  rw [hu] at CB
  clear ht hu
  have AL := Lib.hid (fun w => alike_any t u _ _ I J w)
  unfold commonP
  obtain ⟨p, hp⟩ : ∃ q, partsP a.data.toList = q := ⟨_, rfl⟩
  obtain ⟨q, hq⟩ : ∃ q, partsP b.data.toList = q := ⟨_, rfl⟩
  obtain ⟨x, hx⟩ : ∃ x, errP a.data.toList = x := ⟨_, rfl⟩
  obtain ⟨y, hy⟩ : ∃ x, errP b.data.toList = x := ⟨_, rfl⟩
  rw [hp] at CA AL I
  rw [hq] at CB AL J
  rw [hx] at CA
  rw [hy] at CB
  rw [hp, hq, hx, hy]
  clear hp hq hx hy
  have FR := Lib.hid (fun w => front_any t p I (comN p q) (com_le p q).1 w)
  obtain ⟨T, hT⟩ : ∃ T : Value, tv (textP (p.take (comN p q))) = T := ⟨_, rfl⟩
  rw [hT] at FR
  have HT := Lib.hid hT
  clear hT I J
  obtain ⟨n, hn⟩ : ∃ n, comN p q = n := ⟨_, rfl⟩
  rw [hn] at AL FR HT ⊢
  clear hn
  unfold cutsV at CA CB AL FR
  by_cases hx : x = 0
  · by_cases hy : y = 0
    · have ex : (x == 0) = true := beq_iff_eq.2 hx
      have ey : (y == 0) = true := beq_iff_eq.2 hy
      rw [if_pos ⟨hx, hy⟩, HT.out]
      clear HT
      subst hx hy
      clear ex ey
      go_enter Try.func25, Try.ntmps25
      go_wp2_with fail
      refine (CA.out _).mono ?_
      rintro e w1 ⟨rfl, hb1⟩
      have B1 := Lib.hid hb1
      clear hb1 CA
      go_upto_region 2 with fail
      generalize hW : World.alloc w1 _ = w2
      have P2 := Lib.hid (show C7 w2 w1.heap.size t p.length (endN p 0) (endN p 1) (endN p 2) (endN p 3) (endN p 4) by rw [← hW]; exact C7.boxed w1 t p)
      have B2 := Lib.hid (show Below w.heap.size w w2 by rw [← hW]; exact B1.out.alloc B1.out.size _)
      clear hW
      go_wp2_with fail
      refine (CB.out _).mono ?_
      rintro e w3 ⟨rfl, hb3⟩
      have P3 := Lib.hid (P2.out.kept hb3)
      have B3 := Lib.hid (B2.out.trans (hb3.mono B2.out.size))
      clear hb3 CB
      go_upto_region 3 with fail
      generalize hW : World.alloc w3 _ = w4
      have Q4 := Lib.hid (show C7 w4 w3.heap.size u q.length (endN q 0) (endN q 1) (endN q 2) (endN q 3) (endN q 4) by rw [← hW]; exact C7.boxed w3 u q)
      have P4 := Lib.hid (show C7 w4 w1.heap.size t p.length (endN p 0) (endN p 1) (endN p 2) (endN p 3) (endN p 4) by rw [← hW]; exact (Below.heap_alloc w3 _ _ (lt_of_block P3.out)).trans P3.out)
      have B4 := Lib.hid (show Below w.heap.size w w4 by rw [← hW]; exact B3.out.alloc B3.out.size _)
      clear hW
      go_upto_region 5 with fail
      have cc := And.intro (show C7 w4.drew w1.heap.size t p.length (endN p 0) (endN p 1) (endN p 2) (endN p 3) (endN p 4) from P4.out).cells (show C7 w4.drew w3.heap.size u q.length (endN q 0) (endN q 1) (endN q 2) (endN q 3) (endN q 4) from Q4.out).cells
      have P5 := Lib.hid (p := C7 w4.drew w1.heap.size t p.length (endN p 0) (endN p 1) (endN p 2) (endN p 3) (endN p 4)) P4.out
      have Q5 := Lib.hid (p := C7 w4.drew w3.heap.size u q.length (endN q 0) (endN q 1) (endN q 2) (endN q 3) (endN q 4)) Q4.out
      have B5 := Lib.hid B4.out.drew
      clear P4 Q4 B4
      go_region_held3 (fun w' => (w'.cell? ⟨w1.heap.size, 0, none⟩ = some (.string t) ∧ w'.cell? ⟨w1.heap.size, 1, none⟩ = some (.int .i64 p.length) ∧ w'.cell? ⟨w1.heap.size, 2, none⟩ = some (.int .i64 (endN p 0 : Nat)) ∧ w'.cell? ⟨w1.heap.size, 3, none⟩ = some (.int .i64 (endN p 1 : Nat)) ∧ w'.cell? ⟨w1.heap.size, 4, none⟩ = some (.int .i64 (endN p 2 : Nat)) ∧ w'.cell? ⟨w1.heap.size, 5, none⟩ = some (.int .i64 (endN p 3 : Nat)) ∧ w'.cell? ⟨w1.heap.size, 6, none⟩ = some (.int .i64 (endN p 4 : Nat))) ∧ (w'.cell? ⟨w3.heap.size, 0, none⟩ = some (.string u) ∧ w'.cell? ⟨w3.heap.size, 1, none⟩ = some (.int .i64 q.length) ∧ w'.cell? ⟨w3.heap.size, 2, none⟩ = some (.int .i64 (endN q 0 : Nat)) ∧ w'.cell? ⟨w3.heap.size, 3, none⟩ = some (.int .i64 (endN q 1 : Nat)) ∧ w'.cell? ⟨w3.heap.size, 4, none⟩ = some (.int .i64 (endN q 2 : Nat)) ∧ w'.cell? ⟨w3.heap.size, 5, none⟩ = some (.int .i64 (endN q 3 : Nat)) ∧ w'.cell? ⟨w3.heap.size, 6, none⟩ = some (.int .i64 (endN q 4 : Nat)))) (first | assumption | exact cc) (first
        | (go_at_call 38
           with_reducible refine (AL.out _).mono ?_
           rintro e w6 ⟨rfl, h6⟩
           have B6 := Lib.hid (B5.out.trans (h6.mono B5.out.size))
           have P6 := Lib.hid (P5.out.kept h6)
           have Q6 := Lib.hid (Q5.out.kept h6)
           have cc := And.intro P6.out.cells Q6.out.cells
           clear h6)
        | (go_at_call 36
           with_reducible refine (FR.out _).mono ?_
           rintro e w7 ⟨rfl, h7⟩
           have B7 := Lib.hid (B6.out.trans (h7.mono B6.out.size))
           have cc := And.intro (P6.out.kept h7).cells (Q6.out.kept h7).cells
           clear h7)
        | fail)
      clear cc
      go_wp2_with fail
      go_ret
      exact ⟨rfl, B7.out⟩
    · have ex : (x == 0) = true := beq_iff_eq.2 hx
      have ey : (y == 0) = false := beq_eq_false_iff_ne.2 hy
      rw [if_neg (fun h => hy h.2)]
      subst hx
      clear ex
      go_enter Try.func25, Try.ntmps25
      go_wp2_with fail
      refine (CA.out _).mono ?_
      rintro e w1 ⟨rfl, hb1⟩
      have B1 := Lib.hid hb1
      clear hb1 CA
      go_upto_region 2 with fail
      generalize hW : World.alloc w1 _ = w2
      have P2 := Lib.hid (show C7 w2 w1.heap.size t p.length (endN p 0) (endN p 1) (endN p 2) (endN p 3) (endN p 4) by rw [← hW]; exact C7.boxed w1 t p)
      have B2 := Lib.hid (show Below w.heap.size w w2 by rw [← hW]; exact B1.out.alloc B1.out.size _)
      clear hW
      go_wp2_with fail
      refine (CB.out _).mono ?_
      rintro e w3 ⟨rfl, hb3⟩
      have P3 := Lib.hid (P2.out.kept hb3)
      have B3 := Lib.hid (B2.out.trans (hb3.mono B2.out.size))
      clear hb3 CB
      go_upto_region 3 with fail
      generalize hW : World.alloc w3 _ = w4
      have Q4 := Lib.hid (show C7 w4 w3.heap.size u q.length (endN q 0) (endN q 1) (endN q 2) (endN q 3) (endN q 4) by rw [← hW]; exact C7.boxed w3 u q)
      have P4 := Lib.hid (show C7 w4 w1.heap.size t p.length (endN p 0) (endN p 1) (endN p 2) (endN p 3) (endN p 4) by rw [← hW]; exact (Below.heap_alloc w3 _ _ (lt_of_block P3.out)).trans P3.out)
      have B4 := Lib.hid (show Below w.heap.size w w4 by rw [← hW]; exact B3.out.alloc B3.out.size _)
      clear hW
      go_wp2_with fail
      go_ret
      exact ⟨rfl, B4.out⟩
  · have ex : (x == 0) = false := beq_eq_false_iff_ne.2 hx
    rw [if_neg (fun h => hx h.1)]
    go_enter Try.func25, Try.ntmps25
    go_wp2_with fail
    refine (CA.out _).mono ?_
    rintro e w1 ⟨rfl, hb1⟩
    have B1 := Lib.hid hb1
    clear hb1 CA
    go_upto_region 2 with fail
    generalize hW : World.alloc w1 _ = w2
    have P2 := Lib.hid (show C7 w2 w1.heap.size t p.length (endN p 0) (endN p 1) (endN p 2) (endN p 3) (endN p 4) by rw [← hW]; exact C7.boxed w1 t p)
    have B2 := Lib.hid (show Below w.heap.size w w2 by rw [← hW]; exact B1.out.alloc B1.out.size _)
    clear hW
    go_wp2_with fail
    refine (CB.out _).mono ?_
    rintro e w3 ⟨rfl, hb3⟩
    have P3 := Lib.hid (P2.out.kept hb3)
    have B3 := Lib.hid (B2.out.trans (hb3.mono B2.out.size))
    clear hb3 CB
    go_upto_region 3 with fail
    generalize hW : World.alloc w3 _ = w4
    have Q4 := Lib.hid (show C7 w4 w3.heap.size u q.length (endN q 0) (endN q 1) (endN q 2) (endN q 3) (endN q 4) by rw [← hW]; exact C7.boxed w3 u q)
    have P4 := Lib.hid (show C7 w4 w1.heap.size t p.length (endN p 0) (endN p 1) (endN p 2) (endN p 3) (endN p 4) by rw [← hW]; exact (Below.heap_alloc w3 _ _ (lt_of_block P3.out)).trans P3.out)
    have B4 := Lib.hid (show Below w.heap.size w w4 by rw [← hW]; exact B3.out.alloc B3.out.size _)
    clear hW
    go_wp2_with fail
    go_ret
    exact ⟨rfl, B4.out⟩

end Go.Proofs.Ytlgkffcomnclnaa
