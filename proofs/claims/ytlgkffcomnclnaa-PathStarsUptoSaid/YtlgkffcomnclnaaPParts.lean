/-
  No statement: the contracts of front, part, alike of package path.
-/
import Derived.Test.YtlgkffcomnclnaaPCut
import Derived.Deep.RegionHeld3
namespace Go.Proofs.Ytlgkffcomnclnaa
open Go.RowKit

/-- s is cut into these parts. -/
structure IsC (s : ByteArray) (q : List (List UInt8)) : Prop where
  few : q.length ≤ 4
  txt : ¬ q = [] → s.data.toList = joinT q
  sz : s.size ≤ 281474976710656

theorem IsC.of {s : ByteArray} (h : errP s.data.toList = 0) (hm : s.size ≤ 281474976710656) : IsC s (partsP s.data.toList) := by
  have k := parts_ok h
  refine ⟨k.2.1, fun hn => ?_, hm⟩
  have := k.2.2.1
  rw [textP, if_neg hn] at this
  exact this.symm

theorem endN_at (q : List (List UInt8)) (i : Nat) (h : i ≤ q.length) : endN q i = (joinT (q.take i)).length := if_pos h

theorem join_at (q : List (List UInt8)) (i : Nat) (h : i < q.length) : joinT q = joinT (q.take i) ++ (47 :: (q[i] ++ joinT (q.drop (i + 1)))) := by
  have e := joinT_take_drop q i
  rw [List.drop_eq_getElem_cons h, joinT_cons] at e
  exact e

theorem end_next (q : List (List UInt8)) (i : Nat) (h : i < q.length) : endN q (i + 1) = endN q i + 1 + q[i].length := by
  rw [endN_at q (i + 1) h, endN_at q i (by omega), List.take_succ_eq_append_getElem h, joinT_app, joinT_one, List.length_append, List.length_cons]
  omega

theorem end_le {s : ByteArray} {q : List (List UInt8)} (h : IsC s q) (i : Nat) (h0 : 0 < i) (hi : i ≤ q.length) : endN q i ≤ s.size := by
  have hl : s.data.toList.length = s.size := by simp
  rw [endN_at q i hi, ← hl, h.txt (by intro e; rw [e] at hi; simp at hi; omega), joinT_take_drop q i, List.length_append]
  omega

theorem part_text {s : ByteArray} {q : List (List UInt8)} (h : IsC s q) (i : Nat) (hi : i < q.length) : (.string (s.extract (endN q i + 1) (endN q (i + 1))) : Value) = tv q[i] := by
  unfold tv
  congr 1
  apply text_eq
  rw [list_extract, h.txt (by intro e; rw [e] at hi; simp at hi), end_next q i hi, endN_at q i (by omega)]
  have e := join_at q i hi
  rw [e]
  have e1 : (joinT (q.take i) ++ (47 :: (q[i] ++ joinT (q.drop (i + 1))))).drop ((joinT (q.take i)).length + 1) = q[i] ++ joinT (q.drop (i + 1)) := by
    rw [List.drop_append]
    simp
  rw [e1, show (joinT (q.take i)).length + 1 + q[i].length - ((joinT (q.take i)).length + 1) = q[i].length by omega]
  simp

theorem front_text {s : ByteArray} {q : List (List UInt8)} (h : IsC s q) (n : Nat) (h0 : 0 < n) (hn : n ≤ q.length) : (.string (s.extract 0 (endN q n)) : Value) = tv (textP (q.take n)) := by
  unfold tv
  congr 1
  apply text_eq
  rw [list_extract, h.txt (by intro e; rw [e] at hn; simp at hn; omega), endN_at q n hn, joinT_take_drop q n]
  have hne : ¬ q.take n = [] := by
    intro e
    have := congrArg List.length e
    rw [List.length_take, List.length_nil] at this
    omega
  rw [textP, if_neg hne]
  simp

theorem C7.at {w : World} {b : Nat} {s : ByteArray} {q : List (List UInt8)} (h : C7 w b s q.length (endN q 0) (endN q 1) (endN q 2) (endN q 3) (endN q 4)) (i : Nat) (hi : i ≤ 4) : w.cell? ⟨b, 2 + i, none⟩ = some (.int .i64 (endN q i : Nat)) := by
  obtain ⟨_, _, c0, c1, c2, c3, c4⟩ := h.cells
  obtain rfl | rfl | rfl | rfl | rfl : i = 0 ∨ i = 1 ∨ i = 2 ∨ i = 3 ∨ i = 4 := by omega
  · exact c0
  · exact c1
  · exact c2
  · exact c3
  · exact c4

theorem C7.boxed (w : World) (s : ByteArray) (q : List (List UInt8)) : C7 (w.alloc (.cells (cutsV s q).cells 45)) w.heap.size s q.length (endN q 0) (endN q 1) (endN q 2) (endN q 3) (endN q 4) := heap_alloc_new w _

set_option maxRecDepth 100000 in
set_option maxHeartbeats 2000000 in
theorem part_any (s : ByteArray) (q : List (List UInt8)) (h : IsC s q) (i : Nat) (hi : i < q.length) (w : World) : Calls Try.prog 32 #[cutsV s q, .int .i64 (i : Nat)] w fun e w' => e = .returned (tv q[i]) ∧ Below w.heap.size w w' := by
  have T := Lib.hid (part_text h i hi)
  have hE := end_next q i hi
  have hS := end_le h (i + 1) (by omega) hi
  have h4 := h.few
  have hsz := h.sz
  have CB := Lib.hid (C7.boxed w s q)
  obtain ⟨x, hx⟩ : ∃ x, q[i] = x := ⟨_, rfl⟩
  rw [hx] at T hE ⊢
  clear hx
  unfold cutsV at CB ⊢
  go_enter Try.func32, Try.ntmps32
  go_upto_region 1 with fail
  generalize hW : World.alloc w _ = w1
  have N := Lib.hid (show C7 w1 w.heap.size s q.length (endN q 0) (endN q 1) (endN q 2) (endN q 3) (endN q 4) by rw [← hW]; exact CB.out)
  have bel := Lib.hid (show Below w.heap.size w w1 by rw [← hW]; exact (Below.refl w.heap.size w).alloc (Nat.le_refl _) _)
  have c0 := N.out.cells.1
  have c1 := N.out.at i (by omega)
  have c2 := N.out.at (i + 1) (by omega)
  clear hW CB h
  obtain ⟨E0, hE0⟩ : ∃ n, endN q i = n := ⟨_, rfl⟩
  obtain ⟨E1, hE1⟩ : ∃ n, endN q (i + 1) = n := ⟨_, rfl⟩
  rw [hE0] at c1 T hE
  rw [hE1] at c2 T hE hS
  have a1 : (0 : Int) ≤ (i : Int) := by omega
  have a2 : (i : Int) < 5 := by omega
  have a3 : ((i : Int)).toNat = i := by omega
  have b0 : IntKind.i64.wrap ((i : Int) + 1) = (i : Int) + 1 := IntWalk.i64_in _ (by omega)
  have b1 : (0 : Int) ≤ (i : Int) + 1 := by omega
  have b2 : (i : Int) + 1 < 5 := by omega
  have b3 : ((i : Int) + 1).toNat = i + 1 := by omega
  have d0 : IntKind.i64.wrap ((E0 : Int) + 1) = (E0 : Int) + 1 := IntWalk.i64_in _ (by omega)
  have d1 : (0 : Int) ≤ (E0 : Int) + 1 := by omega
  have d2 : (E0 : Int) + 1 ≤ (E1 : Int) := by omega
  have d3 : (E1 : Int) ≤ (s.size : Int) := by omega
  have d4 : ((E0 : Int) + 1).toNat = E0 + 1 := by omega
  have d5 : ((E1 : Int)).toNat = E1 := by omega
  have d6 : (0 : Int) ≤ (E1 : Int) := by omega
  clear hE hS hE0 hE1 hi h4
  go_quiet (fail)
  go_wp2_with fail
  go_ret
  rw [T.out]
  exact ⟨rfl, below_drewN bel.out _⟩

set_option maxRecDepth 100000 in
set_option maxHeartbeats 2000000 in
theorem front_any (s : ByteArray) (q : List (List UInt8)) (h : IsC s q) (n : Nat) (hn : n ≤ q.length) (w : World) : Calls Try.prog 36 #[cutsV s q, .int .i64 (n : Nat)] w fun e w' => e = .returned (tv (textP (q.take n))) ∧ Below w.heap.size w w' := by
  have CB := Lib.hid (C7.boxed w s q)
  by_cases h0 : n = 0
  · subst h0
    unfold cutsV at CB ⊢
    go_enter Try.func36, Try.ntmps36
    go_wp2_with fail
    go_ret
    exact ⟨rfl, (Below.refl w.heap.size w).alloc (Nat.le_refl _) _⟩
  have T := Lib.hid (front_text h n (by omega) hn)
  have hS := end_le h n (by omega) hn
  have h4 := h.few
  have hsz := h.sz
  unfold cutsV at CB ⊢
  go_enter Try.func36, Try.ntmps36
  go_upto_region 1 with fail
  generalize hW : World.alloc w _ = w1
  have N := Lib.hid (show C7 w1 w.heap.size s q.length (endN q 0) (endN q 1) (endN q 2) (endN q 3) (endN q 4) by rw [← hW]; exact CB.out)
  have bel := Lib.hid (show Below w.heap.size w w1 by rw [← hW]; exact (Below.refl w.heap.size w).alloc (Nat.le_refl _) _)
  have c0 := N.out.cells.1
  have c1 := N.out.at n (by omega)
  clear hW CB h
  obtain ⟨E0, hE0⟩ : ∃ m, endN q n = m := ⟨_, rfl⟩
  rw [hE0] at c1 T hS
  have a0 : ((n : Int) == 0) = false := by rw [beq_eq_false_iff_ne]; omega
  have a1 : (0 : Int) ≤ (n : Int) := by omega
  have a2 : (n : Int) < 5 := by omega
  have a3 : ((n : Int)).toNat = n := by omega
  have d3 : (E0 : Int) ≤ (s.size : Int) := by omega
  have d5 : ((E0 : Int)).toNat = E0 := by omega
  have d6 : (0 : Int) ≤ (E0 : Int) := by omega
  clear hS hE0 hn h4 h0
  go_wp2_with (go_quiet (fail))
  go_ret
  rw [T.out]
  exact ⟨rfl, below_drewN bel.out _⟩

theorem com_parts (p q : List (List UInt8)) (k : Nat) (h : ∀ j, j < k → p[j]? = q[j]?) (h1 : k ≤ p.length) (h2 : k ≤ q.length) (stop : k = p.length ∨ k = q.length ∨ ¬ p[k]? = q[k]?) : comN p q = k := com_eq p q k h1 h2 h stop

theorem tv_text (l : List UInt8) : (⟨l.toArray⟩ : ByteArray).toList = l := by rw [Lib.toList_data]

set_option maxRecDepth 100000 in
set_option maxHeartbeats 4000000 in
theorem alike_any (s t : ByteArray) (p q : List (List UInt8)) (hp : IsC s p) (hq : IsC t q) (w : World) : Calls Try.prog 38 #[cutsV s p, cutsV t q] w fun e w' => e = .returned (.int .i64 (comN p q : Nat)) ∧ Below w.heap.size w w' := by
  have h4 := hp.few
  have h5 := hq.few
  have PA := Lib.hid (fun i hi w => part_any s p hp i hi w)
  have PB := Lib.hid (fun i hi w => part_any t q hq i hi w)
  clear hp hq
  have C1 := Lib.hid (show C7 ((w.alloc (.cells (cutsV s p).cells 45)).alloc (.cells (cutsV t q).cells 45)) w.heap.size s p.length (endN p 0) (endN p 1) (endN p 2) (endN p 3) (endN p 4) from (Below.heap_alloc _ _ _ (by simp)).trans (C7.boxed w s p))
  have C2 := Lib.hid (show C7 ((w.alloc (.cells (cutsV s p).cells 45)).alloc (.cells (cutsV t q).cells 45)) (w.heap.size + 1) t q.length (endN q 0) (endN q 1) (endN q 2) (endN q 3) (endN q 4) by
    have := C7.boxed (w.alloc (.cells (cutsV s p).cells 45)) t q
    rw [World.size_alloc] at this
    exact this)
  unfold cutsV at C1 C2 PA PB ⊢
  go_enter Try.func38, Try.ntmps38
  go_upto_region 1 with fail
  generalize hW : World.alloc (World.alloc w _) _ = w1
  have D1 := Lib.hid (show C7 w1 w.heap.size s p.length (endN p 0) (endN p 1) (endN p 2) (endN p 3) (endN p 4) by rw [← hW]; exact C1.out)
  have D2 := Lib.hid (show C7 w1 (w.heap.size + 1) t q.length (endN q 0) (endN q 1) (endN q 2) (endN q 3) (endN q 4) by rw [← hW]; exact C2.out)
  have bel := Lib.hid (show Below w.heap.size w w1 by rw [← hW]; exact ((Below.refl w.heap.size w).alloc (Nat.le_refl _) _).alloc (by simp) _)
  clear hW C1 C2
  go_wp2_with fail
  go_loopw [5] (fun v wr => ∃ k : Nat, v = .int .i64 k ∧ k ≤ p.length ∧ k ≤ q.length ∧ Hid (∀ j, j < k → p[j]? = q[j]?) ∧ Hid (C7 wr w.heap.size s p.length (endN p 0) (endN p 1) (endN p 2) (endN p 3) (endN p 4)) ∧ Hid (C7 wr (w.heap.size + 1) t q.length (endN q 0) (endN q 1) (endN q 2) (endN q 3) (endN q 4)) ∧ Hid (Below w.heap.size w wr)) (fun v _ => 10 - (intOf v).toNat)
  case atStart => exact ⟨0, rfl, Nat.zero_le _, Nat.zero_le _, Lib.hid (fun j h => by omega), D1, D2, bel⟩
  case round =>
    obtain ⟨k, rfl, hk1, hk2, hok, c, d, hb⟩ := hrel
    have r1 := c.out.cells.2.1
    have r2 := d.out.cells.2.1
    by_cases hlt : k < p.length ∧ k < q.length
    · obtain ⟨l1, l2⟩ := hlt
      have A := Lib.hid (fun w => PA.out k l1 w)
      have B := Lib.hid (fun w => PB.out k l2 w)
      have g1 := List.getElem?_eq_getElem l1
      have g2 := List.getElem?_eq_getElem l2
      obtain ⟨x, hx⟩ : ∃ x, p[k] = x := ⟨_, rfl⟩
      obtain ⟨y, hy⟩ : ∃ x, q[k] = x := ⟨_, rfl⟩
      rw [hx] at A g1
      rw [hy] at B g2
      unfold tv at A B
      obtain ⟨X, hX⟩ : ∃ X : ByteArray, ⟨x.toArray⟩ = X := ⟨_, rfl⟩
      obtain ⟨Y, hY⟩ : ∃ X : ByteArray, ⟨y.toArray⟩ = X := ⟨_, rfl⟩
      have hXl : X.toList = x := by rw [← hX, tv_text]
      have hYl : Y.toList = y := by rw [← hY, tv_text]
      rw [hX] at A
      rw [hY] at B
      have HX := Lib.hid hXl
      have HY := Lib.hid hYl
      clear hX hY hXl hYl
      have m1 : (k : Int) < min (p.length : Int) (q.length : Int) := by omega
      have G1 := Lib.hid g1
      have G2 := Lib.hid g2
      clear hx hy g1 g2 PA PB
      have c' := Lib.hid (p := C7 wr.drew w.heap.size s p.length (endN p 0) (endN p 1) (endN p 2) (endN p 3) (endN p 4)) c.out
      have d' := Lib.hid (p := C7 wr.drew (w.heap.size + 1) t q.length (endN q 0) (endN q 1) (endN q 2) (endN q 3) (endN q 4)) d.out
      have hb' := Lib.hid hb.out.drew
      have cc := And.intro c'.out.cells d'.out.cells
      clear c d hb r1 r2
      by_cases e : x = y
      · have e1 : (X.toList == Y.toList) = true := beq_iff_eq.2 (by rw [HX.out, HY.out, e])
        have hok1 := Lib.hid (show ∀ j, j < k + 1 → p[j]? = q[j]? from fun j hj => by
          by_cases ej : j = k
          · subst ej; rw [G1.out, G2.out, e]
          · exact hok.out j (by omega))
        clear e
        go_wp2_with fail
        go_region_held3 (fun w' => (w'.cell? ⟨w.heap.size, 0, none⟩ = some (.string s) ∧ w'.cell? ⟨w.heap.size, 1, none⟩ = some (.int .i64 p.length) ∧ w'.cell? ⟨w.heap.size, 2, none⟩ = some (.int .i64 (endN p 0 : Nat)) ∧ w'.cell? ⟨w.heap.size, 3, none⟩ = some (.int .i64 (endN p 1 : Nat)) ∧ w'.cell? ⟨w.heap.size, 4, none⟩ = some (.int .i64 (endN p 2 : Nat)) ∧ w'.cell? ⟨w.heap.size, 5, none⟩ = some (.int .i64 (endN p 3 : Nat)) ∧ w'.cell? ⟨w.heap.size, 6, none⟩ = some (.int .i64 (endN p 4 : Nat))) ∧ (w'.cell? ⟨w.heap.size + 1, 0, none⟩ = some (.string t) ∧ w'.cell? ⟨w.heap.size + 1, 1, none⟩ = some (.int .i64 q.length) ∧ w'.cell? ⟨w.heap.size + 1, 2, none⟩ = some (.int .i64 (endN q 0 : Nat)) ∧ w'.cell? ⟨w.heap.size + 1, 3, none⟩ = some (.int .i64 (endN q 1 : Nat)) ∧ w'.cell? ⟨w.heap.size + 1, 4, none⟩ = some (.int .i64 (endN q 2 : Nat)) ∧ w'.cell? ⟨w.heap.size + 1, 5, none⟩ = some (.int .i64 (endN q 3 : Nat)) ∧ w'.cell? ⟨w.heap.size + 1, 6, none⟩ = some (.int .i64 (endN q 4 : Nat)))) (first | assumption | exact cc) (first
          | (go_at_call 32
             with_reducible refine (A.out _).mono ?_
             rintro e w5 ⟨rfl, h5⟩
             have c5 := Lib.hid (c'.out.kept h5)
             have d5 := Lib.hid (d'.out.kept h5)
             have hb5 := Lib.hid (hb'.out.trans (h5.mono hb'.out.size))
             have cc := And.intro c5.out.cells d5.out.cells
             clear h5)
          | (go_at_call 32
             with_reducible refine (B.out _).mono ?_
             rintro e w6 ⟨rfl, h6⟩
             have c6 := Lib.hid (c5.out.kept h6)
             have d6 := Lib.hid (d5.out.kept h6)
             have hb6 := Lib.hid (hb5.out.trans (h6.mono hb5.out.size))
             have cc := And.intro c6.out.cells d6.out.cells
             clear h6)
          | fail)
        clear cc
        go_wp2_with fail
        go_roundw
        case rel => exact ⟨k + 1, by go_num, l1, l2, hok1, c6, d6, hb6⟩
        case measure => simp [intOf]; omega
      · have e1 : (X.toList == Y.toList) = false := beq_eq_false_iff_ne.2 (by rw [HX.out, HY.out]; exact e)
        have E := Lib.hid (com_parts p q k hok.out hk1 hk2 (.inr (.inr (by rw [G1.out, G2.out]; intro h; exact e (Option.some.inj h)))))
        clear e
        go_wp2_with fail
        go_region_held3 (fun w' => (w'.cell? ⟨w.heap.size, 0, none⟩ = some (.string s) ∧ w'.cell? ⟨w.heap.size, 1, none⟩ = some (.int .i64 p.length) ∧ w'.cell? ⟨w.heap.size, 2, none⟩ = some (.int .i64 (endN p 0 : Nat)) ∧ w'.cell? ⟨w.heap.size, 3, none⟩ = some (.int .i64 (endN p 1 : Nat)) ∧ w'.cell? ⟨w.heap.size, 4, none⟩ = some (.int .i64 (endN p 2 : Nat)) ∧ w'.cell? ⟨w.heap.size, 5, none⟩ = some (.int .i64 (endN p 3 : Nat)) ∧ w'.cell? ⟨w.heap.size, 6, none⟩ = some (.int .i64 (endN p 4 : Nat))) ∧ (w'.cell? ⟨w.heap.size + 1, 0, none⟩ = some (.string t) ∧ w'.cell? ⟨w.heap.size + 1, 1, none⟩ = some (.int .i64 q.length) ∧ w'.cell? ⟨w.heap.size + 1, 2, none⟩ = some (.int .i64 (endN q 0 : Nat)) ∧ w'.cell? ⟨w.heap.size + 1, 3, none⟩ = some (.int .i64 (endN q 1 : Nat)) ∧ w'.cell? ⟨w.heap.size + 1, 4, none⟩ = some (.int .i64 (endN q 2 : Nat)) ∧ w'.cell? ⟨w.heap.size + 1, 5, none⟩ = some (.int .i64 (endN q 3 : Nat)) ∧ w'.cell? ⟨w.heap.size + 1, 6, none⟩ = some (.int .i64 (endN q 4 : Nat)))) (first | assumption | exact cc) (first
          | (go_at_call 32
             with_reducible refine (A.out _).mono ?_
             rintro e w5 ⟨rfl, h5⟩
             have c5 := Lib.hid (c'.out.kept h5)
             have d5 := Lib.hid (d'.out.kept h5)
             have hb5 := Lib.hid (hb'.out.trans (h5.mono hb'.out.size))
             have cc := And.intro c5.out.cells d5.out.cells
             clear h5)
          | (go_at_call 32
             with_reducible refine (B.out _).mono ?_
             rintro e w6 ⟨rfl, h6⟩
             have c6 := Lib.hid (c5.out.kept h6)
             have d6 := Lib.hid (d5.out.kept h6)
             have hb6 := Lib.hid (hb5.out.trans (h6.mono hb5.out.size))
             have cc := And.intro c6.out.cells d6.out.cells
             clear h6)
          | fail)
        clear cc
        go_wp2_with fail
        go_ret
        rw [E.out]
        exact ⟨rfl, hb6.out⟩
    · have E := Lib.hid (com_parts p q k hok.out hk1 hk2 (by omega))
      have m1 : decide ((k : Int) < min (p.length : Int) (q.length : Int)) = false := decide_eq_false (by omega)
      go_wp2_with fail
      go_quiet (fail)
      go_wp2_with fail
      go_ret
      rw [E.out]
      exact ⟨rfl, below_drewN hb.out _⟩

end Go.Proofs.Ytlgkffcomnclnaa
