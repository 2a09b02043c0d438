/-
  No statement: contracts of num and first of package lex.
-/
import Derived.Test.YteegdemnajhehaaGreatDoorALex
namespace Go.Proofs.YteegdemnajhehaaGreatDoor
open Go.RowKit

set_option maxHeartbeats 4000000 in
theorem lNumA (s : ByteArray) (_h1 : 1 ≤ s.size) (hm : s.size ≤ 281474976710656) (w : World) {n : Nat} (hn : runL digitB s.data.toList = n) (_hle : n ≤ s.size) (a1 : 1 < n) (a2 : ((s[0].toNat : Int) == 48) = true) : Calls Tryz.prog 80 #[.string s] w fun e w' => e = .returned (.tuple #[tkV 0 ⟨#[]⟩ 0 0, .int .i64 2]) ∧ Below w.heap.size w w' := by
  have C := Lib.hid (p := ∀ w, Calls Tryz.prog 104 #[.string s, .func (.func 79) #[] #[]] w fun e w' => e = .returned (.int .i64 (n : Int)) ∧ w = w') (fun w => by have := lRunD_any s hm w; rwa [hn] at this)
  clear hn
  go_enter Tryz.func80, Tryz.ntmps80
  go_wp2_with ((go_at_call 104; refine (C.out _).mono ?_; rintro e w' ⟨rfl, rfl⟩))
  refine bodyPost_ret (v := .tuple #[tkV 0 ⟨#[]⟩ 0 0, .int .i64 2]) (by simp [results, Tryz.results80, go_sem]) rfl ⟨rfl, ?_⟩
  exact (Below.refl _ _).alloc (Nat.le_refl _) _

set_option maxHeartbeats 4000000 in
theorem lNumB1 (s : ByteArray) (_h1 : 1 ≤ s.size) (hm : s.size ≤ 281474976710656) (w : World) {n : Nat} (hn : runL digitB s.data.toList = n) (_hle : n ≤ s.size) (a1 : ¬ 1 < n) (b1 : n < s.size) (b2 : smallB s[n] = true) : Calls Tryz.prog 80 #[.string s] w fun e w' => e = .returned (.tuple #[tkV 0 ⟨#[]⟩ 0 0, .int .i64 2]) ∧ Below w.heap.size w w' := by
  have C := Lib.hid (p := ∀ w, Calls Tryz.prog 104 #[.string s, .func (.func 79) #[] #[]] w fun e w' => e = .returned (.int .i64 (n : Int)) ∧ w = w') (fun w => by have := lRunD_any s hm w; rwa [hn] at this)
  have D := Lib.hid (p := ∀ w, Calls Tryz.prog 77 #[.int .u8 s[n].toNat] w fun e w' => e = .returned (.bool true) ∧ w = w') (fun w => by have := lSmall_any s[n] w; rwa [b2] at this)
  clear b2
  clear hn
  go_enter Tryz.func80, Tryz.ntmps80
  go_wp2_with (first | (go_at_call 104; refine (C.out _).mono ?_; rintro e w' ⟨rfl, rfl⟩) | (go_at_call 77; refine (D.out _).mono ?_; rintro e w' ⟨rfl, rfl⟩))
  refine bodyPost_ret (v := .tuple #[tkV 0 ⟨#[]⟩ 0 0, .int .i64 2]) (by simp [results, Tryz.results80, go_sem]) rfl ⟨rfl, ?_⟩
  exact (Below.refl _ _).alloc (Nat.le_refl _) _

set_option maxHeartbeats 4000000 in
theorem lNumB2 (s : ByteArray) (_h1 : 1 ≤ s.size) (hm : s.size ≤ 281474976710656) (w : World) {n : Nat} (hn : runL digitB s.data.toList = n) (_hle : n ≤ s.size) (a1 : 1 < n) (a2 : ((s[0].toNat : Int) == 48) = false) (b1 : n < s.size) (b2 : smallB s[n] = true) : Calls Tryz.prog 80 #[.string s] w fun e w' => e = .returned (.tuple #[tkV 0 ⟨#[]⟩ 0 0, .int .i64 2]) ∧ Below w.heap.size w w' := by
  have C := Lib.hid (p := ∀ w, Calls Tryz.prog 104 #[.string s, .func (.func 79) #[] #[]] w fun e w' => e = .returned (.int .i64 (n : Int)) ∧ w = w') (fun w => by have := lRunD_any s hm w; rwa [hn] at this)
  have D := Lib.hid (p := ∀ w, Calls Tryz.prog 77 #[.int .u8 s[n].toNat] w fun e w' => e = .returned (.bool true) ∧ w = w') (fun w => by have := lSmall_any s[n] w; rwa [b2] at this)
  clear b2
  clear hn
  go_enter Tryz.func80, Tryz.ntmps80
  go_wp2_with (first | (go_at_call 104; refine (C.out _).mono ?_; rintro e w' ⟨rfl, rfl⟩) | (go_at_call 77; refine (D.out _).mono ?_; rintro e w' ⟨rfl, rfl⟩))
  refine bodyPost_ret (v := .tuple #[tkV 0 ⟨#[]⟩ 0 0, .int .i64 2]) (by simp [results, Tryz.results80, go_sem]) rfl ⟨rfl, ?_⟩
  exact (Below.refl _ _).alloc (Nat.le_refl _) _

set_option maxHeartbeats 4000000 in
theorem lNumC1O (s : ByteArray) (_h1 : 1 ≤ s.size) (hm : s.size ≤ 281474976710656) (w : World) {n : Nat} (hn : runL digitB s.data.toList = n) (_hle : n ≤ s.size) (a1 : ¬ 1 < n) (b1 : n < s.size) (b2 : smallB s[n] = false) {v : Int} (hp : Lib.parseIntB 64 (s.extract 0 n).data.toList = .ok v) : Calls Tryz.prog 80 #[.string s] w fun e w' => e = .returned (.tuple #[tkV 2 (s.extract 0 n) v 0, .int .i64 0]) ∧ Below w.heap.size w w' := by
  have C := Lib.hid (p := ∀ w, Calls Tryz.prog 104 #[.string s, .func (.func 79) #[] #[]] w fun e w' => e = .returned (.int .i64 (n : Int)) ∧ w = w') (fun w => by have := lRunD_any s hm w; rwa [hn] at this)
  have D := Lib.hid (p := ∀ w, Calls Tryz.prog 77 #[.int .u8 s[n].toNat] w fun e w' => e = .returned (.bool false) ∧ w = w') (fun w => by have := lSmall_any s[n] w; rwa [b2] at this)
  clear b2
  have P := Lib.hid (fun w => parse_ok (s.extract 0 n) v (by rw [ByteArray.size_extract]; omega) hp w)
  have T := Lib.hid (fun w => lToken_any 2 (s.extract 0 n) (by rw [ByteArray.size_extract]; omega) w)
  clear hp
  clear hn
  go_enter Tryz.func80, Tryz.ntmps80
  go_wp2_with (first | (go_at_call 104; refine (C.out _).mono ?_; rintro e w' ⟨rfl, rfl⟩) | (go_at_call 77; refine (D.out _).mono ?_; rintro e w' ⟨rfl, rfl⟩))
  refine (P.out _).mono ?_
  rintro e w1 ⟨rfl, hb⟩
  have hB := (hb.block w.heap.size (by simp)).trans (heap_alloc_new w _)
  have B1 := Lib.hid (show Below w.heap.size w w1 from ((Below.refl _ w).alloc (Nat.le_refl _) _).trans (hb.mono (by simp)))
  have c0 := Lib.hid hB
  clear hb
  clear hB
  go_wp2_with fail
  refine (T.out _).mono ?_
  rintro e w2 ⟨rfl, hb⟩
  have hlt := lt_block c0.out
  have hB := (hb.block w.heap.size hlt).trans c0.out
  have B2 := Lib.hid (show Below w.heap.size w w2 from B1.out.trans (hb.mono (by omega)))
  obtain ⟨⟨k0, k1, k2, k3⟩, g0, g1, g2, g3⟩ := four hB
  have c2 := Lib.hid hB
  have hlt2 := lt_block hB
  clear hb hB
  go_wp2_with fail
  obtain ⟨⟨d0, d1, d2, d3⟩, -⟩ := four (four_new c2.out (.int .i64 2) (.string (s.extract 0 n)) (.int .i64 v) (.int .i64 0) (tkO 2 (s.extract 0 n) v 0))
  exact bodyPost_ret (v := .tuple #[tkV 2 (s.extract 0 n) v 0, .int .i64 0]) (by simp [results, Tryz.results80, go_sem, d0, d1, d2, d3]) rfl ⟨rfl, (four_below B2.out (Nat.le_refl _) _ _ _ _).alloc (by have := (four_below B2.out (Nat.le_refl w.heap.size) (.int .i64 2) (.string (s.extract 0 n)) (.int .i64 v) (.int .i64 0)).size; exact this) _⟩

set_option maxHeartbeats 4000000 in
theorem lNumC1F (s : ByteArray) (_h1 : 1 ≤ s.size) (hm : s.size ≤ 281474976710656) (w : World) {n : Nat} (hn : runL digitB s.data.toList = n) (_hle : n ≤ s.size) (a1 : ¬ 1 < n) (b1 : n < s.size) (b2 : smallB s[n] = false) (hw : Laid w) (hp : ∀ v, ¬ Lib.parseIntB 64 (s.extract 0 n).data.toList = .ok v) : Calls Tryz.prog 80 #[.string s] w fun e w' => e = .returned (.tuple #[tkV 0 ⟨#[]⟩ 0 0, .int .i64 1]) ∧ Below w.heap.size w w' := by
  have C := Lib.hid (p := ∀ w, Calls Tryz.prog 104 #[.string s, .func (.func 79) #[] #[]] w fun e w' => e = .returned (.int .i64 (n : Int)) ∧ w = w') (fun w => by have := lRunD_any s hm w; rwa [hn] at this)
  have D := Lib.hid (p := ∀ w, Calls Tryz.prog 77 #[.int .u8 s[n].toNat] w fun e w' => e = .returned (.bool false) ∧ w = w') (fun w => by have := lSmall_any s[n] w; rwa [b2] at this)
  clear b2
  have P := Lib.hid (fun w (hw : Laid w) => parse_fell (s.extract 0 n) (by rw [ByteArray.size_extract]; omega) w hw hp)
  have hw := Lib.hid hw
  clear hp
  clear hn
  go_enter Tryz.func80, Tryz.ntmps80
  go_wp2_with (first | (go_at_call 104; refine (C.out _).mono ?_; rintro e w' ⟨rfl, rfl⟩) | (go_at_call 77; refine (D.out _).mono ?_; rintro e w' ⟨rfl, rfl⟩))
  refine (P.out _ (hw.out.step ((Below.refl _ w).alloc (Nat.le_refl _) _))).mono ?_
  rintro e w1 ⟨⟨nn, tp, pp, rfl⟩, hb⟩
  have hB := (hb.block w.heap.size (by simp)).trans (heap_alloc_new w _)
  have B1 := Lib.hid (show Below w.heap.size w w1 from ((Below.refl _ w).alloc (Nat.le_refl _) _).trans (hb.mono (by simp)))
  have c0 := Lib.hid hB
  clear hb
  obtain ⟨⟨k0, k1, k2, k3⟩, g0, g1, g2, g3⟩ := four hB
  clear hB
  go_wp2_with fail
  obtain ⟨⟨d0, d1, d2, d3⟩, -⟩ := four (four_set c0.out (.int .i64 0) (.string ⟨#[]⟩) (.int .i64 0) (.int .i64 0))
  exact bodyPost_ret (v := .tuple #[tkV 0 ⟨#[]⟩ 0 0, .int .i64 1]) (by simp [results, Tryz.results80, go_sem, d0, d1, d2, d3]) rfl ⟨rfl, four_below B1.out (Nat.le_refl _) _ _ _ _⟩

set_option maxHeartbeats 4000000 in
theorem lNumC2O (s : ByteArray) (_h1 : 1 ≤ s.size) (hm : s.size ≤ 281474976710656) (w : World) {n : Nat} (hn : runL digitB s.data.toList = n) (_hle : n ≤ s.size) (a1 : 1 < n) (a2 : ((s[0].toNat : Int) == 48) = false) (b1 : n < s.size) (b2 : smallB s[n] = false) {v : Int} (hp : Lib.parseIntB 64 (s.extract 0 n).data.toList = .ok v) : Calls Tryz.prog 80 #[.string s] w fun e w' => e = .returned (.tuple #[tkV 2 (s.extract 0 n) v 0, .int .i64 0]) ∧ Below w.heap.size w w' := by
  have C := Lib.hid (p := ∀ w, Calls Tryz.prog 104 #[.string s, .func (.func 79) #[] #[]] w fun e w' => e = .returned (.int .i64 (n : Int)) ∧ w = w') (fun w => by have := lRunD_any s hm w; rwa [hn] at this)
  have D := Lib.hid (p := ∀ w, Calls Tryz.prog 77 #[.int .u8 s[n].toNat] w fun e w' => e = .returned (.bool false) ∧ w = w') (fun w => by have := lSmall_any s[n] w; rwa [b2] at this)
  clear b2
  have P := Lib.hid (fun w => parse_ok (s.extract 0 n) v (by rw [ByteArray.size_extract]; omega) hp w)
  have T := Lib.hid (fun w => lToken_any 2 (s.extract 0 n) (by rw [ByteArray.size_extract]; omega) w)
  clear hp
  clear hn
  go_enter Tryz.func80, Tryz.ntmps80
  go_wp2_with (first | (go_at_call 104; refine (C.out _).mono ?_; rintro e w' ⟨rfl, rfl⟩) | (go_at_call 77; refine (D.out _).mono ?_; rintro e w' ⟨rfl, rfl⟩))
  refine (P.out _).mono ?_
  rintro e w1 ⟨rfl, hb⟩
  have hB := (hb.block w.heap.size (by simp)).trans (heap_alloc_new w _)
  have B1 := Lib.hid (show Below w.heap.size w w1 from ((Below.refl _ w).alloc (Nat.le_refl _) _).trans (hb.mono (by simp)))
  have c0 := Lib.hid hB
  clear hb
  clear hB
  go_wp2_with fail
  refine (T.out _).mono ?_
  rintro e w2 ⟨rfl, hb⟩
  have hlt := lt_block c0.out
  have hB := (hb.block w.heap.size hlt).trans c0.out
  have B2 := Lib.hid (show Below w.heap.size w w2 from B1.out.trans (hb.mono (by omega)))
  obtain ⟨⟨k0, k1, k2, k3⟩, g0, g1, g2, g3⟩ := four hB
  have c2 := Lib.hid hB
  have hlt2 := lt_block hB
  clear hb hB
  go_wp2_with fail
  obtain ⟨⟨d0, d1, d2, d3⟩, -⟩ := four (four_new c2.out (.int .i64 2) (.string (s.extract 0 n)) (.int .i64 v) (.int .i64 0) (tkO 2 (s.extract 0 n) v 0))
  exact bodyPost_ret (v := .tuple #[tkV 2 (s.extract 0 n) v 0, .int .i64 0]) (by simp [results, Tryz.results80, go_sem, d0, d1, d2, d3]) rfl ⟨rfl, (four_below B2.out (Nat.le_refl _) _ _ _ _).alloc (by have := (four_below B2.out (Nat.le_refl w.heap.size) (.int .i64 2) (.string (s.extract 0 n)) (.int .i64 v) (.int .i64 0)).size; exact this) _⟩

set_option maxHeartbeats 4000000 in
theorem lNumC2F (s : ByteArray) (_h1 : 1 ≤ s.size) (hm : s.size ≤ 281474976710656) (w : World) {n : Nat} (hn : runL digitB s.data.toList = n) (_hle : n ≤ s.size) (a1 : 1 < n) (a2 : ((s[0].toNat : Int) == 48) = false) (b1 : n < s.size) (b2 : smallB s[n] = false) (hw : Laid w) (hp : ∀ v, ¬ Lib.parseIntB 64 (s.extract 0 n).data.toList = .ok v) : Calls Tryz.prog 80 #[.string s] w fun e w' => e = .returned (.tuple #[tkV 0 ⟨#[]⟩ 0 0, .int .i64 1]) ∧ Below w.heap.size w w' := by
  have C := Lib.hid (p := ∀ w, Calls Tryz.prog 104 #[.string s, .func (.func 79) #[] #[]] w fun e w' => e = .returned (.int .i64 (n : Int)) ∧ w = w') (fun w => by have := lRunD_any s hm w; rwa [hn] at this)
  have D := Lib.hid (p := ∀ w, Calls Tryz.prog 77 #[.int .u8 s[n].toNat] w fun e w' => e = .returned (.bool false) ∧ w = w') (fun w => by have := lSmall_any s[n] w; rwa [b2] at this)
  clear b2
  have P := Lib.hid (fun w (hw : Laid w) => parse_fell (s.extract 0 n) (by rw [ByteArray.size_extract]; omega) w hw hp)
  have hw := Lib.hid hw
  clear hp
  clear hn
  go_enter Tryz.func80, Tryz.ntmps80
  go_wp2_with (first | (go_at_call 104; refine (C.out _).mono ?_; rintro e w' ⟨rfl, rfl⟩) | (go_at_call 77; refine (D.out _).mono ?_; rintro e w' ⟨rfl, rfl⟩))
  refine (P.out _ (hw.out.step ((Below.refl _ w).alloc (Nat.le_refl _) _))).mono ?_
  rintro e w1 ⟨⟨nn, tp, pp, rfl⟩, hb⟩
  have hB := (hb.block w.heap.size (by simp)).trans (heap_alloc_new w _)
  have B1 := Lib.hid (show Below w.heap.size w w1 from ((Below.refl _ w).alloc (Nat.le_refl _) _).trans (hb.mono (by simp)))
  have c0 := Lib.hid hB
  clear hb
  obtain ⟨⟨k0, k1, k2, k3⟩, g0, g1, g2, g3⟩ := four hB
  clear hB
  go_wp2_with fail
  obtain ⟨⟨d0, d1, d2, d3⟩, -⟩ := four (four_set c0.out (.int .i64 0) (.string ⟨#[]⟩) (.int .i64 0) (.int .i64 0))
  exact bodyPost_ret (v := .tuple #[tkV 0 ⟨#[]⟩ 0 0, .int .i64 1]) (by simp [results, Tryz.results80, go_sem, d0, d1, d2, d3]) rfl ⟨rfl, four_below B1.out (Nat.le_refl _) _ _ _ _⟩

set_option maxHeartbeats 4000000 in
theorem lNumD1O (s : ByteArray) (_h1 : 1 ≤ s.size) (hm : s.size ≤ 281474976710656) (w : World) {n : Nat} (hn : runL digitB s.data.toList = n) (_hle : n ≤ s.size) (a1 : ¬ 1 < n) (b1 : ¬ n < s.size) {v : Int} (hp : Lib.parseIntB 64 (s.extract 0 n).data.toList = .ok v) : Calls Tryz.prog 80 #[.string s] w fun e w' => e = .returned (.tuple #[tkV 2 (s.extract 0 n) v 0, .int .i64 0]) ∧ Below w.heap.size w w' := by
  have C := Lib.hid (p := ∀ w, Calls Tryz.prog 104 #[.string s, .func (.func 79) #[] #[]] w fun e w' => e = .returned (.int .i64 (n : Int)) ∧ w = w') (fun w => by have := lRunD_any s hm w; rwa [hn] at this)
  have P := Lib.hid (fun w => parse_ok (s.extract 0 n) v (by rw [ByteArray.size_extract]; omega) hp w)
  have T := Lib.hid (fun w => lToken_any 2 (s.extract 0 n) (by rw [ByteArray.size_extract]; omega) w)
  clear hp
  clear hn
  go_enter Tryz.func80, Tryz.ntmps80
  go_wp2_with ((go_at_call 104; refine (C.out _).mono ?_; rintro e w' ⟨rfl, rfl⟩))
  refine (P.out _).mono ?_
  rintro e w1 ⟨rfl, hb⟩
  have hB := (hb.block w.heap.size (by simp)).trans (heap_alloc_new w _)
  have B1 := Lib.hid (show Below w.heap.size w w1 from ((Below.refl _ w).alloc (Nat.le_refl _) _).trans (hb.mono (by simp)))
  have c0 := Lib.hid hB
  clear hb
  clear hB
  go_wp2_with fail
  refine (T.out _).mono ?_
  rintro e w2 ⟨rfl, hb⟩
  have hlt := lt_block c0.out
  have hB := (hb.block w.heap.size hlt).trans c0.out
  have B2 := Lib.hid (show Below w.heap.size w w2 from B1.out.trans (hb.mono (by omega)))
  obtain ⟨⟨k0, k1, k2, k3⟩, g0, g1, g2, g3⟩ := four hB
  have c2 := Lib.hid hB
  have hlt2 := lt_block hB
  clear hb hB
  go_wp2_with fail
  obtain ⟨⟨d0, d1, d2, d3⟩, -⟩ := four (four_new c2.out (.int .i64 2) (.string (s.extract 0 n)) (.int .i64 v) (.int .i64 0) (tkO 2 (s.extract 0 n) v 0))
  exact bodyPost_ret (v := .tuple #[tkV 2 (s.extract 0 n) v 0, .int .i64 0]) (by simp [results, Tryz.results80, go_sem, d0, d1, d2, d3]) rfl ⟨rfl, (four_below B2.out (Nat.le_refl _) _ _ _ _).alloc (by have := (four_below B2.out (Nat.le_refl w.heap.size) (.int .i64 2) (.string (s.extract 0 n)) (.int .i64 v) (.int .i64 0)).size; exact this) _⟩

set_option maxHeartbeats 4000000 in
theorem lNumD1F (s : ByteArray) (_h1 : 1 ≤ s.size) (hm : s.size ≤ 281474976710656) (w : World) {n : Nat} (hn : runL digitB s.data.toList = n) (_hle : n ≤ s.size) (a1 : ¬ 1 < n) (b1 : ¬ n < s.size) (hw : Laid w) (hp : ∀ v, ¬ Lib.parseIntB 64 (s.extract 0 n).data.toList = .ok v) : Calls Tryz.prog 80 #[.string s] w fun e w' => e = .returned (.tuple #[tkV 0 ⟨#[]⟩ 0 0, .int .i64 1]) ∧ Below w.heap.size w w' := by
  have C := Lib.hid (p := ∀ w, Calls Tryz.prog 104 #[.string s, .func (.func 79) #[] #[]] w fun e w' => e = .returned (.int .i64 (n : Int)) ∧ w = w') (fun w => by have := lRunD_any s hm w; rwa [hn] at this)
  have P := Lib.hid (fun w (hw : Laid w) => parse_fell (s.extract 0 n) (by rw [ByteArray.size_extract]; omega) w hw hp)
  have hw := Lib.hid hw
  clear hp
  clear hn
  go_enter Tryz.func80, Tryz.ntmps80
  go_wp2_with ((go_at_call 104; refine (C.out _).mono ?_; rintro e w' ⟨rfl, rfl⟩))
  refine (P.out _ (hw.out.step ((Below.refl _ w).alloc (Nat.le_refl _) _))).mono ?_
  rintro e w1 ⟨⟨nn, tp, pp, rfl⟩, hb⟩
  have hB := (hb.block w.heap.size (by simp)).trans (heap_alloc_new w _)
  have B1 := Lib.hid (show Below w.heap.size w w1 from ((Below.refl _ w).alloc (Nat.le_refl _) _).trans (hb.mono (by simp)))
  have c0 := Lib.hid hB
  clear hb
  obtain ⟨⟨k0, k1, k2, k3⟩, g0, g1, g2, g3⟩ := four hB
  clear hB
  go_wp2_with fail
  obtain ⟨⟨d0, d1, d2, d3⟩, -⟩ := four (four_set c0.out (.int .i64 0) (.string ⟨#[]⟩) (.int .i64 0) (.int .i64 0))
  exact bodyPost_ret (v := .tuple #[tkV 0 ⟨#[]⟩ 0 0, .int .i64 1]) (by simp [results, Tryz.results80, go_sem, d0, d1, d2, d3]) rfl ⟨rfl, four_below B1.out (Nat.le_refl _) _ _ _ _⟩

set_option maxHeartbeats 4000000 in
theorem lNumD2O (s : ByteArray) (_h1 : 1 ≤ s.size) (hm : s.size ≤ 281474976710656) (w : World) {n : Nat} (hn : runL digitB s.data.toList = n) (_hle : n ≤ s.size) (a1 : 1 < n) (a2 : ((s[0].toNat : Int) == 48) = false) (b1 : ¬ n < s.size) {v : Int} (hp : Lib.parseIntB 64 (s.extract 0 n).data.toList = .ok v) : Calls Tryz.prog 80 #[.string s] w fun e w' => e = .returned (.tuple #[tkV 2 (s.extract 0 n) v 0, .int .i64 0]) ∧ Below w.heap.size w w' := by
  have C := Lib.hid (p := ∀ w, Calls Tryz.prog 104 #[.string s, .func (.func 79) #[] #[]] w fun e w' => e = .returned (.int .i64 (n : Int)) ∧ w = w') (fun w => by have := lRunD_any s hm w; rwa [hn] at this)
  have P := Lib.hid (fun w => parse_ok (s.extract 0 n) v (by rw [ByteArray.size_extract]; omega) hp w)
  have T := Lib.hid (fun w => lToken_any 2 (s.extract 0 n) (by rw [ByteArray.size_extract]; omega) w)
  clear hp
  clear hn
  go_enter Tryz.func80, Tryz.ntmps80
  go_wp2_with ((go_at_call 104; refine (C.out _).mono ?_; rintro e w' ⟨rfl, rfl⟩))
  refine (P.out _).mono ?_
  rintro e w1 ⟨rfl, hb⟩
  have hB := (hb.block w.heap.size (by simp)).trans (heap_alloc_new w _)
  have B1 := Lib.hid (show Below w.heap.size w w1 from ((Below.refl _ w).alloc (Nat.le_refl _) _).trans (hb.mono (by simp)))
  have c0 := Lib.hid hB
  clear hb
  clear hB
  go_wp2_with fail
  refine (T.out _).mono ?_
  rintro e w2 ⟨rfl, hb⟩
  have hlt := lt_block c0.out
  have hB := (hb.block w.heap.size hlt).trans c0.out
  have B2 := Lib.hid (show Below w.heap.size w w2 from B1.out.trans (hb.mono (by omega)))
  obtain ⟨⟨k0, k1, k2, k3⟩, g0, g1, g2, g3⟩ := four hB
  have c2 := Lib.hid hB
  have hlt2 := lt_block hB
  clear hb hB
  go_wp2_with fail
  obtain ⟨⟨d0, d1, d2, d3⟩, -⟩ := four (four_new c2.out (.int .i64 2) (.string (s.extract 0 n)) (.int .i64 v) (.int .i64 0) (tkO 2 (s.extract 0 n) v 0))
  exact bodyPost_ret (v := .tuple #[tkV 2 (s.extract 0 n) v 0, .int .i64 0]) (by simp [results, Tryz.results80, go_sem, d0, d1, d2, d3]) rfl ⟨rfl, (four_below B2.out (Nat.le_refl _) _ _ _ _).alloc (by have := (four_below B2.out (Nat.le_refl w.heap.size) (.int .i64 2) (.string (s.extract 0 n)) (.int .i64 v) (.int .i64 0)).size; exact this) _⟩

set_option maxHeartbeats 4000000 in
theorem lNumD2F (s : ByteArray) (_h1 : 1 ≤ s.size) (hm : s.size ≤ 281474976710656) (w : World) {n : Nat} (hn : runL digitB s.data.toList = n) (_hle : n ≤ s.size) (a1 : 1 < n) (a2 : ((s[0].toNat : Int) == 48) = false) (b1 : ¬ n < s.size) (hw : Laid w) (hp : ∀ v, ¬ Lib.parseIntB 64 (s.extract 0 n).data.toList = .ok v) : Calls Tryz.prog 80 #[.string s] w fun e w' => e = .returned (.tuple #[tkV 0 ⟨#[]⟩ 0 0, .int .i64 1]) ∧ Below w.heap.size w w' := by
  have C := Lib.hid (p := ∀ w, Calls Tryz.prog 104 #[.string s, .func (.func 79) #[] #[]] w fun e w' => e = .returned (.int .i64 (n : Int)) ∧ w = w') (fun w => by have := lRunD_any s hm w; rwa [hn] at this)
  have P := Lib.hid (fun w (hw : Laid w) => parse_fell (s.extract 0 n) (by rw [ByteArray.size_extract]; omega) w hw hp)
  have hw := Lib.hid hw
  clear hp
  clear hn
  go_enter Tryz.func80, Tryz.ntmps80
  go_wp2_with ((go_at_call 104; refine (C.out _).mono ?_; rintro e w' ⟨rfl, rfl⟩))
  refine (P.out _ (hw.out.step ((Below.refl _ w).alloc (Nat.le_refl _) _))).mono ?_
  rintro e w1 ⟨⟨nn, tp, pp, rfl⟩, hb⟩
  have hB := (hb.block w.heap.size (by simp)).trans (heap_alloc_new w _)
  have B1 := Lib.hid (show Below w.heap.size w w1 from ((Below.refl _ w).alloc (Nat.le_refl _) _).trans (hb.mono (by simp)))
  have c0 := Lib.hid hB
  clear hb
  obtain ⟨⟨k0, k1, k2, k3⟩, g0, g1, g2, g3⟩ := four hB
  clear hB
  go_wp2_with fail
  obtain ⟨⟨d0, d1, d2, d3⟩, -⟩ := four (four_set c0.out (.int .i64 0) (.string ⟨#[]⟩) (.int .i64 0) (.int .i64 0))
  exact bodyPost_ret (v := .tuple #[tkV 0 ⟨#[]⟩ 0 0, .int .i64 1]) (by simp [results, Tryz.results80, go_sem, d0, d1, d2, d3]) rfl ⟨rfl, four_below B1.out (Nat.le_refl _) _ _ _ _⟩

theorem retF_tok (s : ByteArray) (k : Int) (n : Nat) (v : Int) : retF s.data.toList (.tok k n v) = .tuple #[tkV k (s.extract 0 n) v 0, .int .i64 0] := by
  rw [front_eq]
  rfl

theorem head_eq {s : ByteArray} (h1 : 1 ≤ s.size) : s.data.toList.head? = some s[0] := by
  rw [List.head?_eq_getElem?]
  exact List.getElem?_eq_getElem (by simp; omega)

theorem digits_run {s : ByteArray} {n : Nat} (hn : runL digitB s.data.toList = n) : ∀ c ∈ (s.extract 0 n).data.toList, isD c := by
  intro c hc
  rw [list_front, ← hn, take_run] at hc
  have := List.all_takeWhile (p := digitB) (l := s.data.toList)
  exact (digit_iff c).1 (List.all_eq_true.1 this c hc)

theorem lNum_any (s : ByteArray) (h1 : 1 ≤ s.size) (hd : digitB s[0] = true) (hm : s.size ≤ 281474976710656) (w : World) (hw : Laid w) : Calls Tryz.prog 80 #[.string s] w fun e w' => e = .returned (retF s.data.toList (numF s.data.toList)) ∧ Below w.heap.size w w' := by
  obtain ⟨n, hn⟩ : ∃ n, runL digitB s.data.toList = n := ⟨_, rfl⟩
  have hl : s.data.toList.length = s.size := by simp
  have hle : n ≤ s.size := by rw [← hn]; have := run_le digitB s.data.toList; omega
  have hhead := head_eq h1
  have hn1 : 1 ≤ n := by
    rw [← hn]
    cases e : s.data.toList with
    | nil => rw [e] at hl; simp at hl; omega
    | cons c r =>
      rw [e] at hhead
      obtain h' : c = s[0] := by simpa using hhead
      exact run_pos (by rw [h']; exact hd)
  have hdrop : (s.data.toList.drop n).head? = if h : n < s.size then some s[n] else none := by
    rw [List.head?_drop]
    by_cases h : n < s.size
    · rw [dif_pos h]; exact List.getElem?_eq_getElem (by omega)
    · rw [dif_neg h]; exact List.getElem?_eq_none (by omega)
  have D := digits_run hn
  have fr := list_front s n
  unfold numF
  rw [hn, hhead, hdrop]
  by_cases A : 1 < n ∧ s[0] = 48
  · rw [if_pos (.inl ⟨A.1, by rw [A.2]⟩)]
    exact lNumA s h1 hm w hn hle A.1 (by rw [A.2]; decide)
  · have a3 : 1 < n → ((s[0].toNat : Int) == 48) = false := fun h => by
      rw [beq_eq_false_iff_ne]; intro e
      exact A ⟨h, UInt8.toNat_inj.1 (by have : s[0].toNat = 48 := by omega
                                        rw [this]; rfl)⟩
    by_cases b1 : n < s.size
    · cases b2 : smallB s[n] with
      | true =>
        rw [if_pos (.inr ⟨s[n], by rw [dif_pos b1], b2⟩)]
        by_cases a1 : 1 < n
        · exact lNumB2 s h1 hm w hn hle a1 (a3 a1) b1 b2
        · exact lNumB1 s h1 hm w hn hle a1 b1 b2
      | false =>
        rw [if_neg (by
          rintro (⟨x, y⟩ | ⟨d, x, y⟩)
          · exact A ⟨x, by simpa using y⟩
          · rw [dif_pos b1] at x
            cases x
            rw [b2] at y; cases y)]
        rw [← fr]
        by_cases hv : 9223372036854775807 < valD (s.extract 0 n).data.toList
        · rw [if_pos hv]
          by_cases a1 : 1 < n
          · exact lNumC2F s h1 hm w hn hle a1 (a3 a1) b1 b2 hw (parse_over D hv)
          · exact lNumC1F s h1 hm w hn hle a1 b1 b2 hw (parse_over D hv)
        · rw [if_neg hv]
          have hp := parse_digits (d := (s.extract 0 n).data.toList) (by
            intro e
            have := congrArg List.length e
            rw [fr, List.length_take, List.length_nil] at this
            omega) D (by
            intro r hr
            rw [fr] at hr
            have e0 : (s.data.toList.take n).head? = some s[0] := by rw [List.head?_take, if_neg (by omega)]; exact hhead
            rw [hr] at e0
            have e48 : s[0] = 48 := by simpa using e0.symm
            have hn2 : n = 1 := by
              rcases Nat.lt_or_ge 1 n with h | h
              · exact absurd ⟨h, e48⟩ A
              · omega
            have := congrArg List.length hr
            rw [List.length_take, List.length_cons] at this
            exact List.length_eq_zero_iff.1 (by omega)) (by omega)
          rw [retF_tok]
          by_cases a1 : 1 < n
          · exact lNumC2O s h1 hm w hn hle a1 (a3 a1) b1 b2 hp
          · exact lNumC1O s h1 hm w hn hle a1 b1 b2 hp
    · rw [if_neg (by
          rintro (⟨x, y⟩ | ⟨d, x, y⟩)
          · exact A ⟨x, by simpa using y⟩
          · rw [dif_neg b1] at x
            cases x)]
      rw [← fr]
      by_cases hv : 9223372036854775807 < valD (s.extract 0 n).data.toList
      · rw [if_pos hv]
        by_cases a1 : 1 < n
        · exact lNumD2F s h1 hm w hn hle a1 (a3 a1) b1 hw (parse_over D hv)
        · exact lNumD1F s h1 hm w hn hle a1 b1 hw (parse_over D hv)
      · rw [if_neg hv]
        have hp := parse_digits (d := (s.extract 0 n).data.toList) (by
          intro e
          have := congrArg List.length e
          rw [fr, List.length_take, List.length_nil] at this
          omega) D (by
          intro r hr
          rw [fr] at hr
          have e0 : (s.data.toList.take n).head? = some s[0] := by rw [List.head?_take, if_neg (by omega)]; exact hhead
          rw [hr] at e0
          have e48 : s[0] = 48 := by simpa using e0.symm
          have hn2 : n = 1 := by
            rcases Nat.lt_or_ge 1 n with h | h
            · exact absurd ⟨h, e48⟩ A
            · omega
          have := congrArg List.length hr
          rw [List.length_take, List.length_cons] at this
          exact List.length_eq_zero_iff.1 (by omega)) (by omega)
        rw [retF_tok]
        by_cases a1 : 1 < n
        · exact lNumD2O s h1 hm w hn hle a1 (a3 a1) b1 hp
        · exact lNumD1O s h1 hm w hn hle a1 b1 hp

theorem ret_block {f : Fst} {l : List UInt8} : ∃ k s n p e, retF l f = .tuple #[tkV k s n p, .int .i64 e] := by
  cases f with
  | bad e => exact ⟨_, _, _, _, _, rfl⟩
  | tok k n v => exact ⟨_, _, _, _, _, rfl⟩

set_option maxHeartbeats 4000000 in
theorem lFirst_any (s : ByteArray) (h1 : 1 ≤ s.size) (hm : s.size ≤ 281474976710656) (w : World) (hw : Laid w) : Calls Tryz.prog 54 #[.string s] w fun e w' => e = .returned (retF s.data.toList (firstF s.data.toList)) ∧ Below w.heap.size w w' := by
  have hF : firstF s.data.toList = if smallB s[0] then nameF s.data.toList else if digitB s[0] then numF s.data.toList else signF s.data.toList := by
    have hl : s.data.toList.length = s.size := by simp
    have hh := head_eq h1
    cases e : s.data.toList with
    | nil => rw [e] at hl; simp at hl; omega
    | cons c r =>
      rw [e] at hh
      have : c = s[0] := by simpa using hh
      rw [← this]; rfl
  rw [hF]
  cases hs : smallB s[0] with
  | true =>
    rw [if_pos rfl]
    have C := Lib.hid (p := ∀ w, Calls Tryz.prog 77 #[.int .u8 s[0].toNat] w fun e w' => e = .returned (.bool true) ∧ w = w') (fun w => by have := lSmall_any s[0] w; rwa [hs] at this)
    obtain ⟨k, t, n, p, er, hr⟩ := ret_block (f := nameF s.data.toList) (l := s.data.toList)
    have T := Lib.hid (fun w => lName_any s hm w)
    rw [hr] at T ⊢
    clear hs hF hr
    go_enter Tryz.func54, Tryz.ntmps54
    go_wp2_with (go_at_call 77; refine (C.out _).mono ?_; rintro e w' ⟨rfl, rfl⟩)
    refine (T.out _).mono ?_
    rintro e w1 ⟨rfl, hb⟩
    have hB := (hb.block w.heap.size (by simp)).trans (heap_alloc_new w _)
    have B1 := Lib.hid (show Below w.heap.size w w1 from ((Below.refl _ w).alloc (Nat.le_refl _) _).trans (hb.mono (by simp)))
    obtain ⟨⟨k0, k1, k2, k3⟩, g0, g1, g2, g3⟩ := four hB
    have c0 := Lib.hid hB
    clear hb hB
    go_wp2_with fail
    obtain ⟨⟨d0, d1, d2, d3⟩, -⟩ := four (four_set c0.out (.int .i64 k) (.string t) (.int .i64 n) (.int .i64 p))
    exact bodyPost_ret (v := .tuple #[tkV k t n p, .int .i64 er]) (by simp [results, Tryz.results54, go_sem, d0, d1, d2, d3]) rfl ⟨rfl, four_below B1.out (Nat.le_refl _) _ _ _ _⟩
  | false =>
    rw [if_neg (by decide)]
    have C := Lib.hid (p := ∀ w, Calls Tryz.prog 77 #[.int .u8 s[0].toNat] w fun e w' => e = .returned (.bool false) ∧ w = w') (fun w => by have := lSmall_any s[0] w; rwa [hs] at this)
    cases hd : digitB s[0] with
    | true =>
      rw [if_pos rfl]
      have D := Lib.hid (p := ∀ w, Calls Tryz.prog 79 #[.int .u8 s[0].toNat] w fun e w' => e = .returned (.bool true) ∧ w = w') (fun w => by have := lDigit_any s[0] w; rwa [hd] at this)
      obtain ⟨k, t, n, p, er, hr⟩ := ret_block (f := numF s.data.toList) (l := s.data.toList)
      have T := Lib.hid (fun w (hw : Laid w) => lNum_any s h1 hd hm w hw)
      have hw := Lib.hid hw
      rw [hr] at T ⊢
      clear hs hF hr hd
      go_enter Tryz.func54, Tryz.ntmps54
      go_wp2_with (first | (go_at_call 77; refine (C.out _).mono ?_; rintro e w' ⟨rfl, rfl⟩) | (go_at_call 79; refine (D.out _).mono ?_; rintro e w' ⟨rfl, rfl⟩))
      refine (T.out _ (hw.out.step ((Below.refl _ w).alloc (Nat.le_refl _) _))).mono ?_
      rintro e w1 ⟨rfl, hb⟩
      have hB := (hb.block w.heap.size (by simp)).trans (heap_alloc_new w _)
      have B1 := Lib.hid (show Below w.heap.size w w1 from ((Below.refl _ w).alloc (Nat.le_refl _) _).trans (hb.mono (by simp)))
      obtain ⟨⟨k0, k1, k2, k3⟩, g0, g1, g2, g3⟩ := four hB
      have c0 := Lib.hid hB
      clear hb hB
      go_wp2_with fail
      obtain ⟨⟨d0, d1, d2, d3⟩, -⟩ := four (four_set c0.out (.int .i64 k) (.string t) (.int .i64 n) (.int .i64 p))
      exact bodyPost_ret (v := .tuple #[tkV k t n p, .int .i64 er]) (by simp [results, Tryz.results54, go_sem, d0, d1, d2, d3]) rfl ⟨rfl, four_below B1.out (Nat.le_refl _) _ _ _ _⟩
    | false =>
      rw [if_neg (by decide)]
      have D := Lib.hid (p := ∀ w, Calls Tryz.prog 79 #[.int .u8 s[0].toNat] w fun e w' => e = .returned (.bool false) ∧ w = w') (fun w => by have := lDigit_any s[0] w; rwa [hd] at this)
      obtain ⟨k, t, n, p, er, hr⟩ := ret_block (f := signF s.data.toList) (l := s.data.toList)
      have T := Lib.hid (fun w => lSignF_any s h1 hm w)
      rw [hr] at T ⊢
      clear hs hF hr hd
      go_enter Tryz.func54, Tryz.ntmps54
      go_wp2_with (first | (go_at_call 77; refine (C.out _).mono ?_; rintro e w' ⟨rfl, rfl⟩) | (go_at_call 79; refine (D.out _).mono ?_; rintro e w' ⟨rfl, rfl⟩))
      refine (T.out _).mono ?_
      rintro e w1 ⟨rfl, hb⟩
      have hB := (hb.block w.heap.size (by simp)).trans (heap_alloc_new w _)
      have B1 := Lib.hid (show Below w.heap.size w w1 from ((Below.refl _ w).alloc (Nat.le_refl _) _).trans (hb.mono (by simp)))
      obtain ⟨⟨k0, k1, k2, k3⟩, g0, g1, g2, g3⟩ := four hB
      have c0 := Lib.hid hB
      clear hb hB
      go_wp2_with fail
      obtain ⟨⟨d0, d1, d2, d3⟩, -⟩ := four (four_set c0.out (.int .i64 k) (.string t) (.int .i64 n) (.int .i64 p))
      exact bodyPost_ret (v := .tuple #[tkV k t n p, .int .i64 er]) (by simp [results, Tryz.results54, go_sem, d0, d1, d2, d3]) rfl ⟨rfl, four_below B1.out (Nat.le_refl _) _ _ _ _⟩

end Go.Proofs.YteegdemnajhehaaGreatDoor
