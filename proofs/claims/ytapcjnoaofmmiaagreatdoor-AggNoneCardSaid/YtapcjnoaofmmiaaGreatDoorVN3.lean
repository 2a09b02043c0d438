/-
 No statement: what AggNoneCard needs, of the texts OE2.
-/
import Derived.Test.YtapcjnoaofmmiaaGreatDoorVN2
namespace Go.Proofs.YtapcjnoaofmmiaaGreatDoor
section
section
open Go.RowKit
set_option maxHeartbeats 4000000 in
theorem I2 (s : ByteArray) (_h1 : 1 <= s.size) (hm : s.size <= 281474976710656) (w : World) {n : Nat} (hn : cC aY s.data.toList = n) (_hle : n <= s.size) (a1 : 1 < n) (a2 : ((s[0].toNat : Int) == 48) = true) : Calls Tryz.prog 130 #[.string s] w fun e w' => e = .returned (.tuple #[tkV 0 ⟨#[]⟩ 0 0, .int .i64 2]) /\ Below w.heap.size w w' := by
 have C := aA (p := ∀ w, Calls Tryz.prog 160 #[.string s, .func (.func 129) #[] #[]] w fun e w' => e = .returned (.int .i64 (n : Int)) /\ w = w') (fun w => by have := dN s hm w; rwa [hn] at this);clear hn
 go_enter Tryz.func130, Tryz.ntmps130
 go_wp2_with ((go_at_call 160; refine (C.out _).mono ?_; rintro e w' ⟨rfl, rfl⟩))
 refine bodyPost_ret (v := .tuple #[tkV 0 ⟨#[]⟩ 0 0, .int .i64 2]) (by simp [results, Tryz.results130, go_sem]) rfl ⟨rfl, ?_⟩;exact (Below.refl _ _).alloc (Nat.le_refl _) _
set_option maxHeartbeats 4000000 in
theorem Iy (s : ByteArray) (_h1 : 1 <= s.size) (hm : s.size <= 281474976710656) (w : World) {n : Nat} (hn : cC aY s.data.toList = n) (_hle : n <= s.size) (a1 : ¬ 1 < n) (b1 : n < s.size) (b2 : cH s[n] = true) : Calls Tryz.prog 130 #[.string s] w fun e w' => e = .returned (.tuple #[tkV 0 ⟨#[]⟩ 0 0, .int .i64 2]) /\ Below w.heap.size w w' := by
 have C := aA (p := ∀ w, Calls Tryz.prog 160 #[.string s, .func (.func 129) #[] #[]] w fun e w' => e = .returned (.int .i64 (n : Int)) /\ w = w') (fun w => by have := dN s hm w; rwa [hn] at this);have D := aA (p := ∀ w, Calls Tryz.prog 127 #[.int .u8 s[n].toNat] w fun e w' => e = .returned (.bool true) /\ w = w') (fun w => by have := dI s[n] w; rwa [b2] at this);clear b2;clear hn
 go_enter Tryz.func130, Tryz.ntmps130
 go_wp2_with (first | (go_at_call 160; refine (C.out _).mono ?_; rintro e w' ⟨rfl, rfl⟩) | (go_at_call 127; refine (D.out _).mono ?_; rintro e w' ⟨rfl, rfl⟩))
 refine bodyPost_ret (v := .tuple #[tkV 0 ⟨#[]⟩ 0 0, .int .i64 2]) (by simp [results, Tryz.results130, go_sem]) rfl ⟨rfl, ?_⟩;exact (Below.refl _ _).alloc (Nat.le_refl _) _
set_option maxHeartbeats 4000000 in
theorem Ix (s : ByteArray) (_h1 : 1 <= s.size) (hm : s.size <= 281474976710656) (w : World) {n : Nat} (hn : cC aY s.data.toList = n) (_hle : n <= s.size) (a1 : 1 < n) (a2 : ((s[0].toNat : Int) == 48) = false) (b1 : n < s.size) (b2 : cH s[n] = true) : Calls Tryz.prog 130 #[.string s] w fun e w' => e = .returned (.tuple #[tkV 0 ⟨#[]⟩ 0 0, .int .i64 2]) /\ Below w.heap.size w w' := by
 have C := aA (p := ∀ w, Calls Tryz.prog 160 #[.string s, .func (.func 129) #[] #[]] w fun e w' => e = .returned (.int .i64 (n : Int)) /\ w = w') (fun w => by have := dN s hm w; rwa [hn] at this);have D := aA (p := ∀ w, Calls Tryz.prog 127 #[.int .u8 s[n].toNat] w fun e w' => e = .returned (.bool true) /\ w = w') (fun w => by have := dI s[n] w; rwa [b2] at this);clear b2;clear hn
 go_enter Tryz.func130, Tryz.ntmps130
 go_wp2_with (first | (go_at_call 160; refine (C.out _).mono ?_; rintro e w' ⟨rfl, rfl⟩) | (go_at_call 127; refine (D.out _).mono ?_; rintro e w' ⟨rfl, rfl⟩))
 refine bodyPost_ret (v := .tuple #[tkV 0 ⟨#[]⟩ 0 0, .int .i64 2]) (by simp [results, Tryz.results130, go_sem]) rfl ⟨rfl, ?_⟩;exact (Below.refl _ _).alloc (Nat.le_refl _) _
set_option maxHeartbeats 4000000 in
theorem GX (s : ByteArray) (_h1 : 1 <= s.size) (hm : s.size <= 281474976710656) (w : World) {n : Nat} (hn : cC aY s.data.toList = n) (_hle : n <= s.size) (a1 : ¬ 1 < n) (b1 : n < s.size) (b2 : cH s[n] = false) {v : Int} (hp : Lib.parseIntB 64 (s.extract 0 n).data.toList = .ok v) : Calls Tryz.prog 130 #[.string s] w fun e w' => e = .returned (.tuple #[tkV 2 (s.extract 0 n) v 0, .int .i64 0]) /\ Below w.heap.size w w' := by
 have C := aA (p := ∀ w, Calls Tryz.prog 160 #[.string s, .func (.func 129) #[] #[]] w fun e w' => e = .returned (.int .i64 (n : Int)) /\ w = w') (fun w => by have := dN s hm w; rwa [hn] at this);have D := aA (p := ∀ w, Calls Tryz.prog 127 #[.int .u8 s[n].toNat] w fun e w' => e = .returned (.bool false) /\ w = w') (fun w => by have := dI s[n] w; rwa [b2] at this);clear b2;have P := aA (fun w => nW (s.extract 0 n) v (by rw [ByteArray.size_extract]; omega) hp w);have T := aA (fun w => fS 2 (s.extract 0 n) (by rw [ByteArray.size_extract]; omega) w);clear hp;clear hn
 go_enter Tryz.func130, Tryz.ntmps130
 go_wp2_with (first | (go_at_call 160; refine (C.out _).mono ?_; rintro e w' ⟨rfl, rfl⟩) | (go_at_call 127; refine (D.out _).mono ?_; rintro e w' ⟨rfl, rfl⟩))
 refine (P.out _).mono ?_;rintro e w1 ⟨rfl, hb⟩;have hB := (hb.block w.heap.size (by simp)).trans (heap_alloc_new w _);have B1 := aA (show Below w.heap.size w w1 from ((Below.refl _ w).alloc (Nat.le_refl _) _).trans (hb.mono (by simp)));have c0 := aA hB;clear hb;clear hB
 go_wp2_with fail
 refine (T.out _).mono ?_;rintro e w2 ⟨rfl, hb⟩;have hlt := aC c0.out;have hB := (hb.block w.heap.size hlt).trans c0.out;have B2 := aA (show Below w.heap.size w w2 from B1.out.trans (hb.mono (by omega)));obtain ⟨⟨k0, k1, k2, k3⟩, g0, g1, g2, g3⟩ := aK hB;have c2 := aA hB;have hlt2 := aC hB;clear hb hB
 go_wp2_with fail
 obtain ⟨⟨d0, d1, d2, d3⟩, -⟩ := aK (oF c2.out (.int .i64 2) (.string (s.extract 0 n)) (.int .i64 v) (.int .i64 0) (tkO 2 (s.extract 0 n) v 0));exact bodyPost_ret (v := .tuple #[tkV 2 (s.extract 0 n) v 0, .int .i64 0]) (by simp [results, Tryz.results130, go_sem, d0, d1, d2, d3]) rfl ⟨rfl, (bM B2.out (Nat.le_refl _) _ _ _ _).alloc (by have := (bM B2.out (Nat.le_refl w.heap.size) (.int .i64 2) (.string (s.extract 0 n)) (.int .i64 v) (.int .i64 0)).size; exact this) _⟩
set_option maxHeartbeats 4000000 in
theorem GY (s : ByteArray) (_h1 : 1 <= s.size) (hm : s.size <= 281474976710656) (w : World) {n : Nat} (hn : cC aY s.data.toList = n) (_hle : n <= s.size) (a1 : ¬ 1 < n) (b1 : n < s.size) (b2 : cH s[n] = false) (hw : gI w) (hp : ∀ v, ¬ Lib.parseIntB 64 (s.extract 0 n).data.toList = .ok v) : Calls Tryz.prog 130 #[.string s] w fun e w' => e = .returned (.tuple #[tkV 0 ⟨#[]⟩ 0 0, .int .i64 1]) /\ Below w.heap.size w w' := by
 have C := aA (p := ∀ w, Calls Tryz.prog 160 #[.string s, .func (.func 129) #[] #[]] w fun e w' => e = .returned (.int .i64 (n : Int)) /\ w = w') (fun w => by have := dN s hm w; rwa [hn] at this);have D := aA (p := ∀ w, Calls Tryz.prog 127 #[.int .u8 s[n].toNat] w fun e w' => e = .returned (.bool false) /\ w = w') (fun w => by have := dI s[n] w; rwa [b2] at this);clear b2;have P := aA (fun w (hw : gI w) => kJ (s.extract 0 n) (by rw [ByteArray.size_extract]; omega) w hw hp);have hw := aA hw;clear hp;clear hn
 go_enter Tryz.func130, Tryz.ntmps130
 go_wp2_with (first | (go_at_call 160; refine (C.out _).mono ?_; rintro e w' ⟨rfl, rfl⟩) | (go_at_call 127; refine (D.out _).mono ?_; rintro e w' ⟨rfl, rfl⟩))
 refine (P.out _ (hw.out.step ((Below.refl _ w).alloc (Nat.le_refl _) _))).mono ?_;rintro e w1 ⟨⟨nn, tp, pp, rfl⟩, hb⟩;have hB := (hb.block w.heap.size (by simp)).trans (heap_alloc_new w _);have B1 := aA (show Below w.heap.size w w1 from ((Below.refl _ w).alloc (Nat.le_refl _) _).trans (hb.mono (by simp)));have c0 := aA hB;clear hb;obtain ⟨⟨k0, k1, k2, k3⟩, g0, g1, g2, g3⟩ := aK hB;clear hB
 go_wp2_with fail
 obtain ⟨⟨d0, d1, d2, d3⟩, -⟩ := aK (aQ c0.out (.int .i64 0) (.string ⟨#[]⟩) (.int .i64 0) (.int .i64 0));exact bodyPost_ret (v := .tuple #[tkV 0 ⟨#[]⟩ 0 0, .int .i64 1]) (by simp [results, Tryz.results130, go_sem, d0, d1, d2, d3]) rfl ⟨rfl, bM B1.out (Nat.le_refl _) _ _ _ _⟩
set_option maxHeartbeats 4000000 in
theorem GV (s : ByteArray) (_h1 : 1 <= s.size) (hm : s.size <= 281474976710656) (w : World) {n : Nat} (hn : cC aY s.data.toList = n) (_hle : n <= s.size) (a1 : 1 < n) (a2 : ((s[0].toNat : Int) == 48) = false) (b1 : n < s.size) (b2 : cH s[n] = false) {v : Int} (hp : Lib.parseIntB 64 (s.extract 0 n).data.toList = .ok v) : Calls Tryz.prog 130 #[.string s] w fun e w' => e = .returned (.tuple #[tkV 2 (s.extract 0 n) v 0, .int .i64 0]) /\ Below w.heap.size w w' := by
 have C := aA (p := ∀ w, Calls Tryz.prog 160 #[.string s, .func (.func 129) #[] #[]] w fun e w' => e = .returned (.int .i64 (n : Int)) /\ w = w') (fun w => by have := dN s hm w; rwa [hn] at this);have D := aA (p := ∀ w, Calls Tryz.prog 127 #[.int .u8 s[n].toNat] w fun e w' => e = .returned (.bool false) /\ w = w') (fun w => by have := dI s[n] w; rwa [b2] at this);clear b2;have P := aA (fun w => nW (s.extract 0 n) v (by rw [ByteArray.size_extract]; omega) hp w);have T := aA (fun w => fS 2 (s.extract 0 n) (by rw [ByteArray.size_extract]; omega) w);clear hp;clear hn
 go_enter Tryz.func130, Tryz.ntmps130
 go_wp2_with (first | (go_at_call 160; refine (C.out _).mono ?_; rintro e w' ⟨rfl, rfl⟩) | (go_at_call 127; refine (D.out _).mono ?_; rintro e w' ⟨rfl, rfl⟩))
 refine (P.out _).mono ?_;rintro e w1 ⟨rfl, hb⟩;have hB := (hb.block w.heap.size (by simp)).trans (heap_alloc_new w _);have B1 := aA (show Below w.heap.size w w1 from ((Below.refl _ w).alloc (Nat.le_refl _) _).trans (hb.mono (by simp)));have c0 := aA hB;clear hb;clear hB
 go_wp2_with fail
 refine (T.out _).mono ?_;rintro e w2 ⟨rfl, hb⟩;have hlt := aC c0.out;have hB := (hb.block w.heap.size hlt).trans c0.out;have B2 := aA (show Below w.heap.size w w2 from B1.out.trans (hb.mono (by omega)));obtain ⟨⟨k0, k1, k2, k3⟩, g0, g1, g2, g3⟩ := aK hB;have c2 := aA hB;have hlt2 := aC hB;clear hb hB
 go_wp2_with fail
 obtain ⟨⟨d0, d1, d2, d3⟩, -⟩ := aK (oF c2.out (.int .i64 2) (.string (s.extract 0 n)) (.int .i64 v) (.int .i64 0) (tkO 2 (s.extract 0 n) v 0));exact bodyPost_ret (v := .tuple #[tkV 2 (s.extract 0 n) v 0, .int .i64 0]) (by simp [results, Tryz.results130, go_sem, d0, d1, d2, d3]) rfl ⟨rfl, (bM B2.out (Nat.le_refl _) _ _ _ _).alloc (by have := (bM B2.out (Nat.le_refl w.heap.size) (.int .i64 2) (.string (s.extract 0 n)) (.int .i64 v) (.int .i64 0)).size; exact this) _⟩
set_option maxHeartbeats 4000000 in
theorem GW (s : ByteArray) (_h1 : 1 <= s.size) (hm : s.size <= 281474976710656) (w : World) {n : Nat} (hn : cC aY s.data.toList = n) (_hle : n <= s.size) (a1 : 1 < n) (a2 : ((s[0].toNat : Int) == 48) = false) (b1 : n < s.size) (b2 : cH s[n] = false) (hw : gI w) (hp : ∀ v, ¬ Lib.parseIntB 64 (s.extract 0 n).data.toList = .ok v) : Calls Tryz.prog 130 #[.string s] w fun e w' => e = .returned (.tuple #[tkV 0 ⟨#[]⟩ 0 0, .int .i64 1]) /\ Below w.heap.size w w' := by
 have C := aA (p := ∀ w, Calls Tryz.prog 160 #[.string s, .func (.func 129) #[] #[]] w fun e w' => e = .returned (.int .i64 (n : Int)) /\ w = w') (fun w => by have := dN s hm w; rwa [hn] at this);have D := aA (p := ∀ w, Calls Tryz.prog 127 #[.int .u8 s[n].toNat] w fun e w' => e = .returned (.bool false) /\ w = w') (fun w => by have := dI s[n] w; rwa [b2] at this);clear b2;have P := aA (fun w (hw : gI w) => kJ (s.extract 0 n) (by rw [ByteArray.size_extract]; omega) w hw hp);have hw := aA hw;clear hp;clear hn
 go_enter Tryz.func130, Tryz.ntmps130
 go_wp2_with (first | (go_at_call 160; refine (C.out _).mono ?_; rintro e w' ⟨rfl, rfl⟩) | (go_at_call 127; refine (D.out _).mono ?_; rintro e w' ⟨rfl, rfl⟩))
 refine (P.out _ (hw.out.step ((Below.refl _ w).alloc (Nat.le_refl _) _))).mono ?_;rintro e w1 ⟨⟨nn, tp, pp, rfl⟩, hb⟩;have hB := (hb.block w.heap.size (by simp)).trans (heap_alloc_new w _);have B1 := aA (show Below w.heap.size w w1 from ((Below.refl _ w).alloc (Nat.le_refl _) _).trans (hb.mono (by simp)));have c0 := aA hB;clear hb;obtain ⟨⟨k0, k1, k2, k3⟩, g0, g1, g2, g3⟩ := aK hB;clear hB
 go_wp2_with fail
 obtain ⟨⟨d0, d1, d2, d3⟩, -⟩ := aK (aQ c0.out (.int .i64 0) (.string ⟨#[]⟩) (.int .i64 0) (.int .i64 0));exact bodyPost_ret (v := .tuple #[tkV 0 ⟨#[]⟩ 0 0, .int .i64 1]) (by simp [results, Tryz.results130, go_sem, d0, d1, d2, d3]) rfl ⟨rfl, bM B1.out (Nat.le_refl _) _ _ _ _⟩
set_option maxHeartbeats 4000000 in
theorem GT (s : ByteArray) (_h1 : 1 <= s.size) (hm : s.size <= 281474976710656) (w : World) {n : Nat} (hn : cC aY s.data.toList = n) (_hle : n <= s.size) (a1 : ¬ 1 < n) (b1 : ¬ n < s.size) {v : Int} (hp : Lib.parseIntB 64 (s.extract 0 n).data.toList = .ok v) : Calls Tryz.prog 130 #[.string s] w fun e w' => e = .returned (.tuple #[tkV 2 (s.extract 0 n) v 0, .int .i64 0]) /\ Below w.heap.size w w' := by
 have C := aA (p := ∀ w, Calls Tryz.prog 160 #[.string s, .func (.func 129) #[] #[]] w fun e w' => e = .returned (.int .i64 (n : Int)) /\ w = w') (fun w => by have := dN s hm w; rwa [hn] at this);have P := aA (fun w => nW (s.extract 0 n) v (by rw [ByteArray.size_extract]; omega) hp w);have T := aA (fun w => fS 2 (s.extract 0 n) (by rw [ByteArray.size_extract]; omega) w);clear hp;clear hn
 go_enter Tryz.func130, Tryz.ntmps130
 go_wp2_with ((go_at_call 160; refine (C.out _).mono ?_; rintro e w' ⟨rfl, rfl⟩))
 refine (P.out _).mono ?_;rintro e w1 ⟨rfl, hb⟩;have hB := (hb.block w.heap.size (by simp)).trans (heap_alloc_new w _);have B1 := aA (show Below w.heap.size w w1 from ((Below.refl _ w).alloc (Nat.le_refl _) _).trans (hb.mono (by simp)));have c0 := aA hB;clear hb;clear hB
 go_wp2_with fail
 refine (T.out _).mono ?_;rintro e w2 ⟨rfl, hb⟩;have hlt := aC c0.out;have hB := (hb.block w.heap.size hlt).trans c0.out;have B2 := aA (show Below w.heap.size w w2 from B1.out.trans (hb.mono (by omega)));obtain ⟨⟨k0, k1, k2, k3⟩, g0, g1, g2, g3⟩ := aK hB;have c2 := aA hB;have hlt2 := aC hB;clear hb hB
 go_wp2_with fail
 obtain ⟨⟨d0, d1, d2, d3⟩, -⟩ := aK (oF c2.out (.int .i64 2) (.string (s.extract 0 n)) (.int .i64 v) (.int .i64 0) (tkO 2 (s.extract 0 n) v 0));exact bodyPost_ret (v := .tuple #[tkV 2 (s.extract 0 n) v 0, .int .i64 0]) (by simp [results, Tryz.results130, go_sem, d0, d1, d2, d3]) rfl ⟨rfl, (bM B2.out (Nat.le_refl _) _ _ _ _).alloc (by have := (bM B2.out (Nat.le_refl w.heap.size) (.int .i64 2) (.string (s.extract 0 n)) (.int .i64 v) (.int .i64 0)).size; exact this) _⟩
set_option maxHeartbeats 4000000 in
theorem GU (s : ByteArray) (_h1 : 1 <= s.size) (hm : s.size <= 281474976710656) (w : World) {n : Nat} (hn : cC aY s.data.toList = n) (_hle : n <= s.size) (a1 : ¬ 1 < n) (b1 : ¬ n < s.size) (hw : gI w) (hp : ∀ v, ¬ Lib.parseIntB 64 (s.extract 0 n).data.toList = .ok v) : Calls Tryz.prog 130 #[.string s] w fun e w' => e = .returned (.tuple #[tkV 0 ⟨#[]⟩ 0 0, .int .i64 1]) /\ Below w.heap.size w w' := by
 have C := aA (p := ∀ w, Calls Tryz.prog 160 #[.string s, .func (.func 129) #[] #[]] w fun e w' => e = .returned (.int .i64 (n : Int)) /\ w = w') (fun w => by have := dN s hm w; rwa [hn] at this);have P := aA (fun w (hw : gI w) => kJ (s.extract 0 n) (by rw [ByteArray.size_extract]; omega) w hw hp);have hw := aA hw;clear hp;clear hn
 go_enter Tryz.func130, Tryz.ntmps130
 go_wp2_with ((go_at_call 160; refine (C.out _).mono ?_; rintro e w' ⟨rfl, rfl⟩))
 refine (P.out _ (hw.out.step ((Below.refl _ w).alloc (Nat.le_refl _) _))).mono ?_;rintro e w1 ⟨⟨nn, tp, pp, rfl⟩, hb⟩;have hB := (hb.block w.heap.size (by simp)).trans (heap_alloc_new w _);have B1 := aA (show Below w.heap.size w w1 from ((Below.refl _ w).alloc (Nat.le_refl _) _).trans (hb.mono (by simp)));have c0 := aA hB;clear hb;obtain ⟨⟨k0, k1, k2, k3⟩, g0, g1, g2, g3⟩ := aK hB;clear hB
 go_wp2_with fail
 obtain ⟨⟨d0, d1, d2, d3⟩, -⟩ := aK (aQ c0.out (.int .i64 0) (.string ⟨#[]⟩) (.int .i64 0) (.int .i64 0));exact bodyPost_ret (v := .tuple #[tkV 0 ⟨#[]⟩ 0 0, .int .i64 1]) (by simp [results, Tryz.results130, go_sem, d0, d1, d2, d3]) rfl ⟨rfl, bM B1.out (Nat.le_refl _) _ _ _ _⟩
set_option maxHeartbeats 4000000 in
theorem GR (s : ByteArray) (_h1 : 1 <= s.size) (hm : s.size <= 281474976710656) (w : World) {n : Nat} (hn : cC aY s.data.toList = n) (_hle : n <= s.size) (a1 : 1 < n) (a2 : ((s[0].toNat : Int) == 48) = false) (b1 : ¬ n < s.size) {v : Int} (hp : Lib.parseIntB 64 (s.extract 0 n).data.toList = .ok v) : Calls Tryz.prog 130 #[.string s] w fun e w' => e = .returned (.tuple #[tkV 2 (s.extract 0 n) v 0, .int .i64 0]) /\ Below w.heap.size w w' := by
 have C := aA (p := ∀ w, Calls Tryz.prog 160 #[.string s, .func (.func 129) #[] #[]] w fun e w' => e = .returned (.int .i64 (n : Int)) /\ w = w') (fun w => by have := dN s hm w; rwa [hn] at this);have P := aA (fun w => nW (s.extract 0 n) v (by rw [ByteArray.size_extract]; omega) hp w);have T := aA (fun w => fS 2 (s.extract 0 n) (by rw [ByteArray.size_extract]; omega) w);clear hp;clear hn
 go_enter Tryz.func130, Tryz.ntmps130
 go_wp2_with ((go_at_call 160; refine (C.out _).mono ?_; rintro e w' ⟨rfl, rfl⟩))
 refine (P.out _).mono ?_;rintro e w1 ⟨rfl, hb⟩;have hB := (hb.block w.heap.size (by simp)).trans (heap_alloc_new w _);have B1 := aA (show Below w.heap.size w w1 from ((Below.refl _ w).alloc (Nat.le_refl _) _).trans (hb.mono (by simp)));have c0 := aA hB;clear hb;clear hB
 go_wp2_with fail
 refine (T.out _).mono ?_;rintro e w2 ⟨rfl, hb⟩;have hlt := aC c0.out;have hB := (hb.block w.heap.size hlt).trans c0.out;have B2 := aA (show Below w.heap.size w w2 from B1.out.trans (hb.mono (by omega)));obtain ⟨⟨k0, k1, k2, k3⟩, g0, g1, g2, g3⟩ := aK hB;have c2 := aA hB;have hlt2 := aC hB;clear hb hB
 go_wp2_with fail
 obtain ⟨⟨d0, d1, d2, d3⟩, -⟩ := aK (oF c2.out (.int .i64 2) (.string (s.extract 0 n)) (.int .i64 v) (.int .i64 0) (tkO 2 (s.extract 0 n) v 0));exact bodyPost_ret (v := .tuple #[tkV 2 (s.extract 0 n) v 0, .int .i64 0]) (by simp [results, Tryz.results130, go_sem, d0, d1, d2, d3]) rfl ⟨rfl, (bM B2.out (Nat.le_refl _) _ _ _ _).alloc (by have := (bM B2.out (Nat.le_refl w.heap.size) (.int .i64 2) (.string (s.extract 0 n)) (.int .i64 v) (.int .i64 0)).size; exact this) _⟩
set_option maxHeartbeats 4000000 in
theorem GS (s : ByteArray) (_h1 : 1 <= s.size) (hm : s.size <= 281474976710656) (w : World) {n : Nat} (hn : cC aY s.data.toList = n) (_hle : n <= s.size) (a1 : 1 < n) (a2 : ((s[0].toNat : Int) == 48) = false) (b1 : ¬ n < s.size) (hw : gI w) (hp : ∀ v, ¬ Lib.parseIntB 64 (s.extract 0 n).data.toList = .ok v) : Calls Tryz.prog 130 #[.string s] w fun e w' => e = .returned (.tuple #[tkV 0 ⟨#[]⟩ 0 0, .int .i64 1]) /\ Below w.heap.size w w' := by
 have C := aA (p := ∀ w, Calls Tryz.prog 160 #[.string s, .func (.func 129) #[] #[]] w fun e w' => e = .returned (.int .i64 (n : Int)) /\ w = w') (fun w => by have := dN s hm w; rwa [hn] at this);have P := aA (fun w (hw : gI w) => kJ (s.extract 0 n) (by rw [ByteArray.size_extract]; omega) w hw hp);have hw := aA hw;clear hp;clear hn
 go_enter Tryz.func130, Tryz.ntmps130
 go_wp2_with ((go_at_call 160; refine (C.out _).mono ?_; rintro e w' ⟨rfl, rfl⟩))
 refine (P.out _ (hw.out.step ((Below.refl _ w).alloc (Nat.le_refl _) _))).mono ?_;rintro e w1 ⟨⟨nn, tp, pp, rfl⟩, hb⟩;have hB := (hb.block w.heap.size (by simp)).trans (heap_alloc_new w _);have B1 := aA (show Below w.heap.size w w1 from ((Below.refl _ w).alloc (Nat.le_refl _) _).trans (hb.mono (by simp)));have c0 := aA hB;clear hb;obtain ⟨⟨k0, k1, k2, k3⟩, g0, g1, g2, g3⟩ := aK hB;clear hB
 go_wp2_with fail
 obtain ⟨⟨d0, d1, d2, d3⟩, -⟩ := aK (aQ c0.out (.int .i64 0) (.string ⟨#[]⟩) (.int .i64 0) (.int .i64 0));exact bodyPost_ret (v := .tuple #[tkV 0 ⟨#[]⟩ 0 0, .int .i64 1]) (by simp [results, Tryz.results130, go_sem, d0, d1, d2, d3]) rfl ⟨rfl, bM B1.out (Nat.le_refl _) _ _ _ _⟩
theorem xW (s : ByteArray) (k : Int) (n : Nat) (v : Int) : rB s.data.toList (.tok k n v) = .tuple #[tkV k (s.extract 0 n) v 0, .int .i64 0] := by
 rw [rS];rfl
theorem Bn {s : ByteArray} (h1 : 1 <= s.size) : s.data.toList.head? = some s[0] := by
 rw [List.head?_eq_getElem?];exact List.getElem?_eq_getElem (by simp; omega)
theorem AE {s : ByteArray} {n : Nat} (hn : cC aY s.data.toList = n) : ∀ c ∈ (s.extract 0 n).data.toList, isD c := by
 intro c hc;rw [iI, <- hn, xF] at hc;have := List.all_takeWhile (p := aY) (l := s.data.toList);exact (DF c).1 (List.all_eq_true.1 this c hc)
theorem EY (s : ByteArray) (h1 : 1 <= s.size) (hd : aY s[0] = true) (hm : s.size <= 281474976710656) (w : World) (hw : gI w) : Calls Tryz.prog 130 #[.string s] w fun e w' => e = .returned (rB s.data.toList (vH s.data.toList)) /\ Below w.heap.size w w' := by
 obtain ⟨n, hn⟩ : ∃ n, cC aY s.data.toList = n := ⟨_, rfl⟩;have hl : s.data.toList.length = s.size := by simp
 have hle : n <= s.size := by rw [<- hn]; have := qX aY s.data.toList; omega
 have hhead := Bn h1
 have hn1 : 1 <= n := by
  rw [<- hn];cases e : s.data.toList with
  | nil => rw [e] at hl; simp at hl; omega
  | cons c r =>
    rw [e] at hhead;obtain h' : c = s[0] := by simpa using hhead
    exact qB (by rw [h']; exact hd)
 have hdrop : (s.data.toList.drop n).head? = if h : n < s.size then some s[n] else none := by
  rw [List.head?_drop]
  by_cases h : n < s.size
  · rw [dif_pos h]; exact List.getElem?_eq_getElem (by omega)
  · rw [dif_neg h]; exact List.getElem?_eq_none (by omega)
 have D := AE hn;have fr := iI s n;unfold vH;rw [hn, hhead, hdrop]
 by_cases A : 1 < n /\ s[0] = 48
 · rw [if_pos (.inl ⟨A.1, by rw [A.2]⟩)]
   exact I2 s h1 hm w hn hle A.1 (by rw [A.2]; decide)
 · have a3 : 1 < n -> ((s[0].toNat : Int) == 48) = false := fun h => by
    rw [beq_eq_false_iff_ne]; intro e
    exact A ⟨h, UInt8.toNat_inj.1 (by have : s[0].toNat = 48 := by omega
                                      rw [this]; rfl)⟩
   by_cases b1 : n < s.size
   · cases b2 : cH s[n] with
     | true =>
       rw [if_pos (.inr ⟨s[n], by rw [dif_pos b1], b2⟩)]
       by_cases a1 : 1 < n
       · exact Ix s h1 hm w hn hle a1 (a3 a1) b1 b2
       · exact Iy s h1 hm w hn hle a1 b1 b2
     | false =>
       rw [if_neg (by
        rintro (⟨x, y⟩ | ⟨d, x, y⟩)
        · exact A ⟨x, by simpa using y⟩
        · rw [dif_pos b1] at x
          cases x;rw [b2] at y; cases y)]
       rw [<- fr]
       by_cases hv : 9223372036854775807 < gR (s.extract 0 n).data.toList
       · rw [if_pos hv]
         by_cases a1 : 1 < n
         · exact GW s h1 hm w hn hle a1 (a3 a1) b1 b2 hw (kI D hv)
         · exact GY s h1 hm w hn hle a1 b1 b2 hw (kI D hv)
       · rw [if_neg hv]
         have hp := nX (d := (s.extract 0 n).data.toList) (by
          intro e;have := congrArg List.length e;rw [fr, List.length_take, List.length_nil] at this;omega) D (by
          intro r hr;rw [fr] at hr;have e0 : (s.data.toList.take n).head? = some s[0] := by rw [List.head?_take, if_neg (by omega)]; exact hhead
          rw [hr] at e0;have e48 : s[0] = 48 := by simpa using e0.symm
          have hn2 : n = 1 := by
           rcases Nat.lt_or_ge 1 n with h | h
           · exact absurd ⟨h, e48⟩ A
           · omega
          have := congrArg List.length hr;rw [List.length_take, List.length_cons] at this;exact List.length_eq_zero_iff.1 (by omega)) (by omega)
         rw [xW]
         by_cases a1 : 1 < n
         · exact GV s h1 hm w hn hle a1 (a3 a1) b1 b2 hp
         · exact GX s h1 hm w hn hle a1 b1 b2 hp
   · rw [if_neg (by
         rintro (⟨x, y⟩ | ⟨d, x, y⟩)
         · exact A ⟨x, by simpa using y⟩
         · rw [dif_neg b1] at x
           cases x)]
     rw [<- fr]
     by_cases hv : 9223372036854775807 < gR (s.extract 0 n).data.toList
     · rw [if_pos hv]
       by_cases a1 : 1 < n
       · exact GS s h1 hm w hn hle a1 (a3 a1) b1 hw (kI D hv)
       · exact GU s h1 hm w hn hle a1 b1 hw (kI D hv)
     · rw [if_neg hv]
       have hp := nX (d := (s.extract 0 n).data.toList) (by
        intro e;have := congrArg List.length e;rw [fr, List.length_take, List.length_nil] at this;omega) D (by
        intro r hr;rw [fr] at hr;have e0 : (s.data.toList.take n).head? = some s[0] := by rw [List.head?_take, if_neg (by omega)]; exact hhead
        rw [hr] at e0;have e48 : s[0] = 48 := by simpa using e0.symm
        have hn2 : n = 1 := by
         rcases Nat.lt_or_ge 1 n with h | h
         · exact absurd ⟨h, e48⟩ A
         · omega
        have := congrArg List.length hr;rw [List.length_take, List.length_cons] at this;exact List.length_eq_zero_iff.1 (by omega)) (by omega)
       rw [xW]
       by_cases a1 : 1 < n
       · exact GR s h1 hm w hn hle a1 (a3 a1) b1 hp
       · exact GT s h1 hm w hn hle a1 b1 hp
theorem oR {f : Fst} {l : List UInt8} : ∃ k s n p e, rB l f = .tuple #[tkV k s n p, .int .i64 e] := by
 cases f with
 | bad e => exact ⟨_, _, _, _, _, rfl⟩
 | tok k n v => exact ⟨_, _, _, _, _, rfl⟩
set_option maxHeartbeats 4000000 in
theorem Ak (s : ByteArray) (h1 : 1 <= s.size) (hm : s.size <= 281474976710656) (w : World) (hw : gI w) : Calls Tryz.prog 81 #[.string s] w fun e w' => e = .returned (rB s.data.toList (dA s.data.toList)) /\ Below w.heap.size w w' := by
 have hF : dA s.data.toList = if cH s[0] then mS s.data.toList else if aY s[0] then vH s.data.toList else mO s.data.toList := by
  have hl : s.data.toList.length = s.size := by simp
  have hh := Bn h1;cases e : s.data.toList with
  | nil => rw [e] at hl; simp at hl; omega
  | cons c r =>
    rw [e] at hh;have : c = s[0] := by simpa using hh
    rw [<- this]; rfl
 rw [hF];cases hs : cH s[0] with
 | true =>
   rw [if_pos rfl];have C := aA (p := ∀ w, Calls Tryz.prog 127 #[.int .u8 s[0].toNat] w fun e w' => e = .returned (.bool true) /\ w = w') (fun w => by have := dI s[0] w; rwa [hs] at this);obtain ⟨k, t, n, p, er, hr⟩ := oR (f := mS s.data.toList) (l := s.data.toList);have T := aA (fun w => C9 s hm w);rw [hr] at T |-
   clear hs hF hr
   go_enter Tryz.func81, Tryz.ntmps81
   go_wp2_with (go_at_call 127; refine (C.out _).mono ?_; rintro e w' ⟨rfl, rfl⟩)
   refine (T.out _).mono ?_;rintro e w1 ⟨rfl, hb⟩;have hB := (hb.block w.heap.size (by simp)).trans (heap_alloc_new w _);have B1 := aA (show Below w.heap.size w w1 from ((Below.refl _ w).alloc (Nat.le_refl _) _).trans (hb.mono (by simp)));obtain ⟨⟨k0, k1, k2, k3⟩, g0, g1, g2, g3⟩ := aK hB;have c0 := aA hB;clear hb hB
   go_wp2_with fail
   obtain ⟨⟨d0, d1, d2, d3⟩, -⟩ := aK (aQ c0.out (.int .i64 k) (.string t) (.int .i64 n) (.int .i64 p));exact bodyPost_ret (v := .tuple #[tkV k t n p, .int .i64 er]) (by simp [results, Tryz.results81, go_sem, d0, d1, d2, d3]) rfl ⟨rfl, bM B1.out (Nat.le_refl _) _ _ _ _⟩
 | false =>
   rw [if_neg (by decide)];have C := aA (p := ∀ w, Calls Tryz.prog 127 #[.int .u8 s[0].toNat] w fun e w' => e = .returned (.bool false) /\ w = w') (fun w => by have := dI s[0] w; rwa [hs] at this);cases hd : aY s[0] with
   | true =>
     rw [if_pos rfl];have D := aA (p := ∀ w, Calls Tryz.prog 129 #[.int .u8 s[0].toNat] w fun e w' => e = .returned (.bool true) /\ w = w') (fun w => by have := kR s[0] w; rwa [hd] at this);obtain ⟨k, t, n, p, er, hr⟩ := oR (f := vH s.data.toList) (l := s.data.toList);have T := aA (fun w (hw : gI w) => EY s h1 hd hm w hw);have hw := aA hw;rw [hr] at T |-
     clear hs hF hr hd
     go_enter Tryz.func81, Tryz.ntmps81
     go_wp2_with (first | (go_at_call 127; refine (C.out _).mono ?_; rintro e w' ⟨rfl, rfl⟩) | (go_at_call 129; refine (D.out _).mono ?_; rintro e w' ⟨rfl, rfl⟩))
     refine (T.out _ (hw.out.step ((Below.refl _ w).alloc (Nat.le_refl _) _))).mono ?_;rintro e w1 ⟨rfl, hb⟩;have hB := (hb.block w.heap.size (by simp)).trans (heap_alloc_new w _);have B1 := aA (show Below w.heap.size w w1 from ((Below.refl _ w).alloc (Nat.le_refl _) _).trans (hb.mono (by simp)));obtain ⟨⟨k0, k1, k2, k3⟩, g0, g1, g2, g3⟩ := aK hB;have c0 := aA hB;clear hb hB
     go_wp2_with fail
     obtain ⟨⟨d0, d1, d2, d3⟩, -⟩ := aK (aQ c0.out (.int .i64 k) (.string t) (.int .i64 n) (.int .i64 p));exact bodyPost_ret (v := .tuple #[tkV k t n p, .int .i64 er]) (by simp [results, Tryz.results81, go_sem, d0, d1, d2, d3]) rfl ⟨rfl, bM B1.out (Nat.le_refl _) _ _ _ _⟩
   | false =>
     rw [if_neg (by decide)];have D := aA (p := ∀ w, Calls Tryz.prog 129 #[.int .u8 s[0].toNat] w fun e w' => e = .returned (.bool false) /\ w = w') (fun w => by have := kR s[0] w; rwa [hd] at this);obtain ⟨k, t, n, p, er, hr⟩ := oR (f := mO s.data.toList) (l := s.data.toList);have T := aA (fun w => Aj s h1 hm w);rw [hr] at T |-
     clear hs hF hr hd
     go_enter Tryz.func81, Tryz.ntmps81
     go_wp2_with (first | (go_at_call 127; refine (C.out _).mono ?_; rintro e w' ⟨rfl, rfl⟩) | (go_at_call 129; refine (D.out _).mono ?_; rintro e w' ⟨rfl, rfl⟩))
     refine (T.out _).mono ?_;rintro e w1 ⟨rfl, hb⟩;have hB := (hb.block w.heap.size (by simp)).trans (heap_alloc_new w _);have B1 := aA (show Below w.heap.size w w1 from ((Below.refl _ w).alloc (Nat.le_refl _) _).trans (hb.mono (by simp)));obtain ⟨⟨k0, k1, k2, k3⟩, g0, g1, g2, g3⟩ := aK hB;have c0 := aA hB;clear hb hB
     go_wp2_with fail
     obtain ⟨⟨d0, d1, d2, d3⟩, -⟩ := aK (aQ c0.out (.int .i64 k) (.string t) (.int .i64 n) (.int .i64 p));exact bodyPost_ret (v := .tuple #[tkV k t n p, .int .i64 er]) (by simp [results, Tryz.results81, go_sem, d0, d1, d2, d3]) rfl ⟨rfl, bM B1.out (Nat.le_refl _) _ _ _ _⟩
end
section
open Go.RowKit
def IQ (w : World) (u : Value) (m : Nat) (news : List Value) : Prop :=
 (u = .slice none 0 0 /\ m = 0 /\ news = []) \/ ∃ a c, u = .slice (some a) m c /\ news.length = m /\ ∀ j x, news[j]? = some x -> w.cell? (a.add j) = some x
variable {P : Program}
theorem pY {w : World} {base : Nat} {t ty e : TypeId} {i : TypeInfo} {z : Value} {bytes : Nat} (ht : P.underlying t = some (.slice e)) (hi : P.info? e = some i) (hz : i.zero = some z) (hsize : i.size = 1) (hby : i.bytes = bytes) (hzs : z.cells.size = 1)
 {v u : Value} {n m : Nat} {xs news : List Value} (hown : w.ownsRow base e 1 v n xs) (hfrom : IQ w u m news) (h1 : ∀ x ∈ news, x.oneCell' = true) (h63 : n + m <= maxLen) (hbytes : (n + m) * bytes <= 140737488355328) (hbase : base <= w.heap.size) :
 ∃ v' w', (Builtin.append_ #[t, t] ty #[v, u]).run P w = .ok v' w' /\ w'.ownsRow base e 1 v' (n + m) (xs ++ news) /\ w.grownBy w' v.ownBlock /\ (v ≠ .slice none 0 0 -> v' ≠ .slice none 0 0) := by
 rcases hfrom with ⟨rfl, rfl, rfl⟩ | ⟨a, c, rfl, hl, hn⟩
 · have hr := run_append_owned_none (P := P) w base t ty e i 1 ht hi v n xs hown
   exact ⟨v, w, hr, by simpa using hown, World.grownBy.refl w _, fun h => h⟩
 · obtain ⟨v', w', hr, ho, hg, hiff⟩ := run_append_own (P := P) w base t ty e i z 1 bytes ht hi hz hsize hby hzs (by omega) v n xs hown a m c news (by rw [Nat.mul_one]; exact hl) hn h1 h63 hbytes hbase
   exact ⟨v', w', hr, ho, hg, fun h h' => h (hiff.1 h').1⟩
theorem mV {ops : Array Oper} {rest : List Oper} {o : Oper} {a : Act} {w : World} {Q : Exit -> Act -> World -> Prop}
 (hgd : o.guard = none) (s x : Operand) (t : TypeId) (hop : o.op = Op.call { callee := Callee.builtin Builtin.append, args := #[s, x], argTypes := #[t, t] })
 {base : Nat} {e : TypeId} {i : TypeInfo} {z : Value} {bytes : Nat} (ht : P.underlying t = some (.slice e)) (hi : P.info? e = some i) (hz : i.zero = some z) (hsize : i.size = 1) (hby : i.bytes = bytes) (hzs : z.cells.size = 1)
 (v u : Value) (n m : Nat) (xs news : List Value) (hs : a.eval s = v) (hx : a.eval x = u) (hown : w.ownsRow base e 1 v n xs) (hfrom : IQ w u m news) (h1 : ∀ x ∈ news, x.oneCell' = true) (h63 : n + m <= maxLen) (hbytes : (n + m) * bytes <= 140737488355328) (hbase : base <= w.heap.size)
 (hK : ∀ v' w', w'.ownsRow base e 1 v' (n + m) (xs ++ news) -> w.grownBy w' v.ownBlock -> (v ≠ .slice none 0 0 -> v' ≠ .slice none 0 0) -> wpList P ops Q rest (a.put o.dst v') w') :
 wpList P ops Q (o :: rest) a w := by
 refine wpList_plain hgd fun K hK' => ?_
 obtain ⟨v', w', hr, ho, hgr, hnn⟩ := pY (P := P) (ty := o.type) ht hi hz hsize hby hzs hown hfrom h1 h63 hbytes hbase;unfold Oper.wp;simp [execOp, hop, resolve, invoke, builtin, hs, hx, hr, Result.andThen];exact hK' _ _ (hK _ _ ho hgr hnn)
theorem Ev {w : World} {base : Nat} {e : TypeId} {size : Nat} {v : Value} {n : Nat} {xs : List Value} (h : w.ownsRow base e size v n xs) : w.drew.ownsRow base e size v n xs := h
end
section
open Go.RowKit
section
variable {P : Program}
theorem pX {ops : Array Oper} {o : Oper} {a : Act} {w : World} {K : Act -> World -> Prop} {Q : Exit -> Act -> World -> Prop} {E : Prop}
 (hg : o.guard = none) (s x : Operand) (t : TypeId) (hop : o.op = Op.call { callee := Callee.builtin Builtin.append, args := #[s, x], argTypes := #[t, t] })
 {base size : Nat} {e : TypeId} {i : TypeInfo} {z : Value} {bytes : Nat} (ht : P.underlying t = some (.slice e)) (hi : P.info? e = some i) (hz : i.zero = some z) (hsize : i.size = size) (hby : i.bytes = bytes) (hzs : z.cells.size = size) (hpos : 0 < size)
 (v : Value) (n : Nat) (xs news : List Value) (b : Addr) (c : Nat) (hs : a.eval s = v) (hx : a.eval x = .slice (some b) 1 c) (hown : w.ownsRow base e size v n xs) (hl : news.length = size) (hn : ∀ j u, news[j]? = some u -> w.cell? (b.add j) = some u) (h1 : ∀ u ∈ news, u.oneCell' = true)
 (h63 : n + 1 <= maxLen) (hbytes : (n + 1) * bytes <= 140737488355328) (hbase : base <= w.heap.size)
 (hK : ∀ v' w', w'.ownsRow base e size v' (n + 1) (xs ++ news) -> w.grownBy w' v.ownBlock -> K (a.put o.dst v') w') :
 if Region.wanted o (yielded ops a.tmps) = true then Oper.wp P o a w K Q else E := by
 have hw : Region.wanted o (yielded ops a.tmps) = true := by simp [Region.wanted, hg]
 rw [if_pos hw];obtain ⟨v', w', hr, ho, hgr, _⟩ := run_append_own (P := P) w base t o.type e i z size bytes ht hi hz hsize hby hzs hpos v n xs hown b 1 c news (by rw [Nat.one_mul]; exact hl) hn h1 h63 hbytes hbase;unfold Oper.wp;simp [execOp, hop, resolve, invoke, builtin, hs, hx, hr, Result.andThen];exact hK _ _ ho hgr
end
theorem bB {w w' : World} {base : Nat} {e : TypeId} {size : Nat} {v : Value} {n : Nat} {xs : List Value} (h : w.ownsRow base e size v n xs) (hb : Below w.heap.size w w') : w'.ownsRow base e size v n xs :=
 World.ownsRow.kept (row := none) h ⟨hb.os, hb.tape, hb.output, hb.size, fun k hk _ => hb.block k hk⟩ (by cases v.ownBlock <;> simp)
theorem kM {w : World} {base : Nat} {e : TypeId} {size : Nat} {a : Addr} {n c j : Nat} {xs : List Value} {u : Value} (h : w.ownsRow base e size (.slice (some a) n c) n xs) (hj : xs[j]? = some u) : ∃ g, a = ⟨g, 0, none⟩ /\ w.cell? ⟨g, j, none⟩ = some u := by
 rcases h.2 with ⟨h, _⟩ | ⟨g, cap, cur, hv, _, hg, _, _, _, ht⟩
 · cases h
 · simp only [Value.slice.injEq, Option.some.injEq] at hv
   obtain ⟨rfl, _, _⟩ := hv;refine ⟨g, rfl, ?_⟩;rw [cell_of_row w g j cur e (0, 0) hg];rw [<- ht, List.getElem?_take] at hj
   split at hj
   · simpa using hj
   · cases hj
end
section
open Go.RowKit
theorem e7 {w : World} {B C : Nat} {e : TypeId} {size : Nat} {v : Value} {n : Nat} {xs : List Value} (h : w.ownsRow B e size v n xs) (hc : C <= B) : w.ownsRow C e size v n xs := by
 refine ⟨h.1, ?_⟩
 rcases h.2 with h1 | ⟨g, cap, cur, h1, hb, rest⟩
 · exact .inl h1
 · exact .inr ⟨g, cap, cur, h1, by omega, rest⟩
theorem eM {w : World} {B m size : Nat} {e : TypeId} {v : Value} {xs : List Value} (h : w.ownsRow B e size v m xs) : ∃ a c, v = .slice a m c := by
 rcases h.2 with ⟨rfl, h0⟩ | ⟨g, cap, _, rfl, _⟩
 · rw [h0]; exact ⟨_, _, rfl⟩
 · exact ⟨_, _, rfl⟩
theorem Dn {w w' : World} {row : Option Nat} (h : w.grownBy w' none) : w.grownBy w' row := ⟨h.os, h.tape, h.output, h.size, fun k hk _ => h.block k hk (by simp)⟩
variable {P : Program}
theorem lO {w : World} {base size : Nat} {t ty e : TypeId} {i : TypeInfo} {z : Value} {bytes : Nat} (ht : P.underlying t = some (.slice e)) (hi : P.info? e = some i) (hz : i.zero = some z) (hsize : i.size = size) (hby : i.bytes = bytes) (hzs : z.cells.size = size) (hpos : 0 < size)
 {v : Value} {n m c : Nat} {a : Addr} {xs news : List Value} (hown : w.ownsRow base e size v n xs) (hl : news.length = m * size) (hn : ∀ j u, news[j]? = some u -> w.cell? (a.add j) = some u) (h1 : ∀ x ∈ news, x.oneCell' = true) (h63 : n + m <= maxLen) (hbytes : (n + m) * bytes <= 140737488355328) (hbase : base <= w.heap.size) :
 ∃ v' w', (Builtin.append_ #[t, t] ty #[v, .slice (some a) m c]).run P w = .ok v' w' /\ w'.ownsRow base e size v' (n + m) (xs ++ news) /\ w.grownBy w' v.ownBlock /\ ∀ q, v'.ownBlock = some q -> v.ownBlock = some q \/ w.heap.size <= q := by
 rcases hown.2 with ⟨rfl, rfl⟩ | ⟨g, cap, cur, rfl, hbg, hg, hnc, hcm, hcs, htake⟩
 · have hx : xs = [] := List.eq_nil_of_length_eq_zero (by simpa using hown.1)
   subst hx;obtain ⟨v', w', hr, r1, r2, _⟩ := run_append_own (P := P) w w.heap.size t ty e i z size bytes ht hi hz hsize hby hzs hpos (.slice none 0 0) 0 [] (World.ownsRow_nil w _ e size) a m c news hl hn h1 h63 hbytes (Nat.le_refl _);exact ⟨v', w', hr, e7 r1 hbase, r2, fun q hq => .inr (r1.lt q hq).1⟩
 · by_cases hroom : n + m <= cap
   · obtain ⟨w', hr, r1, r2⟩ := run_append_fits (P := P) w base t ty e i size ht hi hsize g n cap xs hown a m c news hl hn h1 hroom
     exact ⟨_, w', hr, r1, r2, fun q hq => .inl hq⟩
   · have ho : ∀ j u, xs[j]? = some u -> w.cell? ((⟨g, 0, none⟩ : Addr).add j) = some u := fun j u hj => by
      rw [Addr.add_lit, Nat.zero_add];obtain ⟨g', h1, h2⟩ := kM hown hj;simp only [Addr.mk.injEq, and_true] at h1;subst h1;exact h2
     obtain ⟨v', w', hr, r1, r2⟩ := run_append_arg_grows (P := P) w t ty e i z size bytes ht hi hz hsize hby hzs hpos ⟨g, 0, none⟩ n cap xs hown.1 ho a m c news hl hn (by omega) h63 hbytes;exact ⟨v', w', hr, e7 r1 hbase, Dn r2, fun q hq => .inr (r1.lt q hq).1⟩
theorem aR {ops : Array Oper} {rest : List Oper} {o : Oper} {a : Act} {w : World} {Q : Exit -> Act -> World -> Prop}
 (hgd : o.guard = none) (s x : Operand) (t : TypeId) (hop : o.op = Op.call { callee := Callee.builtin Builtin.append, args := #[s, x], argTypes := #[t, t] })
 {base size : Nat} {e : TypeId} {i : TypeInfo} {z : Value} {bytes : Nat} (ht : P.underlying t = some (.slice e)) (hi : P.info? e = some i) (hz : i.zero = some z) (hsize : i.size = size) (hby : i.bytes = bytes) (hzs : z.cells.size = size) (hpos : 0 < size)
 (v : Value) (n m c : Nat) (ad : Addr) (xs news : List Value) (hs : a.eval s = v) (hx : a.eval x = .slice (some ad) m c) (hown : w.ownsRow base e size v n xs) (hl : news.length = m * size) (hn : ∀ j u, news[j]? = some u -> w.cell? (ad.add j) = some u) (h1 : ∀ x ∈ news, x.oneCell' = true) (h63 : n + m <= maxLen) (hbytes : (n + m) * bytes <= 140737488355328) (hbase : base <= w.heap.size)
 (hK : ∀ v' w', w'.ownsRow base e size v' (n + m) (xs ++ news) -> w.grownBy w' v.ownBlock -> (∀ q, v'.ownBlock = some q -> v.ownBlock = some q \/ w.heap.size <= q) -> wpList P ops Q rest (a.put o.dst v') w') :
 wpList P ops Q (o :: rest) a w := by
 refine wpList_plain hgd fun K hK' => ?_
 obtain ⟨v', w', hr, ho, hgr, hq⟩ := lO (P := P) (ty := o.type) (c := c) ht hi hz hsize hby hzs hpos hown hl hn h1 h63 hbytes hbase;unfold Oper.wp;simp [execOp, hop, resolve, invoke, builtin, hs, hx, hr, Result.andThen];exact hK' _ _ (hK _ _ ho hgr hq)
end
section
open Go.RowKit
def tkL (t : Tk) : List Value := [.int .i64 t.kind, .string ⟨t.text.toArray⟩, .int .i64 t.num, .int .i64 t.place]
def nN (ts : List Tk) : List Value := ts.flatMap tkL
theorem A5 : ∀ (ts : List Tk) {j i : Nat} (hj : j < ts.length), i < 4 -> (nN ts)[j * 4 + i]? = (tkL ts[j])[i]?
 | [], _, _, hj, _ => by simp at hj
 | t :: ts, 0, i, _, hi => by
   show (tkL t ++ nN ts)[0 * 4 + i]? = _;rw [Nat.zero_mul, Nat.zero_add, List.getElem?_append_left (by show i < 4; exact hi)];rfl
 | t :: ts, j + 1, i, hj, hi => by
   show (tkL t ++ nN ts)[(j + 1) * 4 + i]? = _;rw [List.getElem?_append_right (by show 4 <= _; omega)];have := A5 ts (j := j) (i := i) (by simpa using hj) hi;rw [show (j + 1) * 4 + i - (tkL t).length = j * 4 + i by show _ - 4 = _; omega, this];rfl
theorem Gf (t : Tk) : ∀ u ∈ tkL t, u.oneCell' = true := by
 intro u hu;simp only [tkL, List.mem_cons, List.not_mem_nil, or_false] at hu
 rcases hu with rfl | rfl | rfl | rfl <;> rfl
theorem BE (ts : List Tk) (t : Tk) : nN (ts ++ [t]) = nN ts ++ tkL t := by unfold nN; simp
def iJ (l : List UInt8) : iU := if 1024 < l.length then .bad 0 4 else dM l 0
def Bu (E : TypeId) (L : iU) (w : World) (e : Ending) (w' : World) : Prop := Below w.heap.size w w' /\
 match L with
 | .bad p er => e = .returned (.tuple #[.slice none 0 0, .int .i64 (p : Nat), .int .i64 er])
 | .ok ts => ∃ a c, e = .returned (.tuple #[.slice a ts.length c, .int .i64 0, .int .i64 0]) /\ w'.ownsRow w.heap.size E 4 (.slice a ts.length c) ts.length (nN ts)
theorem Gb : (Tryz.prog.info? 158).map (fun i => (i.zero, i.size, i.bytes)) = some (some (.agg #[.int .i64 0, .string ⟨#[]⟩, .int .i64 0, .int .i64 0]), 4, 40) := by kernel_rfl
theorem uG {l : List UInt8} {e : Int} (h : dA l = .bad e) : e = 1 \/ e = 2 \/ e = 5 := by
 cases l with
 | nil => cases h; exact .inr (.inl rfl)
 | cons c r =>
   simp only [dA] at h
   split at h
   · unfold mS at h
     split at h
     · cases h; exact .inr (.inr rfl)
     · cases h
   · split at h
     · unfold vH at h
       split at h
       · cases h; exact .inr (.inl rfl)
       · split at h
         · cases h; exact .inl rfl
         · cases h
     · unfold mO at h
       split at h
       · cases h; exact .inr (.inl rfl)
       · cases h
set_option maxRecDepth 100000 in
set_option maxHeartbeats 8000000 in
theorem pQ (s : ByteArray) (hm : s.size <= 281474976710656) (w : World) (hw : gI w) : Calls Tryz.prog 28 #[.string s] w (Bu 158 (iJ s.data.toList) w) := by
 have hl : s.data.toList.length = s.size := by simp
 by_cases hlong : 1024 < s.size
 · have P := aA (show Bu 158 (iJ s.data.toList) w (.returned (.tuple #[.slice none 0 0, .int .i64 0, .int .i64 4])) w from by
    unfold iJ;rw [if_pos (by omega)];exact ⟨Below.refl _ _, rfl⟩)
   clear hl
   go_enter Tryz.func28, Tryz.ntmps28
   go_wp2_with fail
   go_ret3
   exact P.out
 obtain ⟨i0, hi, hz0, hz1, hz2⟩ := info_parts Gb;have und : Tryz.prog.underlying 71 = some (.slice 158) := Tryz.underlying71;obtain ⟨L, hL⟩ : ∃ L, s.data.toList = L := ⟨_, rfl⟩;have SK := aA (p := ∀ (p : Nat) (hp : p <= s.size) w, Calls Tryz.prog 80 #[.string s, .int .i64 p] w fun e w' => e = .returned (.int .i64 ((p + cC (· == 32) (L.drop p) : Nat) : Int)) /\ w = w') (fun p hp w => by rw [<- hL]; exact CR s p hp hm w)
 have FI := aA (p := ∀ (p : Nat) (hp : p < s.size) w (hw : gI w), Calls Tryz.prog 81 #[.string (s.extract p s.size)] w fun e w' => e = .returned (rB (L.drop p) (dA (L.drop p))) /\ Below w.heap.size w w') (fun p hp w hw => by
  rw [<- hL, <- tV];exact Ak (s.extract p s.size) (by rw [ByteArray.size_extract]; omega) (by rw [ByteArray.size_extract]; omega) w hw)
 have hLs : L.length = s.size := by rw [<- hL]; exact hl
 have skip_in : ∀ p, p <= s.size -> p + cC (· == 32) (L.drop p) <= s.size := fun p hp => by
  have := qX (· == 32) (L.drop p);rw [List.length_drop] at this;omega
 have skip_lex : ∀ p, p <= s.size -> dM (L.drop p) p = dM (L.drop (p + cC (· == 32) (L.drop p))) (p + cC (· == 32) (L.drop p)) := fun p _ => by
  rw [EJ, List.drop_drop]
 have skip_hd : ∀ p, ¬ (L.drop (p + cC (· == 32) (L.drop p))).head? = some 32 := fun p => by
  rw [<- List.drop_drop]; exact BR _
 have hE : iJ s.data.toList = dM L 0 := by
  unfold iJ;rw [if_neg (by omega), hL]
 rw [hE];obtain ⟨E, hEE⟩ : ∃ E, dM L 0 = E := ⟨_, rfl⟩;rw [hEE]
 have K0 := aA (show dM (L.drop (0 + cC (· == 32) (L.drop 0))) (0 + cC (· == 32) (L.drop 0)) = E by
  rw [<- hEE, <- skip_lex 0 (by omega), List.drop_zero])
 have H0 := aA (skip_hd 0);have N0 := skip_in 0 (by omega);have D0 := aA (SK.out 0 (by omega));obtain ⟨k0, hk0⟩ : ∃ k0, 0 + cC (· == 32) (L.drop 0) = k0 := ⟨_, rfl⟩;rw [hk0] at K0 H0 N0 D0;have SKI := aA skip_in;have SKL := aA skip_lex;have SKH := aA skip_hd;have HW := aA hw;have HLS := aA hLs;clear hE hEE hk0 skip_in skip_lex skip_hd hL hl hw hLs
 go_enter Tryz.func28, Tryz.ntmps28
 go_wp2_with (go_at_call 80; refine (D0.out _).mono ?_; rintro e w' ⟨rfl, rfl⟩)
 go_loopw [5, 6] (fun v i wr => ∃ (k : Nat) (va : Option Addr) (vc : Nat) (T : List Tk), v = .slice va T.length vc /\ i = .int .i64 k /\ k <= s.size /\ T.length <= k /\ Hid (¬ (L.drop k).head? = some 32) /\ Hid ((dM (L.drop k) k).after T = E) /\ Hid (wr.ownsRow w.heap.size 158 4 (.slice va T.length vc) T.length (nN T)) /\ Hid (Below w.heap.size w wr)) (fun _ i _ => s.size - (intOf i).toNat)
 case atStart => exact ⟨k0, none, 0, [], rfl, rfl, N0, by simp, H0, aA (by rw [DW]; exact K0.out), aA (World.ownsRow_nil _ _ _ _), aA (Below.refl _ _)⟩
 case round =>
  obtain ⟨k, va, vc, T, rfl, rfl, hk, hTk, hH, hE, hO, hB⟩ := hrel
  by_cases hlt : k < s.size
  · have hne : ¬ L.drop k = [] := by
     intro e;have := congrArg List.length e;rw [List.length_drop, HLS.out, List.length_nil] at this;omega
    have LW := aA (HW.out.step hB.out);have F := aA (FI.out k hlt wr LW.out)
    rcases tY (L.drop k) k hH.out with ⟨h, _⟩ | ⟨er, _, hf, hx⟩ | ⟨kd, n, nv, _, hf, hn1, hn2, hx⟩
    · exact absurd h hne
    · have q : ((er : Int) != 0) = true := by rcases uG hf with h | h | h <;> rw [h] <;> decide
      have R := aA (show E = .bad k er by rw [<- hE.out, hx]; rfl);have F2 := aA (p := Calls Tryz.prog 81 #[.string (s.extract k s.size)] wr fun e w' => e = .returned (.tuple #[tkV 0 ⟨#[]⟩ 0 0, .int .i64 er]) /\ Below wr.heap.size wr w') (by have := F.out; rw [hf] at this; exact this);clear hf hx hne F
      go_wp2_with fail
      refine F2.out.mono ?_;rintro e w1 ⟨rfl, hb⟩;have hz := hB.out.size;have B1 := aA (hB.out.trans (hb.mono hz));clear hb
      go_wp2_with fail
      go_ret3
      rw [R.out];exact ⟨B1.out.alloc B1.out.size _, rfl⟩
    · have F2 := aA (p := Calls Tryz.prog 81 #[.string (s.extract k s.size)] wr fun e w' => e = .returned (.tuple #[tkV kd ⟨((L.drop k).take n).toArray⟩ nv 0, .int .i64 0]) /\ Below wr.heap.size wr w') (by have := F.out; rw [hf] at this; exact this)
      rw [List.length_drop, HLS.out] at hn2;obtain ⟨t, ht⟩ : ∃ t : Tk, t = ⟨kd, (L.drop k).take n, nv, k⟩ := ⟨_, rfl⟩
      have htl : (⟨((L.drop k).take n).toArray⟩ : ByteArray).size = n := by
       show ((L.drop k).take n).toArray.size = n;rw [List.size_toArray, List.length_take, List.length_drop, HLS.out]; omega
      have hE2 := aA (show (dM (L.drop (k + n)) (k + n)).after (T ++ [t]) = E by
       rw [<- hE.out, hx, zG, List.drop_drop, ht])
      obtain ⟨X, hX⟩ : ∃ X : ByteArray, ⟨((L.drop k).take n).toArray⟩ = X := ⟨_, rfl⟩;rw [hX] at F2 htl;have hcells := aA (show tkL t = [.int .i64 kd, .string X, .int .i64 nv, .int .i64 k] by rw [ht, <- hX]; rfl);have hz := hB.out.size;have D1 := aA (SK.out (k + n) (by omega));have N1 := SKI.out (k + n) (by omega);have H1 := aA (SKH.out (k + n));have E1 := aA (SKL.out (k + n) (by omega));obtain ⟨k2, hk2⟩ : ∃ k2, k + n + cC (· == 32) (L.drop (k + n)) = k2 := ⟨_, rfl⟩;have hk3 : k + n <= k2 := by omega
      rw [hk2] at D1 N1 H1 E1;have E3 := aA (show (dM (L.drop k2) k2).after (T ++ [t]) = E by rw [<- E1.out]; exact hE2.out);clear hf hx hne F ht hE2 hX hk2 E1
      go_wp2_with fail
      refine F2.out.mono ?_;rintro e w1 ⟨rfl, hb⟩;have B1 := aA (hB.out.trans (hb.mono hz));have O1 := aA (bB hO.out hb);have hsz := hb.size;have B2 := aA (show Below w.heap.size w (w1.alloc (tkO kd X nv k)) from B1.out.alloc B1.out.size _);have OA := aA (show ((w1.alloc (tkO kd X nv k)).alloc (tkO kd X nv k)).ownsRow w.heap.size 158 4 (.slice va T.length vc) T.length (nN T) from (O1.out.alloc _).alloc _)
      have NA := aA (p := ∀ j u, (tkL t)[j]? = some u -> ((w1.alloc (tkO kd X nv k)).alloc (tkO kd X nv k)).cell? ((⟨w1.heap.size + 1, 0, none⟩ : Addr).add j) = some u) (fun j u hj => by
       rw [hcells.out] at hj;rw [Addr.add_lit, Nat.zero_add, cell_of_row _ _ _ _ _ (0, 0) (show ((w1.alloc (tkO kd X nv k)).alloc (tkO kd X nv k)).heap[w1.heap.size + 1]? = some (tkO kd X nv k) by have := heap_alloc_new (w1.alloc (tkO kd X nv k)) (tkO kd X nv k); rwa [World.size_alloc] at this)];simpa using hj)
      have CB := aA (show ((w1.alloc (tkO kd X nv k)).alloc (tkO kd X nv k)).heap[w1.heap.size]? = some (tkO kd X nv k) from (Below.heap_alloc _ _ _ (by rw [World.size_alloc]; omega)).trans (heap_alloc_new w1 _));have BA := aA (show w.heap.size <= ((w1.alloc (tkO kd X nv k)).alloc (tkO kd X nv k)).heap.size by rw [World.size_alloc, World.size_alloc]; omega);have OLt := aA (fun q hq => O1.out.lt q hq);clear hb
      go_wp2_with (at_builtin; refine aR rfl _ _ 71 rfl (base := w.heap.size) und hi hz0 hz1 hz2 rfl (by decide) (.slice va T.length vc) T.length 1 1 ⟨w1.heap.size + 1, 0, none⟩ (nN T) (tkL t) rfl rfl OA.out rfl NA.out (Gf _) (by unfold maxLen; omega) (by omega) BA.out ?_)
      intro v6 w6 ho hg _;obtain ⟨va6, c6, rfl⟩ := eM ho;have B6 := aA (show Below w.heap.size w w6 from (B2.out.alloc B2.out.size _).grown hg BA.out (fun q hq => (OLt.out q hq).1));have O6 := aA (show w6.ownsRow w.heap.size 158 4 (.slice va6 (T ++ [t]).length c6) (T ++ [t]).length (nN (T ++ [t])) by rw [BE, List.length_append]; exact ho)
      have C6 : w6.heap[w1.heap.size]? = some (tkO kd X nv k) := by
       rw [hg.block w1.heap.size (aC CB.out) (fun e => by have := (OLt.out _ e.symm).2; omega)];exact CB.out
      obtain ⟨⟨m0, m1, m2, m3⟩, -⟩ := aK C6;rw [show T.length + 1 = (T ++ [t]).length by rw [List.length_append]; rfl];have hTl : (T ++ [t]).length <= k2 := by rw [List.length_append]; show T.length + 1 <= k2; omega
      generalize T ++ [t] = T2 at E3 O6 hTl;clear ho hg OA NA CB BA OLt C6 O1 B1 B2 hO hB hE
      go_wp2_with (go_at_call 80; refine (D1.out _).mono ?_; rintro e w' ⟨rfl, rfl⟩)
      go_roundw
      case rel => exact ⟨k2, va6, c6, T2, rfl, by go_num, N1, hTl, H1, E3, O6, B6⟩
      case measure => simp [intOf]; omega
  · obtain rfl : k = s.size := by omega
    have R := aA (show E = .ok T by
     rw [<- hE.out, List.drop_of_length_le (by rw [HLS.out]; exact Nat.le_refl _), gV];simp [iU.after])
    go_wp2_with fail
    go_ret3
    rw [R.out];exact ⟨hB.out, va, vc, rfl, hO.out⟩
end
section
open Go.RowKit
structure RS where
 pos : Nat
 cnt : Nat
 bad : Int
 whr : Nat
def cB (e : Int) (s : RS) : RS := if s.bad = 0 then ⟨s.pos, s.cnt, e, s.pos⟩ else s
def dJ (s : RS) : RS := if s.bad = 0 then (if 32 < s.cnt + 1 then ⟨s.pos + 1, s.cnt + 1, 4, s.pos⟩ else ⟨s.pos + 1, s.cnt + 1, 0, s.whr⟩) else ⟨s.pos + 1, s.cnt, s.bad, s.whr⟩
def cT (s : RS) : RS := ⟨s.pos + 1, s.cnt, s.bad, s.whr⟩
def isS (L : List Tk) (x : List UInt8) (p : Nat) : Bool := match L[p]? with
 | some t => t.kind == 3 && t.text == x
 | none => false
def isM (L : List Tk) (p : Nat) : Bool := isS L [42] p || isS L [47] p || isS L [37] p
def isA (L : List Tk) (p : Nat) : Bool := isS L [43] p || isS L [45] p
def fM (L : List Tk) (p : Nat) : List UInt8 := match L[p]? with
 | some t => t.text
 | none => []
def iO (L : List Tk) (s : RS) : RS := cT (if (s.bad == 0 && !isS L [41] s.pos) = true then cB 2 s else s)
def aP : TN := ⟨⟨#[]⟩, ⟨#[]⟩, 0, .nil⟩
def rK (v : Int) : TN := ⟨⟨#[110, 117, 109]⟩, ⟨#[]⟩, v, .nil⟩
def dW (x : List UInt8) : TN := ⟨⟨#[110, 97, 109, 101]⟩, ⟨x.toArray⟩, 0, .nil⟩
def s9 (k : TN) : TN := ⟨⟨#[110, 101, 103]⟩, ⟨#[]⟩, 0, k.f⟩
def jA (o : List UInt8) (a b : TN) : TN := ⟨⟨o.toArray⟩, ⟨#[]⟩, 0, .cons a.op a.nm a.n a.ks b.f⟩
inductive Md | fac | prod | sum | prodL (n : TN) | sumL (n : TN)
def pr (L : List Tk) : Nat -> Md -> RS -> TN × RS
 | 0, _, s => (aP, s)
 | f + 1, .fac, s =>
   if s.bad = 0 then
    match L[s.pos]? with
    | none => (aP, cB 2 s)
    | some t =>
      if t.kind = 2 then (rK t.num, dJ s)
      else if t.kind = 1 then (dW t.text, dJ s)
      else if t.text = [45] then (s9 (pr L f .fac (dJ s)).1, (pr L f .fac (dJ s)).2)
      else if t.text = [40] then ((pr L f .sum (cT s)).1, iO L (pr L f .sum (cT s)).2)
      else (aP, cB 2 s)
   else (aP, s)
 | f + 1, .prod, s => pr L f (.prodL (pr L f .fac s).1) (pr L f .fac s).2
 | f + 1, .prodL n, s => if (s.bad == 0 && isM L s.pos) = true then pr L f (.prodL (jA (fM L s.pos) n (pr L f .fac (dJ s)).1)) (pr L f .fac (dJ s)).2 else (n, s)
 | f + 1, .sum, s => pr L f (.sumL (pr L f .prod s).1) (pr L f .prod s).2
 | f + 1, .sumL n, s => if (s.bad == 0 && isA L s.pos) = true then pr L f (.sumL (jA (fM L s.pos) n (pr L f .prod (dJ s)).1)) (pr L f .prod (dJ s)).2 else (n, s)
theorem oI (e : Int) (s : RS) : (cB e s).pos = s.pos := by unfold cB; split <;> rfl
theorem lK (s : RS) : (dJ s).pos = s.pos + 1 := by
 unfold dJ
 split
 · split <;> rfl
 · rfl
theorem DL (L : List Tk) (s : RS) : (iO L s).pos = s.pos + 1 := by
 unfold iO cT
 split
 · show (cB 2 s).pos + 1 = _
   rw [oI]
 · rfl
theorem fG (L : List Tk) : ∀ (f : Nat) (md : Md) (s : RS), s.pos <= (pr L f md s).2.pos
 | 0, _, s => Nat.le_refl _
 | f + 1, .fac, s => by
   rw [pr]
   by_cases hb : s.bad = 0
   · rw [if_pos hb]
     cases L[s.pos]? with
     | none => simp only; rw [oI]; exact Nat.le_refl _
     | some t =>
       simp only
       by_cases h2 : t.kind = 2
       · rw [if_pos h2]; simp only; rw [lK]; omega
       rw [if_neg h2]
       by_cases h1 : t.kind = 1
       · rw [if_pos h1]; simp only; rw [lK]; omega
       rw [if_neg h1]
       by_cases h45 : t.text = [45]
       · rw [if_pos h45]; simp only
         have := fG L f .fac (dJ s);rw [lK] at this; omega
       rw [if_neg h45]
       by_cases h40 : t.text = [40]
       · rw [if_pos h40]; simp only
         have := fG L f .sum (cT s);rw [DL];have e : (cT s).pos = s.pos + 1 := rfl;omega
       rw [if_neg h40]; simp only; rw [oI]; exact Nat.le_refl _
   · rw [if_neg hb]; exact Nat.le_refl _
 | f + 1, .prod, s => by
   rw [pr];exact Nat.le_trans (fG L f .fac s) (fG L f _ _)
 | f + 1, .prodL n, s => by
   rw [pr]
   split
   · refine Nat.le_trans ?_ (fG L f _ _)
     have := fG L f .fac (dJ s);rw [lK] at this; omega
   · exact Nat.le_refl _
 | f + 1, .sum, s => by
   rw [pr];exact Nat.le_trans (fG L f .prod s) (fG L f _ _)
 | f + 1, .sumL n, s => by
   rw [pr]
   split
   · refine Nat.le_trans ?_ (fG L f _ _)
     have := fG L f .prod (dJ s);rw [lK] at this; omega
   · exact Nat.le_refl _
def kO (m : Nat) : Md -> Nat
 | .fac => 4 * m + 1
 | .prod => 4 * m + 2
 | .prodL _ => 4 * m + 1
 | .sum => 4 * m + 3
 | .sumL _ => 4 * m + 1
theorem nD {L : List Tk} {x : List UInt8} {p : Nat} (h : isS L x p = true) : p < L.length := by
 unfold isS at h;cases e : L[p]? with
 | none => rw [e] at h; cases h
 | some t => exact (List.getElem?_eq_some_iff.1 e).1
theorem vM {L : List Tk} {p : Nat} (h : isM L p = true) : p < L.length := by
 unfold isM at h;simp only [Bool.or_eq_true] at h
 rcases h with (h | h) | h <;> exact nD h
theorem vO {L : List Tk} {p : Nat} (h : isA L p = true) : p < L.length := by
 unfold isA at h;simp only [Bool.or_eq_true] at h
 rcases h with h | h <;> exact nD h
def pE (L : List Tk) (md : Md) (s : RS) : TN × RS := pr L (4 * (L.length - s.pos) + 4) md s
inductive Bv | bad (p : Nat) (e : Int) | ok (t : TN) (p : Nat)
def ofL (L : List Tk) (p : Nat) : Bv := if (pE L .sum ⟨p, 0, 0, 0⟩).2.bad = 0 then .ok (pE L .sum ⟨p, 0, 0, 0⟩).1 (pE L .sum ⟨p, 0, 0, 0⟩).2.pos else .bad (pE L .sum ⟨p, 0, 0, 0⟩).2.whr (pE L .sum ⟨p, 0, 0, 0⟩).2.bad
def jB (n : Nat) (L : List Tk) (p : Nat) : Nat := match L[p]? with
 | some t => t.place
 | none => n
end
section
open Go.RowKit
def fW (w : World) (a : Option Addr) (ts : List Tk) : Prop :=
 ts = [] \/ ∃ b off, a = some ⟨b, off, none⟩ /\ b < w.heap.size /\ ∀ j (h : j < ts.length), w.cell? ⟨b, off + j * 4, none⟩ = some (.int .i64 ts[j].kind) /\ w.cell? ⟨b, off + j * 4 + 1, none⟩ = some (.string ⟨ts[j].text.toArray⟩) /\
  w.cell? ⟨b, off + j * 4 + 2, none⟩ = some (.int .i64 ts[j].num) /\ w.cell? ⟨b, off + j * 4 + 3, none⟩ = some (.int .i64 ts[j].place)
theorem fW.kept {w w' : World} {a : Option Addr} {ts : List Tk} (h : fW w a ts) (hb : Below w.heap.size w w') : fW w' a ts := by
 rcases h with h | ⟨b, off, rfl, hlt, hc⟩
 · exact .inl h
 · refine .inr ⟨b, off, rfl, Nat.lt_of_lt_of_le hlt hb.size, fun j hj => ?_⟩
   obtain ⟨c0, c1, c2, c3⟩ := hc j hj;exact ⟨(hb.cell (p := ⟨b, _, none⟩) hlt).trans c0, (hb.cell (p := ⟨b, _, none⟩) hlt).trans c1, (hb.cell (p := ⟨b, _, none⟩) hlt).trans c2, (hb.cell (p := ⟨b, _, none⟩) hlt).trans c3⟩
theorem zR {w : World} {B : Nat} {E : TypeId} {a : Option Addr} {c : Nat} {ts : List Tk} (h : w.ownsRow B E 4 (.slice a ts.length c) ts.length (nN ts)) : fW w a ts := by
 have h0 := h
 rcases h.2 with ⟨hs, hn⟩ | ⟨g, cap, cur, hs, _, hg, _⟩
 · exact .inl (List.length_eq_zero_iff.1 hn)
 · simp only [Value.slice.injEq] at hs
   obtain ⟨rfl, _, rfl⟩ := hs
   have cell : ∀ j i u, j < ts.length -> i < 4 -> (nN ts)[j * 4 + i]? = some u -> w.cell? ⟨g, 0 + j * 4 + i, none⟩ = some u := fun j i u hj hi hu => by
    obtain ⟨g', hg', hc⟩ := kM h0 hu;simp only [Addr.mk.injEq, and_true] at hg';subst hg';rw [Nat.zero_add];exact hc
   refine .inr ⟨g, 0, rfl, aC hg, fun j hj => ?_⟩;have at4 : ∀ i, i < 4 -> (nN ts)[j * 4 + i]? = (tkL ts[j])[i]? := fun i hi => A5 ts hj hi
   exact ⟨cell j 0 _ hj (by omega) (at4 0 (by omega)), cell j 1 _ hj (by omega) (at4 1 (by omega)), cell j 2 _ hj (by omega) (at4 2 (by omega)), cell j 3 _ hj (by omega) (at4 3 (by omega))⟩
end
end
end Go.Proofs.YtapcjnoaofmmiaaGreatDoor
