/-
  No statement: the walk of cantonlaw1.MapInts: it returns true and turns nothing that was there.
-/
import Derived.Test.YtbfnoflemmneoaaKnown
import Derived.Test.YtbfnoflemmneoaaUseLS
import Derived.Test.YtbfnoflemmneoaaArgs
import Derived.Test.YtbfnoflemmneoaaName
import Derived.Deep.RegionHeld3
import Derived.Test.YtbfnoflemmneoaaTake
namespace Go.Proofs.Ytbfnoflemmneoaa
open Go.RowKit

/-- Loop 1: the first k numbers lie in the one map, those from the turn on in the other, each with its name. -/
def In1 (W wr : World) (p t : Nat) (len tn : Nat) (z : Nat → Int) (k : Nat) : Prop :=
  ∃ km kt, Sep W wr [ObLS p km (km.map nm), ObLS t kt (kt.map nm)] ∧ Rising lsL km ∧ Rising lsL kt ∧ km.length ≤ k ∧ kt.length ≤ k ∧
    (∀ x, x ∈ km ↔ ∃ j, j < k ∧ z j = x) ∧ (∀ x, x ∈ kt ↔ ∃ j, j < k ∧ z ((j + tn) % len) = x)

theorem turn_all (len tn : Nat) (z : Nat → Int) (x : Int) : (∃ j, j < len ∧ z ((j + tn) % len) = x) ↔ ∃ j, j < len ∧ z j = x := by
  constructor
  · rintro ⟨j, hj, e⟩
    exact ⟨_, Nat.mod_lt _ (by omega), e⟩
  · rintro ⟨j, hj, e⟩
    refine ⟨(j + (len - tn % len)) % len, Nat.mod_lt _ (by omega), ?_⟩
    have h1 : tn % len < len := Nat.mod_lt _ (by omega)
    have h2 : ((j + (len - tn % len)) % len + tn) % len = j := by
      rw [Nat.mod_add_mod]
      have h3 : j + (len - tn % len) + tn = j + len * (tn / len + 1) := by
        have := Nat.div_add_mod tn len
        rw [Nat.mul_add, Nat.mul_one]
        omega
      rw [h3, Nat.add_mul_mod_self_left, Nat.mod_eq_of_lt hj]
    rw [h2]; exact e

set_option maxHeartbeats 2000000 in
set_option maxRecDepth 100000 in
theorem ints_walk (a0 : Option Addr) (len cap : Nat) (z : Nat → Int) (turn : Int) (W : World) (hl : IsInts W a0 len z) (ht : (Lit.int .u8 turn).wf = true) :
    Calls Try.prog 4 #[.slice a0 len cap, .int .u8 turn] W fun e w' => e = .returned (.bool true) ∧ Kept (fun _ => False) W w' := by
  obtain ⟨hm, hcells⟩ := hl
  obtain ⟨tn, rfl, htn⟩ : ∃ tn : Nat, turn = (tn : Int) ∧ tn ≤ 255 := by
    have := bounds_u8 ht
    exact ⟨turn.toNat, by omega, by omega⟩
  clear ht
  unfold maxLen at hm
  by_cases h60 : 100 < len
  · go_enter Try.func4, Try.ntmps4
    go_wp2_with (go_at_call 7; refine (known_any _).mono ?_; rintro e w1 ⟨rfl, hk⟩)
    go_ret
    exact ⟨rfl, hk⟩
  have HC := Lib.hid hcells
  clear hcells
  go_enter Try.func4, Try.ntmps4
  go_wp2_with (go_at_call 7; refine (known_any _).mono ?_; rintro e w1 ⟨rfl, hk⟩)
  refine (sNewLS (Sep.start W |>.kept hk)).mono ?_
  rintro e w2 ⟨p, rfl, S⟩
  have S2 := Lib.hid S
  clear S hk
  go_wp2_with fail
  refine (sNewLS S2.out).mono ?_
  rintro e w3 ⟨t, rfl, S⟩
  have S3 := Lib.hid S.swap
  clear S S2
  go_wp2_with fail
  go_loopw [7] (fun i wr => ∃ k : Nat, k ≤ len ∧ i = .int .i64 k ∧ Hid (In1 W wr p t len tn z k)) (fun i _ => len - (intOf i).toNat)
  case atStart => exact ⟨0, Nat.zero_le _, rfl, [], [], S3.out, List.Pairwise.nil, List.Pairwise.nil, Nat.le_refl _, Nat.le_refl _, fun x => by simp, fun x => by simp⟩
  case round =>
    obtain ⟨k, hk, rfl, T⟩ := hrel
    clear S3
    obtain ⟨km, kt, S, r1, r2, l1, l2, m1, m2⟩ := T.out
    have HM := Lib.hid (p := Rising lsL km ∧ km.length ≤ k ∧ ∀ x, x ∈ km ↔ ∃ j, j < k ∧ z j = x) ⟨r1, l1, m1⟩
    have HT := Lib.hid (p := Rising lsL kt ∧ kt.length ≤ k ∧ ∀ x, x ∈ kt ↔ ∃ j, j < k ∧ z ((j + tn) % len) = x) ⟨r2, l2, m2⟩
    have S4 := Lib.hid S
    clear S r1 r2 l1 l2 m1 m2 T
    by_cases hlt : k < len
    · obtain ⟨b, off, rfl, hc⟩ := HC.out.resolve_left (by omega)
      have hmod : (k + tn) % len < len := Nat.mod_lt _ (by omega)
      have ck := hc k hlt
      have cm := hc _ hmod
      obtain ⟨y, hy⟩ : ∃ y, z k = y := ⟨_, rfl⟩
      obtain ⟨y2, hy2⟩ : ∃ y2, z ((k + tn) % len) = y2 := ⟨_, rfl⟩
      rw [hy] at ck
      rw [hy2] at cm
      have HY := Lib.hid hy
      have HY2 := Lib.hid hy2
      have HCK := Lib.hid ck
      have HCM := Lib.hid cm
      have S5 := Lib.hid (S4.out.drewN 1)
      have ck1 := S4.out.old ck
      have HMOD := Lib.hid hmod
      clear hy hy2 hc ck cm S4 hmod
      go_wp2_with fail
      go_region_held3 (fun w' => w'.cell? ⟨b, off + k, none⟩ = some (.int .i64 y)) (go_keep) (first
        | (go_at_call 21; refine (name_any y _).mono ?_; rintro e w4 ⟨rfl, hk4⟩; have S6 := Lib.hid (S5.out.kept hk4); have ck2 := S6.out.old HCK.out; clear hk4)
        | (go_at_call 20; refine (sPutLS y (nm y) S6.out (by have := HM.out.2.1; omega) HM.out.1).mono ?_; rintro e w5 ⟨rfl, S⟩; have S7 := Lib.hid S; have ck3 := S.old HCK.out; clear S))
      rw [putV_map strictL nm HM.out.1 y] at S7
      have S8 := Lib.hid S7.out.swap
      have cm1 := S8.out.old HCM.out
      have hk0 : (0 : Int) ≤ (k : Int) + (tn : Int) := by omega
      have hz1 : (0 : Int) ≤ ((k : Int) + (tn : Int)) % (len : Int) := Int.emod_nonneg _ (by omega)
      have hz2 : ((k : Int) + (tn : Int)) % (len : Int) < (len : Int) := Int.emod_lt_of_pos _ (by omega)
      have hz3 : (((k : Int) + (tn : Int)) % (len : Int)).toNat = (k + tn) % len := by rw [← Int.natCast_add, ← Int.natCast_emod, Int.toNat_natCast]
      clear S5 S6 S7 ck1 ck2 ck3
      go_wp2_with fail
      go_at_call 21
      refine (name_any y2 _).mono ?_
      rintro e w6 ⟨rfl, hk6⟩
      have S9 := Lib.hid (S8.out.kept hk6)
      clear hk6 cm1 S8
      go_wp2_with fail
      go_at_call 20
      refine (sPutLS y2 (nm y2) S9.out (by have := HT.out.2.1; omega) HT.out.1).mono ?_
      rintro e w7 ⟨rfl, S⟩
      rw [putV_map strictL nm HT.out.1 y2] at S
      have S10 := Lib.hid S.swap
      clear S S9 hz1 hz2 hz3
      go_wp2
      go_roundw
      case rel =>
        refine ⟨k + 1, by omega, by go_num, Lib.hid ⟨_, _, S10.out, rising_putK strictL HM.out.1 y, rising_putK strictL HT.out.1 y2, ?_, ?_, fun x => ?_, fun x => ?_⟩⟩
        · have := length_putK_le (less := lsL) km y
          have := HM.out.2.1
          omega
        · have := length_putK_le (less := lsL) kt y2
          have := HT.out.2.1
          omega
        · rw [mem_putK, HM.out.2.2]
          constructor
          · rintro (⟨j, hj, e⟩ | e)
            · exact ⟨j, by omega, e⟩
            · exact ⟨k, by omega, by rw [HY.out, e]⟩
          · rintro ⟨j, hj, e⟩
            by_cases hjk : j = k
            · right; rw [← e, hjk, HY.out]
            · exact Or.inl ⟨j, by omega, e⟩
        · rw [mem_putK, HT.out.2.2]
          constructor
          · rintro (⟨j, hj, e⟩ | e)
            · exact ⟨j, by omega, e⟩
            · exact ⟨k, by omega, by rw [HY2.out, e]⟩
          · rintro ⟨j, hj, e⟩
            by_cases hjk : j = k
            · right; rw [← e, hjk, HY2.out]
            · exact Or.inl ⟨j, by omega, e⟩
      case measure => simp [intOf]; omega
    · obtain rfl : k = len := by omega
      have hsame : kt = km := rising_ext strictL HT.out.1 HM.out.1 (fun x => by rw [HT.out.2.2, HM.out.2.2]; exact turn_all k tn z x)
      subst hsame
      clear HT
      obtain ⟨n, hnn⟩ : ∃ n, kt.length = n := ⟨_, rfl⟩
      have hnk : n ≤ k := by rw [← hnn]; exact HM.out.2.1
      have HN := Lib.hid hnn
      have hdk : decide (k < n) = false := decide_eq_false (by omega)
      have K1 := Lib.hid (sKeysLS S4.out (List.Mem.head _) (by omega))
      rw [hnn] at K1
      clear hnn
      go_wp2_with fail
      go_at_call 22
      refine K1.out.mono ?_
      rintro e w4 ⟨g1, c1, rfl, S⟩
      have S5 := Lib.hid S
      have hnn := HN.out
      have K2 := Lib.hid (sKeysLS S (List.Mem.tail _ (List.Mem.tail _ (List.Mem.head _))) (by omega))
      rw [hnn] at K2
      clear S S4 K1 hnn
      go_wp2_with fail
      go_at_call 22
      refine K2.out.mono ?_
      rintro e w5 ⟨g2, c2, rfl, S⟩
      have S6 := Lib.hid S
      clear S S5 K2
      go_wp2_with fail
      go_loopw [11] (fun i wr => ∃ k2 : Nat, k2 ≤ n ∧ i = .int .i64 k2 ∧ Hid (Sep W wr [RowOb 2 (.slice (some ⟨g2, 0, none⟩) n c2) n (kt.map (Value.int .i64)), RowOb 2 (.slice (some ⟨g1, 0, none⟩) n c1) n (kt.map (Value.int .i64)), ObLS p kt (kt.map nm), ObLS t kt (kt.map nm)])) (fun i _ => n - (intOf i).toNat)
      case atStart => exact ⟨0, Nat.zero_le _, rfl, S6⟩
      case round =>
        obtain ⟨k2, hk2, rfl, S7⟩ := hrel
        clear S6
        have hk1 : kt.length ≤ 1000000 := by rw [HN.out]; omega
        by_cases hlt : k2 < n
        · have hx : kt[k2]? = some (kt[k2]'(by rw [HN.out]; exact hlt)) := List.getElem?_eq_getElem _
          generalize kt[k2]'(by rw [HN.out]; exact hlt) = x at hx
          have HG1 := Lib.hid (p := ∀ w', Sep W w' [RowOb 2 (.slice (some ⟨g2, 0, none⟩) n c2) n (kt.map (Value.int .i64)), RowOb 2 (.slice (some ⟨g1, 0, none⟩) n c1) n (kt.map (Value.int .i64)), ObLS p kt (kt.map nm), ObLS t kt (kt.map nm)] → w'.cell? ⟨g1, k2, none⟩ = some (.int .i64 x)) (fun w' S => S.cell (List.Mem.tail _ (List.Mem.head _)) (by rw [List.getElem?_map, hx]; rfl))
          have HG2 := Lib.hid (p := ∀ w', Sep W w' [RowOb 2 (.slice (some ⟨g2, 0, none⟩) n c2) n (kt.map (Value.int .i64)), RowOb 2 (.slice (some ⟨g1, 0, none⟩) n c1) n (kt.map (Value.int .i64)), ObLS p kt (kt.map nm), ObLS t kt (kt.map nm)] → w'.cell? ⟨g2, k2, none⟩ = some (.int .i64 x)) (fun w' S => S.cell (List.Mem.head _) (by rw [List.getElem?_map, hx]; rfl))
          have GE := Lib.hid (sGetLS (x := x) (v := nm x) S7.out (List.Mem.tail _ (List.Mem.tail _ (List.Mem.head _))) hk1 HM.out.1 (List.mem_of_getElem? hx) (by rw [pos_of_at strictL HM.out.1 hx, List.getElem?_map, hx]; rfl))
          have HP := Lib.hid (p := ∀ k3, k2 = k3 + 1 → ∃ y, kt[k3]? = some y ∧ y < x) (fun k3 e => by
            have hy : kt[k3]? = some (kt[k3]'(by rw [HN.out]; omega)) := List.getElem?_eq_getElem _
            refine ⟨_, hy, ?_⟩
            have := rising_at HM.out.1 (by omega : k3 < k2) hy hx
            simpa [lsL] using this)
          have hc1 := HG1.out _ S7.out
          clear hx hk1
          cases k2 with
          | zero =>
            go_wp2_with fail
            go_at_call 23
            refine GE.out.mono ?_
            rintro e w6 ⟨rfl, S⟩
            have S8 := Lib.hid (S.drewN 1)
            have d1 := HG1.out _ S
            have d2 := HG2.out _ S
            clear S S7 GE hc1
            go_wp2_with fail
            refine wp_region_held (S := fun w' => w'.cell? ⟨g1, 0, none⟩ = some (.int .i64 x) ∧ w'.cell? ⟨g2, 0, none⟩ = some (.int .i64 x)) (by kernel_rfl) ?_
            have hHeld : (fun w' : World => w'.cell? ⟨g1, 0, none⟩ = some (.int .i64 x) ∧ w'.cell? ⟨g2, 0, none⟩ = some (.int .i64 x)) { w6 with drawn := w6.drawn + 1 } := ⟨d1, d2⟩
            refine takeHYtbfnoflemmneoaa (i := 0) (d := some 87) (v := .slice (some ⟨g1, 0, none⟩) n c1) rfl rfl (by kernel_rfl) (by kernel_rfl) (by kernel_rfl) (fun _ _ _ h => h) (Or.inl ⟨by rfl, by intro w hSw; obtain ⟨hS1, hS2⟩ := hSw; go_simp⟩) hHeld ?_
            simp only [Act.put, List.setIfInBounds_toArray, List.set_cons_zero, List.set_cons_succ]
            refine takeHYtbfnoflemmneoaa (i := 1) (d := some 88) (v := .int .i64 0) rfl rfl (by kernel_rfl) (by kernel_rfl) (by kernel_rfl) (fun _ _ _ h => h) (Or.inl ⟨by rfl, by intro w hSw; obtain ⟨hS1, hS2⟩ := hSw; go_simp⟩) hHeld ?_
            simp only [Act.put, List.setIfInBounds_toArray, List.set_cons_zero, List.set_cons_succ]
            refine takeHYtbfnoflemmneoaa (i := 2) (d := some 89) (v := .pointer (some ⟨g1, 0, none⟩)) rfl rfl (by kernel_rfl) (by kernel_rfl) (by kernel_rfl) (fun _ _ _ h => h) (Or.inl ⟨by rfl, by intro w hSw; obtain ⟨hS1, hS2⟩ := hSw; go_simp⟩) hHeld ?_
            simp only [Act.put, List.setIfInBounds_toArray, List.set_cons_zero, List.set_cons_succ]
            refine takeHYtbfnoflemmneoaa (i := 3) (d := some 90) (v := .int .i64 x) rfl rfl (by kernel_rfl) (by kernel_rfl) (by kernel_rfl) (fun _ _ _ h => h) (Or.inl ⟨by rfl, by intro w hSw; obtain ⟨hS1, hS2⟩ := hSw; go_simp⟩) hHeld ?_
            simp only [Act.put, List.setIfInBounds_toArray, List.set_cons_zero, List.set_cons_succ]
            refine takeHYtbfnoflemmneoaa (i := 4) (d := some 91) (v := .slice (some ⟨g2, 0, none⟩) n c2) rfl rfl (by kernel_rfl) (by kernel_rfl) (by kernel_rfl) (fun _ _ _ h => h) (Or.inl ⟨by rfl, by intro w hSw; obtain ⟨hS1, hS2⟩ := hSw; go_simp⟩) hHeld ?_
            simp only [Act.put, List.setIfInBounds_toArray, List.set_cons_zero, List.set_cons_succ]
            refine takeHYtbfnoflemmneoaa (i := 5) (d := some 92) (v := .int .i64 0) rfl rfl (by kernel_rfl) (by kernel_rfl) (by kernel_rfl) (fun _ _ _ h => h) (Or.inl ⟨by rfl, by intro w hSw; obtain ⟨hS1, hS2⟩ := hSw; go_simp⟩) hHeld ?_
            simp only [Act.put, List.setIfInBounds_toArray, List.set_cons_zero, List.set_cons_succ]
            refine takeHYtbfnoflemmneoaa (i := 6) (d := some 93) (v := .pointer (some ⟨g2, 0, none⟩)) rfl rfl (by kernel_rfl) (by kernel_rfl) (by kernel_rfl) (fun _ _ _ h => h) (Or.inl ⟨by rfl, by intro w hSw; obtain ⟨hS1, hS2⟩ := hSw; go_simp⟩) hHeld ?_
            simp only [Act.put, List.setIfInBounds_toArray, List.set_cons_zero, List.set_cons_succ]
            refine takeHYtbfnoflemmneoaa (i := 7) (d := some 94) (v := .int .i64 x) rfl rfl (by kernel_rfl) (by kernel_rfl) (by kernel_rfl) (fun _ _ _ h => h) (Or.inl ⟨by rfl, by intro w hSw; obtain ⟨hS1, hS2⟩ := hSw; go_simp⟩) hHeld ?_
            simp only [Act.put, List.setIfInBounds_toArray, List.set_cons_zero, List.set_cons_succ]
            refine takeHYtbfnoflemmneoaa (i := 8) (d := some 95) (v := .bool false) rfl rfl (by kernel_rfl) (by kernel_rfl) (by kernel_rfl) (fun _ _ _ h => h) (Or.inl ⟨by rfl, by intro w hSw; obtain ⟨hS1, hS2⟩ := hSw; go_simp⟩) hHeld ?_
            simp only [Act.put, List.setIfInBounds_toArray, List.set_cons_zero, List.set_cons_succ]
            refine takeHYtbfnoflemmneoaa (i := 9) (d := some 96) (v := .bool false) rfl rfl (by kernel_rfl) (by kernel_rfl) (by kernel_rfl) (fun _ _ _ h => h) (Or.inl ⟨by rfl, by intro w hSw; obtain ⟨hS1, hS2⟩ := hSw; go_simp⟩) hHeld ?_
            simp only [Act.put, List.setIfInBounds_toArray, List.set_cons_zero, List.set_cons_succ]
            refine takeHYtbfnoflemmneoaa (i := 10) (d := some 97) (v := .int .i64 0) rfl rfl (by kernel_rfl) (by kernel_rfl) (by kernel_rfl) (fun _ _ _ h => h) (Or.inl ⟨by rfl, by intro w hSw; obtain ⟨hS1, hS2⟩ := hSw; go_simp⟩) hHeld ?_
            simp only [Act.put, List.setIfInBounds_toArray, List.set_cons_zero, List.set_cons_succ]
            refine takeHYtbfnoflemmneoaa (i := 11) (d := some 98) (v := .bool false) rfl rfl (by kernel_rfl) (by kernel_rfl) (by kernel_rfl) (fun _ _ _ h => h) (Or.inl ⟨by rfl, by intro w hSw; obtain ⟨hS1, hS2⟩ := hSw; go_simp⟩) hHeld ?_
            simp only [Act.put, List.setIfInBounds_toArray, List.set_cons_zero, List.set_cons_succ]
            refine takeHYtbfnoflemmneoaa (i := 12) (d := some 99) (v := .bool false) rfl rfl (by kernel_rfl) (by kernel_rfl) (by kernel_rfl) (fun _ _ _ h => h) (Or.inl ⟨by rfl, by intro w hSw; obtain ⟨hS1, hS2⟩ := hSw; go_simp⟩) hHeld ?_
            simp only [Act.put, List.setIfInBounds_toArray, List.set_cons_zero, List.set_cons_succ]
            refine takeHYtbfnoflemmneoaa (i := 13) (d := some 100) (v := undef) rfl rfl (by kernel_rfl) (by kernel_rfl) (by kernel_rfl) (fun _ _ _ h => h) (Or.inr ⟨by rfl, rfl⟩) hHeld ?_
            simp only [Act.put, List.setIfInBounds_toArray, List.set_cons_zero, List.set_cons_succ]
            refine takeHYtbfnoflemmneoaa (i := 14) (d := some 101) (v := undef) rfl rfl (by kernel_rfl) (by kernel_rfl) (by kernel_rfl) (fun _ _ _ h => h) (Or.inr ⟨by rfl, rfl⟩) hHeld ?_
            simp only [Act.put, List.setIfInBounds_toArray, List.set_cons_zero, List.set_cons_succ]
            refine takeHYtbfnoflemmneoaa (i := 15) (d := some 102) (v := undef) rfl rfl (by kernel_rfl) (by kernel_rfl) (by kernel_rfl) (fun _ _ _ h => h) (Or.inr ⟨by rfl, rfl⟩) hHeld ?_
            simp only [Act.put, List.setIfInBounds_toArray, List.set_cons_zero, List.set_cons_succ]
            refine takeHYtbfnoflemmneoaa (i := 16) (d := some 103) (v := undef) rfl rfl (by kernel_rfl) (by kernel_rfl) (by kernel_rfl) (fun _ _ _ h => h) (Or.inr ⟨by rfl, rfl⟩) hHeld ?_
            simp only [Act.put, List.setIfInBounds_toArray, List.set_cons_zero, List.set_cons_succ]
            refine takeHYtbfnoflemmneoaa (i := 17) (d := some 104) (v := undef) rfl rfl (by kernel_rfl) (by kernel_rfl) (by kernel_rfl) (fun _ _ _ h => h) (Or.inr ⟨by rfl, rfl⟩) hHeld ?_
            simp only [Act.put, List.setIfInBounds_toArray, List.set_cons_zero, List.set_cons_succ]
            refine takeHYtbfnoflemmneoaa (i := 18) (d := some 105) (v := undef) rfl rfl (by kernel_rfl) (by kernel_rfl) (by kernel_rfl) (fun _ _ _ h => h) (Or.inr ⟨by rfl, rfl⟩) hHeld ?_
            simp only [Act.put, List.setIfInBounds_toArray, List.set_cons_zero, List.set_cons_succ]
            refine takeHYtbfnoflemmneoaa (i := 19) (d := some 106) (v := undef) rfl rfl (by kernel_rfl) (by kernel_rfl) (by kernel_rfl) (fun _ _ _ h => h) (Or.inr ⟨by rfl, rfl⟩) hHeld ?_
            simp only [Act.put, List.setIfInBounds_toArray, List.set_cons_zero, List.set_cons_succ]
            refine takeHYtbfnoflemmneoaa (i := 20) (d := some 107) (v := undef) rfl rfl (by kernel_rfl) (by kernel_rfl) (by kernel_rfl) (fun _ _ _ h => h) (Or.inr ⟨by rfl, rfl⟩) hHeld ?_
            simp only [Act.put, List.setIfInBounds_toArray, List.set_cons_zero, List.set_cons_succ]
            refine takeHYtbfnoflemmneoaa (i := 21) (d := some 108) (v := undef) rfl rfl (by kernel_rfl) (by kernel_rfl) (by kernel_rfl) (fun _ _ _ h => h) (Or.inr ⟨by rfl, rfl⟩) hHeld ?_
            simp only [Act.put, List.setIfInBounds_toArray, List.set_cons_zero, List.set_cons_succ]
            refine takeHYtbfnoflemmneoaa (i := 22) (d := some 109) (v := undef) rfl rfl (by kernel_rfl) (by kernel_rfl) (by kernel_rfl) (fun _ _ _ h => h) (Or.inr ⟨by rfl, rfl⟩) hHeld ?_
            simp only [Act.put, List.setIfInBounds_toArray, List.set_cons_zero, List.set_cons_succ]
            refine takeHYtbfnoflemmneoaa (i := 23) (d := some 110) (v := .bool false) rfl rfl (by kernel_rfl) (by kernel_rfl) (by kernel_rfl) (fun _ _ _ h => h) (Or.inl ⟨by rfl, by intro w hSw; obtain ⟨hS1, hS2⟩ := hSw; go_simp⟩) hHeld ?_
            simp only [Act.put, List.setIfInBounds_toArray, List.set_cons_zero, List.set_cons_succ]
            refine takeHYtbfnoflemmneoaa (i := 24) (d := some 111) (v := .bool false) rfl rfl (by kernel_rfl) (by kernel_rfl) (by kernel_rfl) (fun _ _ _ h => h) (Or.inl ⟨by rfl, by intro w hSw; obtain ⟨hS1, hS2⟩ := hSw; go_simp⟩) hHeld ?_
            simp only [Act.put, List.setIfInBounds_toArray, List.set_cons_zero, List.set_cons_succ]
            refine takeHYtbfnoflemmneoaa (i := 25) (d := some 112) (v := .bool false) rfl rfl (by kernel_rfl) (by kernel_rfl) (by kernel_rfl) (fun _ _ _ h => h) (Or.inl ⟨by rfl, by intro w hSw; obtain ⟨hS1, hS2⟩ := hSw; go_simp⟩) hHeld ?_
            simp only [Act.put, List.setIfInBounds_toArray, List.set_cons_zero, List.set_cons_succ]
            refine takeHYtbfnoflemmneoaa (i := 26) (d := some 113) (v := .bool true) rfl rfl (by kernel_rfl) (by kernel_rfl) (by kernel_rfl) (fun _ _ _ h => h) (Or.inl ⟨by rfl, by intro w hSw; obtain ⟨hS1, hS2⟩ := hSw; go_simp⟩) hHeld ?_
            simp only [Act.put, List.setIfInBounds_toArray, List.set_cons_zero, List.set_cons_succ]
            refine takeHYtbfnoflemmneoaa (i := 27) (d := some 114) (v := .bool false) rfl rfl (by kernel_rfl) (by kernel_rfl) (by kernel_rfl) (fun _ _ _ h => h) (Or.inl ⟨by rfl, by intro w hSw; obtain ⟨hS1, hS2⟩ := hSw; go_simp⟩) hHeld ?_
            simp only [Act.put, List.setIfInBounds_toArray, List.set_cons_zero, List.set_cons_succ]
            refine takeHYtbfnoflemmneoaa (i := 28) (d := some 115) (v := .bool false) rfl rfl (by kernel_rfl) (by kernel_rfl) (by kernel_rfl) (fun _ _ _ h => h) (Or.inl ⟨by rfl, by intro w hSw; obtain ⟨hS1, hS2⟩ := hSw; go_simp⟩) hHeld ?_
            simp only [Act.put, List.setIfInBounds_toArray, List.set_cons_zero, List.set_cons_succ]
            refine takeHYtbfnoflemmneoaa (i := 29) (d := some 116) (v := .bool false) rfl rfl (by kernel_rfl) (by kernel_rfl) (by kernel_rfl) (fun _ _ _ h => h) (Or.inl ⟨by rfl, by intro w hSw; obtain ⟨hS1, hS2⟩ := hSw; go_simp⟩) hHeld ?_
            simp only [Act.put, List.setIfInBounds_toArray, List.set_cons_zero, List.set_cons_succ]
            refine takeHYtbfnoflemmneoaa (i := 30) (d := some 117) (v := .string (nm x)) rfl rfl (by kernel_rfl) (by kernel_rfl) (by kernel_rfl) (fun _ _ _ h => h) (Or.inl ⟨by rfl, by intro w hSw; obtain ⟨hS1, hS2⟩ := hSw; go_simp⟩) hHeld ?_
            simp only [Act.put, List.setIfInBounds_toArray, List.set_cons_zero, List.set_cons_succ]
            refine takeHYtbfnoflemmneoaa (i := 31) (d := some 118) (v := .slice (some ⟨g1, 0, none⟩) n c1) rfl rfl (by kernel_rfl) (by kernel_rfl) (by kernel_rfl) (fun _ _ _ h => h) (Or.inl ⟨by rfl, by intro w hSw; obtain ⟨hS1, hS2⟩ := hSw; go_simp⟩) hHeld ?_
            simp only [Act.put, List.setIfInBounds_toArray, List.set_cons_zero, List.set_cons_succ]
            refine takeHYtbfnoflemmneoaa (i := 32) (d := some 119) (v := .int .i64 0) rfl rfl (by kernel_rfl) (by kernel_rfl) (by kernel_rfl) (fun _ _ _ h => h) (Or.inl ⟨by rfl, by intro w hSw; obtain ⟨hS1, hS2⟩ := hSw; go_simp⟩) hHeld ?_
            simp only [Act.put, List.setIfInBounds_toArray, List.set_cons_zero, List.set_cons_succ]
            refine takeHYtbfnoflemmneoaa (i := 33) (d := some 120) (v := .pointer (some ⟨g1, 0, none⟩)) rfl rfl (by kernel_rfl) (by kernel_rfl) (by kernel_rfl) (fun _ _ _ h => h) (Or.inl ⟨by rfl, by intro w hSw; obtain ⟨hS1, hS2⟩ := hSw; go_simp⟩) hHeld ?_
            simp only [Act.put, List.setIfInBounds_toArray, List.set_cons_zero, List.set_cons_succ]
            refine takeHYtbfnoflemmneoaa (i := 34) (d := some 121) (v := .int .i64 x) rfl rfl (by kernel_rfl) (by kernel_rfl) (by kernel_rfl) (fun _ _ _ h => h) (Or.inl ⟨by rfl, by intro w hSw; obtain ⟨hS1, hS2⟩ := hSw; go_simp⟩) hHeld ?_
            simp only [Act.put, List.setIfInBounds_toArray, List.set_cons_zero, List.set_cons_succ]
            refine wpAnyH_ready (rs := [35]) (by kernel_rfl) (by simp) ?_
            refine AllReadyH.cons (o := { dst := some 122, op := Op.call { callee := Callee.value (Operand.func 21), args := #[Operand.tmp 121], argTypes := #[2] }, type := 9, pos := "law.go:139", after := #[{ on := 34, ground := Ground.data }, { on := 29, ground := Ground.chain }, { on := 29, ground := Ground.guard }], guard := some (29, false) }) rfl (fun K hK => ?_) AllReadyH.nil
            go_simp
            refine (name_any x _).mono ?_
            rintro e w7 ⟨rfl, hk7⟩
            have S9 := Lib.hid (S8.out.kept hk7)
            have d3 := HG1.out _ S9.out
            have d4 := HG2.out _ S9.out
            clear hk7
            refine hK.out _ _ ⟨d3, d4⟩ (fun hHeld2 => ?_)
            try simp only [Act.put, List.setIfInBounds_toArray, List.set_cons_zero, List.set_cons_succ]
            clear hK K hHeld d1 d2
            refine takeHYtbfnoflemmneoaa (i := 36) (d := some 123) (v := .bool false) rfl rfl (by kernel_rfl) (by kernel_rfl) (by kernel_rfl) (fun _ _ _ h => h) (Or.inl ⟨by rfl, by intro w hSw; obtain ⟨hS1, hS2⟩ := hSw; go_simp⟩) hHeld2 ?_
            simp only [Act.put, List.setIfInBounds_toArray, List.set_cons_zero, List.set_cons_succ]
            refine takeHYtbfnoflemmneoaa (i := 37) (d := some 124) (v := .bool false) rfl rfl (by kernel_rfl) (by kernel_rfl) (by kernel_rfl) (fun _ _ _ h => h) (Or.inl ⟨by rfl, by intro w hSw; obtain ⟨hS1, hS2⟩ := hSw; go_simp⟩) hHeld2 ?_
            simp only [Act.put, List.setIfInBounds_toArray, List.set_cons_zero, List.set_cons_succ]
            refine wpAnyH_done (by kernel_rfl) ?_ _
            clear hHeld2
            go_wp2
            go_roundw
            case rel => exact ⟨1, by omega, rfl, S9⟩
            case measure => simp [intOf]; omega
          | succ k3 =>
            obtain ⟨y, hy, hyx⟩ := HP.out k3 rfl
            have HG3 := Lib.hid (p := ∀ w', Sep W w' [RowOb 2 (.slice (some ⟨g2, 0, none⟩) n c2) n (kt.map (Value.int .i64)), RowOb 2 (.slice (some ⟨g1, 0, none⟩) n c1) n (kt.map (Value.int .i64)), ObLS p kt (kt.map nm), ObLS t kt (kt.map nm)] → w'.cell? ⟨g1, k3, none⟩ = some (.int .i64 y)) (fun w' S => S.cell (List.Mem.tail _ (List.Mem.head _)) (by rw [List.getElem?_map, hy]; rfl))
            have hd1 : decide ((0 : Int) < (k3 : Int) + 1) = true := decide_eq_true (by omega)
            have hd2 : decide (x ≤ y) = false := decide_eq_false (by omega)
            have hb1 : (0 : Int) ≤ (k3 : Int) + 1 := by omega
            have hb2 : (k3 : Int) + 1 < (n : Int) := by omega
            have hb3 : ((k3 : Int) + 1).toNat = k3 + 1 := by omega
            have hb4 : (k3 : Int) < (n : Int) := by omega
            have hb7 : (0 : Int) ≤ (k3 : Int) := by omega
            have hb8 : IntKind.i64.wrap (k3 : Int) = (k3 : Int) := by rw [IntKind.wrap_i64]; omega
            clear hy HP hyx
            go_wp2_with fail
            go_at_call 23
            refine GE.out.mono ?_
            rintro e w6 ⟨rfl, S⟩
            have S8 := Lib.hid (S.drewN 1)
            have d1 := HG1.out _ S
            have d2 := HG2.out _ S
            have d5 := HG3.out _ S
            clear S S7 GE hc1
            go_wp2_with fail
            refine wp_region_held (S := fun w' => w'.cell? ⟨g1, k3 + 1, none⟩ = some (.int .i64 x) ∧ w'.cell? ⟨g2, k3 + 1, none⟩ = some (.int .i64 x) ∧ w'.cell? ⟨g1, k3, none⟩ = some (.int .i64 y)) (by kernel_rfl) ?_
            have hHeld : (fun w' : World => w'.cell? ⟨g1, k3 + 1, none⟩ = some (.int .i64 x) ∧ w'.cell? ⟨g2, k3 + 1, none⟩ = some (.int .i64 x) ∧ w'.cell? ⟨g1, k3, none⟩ = some (.int .i64 y)) { w6 with drawn := w6.drawn + 1 } := ⟨d1, d2, d5⟩
            refine takeHYtbfnoflemmneoaa (i := 0) (d := some 87) (v := .slice (some ⟨g1, 0, none⟩) n c1) rfl rfl (by kernel_rfl) (by kernel_rfl) (by kernel_rfl) (fun _ _ _ h => h) (Or.inl ⟨by rfl, by intro w hSw; obtain ⟨hS1, hS2, hS3⟩ := hSw; go_simp⟩) hHeld ?_
            simp only [Act.put, List.setIfInBounds_toArray, List.set_cons_zero, List.set_cons_succ]
            refine takeHYtbfnoflemmneoaa (i := 1) (d := some 88) (v := .int .i64 ((k3 : Int) + 1)) rfl rfl (by kernel_rfl) (by kernel_rfl) (by kernel_rfl) (fun _ _ _ h => h) (Or.inl ⟨by rfl, by intro w hSw; obtain ⟨hS1, hS2, hS3⟩ := hSw; go_simp⟩) hHeld ?_
            simp only [Act.put, List.setIfInBounds_toArray, List.set_cons_zero, List.set_cons_succ]
            refine takeHYtbfnoflemmneoaa (i := 2) (d := some 89) (v := .pointer (some ⟨g1, k3 + 1, none⟩)) rfl rfl (by kernel_rfl) (by kernel_rfl) (by kernel_rfl) (fun _ _ _ h => h) (Or.inl ⟨by rfl, by intro w hSw; obtain ⟨hS1, hS2, hS3⟩ := hSw; go_simp⟩) hHeld ?_
            simp only [Act.put, List.setIfInBounds_toArray, List.set_cons_zero, List.set_cons_succ]
            refine takeHYtbfnoflemmneoaa (i := 3) (d := some 90) (v := .int .i64 x) rfl rfl (by kernel_rfl) (by kernel_rfl) (by kernel_rfl) (fun _ _ _ h => h) (Or.inl ⟨by rfl, by intro w hSw; obtain ⟨hS1, hS2, hS3⟩ := hSw; go_simp⟩) hHeld ?_
            simp only [Act.put, List.setIfInBounds_toArray, List.set_cons_zero, List.set_cons_succ]
            refine takeHYtbfnoflemmneoaa (i := 4) (d := some 91) (v := .slice (some ⟨g2, 0, none⟩) n c2) rfl rfl (by kernel_rfl) (by kernel_rfl) (by kernel_rfl) (fun _ _ _ h => h) (Or.inl ⟨by rfl, by intro w hSw; obtain ⟨hS1, hS2, hS3⟩ := hSw; go_simp⟩) hHeld ?_
            simp only [Act.put, List.setIfInBounds_toArray, List.set_cons_zero, List.set_cons_succ]
            refine takeHYtbfnoflemmneoaa (i := 5) (d := some 92) (v := .int .i64 ((k3 : Int) + 1)) rfl rfl (by kernel_rfl) (by kernel_rfl) (by kernel_rfl) (fun _ _ _ h => h) (Or.inl ⟨by rfl, by intro w hSw; obtain ⟨hS1, hS2, hS3⟩ := hSw; go_simp⟩) hHeld ?_
            simp only [Act.put, List.setIfInBounds_toArray, List.set_cons_zero, List.set_cons_succ]
            refine takeHYtbfnoflemmneoaa (i := 6) (d := some 93) (v := .pointer (some ⟨g2, k3 + 1, none⟩)) rfl rfl (by kernel_rfl) (by kernel_rfl) (by kernel_rfl) (fun _ _ _ h => h) (Or.inl ⟨by rfl, by intro w hSw; obtain ⟨hS1, hS2, hS3⟩ := hSw; go_simp⟩) hHeld ?_
            simp only [Act.put, List.setIfInBounds_toArray, List.set_cons_zero, List.set_cons_succ]
            refine takeHYtbfnoflemmneoaa (i := 7) (d := some 94) (v := .int .i64 x) rfl rfl (by kernel_rfl) (by kernel_rfl) (by kernel_rfl) (fun _ _ _ h => h) (Or.inl ⟨by rfl, by intro w hSw; obtain ⟨hS1, hS2, hS3⟩ := hSw; go_simp⟩) hHeld ?_
            simp only [Act.put, List.setIfInBounds_toArray, List.set_cons_zero, List.set_cons_succ]
            refine takeHYtbfnoflemmneoaa (i := 8) (d := some 95) (v := .bool false) rfl rfl (by kernel_rfl) (by kernel_rfl) (by kernel_rfl) (fun _ _ _ h => h) (Or.inl ⟨by rfl, by intro w hSw; obtain ⟨hS1, hS2, hS3⟩ := hSw; go_simp⟩) hHeld ?_
            simp only [Act.put, List.setIfInBounds_toArray, List.set_cons_zero, List.set_cons_succ]
            refine takeHYtbfnoflemmneoaa (i := 9) (d := some 96) (v := .bool false) rfl rfl (by kernel_rfl) (by kernel_rfl) (by kernel_rfl) (fun _ _ _ h => h) (Or.inl ⟨by rfl, by intro w hSw; obtain ⟨hS1, hS2, hS3⟩ := hSw; go_simp⟩) hHeld ?_
            simp only [Act.put, List.setIfInBounds_toArray, List.set_cons_zero, List.set_cons_succ]
            refine takeHYtbfnoflemmneoaa (i := 10) (d := some 97) (v := .int .i64 ((k3 : Int) + 1)) rfl rfl (by kernel_rfl) (by kernel_rfl) (by kernel_rfl) (fun _ _ _ h => h) (Or.inl ⟨by rfl, by intro w hSw; obtain ⟨hS1, hS2, hS3⟩ := hSw; go_simp⟩) hHeld ?_
            simp only [Act.put, List.setIfInBounds_toArray, List.set_cons_zero, List.set_cons_succ]
            refine takeHYtbfnoflemmneoaa (i := 11) (d := some 98) (v := .bool true) rfl rfl (by kernel_rfl) (by kernel_rfl) (by kernel_rfl) (fun _ _ _ h => h) (Or.inl ⟨by rfl, by intro w hSw; obtain ⟨hS1, hS2, hS3⟩ := hSw; go_simp⟩) hHeld ?_
            simp only [Act.put, List.setIfInBounds_toArray, List.set_cons_zero, List.set_cons_succ]
            refine takeHYtbfnoflemmneoaa (i := 12) (d := some 99) (v := .bool true) rfl rfl (by kernel_rfl) (by kernel_rfl) (by kernel_rfl) (fun _ _ _ h => h) (Or.inl ⟨by rfl, by intro w hSw; obtain ⟨hS1, hS2, hS3⟩ := hSw; go_simp⟩) hHeld ?_
            simp only [Act.put, List.setIfInBounds_toArray, List.set_cons_zero, List.set_cons_succ]
            refine takeHYtbfnoflemmneoaa (i := 13) (d := some 100) (v := .slice (some ⟨g1, 0, none⟩) n c1) rfl rfl (by kernel_rfl) (by kernel_rfl) (by kernel_rfl) (fun _ _ _ h => h) (Or.inl ⟨by rfl, by intro w hSw; obtain ⟨hS1, hS2, hS3⟩ := hSw; go_simp⟩) hHeld ?_
            simp only [Act.put, List.setIfInBounds_toArray, List.set_cons_zero, List.set_cons_succ]
            refine takeHYtbfnoflemmneoaa (i := 14) (d := some 101) (v := .int .i64 ((k3 : Int) + 1)) rfl rfl (by kernel_rfl) (by kernel_rfl) (by kernel_rfl) (fun _ _ _ h => h) (Or.inl ⟨by rfl, by intro w hSw; obtain ⟨hS1, hS2, hS3⟩ := hSw; go_simp⟩) hHeld ?_
            simp only [Act.put, List.setIfInBounds_toArray, List.set_cons_zero, List.set_cons_succ]
            refine takeHYtbfnoflemmneoaa (i := 15) (d := some 102) (v := .int .i64 (k3 : Int)) rfl rfl (by kernel_rfl) (by kernel_rfl) (by kernel_rfl) (fun _ _ _ h => h) (Or.inl ⟨by rfl, by intro w hSw; obtain ⟨hS1, hS2, hS3⟩ := hSw; go_simp⟩) hHeld ?_
            simp only [Act.put, List.setIfInBounds_toArray, List.set_cons_zero, List.set_cons_succ]
            refine takeHYtbfnoflemmneoaa (i := 16) (d := some 103) (v := .pointer (some ⟨g1, k3, none⟩)) rfl rfl (by kernel_rfl) (by kernel_rfl) (by kernel_rfl) (fun _ _ _ h => h) (Or.inl ⟨by rfl, by intro w hSw; obtain ⟨hS1, hS2, hS3⟩ := hSw; go_simp⟩) hHeld ?_
            simp only [Act.put, List.setIfInBounds_toArray, List.set_cons_zero, List.set_cons_succ]
            refine takeHYtbfnoflemmneoaa (i := 17) (d := some 104) (v := .int .i64 y) rfl rfl (by kernel_rfl) (by kernel_rfl) (by kernel_rfl) (fun _ _ _ h => h) (Or.inl ⟨by rfl, by intro w hSw; obtain ⟨hS1, hS2, hS3⟩ := hSw; go_simp⟩) hHeld ?_
            simp only [Act.put, List.setIfInBounds_toArray, List.set_cons_zero, List.set_cons_succ]
            refine takeHYtbfnoflemmneoaa (i := 18) (d := some 105) (v := .slice (some ⟨g1, 0, none⟩) n c1) rfl rfl (by kernel_rfl) (by kernel_rfl) (by kernel_rfl) (fun _ _ _ h => h) (Or.inl ⟨by rfl, by intro w hSw; obtain ⟨hS1, hS2, hS3⟩ := hSw; go_simp⟩) hHeld ?_
            simp only [Act.put, List.setIfInBounds_toArray, List.set_cons_zero, List.set_cons_succ]
            refine takeHYtbfnoflemmneoaa (i := 19) (d := some 106) (v := .int .i64 ((k3 : Int) + 1)) rfl rfl (by kernel_rfl) (by kernel_rfl) (by kernel_rfl) (fun _ _ _ h => h) (Or.inl ⟨by rfl, by intro w hSw; obtain ⟨hS1, hS2, hS3⟩ := hSw; go_simp⟩) hHeld ?_
            simp only [Act.put, List.setIfInBounds_toArray, List.set_cons_zero, List.set_cons_succ]
            refine takeHYtbfnoflemmneoaa (i := 20) (d := some 107) (v := .pointer (some ⟨g1, k3 + 1, none⟩)) rfl rfl (by kernel_rfl) (by kernel_rfl) (by kernel_rfl) (fun _ _ _ h => h) (Or.inl ⟨by rfl, by intro w hSw; obtain ⟨hS1, hS2, hS3⟩ := hSw; go_simp⟩) hHeld ?_
            simp only [Act.put, List.setIfInBounds_toArray, List.set_cons_zero, List.set_cons_succ]
            refine takeHYtbfnoflemmneoaa (i := 21) (d := some 108) (v := .int .i64 x) rfl rfl (by kernel_rfl) (by kernel_rfl) (by kernel_rfl) (fun _ _ _ h => h) (Or.inl ⟨by rfl, by intro w hSw; obtain ⟨hS1, hS2, hS3⟩ := hSw; go_simp⟩) hHeld ?_
            simp only [Act.put, List.setIfInBounds_toArray, List.set_cons_zero, List.set_cons_succ]
            refine takeHYtbfnoflemmneoaa (i := 22) (d := some 109) (v := .bool false) rfl rfl (by kernel_rfl) (by kernel_rfl) (by kernel_rfl) (fun _ _ _ h => h) (Or.inl ⟨by rfl, by intro w hSw; obtain ⟨hS1, hS2, hS3⟩ := hSw; go_simp⟩) hHeld ?_
            simp only [Act.put, List.setIfInBounds_toArray, List.set_cons_zero, List.set_cons_succ]
            refine takeHYtbfnoflemmneoaa (i := 23) (d := some 110) (v := .bool false) rfl rfl (by kernel_rfl) (by kernel_rfl) (by kernel_rfl) (fun _ _ _ h => h) (Or.inl ⟨by rfl, by intro w hSw; obtain ⟨hS1, hS2, hS3⟩ := hSw; go_simp⟩) hHeld ?_
            simp only [Act.put, List.setIfInBounds_toArray, List.set_cons_zero, List.set_cons_succ]
            refine takeHYtbfnoflemmneoaa (i := 24) (d := some 111) (v := .bool false) rfl rfl (by kernel_rfl) (by kernel_rfl) (by kernel_rfl) (fun _ _ _ h => h) (Or.inl ⟨by rfl, by intro w hSw; obtain ⟨hS1, hS2, hS3⟩ := hSw; go_simp⟩) hHeld ?_
            simp only [Act.put, List.setIfInBounds_toArray, List.set_cons_zero, List.set_cons_succ]
            refine takeHYtbfnoflemmneoaa (i := 25) (d := some 112) (v := .bool false) rfl rfl (by kernel_rfl) (by kernel_rfl) (by kernel_rfl) (fun _ _ _ h => h) (Or.inl ⟨by rfl, by intro w hSw; obtain ⟨hS1, hS2, hS3⟩ := hSw; go_simp⟩) hHeld ?_
            simp only [Act.put, List.setIfInBounds_toArray, List.set_cons_zero, List.set_cons_succ]
            refine takeHYtbfnoflemmneoaa (i := 26) (d := some 113) (v := .bool true) rfl rfl (by kernel_rfl) (by kernel_rfl) (by kernel_rfl) (fun _ _ _ h => h) (Or.inl ⟨by rfl, by intro w hSw; obtain ⟨hS1, hS2, hS3⟩ := hSw; go_simp⟩) hHeld ?_
            simp only [Act.put, List.setIfInBounds_toArray, List.set_cons_zero, List.set_cons_succ]
            refine takeHYtbfnoflemmneoaa (i := 27) (d := some 114) (v := .bool false) rfl rfl (by kernel_rfl) (by kernel_rfl) (by kernel_rfl) (fun _ _ _ h => h) (Or.inl ⟨by rfl, by intro w hSw; obtain ⟨hS1, hS2, hS3⟩ := hSw; go_simp⟩) hHeld ?_
            simp only [Act.put, List.setIfInBounds_toArray, List.set_cons_zero, List.set_cons_succ]
            refine takeHYtbfnoflemmneoaa (i := 28) (d := some 115) (v := .bool false) rfl rfl (by kernel_rfl) (by kernel_rfl) (by kernel_rfl) (fun _ _ _ h => h) (Or.inl ⟨by rfl, by intro w hSw; obtain ⟨hS1, hS2, hS3⟩ := hSw; go_simp⟩) hHeld ?_
            simp only [Act.put, List.setIfInBounds_toArray, List.set_cons_zero, List.set_cons_succ]
            refine takeHYtbfnoflemmneoaa (i := 29) (d := some 116) (v := .bool false) rfl rfl (by kernel_rfl) (by kernel_rfl) (by kernel_rfl) (fun _ _ _ h => h) (Or.inl ⟨by rfl, by intro w hSw; obtain ⟨hS1, hS2, hS3⟩ := hSw; go_simp⟩) hHeld ?_
            simp only [Act.put, List.setIfInBounds_toArray, List.set_cons_zero, List.set_cons_succ]
            refine takeHYtbfnoflemmneoaa (i := 30) (d := some 117) (v := .string (nm x)) rfl rfl (by kernel_rfl) (by kernel_rfl) (by kernel_rfl) (fun _ _ _ h => h) (Or.inl ⟨by rfl, by intro w hSw; obtain ⟨hS1, hS2, hS3⟩ := hSw; go_simp⟩) hHeld ?_
            simp only [Act.put, List.setIfInBounds_toArray, List.set_cons_zero, List.set_cons_succ]
            refine takeHYtbfnoflemmneoaa (i := 31) (d := some 118) (v := .slice (some ⟨g1, 0, none⟩) n c1) rfl rfl (by kernel_rfl) (by kernel_rfl) (by kernel_rfl) (fun _ _ _ h => h) (Or.inl ⟨by rfl, by intro w hSw; obtain ⟨hS1, hS2, hS3⟩ := hSw; go_simp⟩) hHeld ?_
            simp only [Act.put, List.setIfInBounds_toArray, List.set_cons_zero, List.set_cons_succ]
            refine takeHYtbfnoflemmneoaa (i := 32) (d := some 119) (v := .int .i64 ((k3 : Int) + 1)) rfl rfl (by kernel_rfl) (by kernel_rfl) (by kernel_rfl) (fun _ _ _ h => h) (Or.inl ⟨by rfl, by intro w hSw; obtain ⟨hS1, hS2, hS3⟩ := hSw; go_simp⟩) hHeld ?_
            simp only [Act.put, List.setIfInBounds_toArray, List.set_cons_zero, List.set_cons_succ]
            refine takeHYtbfnoflemmneoaa (i := 33) (d := some 120) (v := .pointer (some ⟨g1, k3 + 1, none⟩)) rfl rfl (by kernel_rfl) (by kernel_rfl) (by kernel_rfl) (fun _ _ _ h => h) (Or.inl ⟨by rfl, by intro w hSw; obtain ⟨hS1, hS2, hS3⟩ := hSw; go_simp⟩) hHeld ?_
            simp only [Act.put, List.setIfInBounds_toArray, List.set_cons_zero, List.set_cons_succ]
            refine takeHYtbfnoflemmneoaa (i := 34) (d := some 121) (v := .int .i64 x) rfl rfl (by kernel_rfl) (by kernel_rfl) (by kernel_rfl) (fun _ _ _ h => h) (Or.inl ⟨by rfl, by intro w hSw; obtain ⟨hS1, hS2, hS3⟩ := hSw; go_simp⟩) hHeld ?_
            simp only [Act.put, List.setIfInBounds_toArray, List.set_cons_zero, List.set_cons_succ]
            refine wpAnyH_ready (rs := [35]) (by kernel_rfl) (by simp) ?_
            refine AllReadyH.cons (o := { dst := some 122, op := Op.call { callee := Callee.value (Operand.func 21), args := #[Operand.tmp 121], argTypes := #[2] }, type := 9, pos := "law.go:139", after := #[{ on := 34, ground := Ground.data }, { on := 29, ground := Ground.chain }, { on := 29, ground := Ground.guard }], guard := some (29, false) }) rfl (fun K hK => ?_) AllReadyH.nil
            go_simp
            refine (name_any x _).mono ?_
            rintro e w7 ⟨rfl, hk7⟩
            have S9 := Lib.hid (S8.out.kept hk7)
            have d3 := HG1.out _ S9.out
            have d4 := HG2.out _ S9.out
            have d6 := HG3.out _ S9.out
            clear hk7
            refine hK.out _ _ ⟨d3, d4, d6⟩ (fun hHeld2 => ?_)
            try simp only [Act.put, List.setIfInBounds_toArray, List.set_cons_zero, List.set_cons_succ]
            clear hK K hHeld d1 d2 d5
            refine takeHYtbfnoflemmneoaa (i := 36) (d := some 123) (v := .bool false) rfl rfl (by kernel_rfl) (by kernel_rfl) (by kernel_rfl) (fun _ _ _ h => h) (Or.inl ⟨by rfl, by intro w hSw; obtain ⟨hS1, hS2, hS3⟩ := hSw; go_simp⟩) hHeld2 ?_
            simp only [Act.put, List.setIfInBounds_toArray, List.set_cons_zero, List.set_cons_succ]
            refine takeHYtbfnoflemmneoaa (i := 37) (d := some 124) (v := .bool false) rfl rfl (by kernel_rfl) (by kernel_rfl) (by kernel_rfl) (fun _ _ _ h => h) (Or.inl ⟨by rfl, by intro w hSw; obtain ⟨hS1, hS2, hS3⟩ := hSw; go_simp⟩) hHeld2 ?_
            simp only [Act.put, List.setIfInBounds_toArray, List.set_cons_zero, List.set_cons_succ]
            refine wpAnyH_done (by kernel_rfl) ?_ _
            clear hHeld2
            go_wp2
            go_roundw
            case rel => exact ⟨k3 + 1 + 1, by omega, by go_num, S9⟩
            case measure => simp [intOf]; omega
        · obtain rfl : k2 = n := by omega
          go_wp2_with fail
          go_loopw [14] (fun i wr => ∃ k4 : Nat, k4 ≤ k ∧ i = .int .i64 k4 ∧ Hid (Sep W wr [RowOb 2 (.slice (some ⟨g2, 0, none⟩) k2 c2) k2 (kt.map (Value.int .i64)), RowOb 2 (.slice (some ⟨g1, 0, none⟩) k2 c1) k2 (kt.map (Value.int .i64)), ObLS p kt (kt.map nm), ObLS t kt (kt.map nm)])) (fun i _ => k - (intOf i).toNat)
          case atStart => exact ⟨0, Nat.zero_le _, rfl, S7⟩
          case round =>
            obtain ⟨k4, hk4, rfl, S8⟩ := hrel
            clear S7
            by_cases hlt4 : k4 < k
            · obtain ⟨b, off, rfl, hc⟩ := HC.out.resolve_left (by omega)
              have ck := S8.out.old (hc k4 hlt4)
              obtain ⟨y, hy⟩ : ∃ y, z k4 = y := ⟨_, rfl⟩
              rw [hy] at ck
              have hym : y ∈ kt := (HM.out.2.2 y).2 ⟨k4, hlt4, hy⟩
              obtain ⟨i, hi⟩ := List.mem_iff_getElem?.1 hym
              have GE := Lib.hid (sGetLS (x := y) (v := nm y) S8.out (List.Mem.tail _ (List.Mem.tail _ (List.Mem.head _))) hk1 HM.out.1 hym (by rw [pos_of_at strictL HM.out.1 hi, List.getElem?_map, hi]; rfl))
              clear hy hc hym hi
              go_wp2_with fail
              go_at_call 23
              refine GE.out.mono ?_
              rintro e w6 ⟨rfl, S⟩
              have S9 := Lib.hid S
              clear S S8 GE ck
              go_wp2
              go_roundw
              case rel => exact ⟨k4 + 1, by omega, by go_num, S9⟩
              case measure => simp [intOf]; omega
            · go_wp2
              go_ret
              exact ⟨rfl, S8.out.1⟩

end Go.Proofs.Ytbfnoflemmneoaa
