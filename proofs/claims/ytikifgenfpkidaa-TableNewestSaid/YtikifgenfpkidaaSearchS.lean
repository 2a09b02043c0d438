/-
  No statement: slices.BinarySearch at this seat's []9 whose elements rise: it returns the place and whether the element is there; memory is as it was.
-/
import Derived.Test.YtikifgenfpkidaaBase
import Derived.Test.YtikifgenfpkidaaKeys
import Derived.Test.YtikifgenfpkidaaProg
import Derived.Deep.LoopGhost
namespace Go.Proofs.Ytikifgenfpkidaa
open Go.RowKit

set_option maxHeartbeats 1000000 in
theorem cmpNaNS (x : ByteArray) (w : World) : Calls Try.prog 54 #[.string x] w fun e w' => e = .returned (.bool false) ∧ w = w' := by
  go_enter Try.func54, Try.ntmps54
  go_wp2
  go_ret
  exact ⟨by simp, rfl⟩

set_option maxHeartbeats 1000000 in
theorem slcNaNS (x : ByteArray) (w : World) : Calls Try.prog 76 #[.string x] w fun e w' => e = .returned (.bool false) ∧ w = w' := by
  go_enter Try.func76, Try.ntmps76
  go_wp2
  go_ret
  exact ⟨by simp, rfl⟩

set_option maxHeartbeats 1000000 in
theorem lessS (x y : ByteArray) (b : Bool) (h : lsS x y = b) (w : World) : Calls Try.prog 75 #[.string x, .string y] w fun e w' => e = .returned (.bool b) ∧ w = w' := by
  subst h
  go_enter Try.func75, Try.ntmps75
  go_wp2_with (go_at_call 54; refine (cmpNaNS _ _).mono ?_; rintro e w' ⟨rfl, rfl⟩)
  go_ret
  exact ⟨rfl, rfl⟩

theorem endS {ks : List ByteArray} (hr : Rising lsS ks) {x y : ByteArray} {p : Nat} (hp : pos lsS ks x = p) (hy : ks[p]? = some y) (b : Bool) (hb : decide (y = x) = b) : b = has ks x := by
  rw [found_iff strictS hr hp hy, hb]

set_option maxHeartbeats 4000000 in
set_option maxRecDepth 1000000 in
/-- At a row that rises, of at least one element. -/
theorem searchS_some (g n cap : Nat) (ks : List ByteArray) (x : ByteArray) (w : World) (hn : n ≤ 1000000) (hl : ks.length = n) (hr : Rising lsS ks) (hc : ∀ j v, (ks.map (Value.string))[j]? = some v → w.cell? ⟨g, j, none⟩ = some v) :
    Calls Try.prog 58 #[.slice (some ⟨g, 0, none⟩) n cap, .string x] w fun e w' =>
      e = .returned (.tuple #[.int .i64 (pos lsS ks x : Nat), .bool (has ks x)]) ∧ ∃ q, w' = w.drewN q := by
  have hS := search_pos strictS hr x
  rw [hl] at hS
  obtain ⟨I, hI⟩ : ∃ I, pos lsS ks x = I := ⟨_, rfl⟩
  obtain ⟨B, hB⟩ : ∃ B, B = has ks x := ⟨_, rfl⟩
  have hIn : I ≤ n := by rw [← hI, ← hl]; exact pos_le _ _
  rw [hI] at hS
  rw [hI, ← hB]
  have HE := Lib.hid (p := ∀ y b, ks[I]? = some y → decide (y = x) = b → b = B) (fun y b hy hb => by rw [hB]; exact endS hr hI hy b hb)
  have HN := Lib.hid (p := n ≤ I → false = B) (fun h => by rw [hB]; exact (found_none strictS hr hI (by omega)).symm)
  have HC := Lib.hid (p := ∀ t, t < n → w.cell? ⟨g, t, none⟩ = some (.string (ks.getD t x))) (fun t ht => hc t _ (by rw [List.getElem?_map, List.getD_eq_getElem?_getD, List.getElem?_eq_getElem (by omega)]; rfl))
  have HG := Lib.hid (p := ∀ t, t < n → ks[t]? = some (ks.getD t x)) (fun t ht => by rw [List.getD_eq_getElem?_getD, List.getElem?_eq_getElem (by omega)]; rfl)
  have HS := Lib.hid hS
  clear hS hI hB hc hr hl
  go_enter Try.func58, Try.ntmps58
  go_wp2
  go_loopg [7, 8] n (fun g s7 s8 wr => ∃ lo hi q : Nat, s7 = .int .i64 lo ∧ s8 = .int .i64 hi ∧ lo ≤ hi ∧ hi ≤ n ∧ hi - lo ≤ g ∧ wr = w.drewN q ∧ Hid (Lib.bsGo (fun t => lsS (ks.getD t x) x) g lo hi = I))
  case atStart => exact ⟨0, n, 0, rfl, rfl, Nat.zero_le _, Nat.le_refl _, by omega, rfl, HS⟩
  case round =>
    obtain ⟨lo, hi, q, rfl, rfl, hlh, hin, hg, rfl, hb⟩ := hrel
    by_cases hlt : lo < hi
    · have cm := HC.out ((lo + hi) / 2) (by omega)
      obtain ⟨g', rfl⟩ : ∃ g', gk = g' + 1 := ⟨gk - 1, by omega⟩
      have hb1 := hb.out
      clear hb
      simp only [Lib.bsGo, hlt, if_true] at hb1
      obtain ⟨y, hy⟩ : ∃ y, ks.getD ((lo + hi) / 2) x = y := ⟨_, rfl⟩
      rw [hy] at cm
      simp only [hy] at hb1
      clear hy
      cases hyx : lsS y x <;> simp only [hyx, if_true, Bool.false_eq_true, if_false] at hb1
      · have HB := Lib.hid hb1
        have HY := Lib.hid hyx
        clear hb1 hyx
        go_wp2_with (first | (go_at_call 75; refine (lessS _ _ _ HY.out _).mono ?_; rintro e w' ⟨rfl, rfl⟩) | (go_at_call 76; refine (slcNaNS _ _).mono ?_; rintro e w' ⟨rfl, rfl⟩))
        go_roundg ((lo + hi) / 2 - lo)
        case measure => omega
        case rel => exact ⟨lo, (lo + hi) / 2, _, rfl, by rw [show ((lo : Int) + (hi : Int)) / 2 = (((lo + hi) / 2 : Nat) : Int) by omega], by omega, by omega, Nat.le_refl _, rfl, Lib.hid (by rw [← HB.out]; exact Lib.bsGo_fuel _ _ _ _ _ (Nat.le_refl _) (by omega))⟩
      · have HB := Lib.hid hb1
        have HY := Lib.hid hyx
        clear hb1 hyx
        go_wp2_with (first | (go_at_call 75; refine (lessS _ _ _ HY.out _).mono ?_; rintro e w' ⟨rfl, rfl⟩) | (go_at_call 76; refine (slcNaNS _ _).mono ?_; rintro e w' ⟨rfl, rfl⟩))
        go_roundg (hi - ((lo + hi) / 2 + 1))
        case measure => omega
        case rel => exact ⟨(lo + hi) / 2 + 1, hi, _, by rw [show ((lo : Int) + (hi : Int)) / 2 + 1 = (((lo + hi) / 2 + 1 : Nat) : Int) by omega], rfl, by omega, hin, Nat.le_refl _, rfl, Lib.hid (by rw [← HB.out]; exact Lib.bsGo_fuel _ _ _ _ _ (Nat.le_refl _) (by omega))⟩
    · obtain rfl : hi = lo := by omega
      obtain rfl : hi = I := by
        rw [← hb.out]
        cases gk <;> simp [Lib.bsGo]
      clear hb HS
      by_cases hn : hi < n
      · have cl := HC.out hi hn
        have hy := HG.out hi hn
        obtain ⟨y, hyd⟩ : ∃ y, ks.getD hi x = y := ⟨_, rfl⟩
        rw [hyd] at cl hy
        clear hyd
        have HY := Lib.hid hy
        clear hy
        by_cases hyx : y = x
        · subst hyx
          have HB := HE.out y true HY.out (by simp)
          subst HB
          clear HE HN HC HG
          go_wp2_with (first | (go_at_call 76; refine (slcNaNS _ _).mono ?_; rintro e w' ⟨rfl, rfl⟩))
          go_ret2
          exact ⟨rfl, _, rfl⟩
        · have hne : (y.toList == x.toList) = false := by
            rw [beq_eq_false_iff_ne]; intro h; exact hyx (bytes_eq h)
          have HB := HE.out y false HY.out (by simpa using hyx)
          subst HB
          have HX := Lib.hid hyx
          clear HE HN HC HG hyx
          go_wp2_with (first | (go_at_call 76; refine (slcNaNS _ _).mono ?_; rintro e w' ⟨rfl, rfl⟩))
          all_goals (go_ret2; exact ⟨rfl, _, rfl⟩)
      · have HB := HN.out (by omega)
        subst HB
        clear HE HN HC HG
        go_wp2_with (first | (go_at_call 76; refine (slcNaNS _ _).mono ?_; rintro e w' ⟨rfl, rfl⟩))
        go_ret2
        exact ⟨rfl, _, rfl⟩

set_option maxHeartbeats 1000000 in
set_option maxRecDepth 1000000 in
theorem searchS_none (x : ByteArray) (w : World) :
    Calls Try.prog 58 #[.slice none 0 0, .string x] w fun e w' => e = .returned (.tuple #[.int .i64 (0 : Nat), .bool false]) ∧ w' = w := by
  go_enter Try.func58, Try.ntmps58
  go_wp2
  go_loop [7, 8] (fun s7 s8 => s7 = .int .i64 0 ∧ s8 = .int .i64 0) (fun _ _ => 0)
  case atStart => exact ⟨rfl, rfl⟩
  case round =>
    obtain ⟨rfl, rfl⟩ := hrel
    go_wp2
    go_ret2
    exact ⟨rfl, rfl⟩

/-- slices.BinarySearch of an owned slice that rises. -/
theorem searchS (v : Value) (n : Nat) (ks : List ByteArray) (x : ByteArray) (w : World) (hn : n ≤ 1000000) (ho : w.ownsRow 0 9 1 v n (ks.map (Value.string))) (hr : Rising lsS ks) :
    Calls Try.prog 58 #[v, .string x] w fun e w' =>
      e = .returned (.tuple #[.int .i64 (pos lsS ks x : Nat), .bool (has ks x)]) ∧ ∃ q, w' = w.drewN q := by
  rcases owns_cases ho with ⟨rfl, rfl, hx⟩ | ⟨g, cap, cur, rfl, hob, hg, hnc, hm, hs, ht, hx, _⟩
  · obtain rfl : ks = [] := List.map_eq_nil_iff.1 hx
    refine (searchS_none x w).mono fun e w' ⟨he, hw⟩ => ⟨he, 0, hw⟩
  · exact searchS_some g n cap ks x w hn (by simpa using hx) hr (fun j v hj => owns_cell hg ht hj)

end Go.Proofs.Ytikifgenfpkidaa
