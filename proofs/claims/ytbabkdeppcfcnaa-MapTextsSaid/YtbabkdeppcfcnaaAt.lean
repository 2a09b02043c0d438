/-
  No statement: cantonlaw1.at: a key's place in a rising row of texts, and whether it is there; memory is as it was.
-/
import Derived.Test.YtbabkdeppcfcnaaBase
import Derived.Test.YtbabkdeppcfcnaaKeys
import Derived.Test.YtbabkdeppcfcnaaArgs
import Derived.Test.YtbabkdeppcfcnaaProg
import Derived.Deep.LoopGhost
import Derived.Deep.QuietTactic
import Derived.BigQuiet
namespace Go.Proofs.Ytbabkdeppcfcnaa
open Go.RowKit

set_option maxHeartbeats 2000000 in
set_option maxRecDepth 100000 in
theorem at_some (g n cap : Nat) (ks : List ByteArray) (x : ByteArray) (w : World) (hn : n ≤ 1000000) (hl : ks.length = n) (hr : Rising lsS ks) (hc : ∀ j v, (ks.map Value.string)[j]? = some v → w.cell? ⟨g, j, none⟩ = some v) :
    Calls Try.prog 6 #[.slice (some ⟨g, 0, none⟩) n cap, .string x] w fun e w' =>
      e = .returned (.tuple #[.int .i64 (pos lsS ks x : Nat), .bool (has ks x)]) ∧ ∃ q, w' = w.drewN q := by
  obtain ⟨I, hI⟩ : ∃ I, pos lsS ks x = I := ⟨_, rfl⟩
  obtain ⟨B, hB⟩ : ∃ B, B = has ks x := ⟨_, rfl⟩
  have hIn : I ≤ n := by rw [← hI, ← hl]; exact pos_le _ _
  have HC := Lib.hid (p := ∀ t, t < n → ∃ y, ks[t]? = some y ∧ w.cell? ⟨g, t, none⟩ = some (.string y)) (fun t ht => ⟨ks[t]'(by omega), List.getElem?_eq_getElem (by omega), hc t _ (by rw [List.getElem?_map, List.getElem?_eq_getElem (by omega)]; rfl)⟩)
  have HL := Lib.hid (p := ∀ t y, t < I → ks[t]? = some y → lsS y x = true) (fun t y ht hy => pos_before ks x t y (by rw [hI]; exact ht) hy)
  have HA := Lib.hid (p := ∀ y, ks[I]? = some y → lsS y x = false ∧ B = decide (y = x)) (fun y hy => ⟨pos_at ks x y (by rw [hI]; exact hy), by rw [hB]; exact found_iff strictS hr hI hy⟩)
  have HN := Lib.hid (p := n ≤ I → B = false) (fun h => by rw [hB]; exact found_none strictS hr hI (by omega))
  rw [hI, ← hB]
  clear hI hB hc hr hl
  go_enter Try.func6, Try.ntmps6
  go_wp2
  go_loop [6] (fun i => ∃ k : Nat, k ≤ I ∧ i = .int .i64 k) (fun i => I - (intOf i).toNat)
  case atStart => exact ⟨0, Nat.zero_le _, rfl⟩
  case round =>
    obtain ⟨k, hk, rfl⟩ := hrel
    by_cases hkn : k < n
    · obtain ⟨y, hy, cy⟩ := HC.out k hkn
      by_cases hki : k < I
      · have hlt : Op.bytesLess y.toList x.toList = true := HL.out k y hki hy
        clear hy
        go_wp2
        go_round
        case rel => exact ⟨k + 1, by omega, by go_num⟩
        case measure => simp [intOf]; omega
      · obtain rfl : k = I := by omega
        obtain ⟨h1, h2⟩ := HA.out y hy
        have hlt : Op.bytesLess y.toList x.toList = false := h1
        clear hy h1
        by_cases hyx : y = x
        · subst hyx
          have hBt : B = true := by rw [h2]; simp
          subst hBt
          clear h2 HA HN HL
          go_wp2
          go_quiet (fail)
          go_wp2
          go_ret2
          exact ⟨rfl, _, rfl⟩
        · have hBf : B = false := by rw [h2]; simp [hyx]
          subst hBf
          have hne := text_ne hyx
          clear h2 HA HN HL hyx
          go_wp2
          go_quiet (fail)
          go_wp2
          go_ret2
          exact ⟨rfl, _, rfl⟩
    · obtain rfl : k = I := by omega
      have hBf := HN.out (by omega)
      subst hBf
      have hd : decide ((k : Int) < (n : Int)) = false := decide_eq_false (by omega)
      have hd2 : decide (k < n) = false := decide_eq_false hkn
      clear HA HN HL
      go_wp2
      go_quiet (fail)
      go_wp2
      go_ret2
      exact ⟨rfl, _, rfl⟩

set_option maxHeartbeats 1000000 in
theorem at_none (x : ByteArray) (w : World) :
    Calls Try.prog 6 #[.slice none 0 0, .string x] w fun e w' => e = .returned (.tuple #[.int .i64 (0 : Nat), .bool false]) ∧ ∃ q, w' = w.drewN q := by
  go_enter Try.func6, Try.ntmps6
  go_wp2
  go_loop [6] (fun i => i = .int .i64 0) (fun _ => 0)
  case atStart => rfl
  case round =>
    subst hrel
    have hd : decide ((0 : Int) < 0) = false := rfl
    go_wp2
    go_quiet (fail)
    go_wp2
    go_ret2
    exact ⟨rfl, _, rfl⟩

theorem at_any {v : Value} {n : Nat} {ks : List ByteArray} (x : ByteArray) (w : World) (hn : n ≤ 1000000) (ho : w.ownsRow 0 9 1 v n (ks.map Value.string)) (hr : Rising lsS ks) :
    Calls Try.prog 6 #[v, .string x] w fun e w' => e = .returned (.tuple #[.int .i64 (pos lsS ks x : Nat), .bool (has ks x)]) ∧ ∃ q, w' = w.drewN q := by
  rcases owns_cases ho with ⟨rfl, rfl, hx⟩ | ⟨g, cap, cur, rfl, hob, hg, hnc, hm, hs, ht, hx, _⟩
  · obtain rfl : ks = [] := List.map_eq_nil_iff.1 hx
    exact at_none x w
  · exact at_some g n cap ks x w hn (by simpa using hx) hr (fun j v hj => owns_cell hg ht hj)

end Go.Proofs.Ytbabkdeppcfcnaa
