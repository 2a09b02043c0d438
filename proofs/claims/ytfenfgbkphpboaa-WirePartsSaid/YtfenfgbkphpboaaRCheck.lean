/-
  No statement: the contract of the document's own CheckValue.
-/
import Derived.Test.YtfenfgbkphpboaaVCheck
namespace Go.Proofs.Ytfenfgbkphpboaa
open Go.RowKit

set_option maxRecDepth 100000 in
set_option maxHeartbeats 2000000 in
theorem rCheck_any (k n : Int) (s : ByteArray) (hm : s.size ≤ 281474976710656) (a : Option Addr) (len cap : Nat) (z : Nat → Int) (w : World) (hr : Reads w a len z) :
    Calls Try.prog 57 #[val k n s (.slice a len cap)] w fun e w' => e = .returned (.int .i64 (errV k s len z)) ∧ Below w.heap.size w w' := by
  unfold val
  by_cases h1 : k = 1
  · subst h1
    go_enter Try.func57, Try.ntmps57
    go_wp2_with fail
    go_ret
    exact ⟨rfl, (Below.refl _ _).alloc (Nat.le_refl _) _⟩
  have h1' : (k == 1) = false := by simpa using h1
  by_cases h2 : k = 2
  · subst h2
    have hlen : s.data.toList.length = s.size := by simp
    rw [show errV 2 s len z = errT s.data.toList from rfl]
    by_cases hl : 64 < s.size
    · have R := Lib.hid (show errT s.data.toList = 4 by unfold errT; rw [hlen, if_pos hl])
      clear hr hlen h1 h1'
      go_enter Try.func57, Try.ntmps57
      go_wp2
      go_ret
      exact ⟨ret_i64 R.out.symm, (Below.refl _ _).alloc (Nat.le_refl _) _⟩
    · have R := Lib.hid (show errT s.data.toList = if s.data.toList.any badB then 2 else 0 by unfold errT; rw [hlen, if_neg hl])
      clear hlen hr h1 h1'
      go_enter Try.func57, Try.ntmps57
      go_wp2
      go_loop [3] (fun i => ∃ k : Nat, k ≤ s.size ∧ i = .int .i64 k ∧ Hid (∀ j (hj : j < s.size), j < k → badB s[j] = false)) (fun i => s.size - (intOf i).toNat)
      case atStart => exact ⟨0, Nat.zero_le _, rfl, Lib.hid (fun j _ h => by omega)⟩
      case round =>
        obtain ⟨k, hk, rfl, hok⟩ := hrel
        by_cases hlt : k < s.size
        · obtain ⟨c, hc⟩ : ∃ c : Int, (s[k].toNat : Int) = c := ⟨_, rfl⟩
          have hb : badB s[k] = (decide (c < 32) || decide (126 < c) || decide (c = 34)) := by unfold badB; rw [hc]
          have hcase : c < 32 ∨ 126 < c ∨ c = 34 ∨ (32 ≤ c ∧ c ≤ 126 ∧ ¬ c = 34) := by omega
          rcases hcase with h1 | h1 | h1 | ⟨h1, h2, h3⟩
          · have h2 := h1
            have R2 := Lib.hid (R.out.trans (by rw [if_pos (anyT_yes hlt (by rw [hb]; first | (simp; done) | (simp; omega)))]))
            clear hb R hok
            go_wp2
            go_ret
            exact ⟨ret_i64 R2.out.symm, (Below.refl _ _).alloc (Nat.le_refl _) _⟩
          · have h2 : ¬ c < 32 := by omega
            have R2 := Lib.hid (R.out.trans (by rw [if_pos (anyT_yes hlt (by rw [hb]; first | (simp; done) | (simp; omega)))]))
            clear hb R hok
            go_wp2
            go_ret
            exact ⟨ret_i64 R2.out.symm, (Below.refl _ _).alloc (Nat.le_refl _) _⟩
          · subst h1
            have R2 := Lib.hid (R.out.trans (by rw [if_pos (anyT_yes hlt (by rw [hb]; first | (simp; done) | (simp; omega)))]))
            clear hb R hok
            go_wp2
            go_ret
            exact ⟨ret_i64 R2.out.symm, (Below.refl _ _).alloc (Nat.le_refl _) _⟩
          · have hok1 := Lib.hid (show ∀ j (hj : j < s.size), j < k + 1 → badB s[j] = false from fun j hj hjk => by
              by_cases e : j = k
              · subst e; rw [hb]; simp; omega
              · exact hok.out j hj (by omega))
            have h4 : (c == 34) = false := by simpa using h3
            clear hb h3
            go_wp2
            go_round
            case rel => exact ⟨k + 1, by omega, by go_num, hok1⟩
            case measure => simp [intOf]; omega
        · go_wp2
          go_ret
          exact ⟨ret_i64 (by rw [R.out, anyT fun j hj => hok.out j hj (by omega)]; rfl), (Below.refl _ _).alloc (Nat.le_refl _) _⟩
  have h2' : (k == 2) = false := by simpa using h2
  by_cases h3 : k = 3
  · subst h3
    rw [show errV 3 s len z = errL (upTo z len) from rfl]
    obtain ⟨hmax, hr⟩ := hr
    unfold maxLen at hmax
    have hlen := upTo_len z len
    by_cases hl : 16 < len
    · have R := Lib.hid (show errL (upTo z len) = 4 by unfold errL; rw [hlen, if_pos hl])
      clear hr hlen h1 h1' h2 h2'
      go_enter Try.func57, Try.ntmps57
      go_wp2
      go_ret
      exact ⟨ret_i64 R.out.symm, (Below.refl _ _).alloc (Nat.le_refl _) _⟩
    · have R := Lib.hid (show errL (upTo z len) = if risesB (upTo z len) then 0 else 2 by unfold errL; rw [hlen, if_neg hl])
      clear hlen h1 h1' h2 h2'
      obtain ⟨W0, hW0⟩ : ∃ W0, w.alloc (.cells #[.int .i64 3, .int .i64 n, .string s, .slice a len cap] 43) = W0 := ⟨_, rfl⟩
      have hbl : Below w.heap.size w W0 := by rw [← hW0]; exact (Below.refl _ _).alloc (Nat.le_refl _) _
      have BL := Lib.hid hbl
      rcases hr with rfl | ⟨b, off, rfl, hc⟩
      · clear hbl hW0
        go_enter Try.func57, Try.ntmps57
        go_wp2
        go_loop [4] (fun i => i = .int .i64 1) (fun _ => 0)
        case atStart => rfl
        case round =>
          subst hrel
          go_wp2
          go_ret
          exact ⟨ret_i64 (by rw [R.out]; rfl), (Below.refl _ _).alloc (Nat.le_refl _) _⟩
      · have hcc := Lib.hid (show ∀ j, j < len → W0.cell? ⟨b, off + j, none⟩ = some (.int .i64 (z j)) from fun j hj => (hbl.cell (p := ⟨b, off + j, none⟩) (World.block_lt_of_cell? w _ (hc j hj))).trans (hc j hj))
        subst hW0
        clear hc hbl
        go_enter Try.func57, Try.ntmps57
        go_wp2
        go_loopw [4] (fun i wr => ∃ k : Nat, 1 ≤ k ∧ (k ≤ len ∨ k = 1) ∧ i = .int .i64 k ∧ Hid (∀ j, j + 1 < k → j + 1 < len → z j < z (j + 1)) ∧ Hid (∃ n0, wr = (w.alloc (.cells #[.int .i64 3, .int .i64 n, .string s, .slice (some ⟨b, off, none⟩) len cap] 43)).drewN n0)) (fun i _ => len - (intOf i).toNat)
        case atStart => exact ⟨1, Nat.le_refl _, .inr rfl, rfl, Lib.hid (fun j h => by omega), Lib.hid ⟨0, rfl⟩⟩
        case round =>
          obtain ⟨k, h1, hk, rfl, hok, hw⟩ := hrel
          obtain ⟨n0, rfl⟩ := hw.out
          by_cases hlt : k < len
          · have c1 := hcc.out k hlt
            have c0 := hcc.out (k - 1) (by omega)
            have e1 : IntKind.i64.wrap ((k : Int) - 1) = (k : Int) - 1 := IntWalk.i64_in _ (by omega)
            have e2 : 0 ≤ (k : Int) - 1 := by omega
            have e3 : ((k : Int) - 1).toNat = k - 1 := by omega
            have e4 : (k : Int) - 1 < len := by omega
            by_cases hz : z k ≤ z (k - 1)
            · have hno := Lib.hid (show ¬ risesB (upTo z len) = true from fun h => by
                have := rises_upTo.1 h (k - 1) (by omega)
                rw [show k - 1 + 1 = k by omega] at this
                omega)
              go_wp2
              go_quiet (fail)
              clear e1 e2 e3 e4
              go_wp2
              go_ret
              exact ⟨ret_i64 (by rw [R.out, if_neg hno.out]), BL.out.trans ⟨rfl, rfl, rfl, Nat.le_refl _, fun _ _ => rfl⟩⟩
            · have hok1 := Lib.hid (show ∀ j, j + 1 < k + 1 → j + 1 < len → z j < z (j + 1) from fun j hj hl => by
                by_cases e : j + 1 = k
                · rw [e, show j = k - 1 by omega]; omega
                · exact hok.out j (by omega) hl)
              go_wp2
              go_quiet (fail)
              clear e1 e2 e3 e4
              go_wp2
              go_roundw
              case rel => exact ⟨k + 1, by omega, .inl (by omega), by go_num, hok1, Lib.hid ⟨_, rfl⟩⟩
              case measure => simp [intOf]; omega
          · go_wp2
            go_ret
            exact ⟨ret_i64 (by rw [R.out, if_pos (rises_upTo.2 fun j hj => hok.out j (by omega) hj)]), BL.out.trans ⟨rfl, rfl, rfl, Nat.le_refl _, fun _ _ => rfl⟩⟩
  have h3' : (k == 3) = false := by simpa using h3
  have R := Lib.hid (show errV k s len z = 7 by unfold errV; rw [if_neg h1, if_neg h2, if_neg h3])
  clear h1 h2 h3 hr
  go_enter Try.func57, Try.ntmps57
  go_wp2_with fail
  go_ret
  exact ⟨ret_i64 R.out.symm, (Below.refl _ _).alloc (Nat.le_refl _) _⟩

end Go.Proofs.Ytfenfgbkphpboaa
