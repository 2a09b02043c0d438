/-
  No statement: the walk of the law SealTurned.
-/
import Derived.Test.YtnjfpgnhmfankaaCTurn
import Derived.Test.YtnjfpgnhmfankaaCKnownW
namespace Go.Proofs.Ytnjfpgnhmfankaa
open Go.RowKit

theorem sealOut {w w' : World} {l : List UInt8} {e : Ending} (h : OutB w (sealB l) e w') (m : Nat) (hm : m = (sealB l).length) : ∃ a c, e = .returned (.slice a m c) ∧ OwnB w' w.heap.size (.slice a m c) (sealB l) ∧ Below w.heap.size w w' := by
  subst hm; exact h

/-- Open of bytes of any length from four on. -/
theorem openT (X : List UInt8) (a : Option Addr) (c m : Nat) (hX : X.length = m) (h4 : 4 ≤ m) (hm : m ≤ 100000000000) (w : World) (h : BR w a c X) : Calls Try.prog 25 #[.slice a m c] w (OpenPost w (X.take (m - 4)) (X.drop (m - 4))) := by
  obtain ⟨n, rfl⟩ : ∃ n, m = n + 4 := ⟨m - 4, by omega⟩
  exact open_any a n c _ _ (by rw [List.length_take]; omega) (by rw [List.length_drop]; omega) (by omega) w (by rw [List.take_append_drop]; exact h)

set_option maxRecDepth 100000 in
set_option maxHeartbeats 4000000 in
theorem sealTurned_walk (a : Option Addr) (c : Nat) (l : List UInt8) (at' t : Nat) (hat : at' < 65536) (ht : t < 4294967296) (w : World) (h : BR w a c l) :
    Calls Try.prog 6 #[.slice a l.length c, .int .u16 at', .int .u32 t] w fun e w' => e = .returned (.bool true) ∧ Below w.heap.size w w' := by
  obtain ⟨i0, hi, hz0, hz1, hz2⟩ := info_parts infoB
  have und := undB
  have hll : l.length ≤ 9223372036854775807 := by have := h.1; have := h.2.1; unfold maxLen at this; omega
  have H := Lib.hid h
  clear h
  go_enter Try.func6, Try.ntmps6
  go_wp2_with fail
  refine (known_any w).mono ?_
  rintro e w1 ⟨rfl, hb1⟩
  have B1 := Lib.hid hb1
  clear hb1
  by_cases hl : 1000 < l.length
  · go_wp2_with fail
    go_ret
    exact ⟨rfl, B1.out⟩
  by_cases h0 : t = 0
  · subst h0
    go_wp2_with fail
    go_ret
    exact ⟨rfl, B1.out⟩
  have h0' : ((t : Int) == 0) = false := by rw [beq_eq_false_iff_ne]; omega
  go_wp2_with fail
  refine (seal_any a c l (by omega) w1 (H.out.kept B1.out)).mono ?_
  rintro e w2 hP
  obtain ⟨m, hm⟩ : ∃ m, m = (sealB l).length := ⟨_, rfl⟩
  obtain ⟨a2, c2, rfl, ho, hb⟩ := sealOut hP m hm
  have hmb : m = l.length + 4 := by rw [hm, sealB_len]
  have hm4 : 4 ≤ m := by omega
  have hm5 : m ≤ 1004 := by omega
  have HM := Lib.hid hm
  have O2 := Lib.hid ho
  have B2 := Lib.hid (B1.out.trans (hb.mono B1.out.size))
  have F3 := Lib.hid (p := From (w2.alloc (.cells #[] 5)) (.slice a2 m c2) m (bC (sealB l))) (by
    have h1 : BR w2 a2 c2 (sealB l) := by rw [hm] at ho; exact ho.br
    rw [hm]; exact (h1.kept (below_new w2 _)).from)
  have OA := Lib.hid (own_new w2)
  have BA := Lib.hid (B2.out.alloc B2.out.size (.cells #[] 5))
  obtain ⟨k, hk, hk4⟩ : ∃ k : Nat, (at' : Int) % ((m : Int) - 3) = (k : Int) ∧ k + 4 ≤ m := by
    refine ⟨at' % (m - 3), by rw [show (m : Int) - 3 = ((m - 3 : Nat) : Int) by omega]; rfl, ?_⟩
    have := Nat.mod_lt at' (show 0 < m - 3 by omega)
    omega
  clear hP ho hb hm hmb
  go_wp2_with (at_builtin; refine wpList_append_from rfl _ _ 25 rfl und hi hz0 hz1 hz2 rfl _ _ 0 m [] _ rfl rfl OA.out F3.out (bC_one _) (by unfold maxLen; omega) (by omega) (by simp) ?_)
  intro v' w3 ho hg hnn
  clear hnn
  have O3 := Lib.hid (OwnB.cast (l := sealB l) ho (by rw [← HM.out]) (by simp))
  have B3 := Lib.hid (BA.out.grown hg (by have := B2.out.size; simp; omega) (fun k hk => by have := B2.out.size; simp [Value.ownBlock] at hk; omega))
  have hnil : v' ≠ .slice none 0 0 := fun h => by
    have h1 := ho.2
    rw [h] at h1
    rcases h1 with ⟨_, h1⟩ | ⟨_, _, _, h1, _⟩
    · omega
    · simp at h1
  obtain ⟨g, c3, rfl⟩ := own_shown ho hnil
  have hgB := Lib.hid (show w.heap.size ≤ g by have := (O3.out.lt g rfl).1; have := B2.out.size; omega)
  clear ho hg hnil hk OA BA F3
  go_wp2_with fail
  go_loopw [10] (fun i wr => ∃ j : Nat, i = .int .i64 j ∧ j ≤ 4 ∧ Hid (OwnB wr w2.heap.size (.slice (some ⟨g, 0, none⟩) m c3) (tk (sealB l) k t j)) ∧ Hid (Below w.heap.size w wr)) (fun i _ => 4 - (intOf i).toNat)
  case atStart => exact ⟨0, rfl, by omega, O3, B3⟩
  case round =>
    obtain ⟨j, rfl, hj, hO, hB⟩ := hrel
    by_cases hlt : j < 4
    · have hOm : OwnB wr w2.heap.size (.slice (some ⟨g, 0, none⟩) (tk (sealB l) k t j).length c3) (tk (sealB l) k t j) := by rw [tk_len, ← HM.out]; exact hO.out
      obtain ⟨c0, f0, -⟩ := hOm.at (j := k + j) (by rw [tk_len, ← HM.out]; omega)
      obtain ⟨y, hy1, hy2⟩ := le4_next t hlt
      obtain ⟨x, hx⟩ : ∃ x, (tk (sealB l) k t j).getD (k + j) 0 = x := ⟨_, rfl⟩
      rw [hx] at c0
      have hyy : (le4 t).getD j 0 = y := by
        have h1 : ((le4 t).take (j + 1)).getD j 0 = y := by
          rw [hy1, List.getD_eq_getElem?_getD, List.getElem?_append_right (by simp; omega)]
          simp [le4_len, show min j 4 = j by omega]
        rw [← h1, List.getD_eq_getElem?_getD, List.getD_eq_getElem?_getD, List.getElem?_take_of_lt (by omega)]
      have NX := Lib.hid (show tk (sealB l) k t (j + 1) = (tk (sealB l) k t j).set (k + j) (x ^^^ y) by rw [tk, hx, hyy])
      have hxu := xor_u8 x y
      have O5 := Lib.hid (p := OwnB (wr.setCell ⟨g, k + j, none⟩ (.int .u8 ((x ^^^ y).toNat : Nat))) w2.heap.size (.slice (some ⟨g, 0, none⟩) m c3) (tk (sealB l) k t (j + 1))) (by
        rw [NX.out]
        have := hOm.set (k + j) (x ^^^ y)
        rw [tk_len, ← HM.out] at this
        exact this)
      have B5 := Lib.hid (hB.out.setCell (p := ⟨g, k + j, none⟩) hgB.out (.int .u8 ((x ^^^ y).toNat : Nat)))
      clear hy1 hx hyy hOm
      go_wp2_with fail
      go_roundw
      case rel => exact ⟨j + 1, by go_num, by omega, O5, B5⟩
      case measure => simp [intOf]; omega
    · obtain rfl : j = 4 := by omega
      have hX : (tk (sealB l) k t 4).length = m := by rw [tk_len, ← HM.out]
      have OP := Lib.hid (openT (tk (sealB l) k t 4) (some ⟨g, 0, none⟩) c3 m hX hm4 (by omega) wr (by have := hO.out; rw [← hX] at this; exact this.br))
      have TB := Lib.hid (turned_open (b := l) (k := k) (t := t) ht h0 (by rw [← HM.out]; exact hk4) (p := (tk (sealB l) k t 4).take (m - 4)) (q := (tk (sealB l) k t 4).drop (m - 4)) (List.take_append_drop _ _) (by rw [List.length_drop, hX]; omega))
      clear hX
      go_wp2_with fail
      refine OP.out.mono ?_
      rintro e w5 ⟨h, hb⟩
      rw [if_neg TB.out] at h
      subst h
      have P := Lib.hid (hB.out.trans (hb.mono hB.out.size))
      clear hb
      go_wp2_with fail
      go_ret
      exact ⟨rfl, P.out⟩

end Go.Proofs.Ytnjfpgnhmfankaa
