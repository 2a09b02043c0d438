/-
  No statement: the contract of the document's own ValueText.
-/
import Derived.Test.YtbabkdeppcfcnaaGreatDoorRDec
import Derived.Test.YtbabkdeppcfcnaaGreatDoorVText
namespace Go.Proofs.YtbabkdeppcfcnaaGreatDoor
open Go.RowKit

set_option maxRecDepth 100000 in
set_option maxHeartbeats 4000000 in
theorem rListText_any (n : Int) (s : ByteArray) (a : Option Addr) (len cap : Nat) (z : Nat → Int) (hz : ∀ j, In64 (z j)) (hl : len ≤ 1000) (w : World) (hr : Reads w a len z) :
    Calls Tryz.prog 43 #[.agg #[.int .i64 3, .int .i64 n, .string s, .slice a len cap]] w fun e w' => e = .returned (.string ⟨(listT z len).toArray⟩) ∧ Below w.heap.size w w' := by
  obtain ⟨o, ho⟩ : ∃ o, Obj.cells #[.int .i64 3, .int .i64 n, .string s, .slice a len cap] 55 = o := ⟨_, rfl⟩
  have bl : Below w.heap.size w (w.alloc o) := (Below.refl _ _).alloc (Nat.le_refl _) _
  have hB : (w.alloc o).heap[w.heap.size]? = some (.cells #[.int .i64 3, .int .i64 n, .string s, .slice a len cap] 55 (0, 0)) := by rw [ho]; exact World.alloc_heap_new w o
  have R1 := Lib.hid (hr.kept bl)
  have BL := Lib.hid bl
  have HB := Lib.hid hB
  have Z := Lib.hid hz
  subst ho
  clear hr bl hB hz
  go_enter Tryz.func43, Tryz.ntmps43
  go_wp2
  go_loopw [3, 4] (fun v i wr => ∃ (k : Nat) (p : ByteArray), k ≤ len ∧ v = .string p ∧ i = .int .i64 k ∧ Hid (p.data.toList = listPre z k) ∧ Hid (wr.heap[w.heap.size]? = some (.cells #[.int .i64 3, .int .i64 n, .string s, .slice a len cap] 55 (0, 0))) ∧ Hid (Reads wr a len z) ∧ Hid (Below w.heap.size w wr)) (fun _ i _ => len - (intOf i).toNat)
  case atStart => exact ⟨0, ⟨#[91]⟩, Nat.zero_le _, rfl, rfl, Lib.hid rfl, HB, R1, BL⟩
  case round =>
    obtain ⟨k, p, hk, rfl, rfl, hp, hb, hr, hbl⟩ := hrel
    have hpl : p.size ≤ 1 + 22 * k := by
      have := listPre_len z Z.out k
      rw [← hp.out] at this
      simpa using this
    obtain ⟨⟨k0, k1, k2, k3⟩, -⟩ := four hb.out
    by_cases hlt : k < len
    · rcases hr.out.2 with h0 | ⟨b, off, rfl, hc⟩
      · omega
      · have g1 := hc k hlt
        obtain ⟨x, hx⟩ : ∃ x, z k = x := ⟨_, rfl⟩
        have X := Lib.hid (show In64 x by rw [← hx]; exact Z.out k)
        have hx1 := Lib.hid hx
        rw [hx] at g1
        obtain ⟨T, hT⟩ : ∃ T : ByteArray, ⟨(Lib.itoa x).toArray⟩ = T := ⟨_, rfl⟩
        have C := fun w => decimal_any x X.out w
        rw [hT] at C
        have C1 := Lib.hid C
        have hTs : T.size ≤ 21 := by
          rw [← hT]
          show (Lib.itoa x).toArray.size ≤ 21
          have := Lib.itoa_length_le x X.out.1 X.out.2
          simpa using this
        have hT1 := Lib.hid hT
        have hpl2 : p.size ≤ 22000 := by omega
        clear hc hx C hT hpl
        by_cases kp : k = 0
        · have kz : decide (0 < k) = false := by simp; omega
          have e1 := Lib.hid (show (p ++ T).data.toList = listPre z (k + 1) by rw [listPre, if_pos kp, List.append_nil, hx1.out, ← hp.out, ← hT1.out]; simp)
          clear kp
          go_wp2_with fail
          refine (C1.out _).mono ?_
          rintro e w3 ⟨rfl, h3⟩
          have b3 := Lib.hid ((h3.block _ (lt_of_block hb.out)).trans hb.out)
          have r3 := Lib.hid (hr.out.kept h3)
          have l3 := Lib.hid (hbl.out.trans (h3.mono (by have := hbl.out.size; omega)))
          clear h3
          go_wp2_with fail
          go_roundw
          case rel => exact ⟨k + 1, p ++ T, by omega, rfl, by go_num, e1, b3, r3, l3⟩
          case measure => simp [intOf]; omega
        · have kz : 0 < k := by omega
          have e1 := Lib.hid (show (p ++ ⟨#[32]⟩ ++ T).data.toList = listPre z (k + 1) by rw [listPre, if_neg kp, hx1.out, ← hp.out, ← hT1.out]; simp)
          clear kp
          have h32 : (⟨#[32]⟩ : ByteArray).size ≤ 1 := Nat.le_refl _
          have hps : (p ++ ⟨#[32]⟩).size ≤ 22001 := by rw [ByteArray.size_append]; omega
          go_wp2_with fail
          refine (C1.out _).mono ?_
          rintro e w3 ⟨rfl, h3⟩
          have b3 := Lib.hid ((h3.block _ (lt_of_block hb.out)).trans hb.out)
          have r3 := Lib.hid (hr.out.kept h3)
          have l3 := Lib.hid (hbl.out.trans (h3.mono (by have := hbl.out.size; omega)))
          clear h3
          go_wp2_with fail
          go_roundw
          case rel => exact ⟨k + 1, p ++ ⟨#[32]⟩ ++ T, by omega, rfl, by go_num, e1, b3, r3, l3⟩
          case measure => simp [intOf]; omega
    · obtain rfl : k = len := by omega
      have R := Lib.hid (show (p ++ ⟨#[93]⟩).data.toList = listT z k by unfold listT; rw [← hp.out]; simp)
      go_wp2
      go_ret
      exact ⟨ret_str (by rw [← R.out]), hbl.out⟩

set_option maxRecDepth 100000 in
set_option maxHeartbeats 2000000 in
theorem rText_any (k n : Int) (hn : In64 n) (s : ByteArray) (hm : s.size ≤ 281474976710656) (a : Option Addr) (len cap : Nat) (z : Nat → Int) (hz : ∀ j, In64 (z j)) (hl : len ≤ 1000) (w : World) (hr : Reads w a len z) :
    Calls Tryz.prog 43 #[val k n s (.slice a len cap)] w fun e w' => e = .returned (.string ⟨(textV k n s len z).toArray⟩) ∧ Below w.heap.size w w' := by
  unfold val
  have bl : ∀ o, Below w.heap.size w (w.alloc o) := fun o => (Below.refl _ _).alloc (Nat.le_refl _) _
  by_cases e1 : k = 1
  · have R := Lib.hid (show textV k n s len z = Lib.itoa n by unfold textV; rw [if_pos e1])
    have C := Lib.hid (fun o => decimal_any n hn (w.alloc o))
    have BL := Lib.hid bl
    clear bl hr hz hn
    subst e1
    go_enter Tryz.func43, Tryz.ntmps43
    go_wp2_with (go_at_call 71; refine (C.out _).mono ?_; rintro e w1 ⟨rfl, hb⟩; have hb1 := Lib.hid hb; clear hb)
    go_ret
    exact ⟨by rw [R.out]; rfl, (BL.out _).trans (hb1.out.mono (by simp))⟩
  have q1 : (k == 1) = false := by simpa using e1
  by_cases e2 : k = 2
  · have R := Lib.hid (show textV k n s len z = [34] ++ s.data.toList ++ [34] by unfold textV; rw [if_neg e1, if_pos e2])
    have BL := Lib.hid bl
    clear bl hr hz hn e1 q1
    subst e2
    go_enter Tryz.func43, Tryz.ntmps43
    go_wp2_with fail
    go_ret
    refine ⟨ret_str ?_, BL.out _⟩
    rw [R.out]
    simp
  have q2 : (k == 2) = false := by simpa using e2
  by_cases e3 : k = 3
  · rw [show textV k n s len z = listT z len by unfold textV; rw [if_neg e1, if_neg e2, if_pos e3]]
    subst e3
    exact rListText_any n s a len cap z hz hl w hr
  have q3 : (k == 3) = false := by simpa using e3
  have R := Lib.hid (show textV k n s len z = [] by unfold textV; rw [if_neg e1, if_neg e2, if_neg e3])
  have BL := Lib.hid bl
  clear bl hr hz hn e1 e2 e3
  go_enter Tryz.func43, Tryz.ntmps43
  go_wp2_with fail
  go_ret
  exact ⟨by rw [R.out]; rfl, BL.out _⟩

end Go.Proofs.YtbabkdeppcfcnaaGreatDoor
