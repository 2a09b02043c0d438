/-
  No statement: the contract of first of package path.
-/
import Derived.Test.YtlgkffcomnclnaaPMath
import Derived.Test.YtlgkffcomnclnaaWName
import Derived.Test.YtlgkffcomnclnaaTexts
import Derived.Test.YtlgkffcomnclnaaShelf
import Derived.StillTailTactics
import Derived.LoopTactic
namespace Go.Proofs.Ytlgkffcomnclnaa
open Go.RowKit

theorem below_drewN {B : Nat} {a w : World} (h : Below B a w) (n : Nat) : Below B a (w.drewN n) := ⟨h.os, h.tape, h.output, h.size, h.block⟩

theorem list_extract (s : ByteArray) (a b : Nat) : (s.extract a b).data.toList = (s.data.toList.drop a).take (b - a) := by
  rw [ByteArray.data_extract, Array.toList_extract]

theorem head_at {s : ByteArray} {n : Nat} (h1 : 1 ≤ n) (hn : n ≤ s.size) (h0 : s[0]'(by omega) = 47) (hall : ∀ j (hj : j < s.size), 1 ≤ j → j < n → ¬ s[j] = 47) (stop : ∀ h : n < s.size, s[n] = 47) :
    (.string (s.extract 1 n) : Value) = tv (headL s.data.toList) ∧ (.string (s.extract n s.size) : Value) = tv (restL s.data.toList) := by
  have hl : s.data.toList.length = s.size := by simp
  have e : s.data.toList = 47 :: ((s.data.toList.drop 1).take (n - 1) ++ s.data.toList.drop n) := by
    have e1 : s.data.toList.drop n = (s.data.toList.drop 1).drop (n - 1) := by rw [List.drop_drop, show 1 + (n - 1) = n by omega]
    rw [e1, List.take_append_drop]
    have := List.drop_eq_getElem_cons (l := s.data.toList) (i := 0) (by omega)
    rw [List.drop_zero] at this
    rw [this]
    congr 1
  have t := take_stop ((s.data.toList.drop 1).take (n - 1)) (s.data.toList.drop n) (by
    intro c hc
    obtain ⟨j, hj, rfl⟩ := List.mem_iff_getElem.1 hc
    simp at hj
    have := hall (1 + j) (by omega) (by omega) (by omega)
    rw [List.getElem_take, List.getElem_drop]
    exact this) (by
    intro d r hd
    by_cases h : n < s.size
    · have := List.drop_eq_getElem_cons (l := s.data.toList) (i := n) (by omega)
      rw [hd] at this
      have hh := (List.cons.inj this).1
      rw [hh]
      exact stop h
    · rw [List.drop_of_length_le (by omega)] at hd; cases hd)
  constructor
  · unfold tv
    congr 1
    apply text_eq
    rw [list_extract]
    show _ = headL s.data.toList
    rw [e]
    show _ = ((s.data.toList.drop 1).take (n - 1) ++ s.data.toList.drop n).takeWhile _
    rw [t.1, ← e]
  · unfold tv
    congr 1
    apply text_eq
    rw [list_extract]
    show _ = restL s.data.toList
    rw [e]
    show _ = ((s.data.toList.drop 1).take (n - 1) ++ s.data.toList.drop n).dropWhile _
    rw [t.2, ← e]
    exact List.take_of_length_le (by simp)

theorem prefix_one (s : ByteArray) : Lib.hasPrefix s.data.toList (⟨#[47]⟩ : ByteArray).data.toList = decide (∃ h : 0 < s.size, s[0] = 47) := by
  have hl : s.data.toList.length = s.size := by simp
  cases e : s.data.toList with
  | nil =>
    rw [e] at hl
    rw [decide_eq_false]
    · rfl
    · rintro ⟨h, _⟩; simp at hl; omega
  | cons c r =>
    have h0 : 0 < s.size := by rw [e] at hl; simp at hl; omega
    have h00 : s.data.toList[0]? = some s[0] := List.getElem?_eq_getElem (by omega)
    rw [e] at h00
    have hc : c = s[0] := by simpa using h00
    by_cases h : c = 47
    · rw [decide_eq_true ⟨h0, hc ▸ h⟩]; subst h; rfl
    · rw [decide_eq_false (fun ⟨_, h'⟩ => h (hc.trans h'))]
      have hb : (c == 47) = false := beq_eq_false_iff_ne.2 h
      have hb' : ((47 : UInt8) == c) = false := beq_eq_false_iff_ne.2 (fun e => h e.symm)
      show [47].isPrefixOf (c :: r) = false
      rw [List.isPrefixOf, hb']; rfl

theorem head_not {s : ByteArray} (h : ¬ ∃ h : 0 < s.size, s[0] = 47) : headL s.data.toList = [] ∧ restL s.data.toList = [] := by
  have hl : s.data.toList.length = s.size := by simp
  cases e : s.data.toList with
  | nil => exact ⟨rfl, rfl⟩
  | cons c r =>
    have h0 : 0 < s.size := by rw [e] at hl; simp at hl; omega
    have h00 : s.data.toList[0]? = some s[0] := List.getElem?_eq_getElem (by omega)
    rw [e] at h00
    have hc : c = s[0] := by simpa using h00
    have : ¬ c = 47 := fun h' => h ⟨h0, hc ▸ h'⟩
    exact ⟨if_neg this, if_neg this⟩

set_option maxHeartbeats 2000000 in
theorem first_any (s : ByteArray) (hm : s.size ≤ 281474976710656) (w : World) : Calls Try.prog 39 #[.string s] w fun e w' => e = .returned (.tuple #[tv (headL s.data.toList), tv (restL s.data.toList)]) ∧ Below w.heap.size w w' := by
  have P := Try.strings_HasPrefix s ⟨#[47]⟩
  by_cases h : ∃ h : 0 < s.size, s[0] = 47
  · rw [prefix_one, decide_eq_true h] at P
    obtain ⟨hs, h0⟩ := h
    have C := Lib.hid P
    have H0 := Lib.hid h0
    clear P h0
    go_enter Try.func39, Try.ntmps39
    go_wp2_with fail
    refine (C.out _).mono ?_
    rintro e w1 ⟨rfl, rfl⟩
    go_wp2_with fail
    go_loop [4] (fun i => ∃ k : Nat, 1 ≤ k ∧ k ≤ s.size ∧ i = .int .i64 k ∧ Hid (∀ j (hj : j < s.size), 1 ≤ j → j < k → ¬ s[j] = 47)) (fun i => s.size - (intOf i).toNat)
    case atStart => exact ⟨1, Nat.le_refl _, by omega, rfl, Lib.hid (fun j _ h h' => by omega)⟩
    case round =>
      obtain ⟨k, hk1, hk, rfl, hok⟩ := hrel
      by_cases hlt : k < s.size
      · by_cases hc : s[k] = 47
        · have T := Lib.hid (head_at hk1 hk H0.out (fun j hj a b => hok.out j hj a b) (fun _ => hc))
          have q : ((s[k].toNat : Int) != 47) = false := by rw [hc]; decide
          have a1 : (1 : Int) ≤ (k : Int) := by omega
          have a2 : (k : Int) ≤ (s.size : Int) := by omega
          have a3 : (0 : Int) ≤ (k : Int) := by omega
          have a4 : ((k : Int)).toNat = k := by omega
          clear hc
          go_wp2_with (go_quiet (fail))
          go_ret2
          rw [T.out.1, T.out.2]
          exact ⟨rfl, below_drewN (Below.refl _ _) _⟩
        · have q : ((s[k].toNat : Int) != 47) = true := by
            rw [bne_iff_ne]; intro e; apply hc
            apply UInt8.toNat_inj.1
            have : s[k].toNat = 47 := by omega
            rw [this]; rfl
          have hok1 := Lib.hid (show ∀ j (hj : j < s.size), 1 ≤ j → j < k + 1 → ¬ s[j] = 47 from fun j hj h2 hjk => by
            by_cases e : j = k
            · subst e; exact hc
            · exact hok.out j hj h2 (by omega))
          clear hc
          go_wp2_with fail
          go_round
          case rel => exact ⟨k + 1, by omega, by omega, by go_num, hok1⟩
          case measure => simp [intOf]; omega
      · obtain rfl : k = s.size := by omega
        have T := Lib.hid (head_at hk1 hk H0.out (fun j hj a b => hok.out j hj a b) (fun h => absurd h hlt))
        have E := Lib.hid (show (.string ByteArray.empty : Value) = .string (s.extract s.size s.size) by congr 1; apply text_eq; rw [list_extract]; simp)
        have a1 : (1 : Int) ≤ (s.size : Int) := by omega
        have a3 : (0 : Int) ≤ (s.size : Int) := by omega
        have a4 : ((s.size : Int)).toNat = s.size := by omega
        go_wp2_with (go_quiet (fail))
        go_ret2
        rw [T.out.1, show (.string ByteArray.empty : Value) = tv (restL s.data.toList) from T.out.2 ▸ E.out]
        exact ⟨rfl, below_drewN (Below.refl _ _) _⟩
  · rw [prefix_one, decide_eq_false h] at P
    have T := Lib.hid (head_not h)
    have C := Lib.hid P
    clear P h
    go_enter Try.func39, Try.ntmps39
    go_wp2_with fail
    refine (C.out _).mono ?_
    rintro e w1 ⟨rfl, rfl⟩
    go_wp2_with fail
    go_ret2
    rw [T.out.1, T.out.2]
    exact ⟨rfl, Below.refl _ _⟩

end Go.Proofs.Ytlgkffcomnclnaa
