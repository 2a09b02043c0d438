/-
  No statement: the contract of the document's TokenText.
-/
import Derived.Test.YtjkjjpoeegpkaaaDoorLText
import Derived.Test.YtjkjjpoeegpkaaaDoorLRef
namespace Go.Proofs.YtjkjjpoeegpkaaaDoor
open Go.RowKit

theorem cat_list (l : List UInt8) (s : ByteArray) : (⟨l.toArray⟩ : ByteArray) ++ s = ⟨(l ++ s.data.toList).toArray⟩ := by
  apply text_eq
  show (_ ++ _ : ByteArray).data.toList = _
  rw [ByteArray.data_append, Array.toList_append]

set_option maxRecDepth 100000 in
set_option maxHeartbeats 4000000 in
theorem rText_any (ts : List Tk) (a : Option Addr) (c : Nat) (hs : (ts.map fun t => t.text.length).sum + ts.length ≤ 100000) (w : World) (hr : ReadsT w a ts) :
    Calls Tryd.prog 11 #[.slice a ts.length c] w fun e w' => e = .returned (.string ⟨(textsT ts).toArray⟩) ∧ w = w' := by
  have HL := Lib.hid (p := ∀ k, (preT ts k).length ≤ 100000) (fun k => Nat.le_trans (preT_len ts k) hs)
  have R := Lib.hid hr
  have hn : ts.length ≤ 100000 := by omega
  clear hr hs
  go_enter Tryd.func11, Tryd.ntmps11
  go_wp2_with fail
  go_loop [3, 4] (fun v i => ∃ (k : Nat) (S : ByteArray), k ≤ ts.length ∧ i = .int .i64 k ∧ v = .string S ∧ Hid (S = ⟨(preT ts k).toArray⟩)) (fun _ i => ts.length - (intOf i).toNat)
  case atStart => exact ⟨0, ⟨#[]⟩, by omega, rfl, rfl, Lib.hid rfl⟩
  case round =>
    obtain ⟨k, S, hk, rfl, rfl, hS⟩ := hrel
    by_cases hlt : k < ts.length
    · obtain ⟨b, off, rfl, -, hc⟩ := R.out.resolve_left (by intro e; rw [e] at hlt; simp at hlt)
      obtain ⟨-, p1, -, -⟩ := hc k hlt
      obtain ⟨t, ht⟩ : ∃ t, ts[k] = t := ⟨_, rfl⟩
      obtain ⟨X, hX⟩ : ∃ X : ByteArray, ⟨t.text.toArray⟩ = X := ⟨_, rfl⟩
      have hXl : X.data.toList = t.text := by rw [← hX]
      have hp := preT_succ ts hlt
      rw [ht] at p1 hp
      rw [hX] at p1
      have HP := Lib.hid hp
      have L0 := HL.out k
      have L1 := HL.out (k + 1)
      have hSs : S.size = (preT ts k).length := by rw [hS.out]; show (preT ts k).toArray.size = _; simp
      have hXs : X.size = t.text.length := by rw [← hXl]; simp
      have tl : t.text.length ≤ 100000 := by
        rw [HP.out] at L1
        split at L1
        · exact L1
        · simp at L1; omega
      clear hc hp ht hX
      by_cases h0 : k = 0
      · have g0 : ¬ (0 : Int) < (k : Int) := by omega
        have S2 := Lib.hid (show S ++ X = ⟨(preT ts (k + 1)).toArray⟩ by rw [HP.out, if_pos h0, hS.out, cat_list, hXl, h0]; rfl)
        clear h0 HP
        go_wp2_with fail
        go_round
        case rel => exact ⟨k + 1, _, by omega, by go_num, rfl, S2⟩
        case measure => simp [intOf]; omega
      · have g0 : (0 : Int) < (k : Int) := by omega
        have S2 := Lib.hid (show S ++ ⟨#[32]⟩ ++ X = ⟨(preT ts (k + 1)).toArray⟩ by rw [HP.out, if_neg h0, hS.out, cat_list, cat_list, hXl])
        have hS3 : (S ++ (⟨#[32]⟩ : ByteArray)).size = S.size + 1 := by rw [ByteArray.size_append]; rfl
        clear h0 HP
        go_wp2_with fail
        go_round
        case rel => exact ⟨k + 1, _, by omega, by go_num, rfl, S2⟩
        case measure => simp [intOf]; omega
    · obtain rfl : k = ts.length := by omega
      have S2 := Lib.hid (show S = ⟨(textsT ts).toArray⟩ by rw [hS.out, preT_all])
      go_wp2_with fail
      go_ret
      rw [S2.out]
      exact ⟨rfl, rfl⟩

end Go.Proofs.YtjkjjpoeegpkaaaDoor
