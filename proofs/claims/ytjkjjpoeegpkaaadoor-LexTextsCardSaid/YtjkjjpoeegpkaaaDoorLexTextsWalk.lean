/-
  No statement: the walk of LexTexts.
-/
import Derived.Test.YtjkjjpoeegpkaaaDoorLKnown
import Derived.Test.YtjkjjpoeegpkaaaDoorLOf
import Derived.Test.YtjkjjpoeegpkaaaDoorLRText
namespace Go.Proofs.YtjkjjpoeegpkaaaDoor
open Go.RowKit

theorem lexT_sizes {l : List UInt8} {ts : List Tk} (h : lexT l = .ok ts) (hl : l.length ≤ 2000) : (ts.map fun t => t.text.length).sum + ts.length ≤ 100000 ∧ ts.length ≤ 100000 := by
  unfold lexT at h
  split at h
  · cases h
  · obtain ⟨a, b, _⟩ := lex_sizes l 0 ts h
    omega

set_option maxRecDepth 100000 in
set_option maxHeartbeats 8000000 in
theorem lexTexts_walk (s : ByteArray) (w : World) (hw : Laid w) : Calls Tryd.prog 3 #[.string s] w fun e w' => e = .returned (.bool true) ∧ Below w.heap.size w w' := by
  have K := Lib.hid (known_any w hw)
  have HW := Lib.hid hw
  clear hw
  by_cases hlong : 1100 < s.size
  · go_enter Tryd.func3, Tryd.ntmps3
    go_wp2_with fail
    refine K.out.mono ?_
    rintro e w1 ⟨rfl, hb⟩
    have B1 := Lib.hid hb
    clear hb
    go_wp2_with fail
    go_ret
    exact ⟨rfl, B1.out⟩
  have hm : s.size ≤ 281474976710656 := by omega
  have hdl : s.data.toList.length ≤ 2000 := by rw [show s.data.toList.length = s.size by simp]; omega
  have LT := Lib.hid (fun w hw => lTokens_any s hm w hw)
  have RT := Lib.hid (fun w => rTokens_any s w)
  cases hE : lexT s.data.toList with
  | bad p er =>
    rw [hE] at LT RT
    have q0 : ((er : Int) == er) = true := by simp
    have q1 : (((p : Nat) : Int) == (p : Int)) = true := by simp
    clear hE hdl
    go_enter Tryd.func3, Tryd.ntmps3
    go_wp2_with fail
    refine K.out.mono ?_
    rintro e w1 ⟨rfl, hb⟩
    have B1 := Lib.hid hb
    clear hb
    go_wp2_with fail
    refine (LT.out _ (HW.out.step B1.out)).mono ?_
    rintro e w2 ⟨hb, rfl⟩
    have B2 := Lib.hid (B1.out.trans (hb.mono B1.out.size))
    clear hb
    go_wp2_with fail
    refine (RT.out _).mono ?_
    rintro e w3 ⟨hb, rfl⟩
    have B3 := Lib.hid (B2.out.trans (hb.mono B2.out.size))
    have SA := Lib.hid (p := Calls Tryd.prog 9 #[.slice none 0 0, .slice none 0 0] w3 fun e w' => e = .returned (.bool true) ∧ Below w3.heap.size w3 w') (same_any [] none 0 none 0 (by simp) w3 (.inl rfl) (.inl rfl))
    clear hb
    go_wp2_with fail
    refine SA.out.mono ?_
    rintro e w4 ⟨rfl, hb⟩
    have B4 := Lib.hid (B3.out.trans (hb.mono B3.out.size))
    have TA := Lib.hid (p := Calls Tryd.prog 10 #[.slice none 0 0] w4 fun e w' => e = .returned (.string ⟨#[]⟩) ∧ Below w4.heap.size w4 w') (lText_any [] none 0 (by simp) w4 (.inl rfl))
    clear hb
    go_wp2_with fail
    refine TA.out.mono ?_
    rintro e w5 ⟨rfl, hb⟩
    have B5 := Lib.hid (B4.out.trans (hb.mono B4.out.size))
    have UA := Lib.hid (p := Calls Tryd.prog 11 #[.slice none 0 0] w5 fun e w' => e = .returned (.string ⟨#[]⟩) ∧ w5 = w') (rText_any [] none 0 (by simp) w5 (.inl rfl))
    clear hb
    go_wp2_with (go_at_call 11; refine UA.out.mono ?_; rintro e w6 ⟨rfl, rfl⟩)
    go_ret
    exact ⟨rfl, B5.out⟩
  | ok ts =>
    rw [hE] at LT RT
    obtain ⟨hs1, hs2⟩ := lexT_sizes hE hdl
    clear hE hdl
    obtain ⟨X, hX⟩ : ∃ X : ByteArray, ⟨(textsT ts).toArray⟩ = X := ⟨_, rfl⟩
    have SA := Lib.hid (fun a c a2 c2 w h1 h2 => same_any ts a c a2 c2 hs2 w h1 h2)
    have TA := Lib.hid (fun a c w h => lText_any ts a c hs1 w h)
    have UA := Lib.hid (fun a c w h => rText_any ts a c hs1 w h)
    rw [hX] at TA UA
    have q0 : (X.toList == X.toList) = true := by simp
    clear hX
    go_enter Tryd.func3, Tryd.ntmps3
    go_wp2_with fail
    refine K.out.mono ?_
    rintro e w1 ⟨rfl, hb⟩
    have B1 := Lib.hid hb
    clear hb
    go_wp2_with fail
    refine (LT.out _ (HW.out.step B1.out)).mono ?_
    rintro e w2 ⟨hb, a, c, rfl, ho⟩
    have B2 := Lib.hid (B1.out.trans (hb.mono B1.out.size))
    have R2 := Lib.hid (readsT_own ho)
    clear hb ho
    go_wp2_with fail
    refine (RT.out _).mono ?_
    rintro e w3 ⟨hb, a2, c2, rfl, ho⟩
    have B3 := Lib.hid (B2.out.trans (hb.mono B2.out.size))
    have R3 := Lib.hid (R2.out.kept hb)
    have S3 := Lib.hid (readsT_own ho)
    clear hb ho R2
    go_wp2_with fail
    refine (SA.out _ _ _ _ _ R3.out S3.out).mono ?_
    rintro e w4 ⟨rfl, hb⟩
    have B4 := Lib.hid (B3.out.trans (hb.mono B3.out.size))
    have R4 := Lib.hid (R3.out.kept hb)
    have S4 := Lib.hid (S3.out.kept hb)
    clear hb R3 S3
    go_wp2_with fail
    refine (TA.out _ _ _ R4.out).mono ?_
    rintro e w5 ⟨rfl, hb⟩
    have B5 := Lib.hid (B4.out.trans (hb.mono B4.out.size))
    have S5 := Lib.hid (S4.out.kept hb)
    clear hb S4 R4
    go_wp2_with (go_at_call 11; refine (UA.out _ _ _ S5.out).mono ?_; rintro e w6 ⟨rfl, rfl⟩)
    go_ret
    exact ⟨rfl, B5.out⟩

end Go.Proofs.YtjkjjpoeegpkaaaDoor
