/-
  No statement: Check of package digest.
-/
import Derived.Test.YtpdobbdbmgeoiaaGreatDgTw
import Derived.Test.YtpdobbdbmgeoiaaGreatDgMath
import Derived.Test.YtpdobbdbmgeoiaaGreatWCheck
import Derived.Test.YtpdobbdbmgeoiaaGreatSCheck
set_option linter.unusedVariables false
set_option linter.unusedSimpArgs false
namespace Go.Proofs.YtpdobbdbmgeoiaaGreat
open Go.RowKit

/-- What is wrong with a mark behind one of key p; with marks. -/
def errM (p : ByteArray) (m : MK) : Int := if goodB m.key.data.toList = false then 5 else if lsS p m.key = false then 6 else errS m.t m.i m.q m.o
def errMs : ByteArray → List MK → Int
  | _, [] => 0
  | p, m :: r => if errM p m = 0 then errMs m.key r else errM p m
def errMarks (l : List MK) : Int := if 64 < l.length then 4 else errMs ⟨#[]⟩ l

theorem checkMark_any (m : MK) (p : ByteArray) (hk : m.key.size ≤ 281474976710656) (ho : m.o.size ≤ 281474976710656) (w : World) :
    Calls Tryz.prog 93 #[.agg #[.string m.key, .int .i64 m.t, .int .i64 m.i, .int .i64 m.q, .string m.o], .string p] w fun e w' => e = .returned (.int .i64 (errM p m)) ∧ Below w.heap.size w w' := by
  obtain ⟨E, hE⟩ : ∃ E, errM p m = E := ⟨_, rfl⟩
  rw [hE]
  have HE := Lib.hid hE
  clear hE
  go_enter Tryz.func93, Tryz.ntmps93
  go_upto_region 1 with fail
  generalize hW : World.alloc w _ = W
  have hb : Below w.heap.size w W := by rw [← hW]; exact (Below.refl _ _).alloc (Nat.le_refl _) _
  have hW5 : W.heap[w.heap.size]? = some (.cells #[.string m.key, .int .i64 m.t, .int .i64 m.i, .int .i64 m.q, .string m.o] 99 (0, 0)) := by rw [← hW]; exact heap_alloc_new w _
  clear hW
  obtain ⟨⟨c0, c1, c2, c3, c4⟩, -⟩ := five hW5
  have BW := Lib.hid hb
  have NM := Lib.hid (wName_any m.key hk W)
  have CK := Lib.hid (stampCheck_any m.t m.i m.q m.o ho W)
  obtain ⟨g, hg⟩ : ∃ g, goodB m.key.data.toList = g := ⟨_, rfl⟩
  have HG := Lib.hid hg
  rw [hg] at NM
  obtain ⟨S, hS⟩ : ∃ S, errS m.t m.i m.q m.o = S := ⟨_, rfl⟩
  have HS := Lib.hid hS
  rw [hS] at CK
  clear hb hW5 hg hS
  go_wp2_with fail
  refine NM.out.mono ?_
  rintro e w2 ⟨rfl, rfl⟩
  cases g with
  | false =>
    have HE5 := Lib.hid (show (5 : Int) = E by rw [← HE.out]; unfold errM; rw [HG.out]; rfl)
    go_wp2_with fail
    go_ret
    exact ⟨congrArg (fun z => Ending.returned (.int .i64 z)) HE5.out, BW.out⟩
  | true =>
    cases hl : lsS p m.key with
    | false =>
      have hl1 := leqS_yes hl
      have HE6 := Lib.hid (show (6 : Int) = E by rw [← HE.out]; unfold errM; rw [HG.out, hl]; rfl)
      clear hl
      go_wp2_with fail
      go_ret
      exact ⟨congrArg (fun z => Ending.returned (.int .i64 z)) HE6.out, BW.out⟩
    | true =>
      obtain ⟨hl1, hl2⟩ := leqS_no hl
      have HES := Lib.hid (show S = E by rw [← HE.out, ← HS.out]; unfold errM; rw [HG.out, hl]; rfl)
      clear hl
      go_wp2_with fail
      refine CK.out.mono ?_
      rintro e w3 ⟨rfl, hb3⟩
      have B3 := Lib.hid (BW.out.trans (hb3.mono BW.out.size))
      clear hb3
      go_wp2_with fail
      go_ret
      exact ⟨congrArg (fun z => Ending.returned (.int .i64 z)) HES.out, B3.out⟩

set_option maxRecDepth 100000 in
set_option maxHeartbeats 4000000 in
theorem dCheck_any (bl : List MK) (a : Option Addr) (c : Nat) (hn : bl.length ≤ 1000000) (hs : ∀ m ∈ bl, m.key.size ≤ 281474976710656 ∧ m.o.size ≤ 281474976710656) (w : World) (h : ReadsMG (fun q => q < w.heap.size) w a bl.length (atK bl)) :
    Calls Tryz.prog 53 #[.slice a bl.length c] w fun e w' => e = .returned (.int .i64 (errMarks bl)) ∧ Below w.heap.size w w' := by
  have HA := Lib.hid h
  have HSZ := Lib.hid hs
  obtain ⟨n, hnn⟩ : ∃ n, bl.length = n := ⟨_, rfl⟩
  obtain ⟨E, hE⟩ : ∃ E, errMarks bl = E := ⟨_, rfl⟩
  rw [hE]
  rw [hnn] at HA hn ⊢
  have HN := Lib.hid hnn
  have HE := Lib.hid hE
  clear h hs hnn hE
  go_enter Tryz.func53, Tryz.ntmps53
  by_cases h64 : 64 < n
  · have e1 : (64 : Int) < (n : Int) := by omega
    have H4 := Lib.hid (show (4 : Int) = E by rw [← HE.out]; unfold errMarks; rw [if_pos (by rw [HN.out]; exact h64)])
    go_wp2_with fail
    go_ret
    exact ⟨congrArg (fun z => Ending.returned (.int .i64 z)) H4.out, Below.refl _ _⟩
  · have e1 : ¬ (64 : Int) < (n : Int) := by omega
    have H0 := Lib.hid (show errMs ⟨#[]⟩ (bl.drop 0) = E by rw [← HE.out]; unfold errMarks; rw [if_neg (by rw [HN.out]; exact h64)]; rfl)
    have B0 := Lib.hid (Below.refl w.heap.size w)
    clear HE
    go_wp2_with fail
    go_loopw [3, 12] (fun v i wr => ∃ (k : Nat) (p : ByteArray), v = .string p ∧ i = .int .i64 k ∧ k ≤ n ∧ Hid (errMs p (bl.drop k) = E) ∧ Hid (Below w.heap.size w wr)) (fun _ i _ => n - (intOf i).toNat)
    case atStart => exact ⟨0, _, rfl, rfl, Nat.zero_le _, H0, B0⟩
    case round =>
      clear H0 B0 e1
      obtain ⟨k, p, rfl, rfl, hk, HE, HB⟩ := hrel
      by_cases hlt : k < n
      · have hlt2 : k < bl.length := by rw [HN.out]; exact hlt
        obtain ⟨b, off, rfl, hbw, h6⟩ := HA.out.cells hlt
        rw [atK_lt hlt2] at h6
        have hsz := HSZ.out bl[k] (List.getElem_mem _)
        have hdr : bl.drop k = bl[k] :: bl.drop (k + 1) := by rw [List.drop_eq_getElem_cons hlt2]
        obtain ⟨x, hx⟩ : ∃ x, bl[k] = x := ⟨_, rfl⟩
        rw [hx] at h6 hdr hsz
        have HE1 := Lib.hid (show (if errM p x = 0 then errMs x.key (bl.drop (k + 1)) else errM p x) = E by have := HE.out; rw [hdr] at this; exact this)
        have hzr := HB.out.size
        obtain ⟨d0, d1, d2, d3, d4⟩ := h6.keptS (keptBelow HB.out) (by omega)
        have CM := Lib.hid (checkMark_any x p hsz.1 hsz.2)
        clear h6 hx hlt2 hdr hsz HE
        go_upto_region 7 with fail
        generalize hW : World.alloc wr _ = W
        have hWb : Below wr.heap.size wr W := by rw [← hW]; exact (Below.refl _ _).alloc (Nat.le_refl _) _
        have hW5 : W.heap[wr.heap.size]? = some (.cells #[.string x.key, .int .i64 x.t, .int .i64 x.i, .int .i64 x.q, .string x.o] 99 (0, 0)) := by rw [← hW]; exact heap_alloc_new wr _
        clear hW d0 d1 d2 d3 d4
        obtain ⟨⟨d0, d1, d2, d3, d4⟩, -⟩ := five hW5
        have HWX := Lib.hid (And.intro (HB.out.trans (hWb.mono hzr)) hW5)
        have hzW := HWX.out.1.size
        clear hWb hW5 HB
        obtain ⟨F, hF⟩ : ∃ F, errM p x = F := ⟨_, rfl⟩
        rw [hF] at HE1 CM
        go_wp2_with fail
        refine (CM.out W).mono ?_
        rintro e w3 ⟨rfl, hb3⟩
        have B3 := Lib.hid (And.intro (HWX.out.1.trans (hb3.mono hzW)) ((hb3.block _ (lt_of_block HWX.out.2)).trans HWX.out.2))
        clear hb3 CM HWX d0 d1 d2 d3 d4
        obtain ⟨⟨d0, d1, d2, d3, d4⟩, -⟩ := five B3.out.2
        by_cases hF0 : F = 0
        · have HE2 := Lib.hid (show errMs x.key (bl.drop (k + 1)) = E by have := HE1.out; rwa [if_pos hF0] at this)
          subst hF0
          clear hF
          go_wp2_with fail
          go_roundw
          case rel => exact ⟨k + 1, x.key, rfl, by go_num, by omega, HE2, Lib.hid B3.out.1⟩
          case measure => simp [intOf]; omega
        · have HE2 := Lib.hid (show F = E by have := HE1.out; rwa [if_neg hF0] at this)
          have e2 : (F != 0) = true := by simp [hF0]
          clear hF
          go_wp2_with fail
          go_ret
          exact ⟨congrArg (fun z => Ending.returned (.int .i64 z)) HE2.out, B3.out.1⟩
      · obtain rfl : k = n := by omega
        have HE2 := Lib.hid (show (0 : Int) = E by have := HE.out; rw [List.drop_of_length_le (by rw [HN.out]; exact Nat.le_refl _)] at this; exact this)
        go_wp2_with fail
        go_ret
        exact ⟨congrArg (fun z => Ending.returned (.int .i64 z)) HE2.out, HB.out⟩

end Go.Proofs.YtpdobbdbmgeoiaaGreat
