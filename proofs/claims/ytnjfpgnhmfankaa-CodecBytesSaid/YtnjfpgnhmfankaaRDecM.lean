/-
  No statement: the document's own Dec: Text, Many, Left.
-/
import Derived.Test.YtnjfpgnhmfankaaRDecB
namespace Go.Proofs.Ytnjfpgnhmfankaa
open Go.RowKit
variable {N : Nat}

/-- How the document's Dec stands to what is left: bytes, place, error; and the program's. -/
def SameD (B : List UInt8) (k : Nat) (bad : Int) (d : DS) : Prop := k ≤ B.length ∧ d.2 = bad ∧ d.1 = if bad = 0 then B.drop k else []

theorem rInt_same {B : List UInt8} {k : Nat} {bad : Int} {d : DS} (h : SameD B k bad d) : (rIntV B k bad).1 = (dInt d).1 ∧ SameD B (rIntV B k bad).2.1 (rIntV B k bad).2.2 (dInt d).2 := by
  obtain ⟨L, E⟩ := d
  obtain ⟨hk, h1, h2⟩ := h
  simp only at h1 h2
  subst h1
  unfold rIntV dInt dNum
  by_cases hE : E = 0
  · subst hE
    simp only [if_true] at h2 ⊢
    subst h2
    obtain ⟨hu, ho, hs⟩ := fst_ok (B.drop k)
    by_cases he : (fstF 0 0 (B.drop k)).2.2 = 0
    · have hi := unz_in hu
      obtain ⟨-, hl⟩ := hs he
      rw [List.length_drop] at hl
      rw [if_pos he, if_pos he, if_pos hi]
      refine ⟨rfl, by simp only; omega, rfl, ?_⟩
      simp only [if_true, List.drop_drop]
    · rw [if_neg he, if_neg he]
      refine ⟨rfl, hk, rfl, ?_⟩
      simp only [failD, if_true]
      rw [if_neg he]
  · rw [if_neg hE] at h2 ⊢
    subst h2
    have hf : fstF 0 0 [] = (0, 0, 3) := rfl
    simp only [hf, failD, if_neg hE]
    exact ⟨rfl, hk, rfl, by rw [if_neg hE, if_neg (by decide)]⟩

theorem SameD.ok {B : List UInt8} {k : Nat} {bad : Int} {d : DS} (h : SameD B k bad d) : OkD d := by
  obtain ⟨_, h1, h2⟩ := h
  by_cases hb : bad = 0
  · exact .inl (h1.trans hb)
  · rw [if_neg hb] at h2; exact .inr h2

theorem dNum_bad {d : DS} (ho : OkD d) (h : (dInt d).2.2 ≠ 0) (most : Int) : dNum 0 most d = (0, (dInt d).2) := by
  unfold dInt dNum at *
  by_cases he : (fstF 0 0 d.1).2.2 = 0
  · have hi := unz_in (fst_ok d.1).1
    rw [if_pos he, if_pos hi] at h
    rcases ho with ho | ho
    · exact absurd ho h
    · rw [ho] at he; exact absurd he (by decide)
  · rw [if_neg he, if_neg he]

theorem dNum_good {d : DS} (h : (dInt d).2.2 = 0) (most : Int) : dNum 0 most d = if 0 ≤ (dInt d).1 ∧ (dInt d).1 ≤ most then dInt d else (0, [], 2) := by
  unfold dInt dNum at *
  by_cases he : (fstF 0 0 d.1).2.2 = 0
  · have hi := unz_in (fst_ok d.1).1
    rw [if_pos he, if_pos hi] at h ⊢
    rw [if_pos he]
    simp only at h ⊢
    by_cases hin : 0 ≤ Lib.unzigzag (fstF 0 0 d.1).1 ∧ Lib.unzigzag (fstF 0 0 d.1).1 ≤ most
    · rw [if_pos hin, if_pos hin]
    · rw [if_neg hin, if_neg hin]
      simp only [failD, if_pos h]
  · rw [if_neg he] at h
    simp only [failD] at h
    by_cases h2 : d.2 = 0
    · rw [if_pos h2] at h; exact absurd h he
    · rw [if_neg h2] at h; exact absurd h h2

/-- What a call of the document's Dec leaves, told by the program's. -/
def RSame (N : Nat) (w : World) (p : Nat) (B : List UInt8) (r : Value) (d : DS) (e : Ending) (w' : World) : Prop := ∃ k bad, e = .returned r ∧ RDecH N w' p B k bad ∧ SameD B k bad d ∧ Kept (· = p) w w'

theorem rIntS_any (p : Nat) (B : List UInt8) (k : Nat) (bad : Int) (d : DS) (hs : SameD B k bad d) (hB : B.length ≤ 1000000) (w : World) (h : RDecH N w p B k bad) :
    Calls Try.prog 19 #[.pointer (some ⟨p, 0, none⟩)] w (RSame N w p B (.int .i64 (dInt d).1) (dInt d).2) := by
  obtain ⟨h1, h2⟩ := rInt_same hs
  refine (rInt_any p B k bad hs.1 hB w h).mono fun e w' ⟨he, hd, hk⟩ => ?_
  rw [h1] at he
  exact ⟨_, _, he, hd, h2, hk⟩

theorem RDecH.bad {w : World} {p k : Nat} {B : List UInt8} {bad : Int} (h : RDecH N w p B k bad) : w.cell? ⟨p, 2, none⟩ = some (.int .i64 bad) := by
  obtain ⟨a, c, h0, _⟩ := h
  exact (three_at h0).2.2.1

set_option maxHeartbeats 2000000 in
set_option maxRecDepth 100000 in
theorem rMany_any (p : Nat) (B : List UInt8) (k : Nat) (bad : Int) (d : DS) (most : Int) (hm : -9223372036854775808 ≤ most ∧ most ≤ 9223372036854775807) (hs : SameD B k bad d) (hB : B.length ≤ 1000000) (w : World) (h : RDecH N w p B k bad) :
    Calls Try.prog 22 #[.pointer (some ⟨p, 0, none⟩), .int .i64 most] w (RSame N w p B (.int .i64 (dNum 0 most d).1) (dNum 0 most d).2) := by
  have IN := Lib.hid (rIntS_any p B k bad d hs hB w h)
  have hB1 := dNum_bad hs.ok (most := most)
  have hG1 := dNum_good (d := d) (most := most)
  have hin : -9223372036854775808 ≤ (dInt d).1 ∧ (dInt d).1 ≤ 9223372036854775807 := by
    unfold dInt dNum
    by_cases he : (fstF 0 0 d.1).2.2 = 0
    · have hi := unz_in (fst_ok d.1).1
      rw [if_pos he, if_pos hi]; exact hi
    · rw [if_neg he]; show -9223372036854775808 ≤ (0 : Int) ∧ (0 : Int) ≤ 9223372036854775807; decide
  obtain ⟨⟨n, L1, E1⟩, hr⟩ : ∃ r, dInt d = r := ⟨_, rfl⟩
  rw [hr] at IN hB1 hG1 hin
  simp only at IN hB1 hG1 hin
  obtain ⟨hin0, hin1⟩ := hin
  obtain ⟨hm0, hm1⟩ := hm
  obtain ⟨D, hD⟩ : ∃ D, dNum 0 most d = D := ⟨_, rfl⟩
  rw [hD] at hB1 hG1 ⊢
  have HB1 := Lib.hid hB1
  have HG1 := Lib.hid hG1
  clear hr hD hB1 hG1 h hs
  by_cases hE : E1 = 0
  · subst hE
    by_cases hok : 0 ≤ n ∧ n ≤ most
    · have HD := Lib.hid (show D = (n, L1, 0) by rw [HG1.out rfl, if_pos hok])
      obtain ⟨hok0, hok1⟩ := hok
      go_enter Try.func22, Try.ntmps22
      go_wp2_with fail
      refine IN.out.mono ?_
      rintro e w2 ⟨k2, b2, rfl, hd, hsd, hk⟩
      obtain rfl : b2 = 0 := hsd.2.1.symm
      have cb := hd.bad
      have P := Lib.hid (show RSame N w p B (.int .i64 D.1) D.2 (.returned (.int .i64 n)) w2 from by rw [HD.out]; exact ⟨k2, 0, rfl, hd, hsd, hk⟩)
      clear hd hsd hk
      go_wp2_with fail
      go_ret
      exact P.out
    · have HD := Lib.hid (show D = (0, [], 2) by rw [HG1.out rfl, if_neg hok])
      have fin : ∀ w2 k2 v, RDecH N w2 p B k2 0 → SameD B k2 0 (L1, 0) → Kept (· = p) w w2 → v = 0 → RSame N w p B (.int .i64 D.1) D.2 (.returned (.int .i64 v)) (w2.setCell ⟨p, 2, none⟩ (.int .i64 2)) := fun w2 k2 v hd hsd hk hv => by
        subst hv
        rw [HD.out]
        exact ⟨k2, 2, rfl, hd.put2 2, ⟨hsd.1, rfl, rfl⟩, hk.trans (kept_p _ p 2 _) (fun _ h _ => h)⟩
      have FIN := Lib.hid fin
      clear fin
      by_cases hneg : n < 0
      · clear hok
        go_enter Try.func22, Try.ntmps22
        go_wp2_with fail
        refine IN.out.mono ?_
        rintro e w2 ⟨k2, b2, rfl, hd, hsd, hk⟩
        obtain rfl : b2 = 0 := hsd.2.1.symm
        have cb := hd.bad
        have f2 : w2.frozen? ⟨p, 2, none⟩ = false := by obtain ⟨_, _, h0, _⟩ := hd; exact (three_at h0).2.2.2.2
        have P := Lib.hid (FIN.out w2 k2 0 hd hsd hk rfl)
        clear hd hsd hk
        go_wp2_with fail
        go_ret
        exact P.out
      · have hgt : most < n := by omega
        clear hok
        go_enter Try.func22, Try.ntmps22
        go_wp2_with fail
        refine IN.out.mono ?_
        rintro e w2 ⟨k2, b2, rfl, hd, hsd, hk⟩
        obtain rfl : b2 = 0 := hsd.2.1.symm
        have cb := hd.bad
        have f2 : w2.frozen? ⟨p, 2, none⟩ = false := by obtain ⟨_, _, h0, _⟩ := hd; exact (three_at h0).2.2.2.2
        have P := Lib.hid (FIN.out w2 k2 0 hd hsd hk rfl)
        clear hd hsd hk
        go_wp2_with fail
        go_ret
        exact P.out
  · have HD := Lib.hid (show D = (0, L1, E1) from HB1.out hE)
    have hE' : (E1 == 0) = false := by simpa using hE
    clear hE
    go_enter Try.func22, Try.ntmps22
    go_wp2_with fail
    refine IN.out.mono ?_
    rintro e w2 ⟨k2, b2, rfl, hd, hsd, hk⟩
    obtain rfl : b2 = E1 := hsd.2.1.symm
    have cb := hd.bad
    have P := Lib.hid (show RSame N w p B (.int .i64 D.1) D.2 (.returned (.int .i64 0)) w2 from by rw [HD.out]; exact ⟨k2, b2, rfl, hd, hsd, hk⟩)
    clear hd hsd hk
    go_wp2_with fail
    go_ret
    exact P.out

set_option maxHeartbeats 2000000 in
set_option maxRecDepth 100000 in
theorem rLeft_any (p : Nat) (B : List UInt8) (k : Nat) (bad : Int) (d : DS) (hs : SameD B k bad d) (hB : B.length ≤ 1000000) (w : World) (h : RDecH N w p B k bad) :
    Calls Try.prog 23 #[.pointer (some ⟨p, 0, none⟩)] w fun e w' => e = .returned (.int .i64 (d.1.length : Nat)) ∧ ∃ n, w' = w.drewN n := by
  obtain ⟨a, c, h0, -⟩ := h
  obtain ⟨c0, c1, c2, -⟩ := three_at h0
  obtain ⟨hk, h1, h2⟩ := hs
  clear h0
  by_cases hb : bad = 0
  · subst hb
    rw [if_pos rfl] at h2
    have HL := Lib.hid (show d.1.length = B.length - k by rw [h2, List.length_drop])
    have w1 : IntKind.i64.wrap ((B.length : Int) - (k : Int)) = (B.length : Int) - (k : Int) := IntWalk.i64_in _ (by omega)
    clear h1 h2
    go_enter Try.func23, Try.ntmps23
    go_wp2_with fail
    go_quiet (fail)
    go_wp2_with fail
    go_ret
    exact ⟨ret_i64' (by rw [HL.out]; omega), _, rfl⟩
  · rw [if_neg hb] at h2
    have HL := Lib.hid (show d.1.length = 0 by rw [h2]; rfl)
    have hb' : (bad == 0) = false := by simpa using hb
    clear h1 h2 hb
    go_enter Try.func23, Try.ntmps23
    go_wp2_with fail
    go_ret
    exact ⟨ret_i64' (by rw [HL.out]; rfl), 0, rfl⟩

theorem dText_by (d : DS) (ho : OkD d) : dText d = if (dInt d).2.2 = 0 then (if (dInt d).1 < 0 then ([], [], 2) else if ((dInt d).2.1.length : Int) < (dInt d).1 then ([], [], 3) else ((dInt d).2.1.take (dInt d).1.toNat, (dInt d).2.1.drop (dInt d).1.toNat, 0)) else ([], (dInt d).2) := by
  by_cases h : (dInt d).2.2 = 0
  · rw [if_pos h]
    have hg := dNum_good h 9223372036854775807
    have hi : (dInt d).1 ≤ 9223372036854775807 := by
      unfold dInt dNum
      by_cases he : (fstF 0 0 d.1).2.2 = 0
      · have hi := unz_in (fst_ok d.1).1
        rw [if_pos he, if_pos hi]; exact hi.2
      · rw [if_neg he]; show (0 : Int) ≤ 9223372036854775807; decide
    by_cases hn : (dInt d).1 < 0
    · have hg' : dNum 0 9223372036854775807 d = (0, [], 2) := by rw [hg, if_neg (by omega)]
      rw [if_pos hn]
      unfold dText
      rw [hg']
      rfl
    · have hg' : dNum 0 9223372036854775807 d = dInt d := by rw [hg, if_pos ⟨by omega, hi⟩]
      rw [if_neg hn]
      unfold dText
      rw [hg']
      by_cases hl : ((dInt d).2.1.length : Int) < (dInt d).1
      · rw [if_pos hl, if_pos hl]
        simp only [failD, if_pos h]
      · rw [if_neg hl, if_neg hl, h]
  · rw [if_neg h]
    have hb := dNum_bad ho h 9223372036854775807
    have hL : (dInt d).2.1 = [] := by
      rcases (dNum_ok (lo := -9223372036854775808) (hi := 9223372036854775807) ho) with h2 | h2
      · exact absurd h2 h
      · exact h2
    obtain ⟨⟨n, L, E⟩, hr⟩ : ∃ r, dInt d = r := ⟨_, rfl⟩
    rw [hr] at hb hL ⊢
    simp only at hb hL
    subst hL
    unfold dText
    rw [hb]
    rfl

theorem dInt_in (d : DS) : -9223372036854775808 ≤ (dInt d).1 ∧ (dInt d).1 ≤ 9223372036854775807 := by
  unfold dInt dNum
  by_cases he : (fstF 0 0 d.1).2.2 = 0
  · have hi := unz_in (fst_ok d.1).1
    rw [if_pos he, if_pos hi]; exact hi
  · rw [if_neg he]; show -9223372036854775808 ≤ (0 : Int) ∧ (0 : Int) ≤ 9223372036854775807; decide

theorem dInt_nil {d : DS} (h : d.1 = []) : (dInt d).2.2 ≠ 0 := by
  unfold dInt dNum
  rw [h]
  show (failD d 3).2 ≠ 0
  unfold failD
  split
  · show (3 : Int) ≠ 0; decide
  · assumption

set_option maxHeartbeats 4000000 in
set_option maxRecDepth 100000 in
theorem rText_any (p : Nat) (B : List UInt8) (k : Nat) (bad : Int) (d : DS) (hs : SameD B k bad d) (hB : B.length ≤ 1000000) (w : World) (h : RDecH N w p B k bad) :
    Calls Try.prog 20 #[.pointer (some ⟨p, 0, none⟩)] w (RSame N w p B (.string ⟨(dText d).1.toArray⟩) (dText d).2) := by
  have IN := Lib.hid (rIntS_any p B k bad d hs hB w h)
  have hT := dText_by d hs.ok
  have hin := dInt_in d
  have hne : (dInt d).2.2 = 0 → B ≠ [] := fun h0 hB0 => dInt_nil (d := d) (by have := hs.2.2; rw [hB0] at this; simpa using this) h0
  obtain ⟨⟨n, L1, E1⟩, hr⟩ : ∃ r, dInt d = r := ⟨_, rfl⟩
  rw [hr] at IN hT hin hne
  simp only at IN hT hin hne
  have HNE := Lib.hid hne
  clear hne
  obtain ⟨hin0, hin1⟩ := hin
  rw [hT]
  clear hr hT h hs
  by_cases hE : E1 = 0
  · subst hE
    rw [if_pos rfl]
    by_cases hneg : n < 0
    · rw [if_pos hneg]
      go_enter Try.func20, Try.ntmps20
      go_wp2_with fail
      refine IN.out.mono ?_
      rintro e w2 ⟨k2, b2, rfl, hd, hsd, hk⟩
      obtain rfl : b2 = 0 := hsd.2.1.symm
      have cb := hd.bad
      have f2 : w2.frozen? ⟨p, 2, none⟩ = false := by obtain ⟨_, _, h0, _⟩ := hd; exact (three_at h0).2.2.2.2
      have P := Lib.hid (show RSame N w p B (.string ⟨#[]⟩) ([], 2) (.returned (.string ⟨#[]⟩)) (w2.setCell ⟨p, 2, none⟩ (.int .i64 2)) from ⟨k2, 2, rfl, hd.put2 2, ⟨hsd.1, rfl, rfl⟩, hk.trans (kept_p _ p 2 _) (fun _ h _ => h)⟩)
      clear hd hsd hk
      go_wp2_with fail
      go_ret
      exact P.out
    · rw [if_neg hneg]
      obtain ⟨m, rfl⟩ := Int.eq_ofNat_of_zero_le (show 0 ≤ n by omega)
      by_cases hl : ((L1.length : Nat) : Int) < ((m : Nat) : Int)
      · rw [if_pos hl]
        go_enter Try.func20, Try.ntmps20
        go_wp2_with fail
        refine IN.out.mono ?_
        rintro e w2 ⟨k2, b2, rfl, hd, hsd, hk⟩
        obtain rfl : b2 = 0 := hsd.2.1.symm
        have HD := Lib.hid hd
        have HS := Lib.hid hsd
        have HK := Lib.hid hk
        have hLl : L1.length = B.length - k2 := by have := hsd.2.2; simp only [if_true] at this; rw [this, List.length_drop]
        have hk2 := hsd.1
        obtain ⟨a, c, h0, -⟩ := hd
        obtain ⟨c0, c1, c2, f1, f2⟩ := three_at h0
        have w1 : IntKind.i64.wrap ((B.length : Int) - (k2 : Int)) = (B.length : Int) - (k2 : Int) := IntWalk.i64_in _ (by omega)
        have ht : decide ((B.length : Int) - (k2 : Int) < (m : Int)) = true := by rw [decide_eq_true_iff]; omega
        clear h0 hsd hk hLl hl
        go_wp2_with fail
        go_quiet (fail)
        go_wp2_with fail
        go_ret
        exact ⟨k2, 3, rfl, (HD.out.drewN _).put2 3, ⟨HS.out.1, rfl, rfl⟩, HK.out.trans ((keptDrewN _ w2 _).trans (kept_p _ p 2 _) (fun _ h _ => h)) (fun _ h _ => h)⟩
      · rw [if_neg hl]
        go_enter Try.func20, Try.ntmps20
        go_wp2_with fail
        refine IN.out.mono ?_
        rintro e w2 ⟨k2, b2, rfl, hd, hsd, hk⟩
        obtain rfl : b2 = 0 := hsd.2.1.symm
        have HD := Lib.hid hd
        have HS := Lib.hid hsd
        have HK := Lib.hid hk
        have hL1 : L1 = B.drop k2 := by have := hsd.2.2; simpa using this
        subst hL1
        rw [List.length_drop] at hl
        have hk2 := hsd.1
        obtain ⟨a, c, h0, h1, -⟩ := hd
        obtain ⟨c0, c1, c2, f1, f2⟩ := three_at h0
        have w1 : IntKind.i64.wrap ((B.length : Int) - (k2 : Int)) = (B.length : Int) - (k2 : Int) := IntWalk.i64_in _ (by omega)
        have ht : decide ((B.length : Int) - (k2 : Int) < (m : Int)) = false := by rw [decide_eq_false_iff_not]; omega
        have w3 : IntKind.i64.wrap ((k2 : Int) + (m : Int)) = (k2 : Int) + (m : Int) := IntWalk.i64_in _ (by omega)
        have hBc := h1.1
        have hcm : c ≤ 9223372036854775807 := by have := h1.2.1; unfold maxLen at this; omega
        obtain ⟨b, off, rfl, -⟩ := h1.cells (List.length_pos_iff.2 (HNE.out (by simp)))
        have hN : (m : Int).toNat = m := Int.toNat_natCast m
        have j0 : (k2 : Int) ≤ (k2 : Int) + (m : Int) := by omega
        have j1 : (k2 : Int) + (m : Int) ≤ (c : Int) := by omega
        have jN : ((k2 : Int) + (m : Int)).toNat = k2 + m := by omega
        have fin : ∀ q q', RSame N w p B (.string ⟨((B.drop k2).take m).toArray⟩) ((B.drop k2).drop m, 0) (.returned (.string ⟨((B.drop k2).take m).toArray⟩)) (((w2.drewN q).drewN q').setCell ⟨p, 1, none⟩ (.int .i64 ((k2 : Int) + (m : Int)))) := fun q q' =>
          ⟨k2 + m, 0, rfl, by rw [show ((k2 : Int) + (m : Int)) = ((k2 + m : Nat) : Int) by omega]; exact ((HD.out.drewN q).drewN q').put1 (k2 + m), ⟨by omega, rfl, by simp⟩, HK.out.trans (((keptDrewN _ w2 q).trans (keptDrewN _ _ q') (fun _ h _ => h)).trans (kept_p _ p 1 _) (fun _ h _ => h)) (fun _ h _ => h)⟩
        have FIN := Lib.hid fin
        by_cases hck : c = k2
        · subst hck
          obtain rfl : m = 0 := by omega
          have hcv : ∀ q, (convert 25 9 (.slice (some ⟨b, off, none⟩) 0 0)).run Try.prog (w2.drewN q) = .ok (.string ⟨#[]⟩) (w2.drewN q) := fun q => strB (l := []) ⟨Nat.le_refl _, Nat.zero_le _, .inr (.inl ⟨rfl, _, rfl⟩)⟩
          have hBL : B.length = c := by omega
          have FIN0 := Lib.hid (p := ∀ q, RSame N w p B (.string ⟨#[]⟩) (List.drop 0 (B.drop c), 0) (.returned (.string ⟨#[]⟩)) ((w2.drewN q).setCell ⟨p, 1, none⟩ (.int .i64 (c : Nat)))) (fun q =>
            ⟨c, 0, rfl, (HD.out.drewN q).put1 c, ⟨by omega, rfl, by simp⟩, HK.out.trans ((keptDrewN _ w2 q).trans (kept_p _ p 1 _) (fun _ h _ => h)) (fun _ h _ => h)⟩)
          have HX := Lib.hid hBL
          rw [hBL] at c0 w1 ht
          clear h0 hsd hk hl h1 fin hBL j0 j1 jN w3 hN FIN
          go_wp2_with fail
          go_quiet (fail)
          go_wp2_with fail
          go_quiet (fail)
          go_wp2_with fail
          go_ret
          exact FIN0.out _
        · have hcv : ∀ q, (convert 25 9 (.slice (some ⟨b, off + k2, none⟩) m (c - k2))).run Try.prog (w2.drewN q) = .ok (.string ⟨((B.drop k2).take m).toArray⟩) (w2.drewN q) := fun q => by
            have h2 : BR (w2.drewN q) (some ⟨b, off, none⟩) c B := h1
            have h3 := strB ((h2.drop hk2).take m)
            rw [List.length_take_of_le (by rw [List.length_drop]; omega)] at h3
            exact h3
          clear h0 hsd hk hl h1 fin
          go_wp2_with fail
          go_quiet (fail)
          go_wp2_with fail
          go_quiet (fail)
          go_wp2_with fail
          go_ret
          first | exact FIN.out _ _ | exact FIN.out _ 0 | (rw [World.drewN_drewN]; exact FIN.out _ 0) | trace_state
  · rw [if_neg hE]
    have hE' : (E1 == 0) = false := by simpa using hE
    clear hE
    go_enter Try.func20, Try.ntmps20
    go_wp2_with fail
    refine IN.out.mono ?_
    rintro e w2 ⟨k2, b2, rfl, hd, hsd, hk⟩
    obtain rfl : b2 = E1 := hsd.2.1.symm
    have cb := hd.bad
    have P := Lib.hid (show RSame N w p B (.string ⟨#[]⟩) (L1, b2) (.returned (.string ⟨#[]⟩)) w2 from ⟨k2, b2, rfl, hd, hsd, hk⟩)
    clear hd hsd hk
    go_wp2_with fail
    go_ret
    exact P.out

end Go.Proofs.Ytnjfpgnhmfankaa
