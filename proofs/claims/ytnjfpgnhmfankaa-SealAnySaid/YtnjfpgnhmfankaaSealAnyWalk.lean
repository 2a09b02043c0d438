/-
  No statement: the walk of the law SealAny.
-/
import Derived.Test.YtnjfpgnhmfankaaSealTurnedWalk
import Derived.Deep.RegionHeldLaw
namespace Go.Proofs.Ytnjfpgnhmfankaa
open Go.RowKit

/-- What Open answers of any bytes. -/
def openV (X : List UInt8) : List UInt8 × Int := if X.length < 4 then ([], 3) else if valB (X.drop (X.length - 4)) = crc (X.take (X.length - 4)) then (X.take (X.length - 4), 0) else ([], 10)

/-- A call that answers bytes and an error. -/
def TwoOut (w : World) (r : List UInt8 × Int) (e : Ending) (w' : World) : Prop := ∃ a c, e = .returned (.tuple #[.slice a r.1.length c, .int .i64 r.2]) ∧ BR w' a c r.1 ∧ Below w.heap.size w w'

theorem twoOut_of {w w' : World} {X : List UInt8} {e : Ending} (h4 : ¬ X.length < 4) (h : OpenPost w (X.take (X.length - 4)) (X.drop (X.length - 4)) e w') : TwoOut w (openV X) e w' := by
  obtain ⟨h, hb⟩ := h
  unfold openV
  rw [if_neg h4]
  by_cases hv : valB (X.drop (X.length - 4)) = crc (X.take (X.length - 4))
  · rw [if_pos hv] at h ⊢
    obtain ⟨a, c, he, ho⟩ := h
    exact ⟨a, c, he, ho.br, hb⟩
  · rw [if_neg hv] at h ⊢
    exact ⟨none, 0, h, BR.nil' _, hb⟩

theorem openAll_any (a : Option Addr) (c : Nat) (X : List UInt8) (hX : X.length ≤ 100000000000) (w : World) (h : BR w a c X) : Calls Try.prog 25 #[.slice a X.length c] w (TwoOut w (openV X)) := by
  by_cases h4 : X.length < 4
  · refine (openShort_any a X.length c h4 w).mono fun e w' ⟨he, hw⟩ => ?_
    subst hw
    unfold openV
    rw [if_pos h4]
    exact ⟨none, 0, he, BR.nil' _, Below.refl _ _⟩
  · exact (openT X a c X.length rfl (by omega) hX w h).mono fun e w' hP => twoOut_of h4 hP

theorem rOpenAll_any (a : Option Addr) (c : Nat) (X : List UInt8) (hX : X.length ≤ 100000000000) (w : World) (h : BR w a c X) : Calls Try.prog 26 #[.slice a X.length c] w (TwoOut w (openV X)) := by
  by_cases h4 : X.length < 4
  · refine (rOpenShort_any a X.length c h4 w).mono fun e w' ⟨he, hw⟩ => ?_
    subst hw
    unfold openV
    rw [if_pos h4]
    exact ⟨none, 0, he, BR.nil' _, Below.refl _ _⟩
  · obtain ⟨n, hn⟩ : ∃ n, X.length = n + 4 := ⟨X.length - 4, by omega⟩
    have hR := rOpen_any a n c (X.take (X.length - 4)) (X.drop (X.length - 4)) (by rw [List.length_take]; omega) (by rw [List.length_drop]; omega) (by omega) w (by rw [List.take_append_drop]; exact h)
    rw [← hn] at hR
    exact hR.mono (fun e w' hP => twoOut_of h4 hP)

theorem openV_seal (l : List UInt8) : openV (sealB l) = (l, 0) := by
  unfold openV
  have hl := sealB_len l
  rw [if_neg (by omega), show (sealB l).length - 4 = l.length by omega]
  unfold sealB
  rw [List.drop_left, List.take_left, if_pos (valB_le4 (crc_lt l))]

set_option maxRecDepth 100000 in
set_option maxHeartbeats 4000000 in
theorem sealAny_walk (a : Option Addr) (c : Nat) (l : List UInt8) (w : World) (h : BR w a c l) :
    Calls Try.prog 5 #[.slice a l.length c] w fun e w' => e = .returned (.bool true) ∧ Below w.heap.size w w' := by
  have hll : l.length ≤ 9223372036854775807 := by have := h.1; have := h.2.1; unfold maxLen at this; omega
  have H := Lib.hid h
  clear h
  go_enter Try.func5, Try.ntmps5
  go_wp2_with fail
  refine (known_any w).mono ?_
  rintro e w1 ⟨rfl, hb1⟩
  have B1 := Lib.hid hb1
  clear hb1
  by_cases hl : 1000 < l.length
  · go_wp2_with fail
    go_ret
    exact ⟨rfl, B1.out⟩
  go_wp2_with fail
  refine (seal_any a c l (by omega) w1 (H.out.kept B1.out)).mono ?_
  rintro e w2 ⟨a2, c2, rfl, ho, hb⟩
  have R2 := Lib.hid ho.br
  have B2 := Lib.hid (B1.out.trans (hb.mono B1.out.size))
  have LS := Lib.hid (sealB_len l)
  have OS := Lib.hid (openAll_any a2 c2 (sealB l) (by rw [sealB_len]; omega) w2 R2.out)
  rw [openV_seal] at OS
  obtain ⟨S, hS⟩ : ∃ S, sealB l = S := ⟨_, rfl⟩
  have SE := Lib.hid (fun w' (hb : Below w.heap.size w w') => rSeal_any a c l (by omega) w' (H.out.kept hb))
  rw [hS] at R2 OS SE ⊢
  clear ho hb hS LS
  go_wp2_with fail
  refine OS.out.mono ?_
  rintro e w3 ⟨a3, c3, rfl, hr, hb⟩
  have R3 := Lib.hid (And.intro (R2.out.kept hb) hr)
  have B3 := Lib.hid (B2.out.trans (hb.mono B2.out.size))
  clear hr hb R2
  simp only at R3
  go_wp2_with fail
  refine (openAll_any a c l (by omega) w3 (H.out.kept B3.out)).mono ?_
  obtain ⟨⟨y, f⟩, hy⟩ : ∃ r, openV l = r := ⟨_, rfl⟩
  rw [hy]
  rintro e w4 ⟨a4, c4, rfl, hr, hb⟩
  have R4 := Lib.hid (And.intro (R3.out.1.kept hb) (And.intro (R3.out.2.kept hb) hr))
  have B4 := Lib.hid (B3.out.trans (hb.mono B3.out.size))
  have RO := Lib.hid (rOpenAll_any a c l (by omega) w4 (H.out.kept B4.out))
  rw [hy] at RO
  clear hr hb R3 hy
  simp only at R4
  go_wp2_with fail
  refine RO.out.mono ?_
  rintro e w5 ⟨a5, c5, rfl, hr, hb⟩
  have R5 := Lib.hid (And.intro (R4.out.1.kept hb) (And.intro (R4.out.2.1.kept hb) (And.intro (R4.out.2.2.kept hb) hr)))
  have B5 := Lib.hid (B4.out.trans (hb.mono B4.out.size))
  clear hr hb R4 RO
  simp only at R5
  have hdr : Below w5.heap.size w5 w5.drew := ⟨rfl, rfl, rfl, Nat.le_refl _, fun _ _ => rfl⟩
  have cc := And.intro (strB (R5.out.1.kept hdr)) (And.intro (strB (R5.out.2.1.kept hdr)) (And.intro (strB (H.out.kept (B5.out.trans (hdr.mono B5.out.size)))) (And.intro (strB (R5.out.2.2.1.kept hdr)) (strB (R5.out.2.2.2.kept hdr)))))
  have HDR := Lib.hid hdr
  clear hdr
  go_wp2_with fail
  go_region_held_law (fun w' => (convert 25 9 (.slice a2 S.length c2)).run Try.prog w' = .ok (.string ⟨S.toArray⟩) w' ∧ (convert 25 9 (.slice a3 l.length c3)).run Try.prog w' = .ok (.string ⟨l.toArray⟩) w' ∧ (convert 25 9 (.slice a l.length c)).run Try.prog w' = .ok (.string ⟨l.toArray⟩) w' ∧ (convert 25 9 (.slice a4 y.length c4)).run Try.prog w' = .ok (.string ⟨y.toArray⟩) w' ∧ (convert 25 9 (.slice a5 y.length c5)).run Try.prog w' = .ok (.string ⟨y.toArray⟩) w') (first | assumption | exact cc) (first
    | (go_at_call 27
       with_reducible refine (SE.out _ (B5.out.trans (HDR.out.mono B5.out.size))).mono ?_
       rintro e w6 ⟨a6, c6, rfl, ho, hb⟩
       have B6 := Lib.hid (B5.out.trans ((HDR.out.trans hb).mono B5.out.size))
       have cc := And.intro (strB (R5.out.1.kept (HDR.out.trans hb))) (And.intro (strB (R5.out.2.1.kept (HDR.out.trans hb))) (And.intro (strB (H.out.kept B6.out)) (And.intro (strB (R5.out.2.2.1.kept (HDR.out.trans hb))) (strB (R5.out.2.2.2.kept (HDR.out.trans hb))))))
       have t5 := strB ho.br
       clear ho hb)
    | fail)
  all_goals
    clear cc
    go_wp2_with fail
    go_ret
    exact ⟨rfl, B6.out⟩

end Go.Proofs.Ytnjfpgnhmfankaa
