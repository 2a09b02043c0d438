/-
  No statement: ExprTexts' walk.
-/
import Derived.Test.YteegdemnajhehaaGreatDoorExprLeftWalk
import Derived.Test.YteegdemnajhehaaGreatDoorGLawOf
import Derived.Test.YteegdemnajhehaaGreatDoorEPx
import Derived.Test.YteegdemnajhehaaGreatDoorAChk
import Derived.Test.YteegdemnajhehaaGreatDoorAText
namespace Go.Proofs.YteegdemnajhehaaGreatDoor
open Go.RowKit

theorem parse_bad {l : List UInt8} {p : Nat} {er : Int} (h : parseX l = .bad p er) : ((er : Int) == 0) = false ∧ ((er : Int) != 0) = true := by
  unfold parseX at h
  cases hl : lexT l with
  | bad p e =>
    rw [hl] at h
    cases h
    exact lexT_bad_ne hl
  | ok L =>
    rw [hl] at h
    simp only at h
    cases ho : ofL L 0 with
    | bad p e =>
      rw [ho] at h
      cases h
      have : ((er : Int) != 0) = true := by rcases ofL_ne ho with h | h; exact h.1; exact h
      exact ⟨by simpa using this, this⟩
    | ok t' q =>
      rw [ho] at h
      simp only at h
      split at h
      · cases h
        exact ⟨rfl, rfl⟩
      · cases h

theorem sameF_self : ∀ f : F, sameF f f = true
  | .nil => by rw [sameF]
  | .cons o m n ks r => by rw [sameF, sameF_self ks, sameF_self r]; simp
theorem sameT_self (t : TN) : sameT t t = true := sameF_self _

set_option maxHeartbeats 8000000 in
theorem exprTexts_walk (s : ByteArray) (w : World) (hw : Laid9 w) : Calls Tryz.prog 3 #[.string s] w fun e w' => e = .returned (.bool true) ∧ Below w.heap.size w w' := by
  have KN := Lib.hid (known9_any w hw)
  have LD := Lib.hid hw
  clear hw
  go_enter Tryz.func3, Tryz.ntmps3
  go_wp2_with fail
  refine KN.out.mono ?_
  rintro e w1 ⟨rfl, hb1⟩
  have K1 := Lib.hid (show KB9 w w1 from ⟨hb1, LD.out.step hb1, hb1.size⟩)
  clear hb1 KN LD
  by_cases hlen : 1100 < s.size
  · have a1 : (1100 : Int) < (s.size : Int) := by omega
    go_wp2_with fail
    go_ret
    exact ⟨rfl, K1.out.b⟩
  · have a1 : ¬ (1100 : Int) < (s.size : Int) := by omega
    have A1 := Lib.hid (pParse_any s (by omega) w1 K1.out.l.1)
    have A2 := Lib.hid (fun V => rParse_any s V)
    cases hp : parseX s.data.toList with
    | bad p er =>
      obtain ⟨q1, q2⟩ := parse_bad hp
      rw [hp] at A1 A2
      clear hp
      go_wp2_with fail
      refine A1.out.mono ?_
      rintro e v2 ⟨hb, rfl⟩
      have K2 := (K1.out.step hb).step ((Below.refl v2.heap.size v2).alloc (Nat.le_refl _) (ndG ⟨#[]⟩ ⟨#[]⟩ 0 none 0 0))
      generalize hW2 : v2.alloc (ndG ⟨#[]⟩ ⟨#[]⟩ 0 none 0 0) = W2 at K2
      have HW2 := Lib.hid hW2
      have HK2 := Lib.hid K2
      clear hb K2 hW2 A1
      go_upto_region 6 with fail
      rw [HW2.out]
      clear HW2
      go_wp2_with fail
      refine (A2.out W2).mono ?_
      rintro e v3 ⟨hb, rfl⟩
      have K3 := (HK2.out.step hb).step ((Below.refl v3.heap.size v3).alloc (Nat.le_refl _) (ndO ⟨#[]⟩ ⟨#[]⟩ 0 none 0 0))
      generalize hW3 : v3.alloc (ndO ⟨#[]⟩ ⟨#[]⟩ 0 none 0 0) = W3 at K3
      have HW3 := Lib.hid hW3
      have HK3 := Lib.hid K3
      clear hb K3 hW3 A2
      go_upto_region 7 with fail
      rw [HW3.out]
      clear HW3
      go_wp2_with fail
      go_quiet (fail)
      go_wp2_with fail
      go_ret
      exact ⟨rfl, below_drewN HK3.out.b _⟩
    | ok t =>
      have HOK := Lib.hid (And.intro (parse_sz hp) (parse_good hp))
      rw [hp] at A1 A2
      clear hp
      go_wp2_with fail
      refine A1.out.mono ?_
      rintro e v2 ⟨hb, a2, c2, rfl, hr⟩
      have BA := (Below.refl v2.heap.size v2).alloc (Nat.le_refl _) (ndG t.op t.nm t.n a2 t.ks.len c2)
      have T2 := kt9_new (t := t) (a := a2) (c := c2) K1.out.z hr
      have K2 := (K1.out.step hb).step BA
      generalize hW3 : v2.alloc (ndG t.op t.nm t.n a2 t.ks.len c2) = W3 at T2 K2
      generalize hB2 : v2.heap.size = B2 at T2
      have HB2 := Lib.hid hB2
      have HW3 := Lib.hid hW3
      have HT2 := Lib.hid T2
      have HK2 := Lib.hid K2
      clear hb hr BA T2 K2 hW3 hB2 A1
      go_upto_region 6 with fail
      rw [HW3.out, HB2.out]
      clear HW3 HB2
      go_wp2_with fail
      refine (A2.out W3).mono ?_
      rintro e v3 ⟨hb, a3, c3, rfl, hr⟩
      have BA := (Below.refl v3.heap.size v3).alloc (Nat.le_refl _) (ndO t.op t.nm t.n a3 t.ks.len c3)
      have N3 := heap_alloc_new v3 (ndO t.op t.nm t.n a3 t.ks.len c3)
      have R3 := (hr.kept BA).mono HK2.out.z
      have K3 := (HK2.out.step hb).step BA
      have T2 := (HT2.out.step hb).step BA
      generalize hW4 : v3.alloc (ndO t.op t.nm t.n a3 t.ks.len c3) = W4 at T2 N3 R3 K3
      generalize hB3 : v3.heap.size = B3 at N3
      have HB3 := Lib.hid hB3
      have HW4 := Lib.hid hW4
      have HT2' := Lib.hid T2
      have HN3 := Lib.hid N3
      have HR3 := Lib.hid R3
      have HK3 := Lib.hid K3
      clear hb hr BA T2 N3 R3 K3 hW4 hB3 A2 HT2 HK2
      go_upto_region 9 with fail
      rw [HW4.out, HB3.out]
      clear HW4 HB3
      obtain ⟨⟨x0, x1, x2, x3⟩, -⟩ := four HT2'.out.n
      obtain ⟨⟨y0, y1, y2, y3⟩, -⟩ := four HN3.out
      have CELLS := Lib.hid (p := ∀ w', Below W4.heap.size W4 w' → (w'.cell? ⟨B2, 0, none⟩ = some (.string t.op) ∧ w'.cell? ⟨B2, 1, none⟩ = some (.string t.nm) ∧ w'.cell? ⟨B2, 2, none⟩ = some (.int .i64 t.n) ∧ w'.cell? ⟨B2, 3, none⟩ = some (.slice a2 t.ks.len c2) ∧ w'.cell? ⟨B3, 0, none⟩ = some (.string t.op) ∧ w'.cell? ⟨B3, 1, none⟩ = some (.string t.nm) ∧ w'.cell? ⟨B3, 2, none⟩ = some (.int .i64 t.n) ∧ w'.cell? ⟨B3, 3, none⟩ = some (.slice a3 t.ks.len c3))) (fun w' h => by
        obtain ⟨⟨x0, x1, x2, x3⟩, -⟩ := four ((h.block _ (lt_block HT2'.out.n)).trans HT2'.out.n)
        obtain ⟨⟨y0, y1, y2, y3⟩, -⟩ := four ((h.block _ (lt_block HN3.out)).trans HN3.out)
        exact ⟨x0, x1, x2, x3, y0, y1, y2, y3⟩)
      have CO := Lib.hid (p := ∀ V, Below W4.heap.size W4 V → Calls Tryz.prog 13 #[nodeV t.op t.nm t.n a2 t.ks.len c2] V fun e w' => ∃ a5 c5, e = .returned (nodeV t.op t.nm t.n a5 t.ks.len c5) ∧ ReadsK V.heap.size w' a5 t.ks ∧ Below V.heap.size V w') (fun V h => lof_any t _ V a2 c2 (by have := HOK.out.2.2; omega) (HT2'.out.r.kept h))
      have CC := Lib.hid (p := ∀ lo V a c, ReadsK lo V a t.ks → Calls Tryz.prog 12 #[nodeV t.op t.nm t.n a t.ks.len c] V fun e w' => e = .returned (.int .i64 0) ∧ Below V.heap.size V w') (fun lo V a c hr => by
        have h := rCheck_any (t := t) c HOK.out.1 hr
        rw [HOK.out.2.1] at h
        exact h)
      have CS := Lib.hid (p := ∀ lo lo' V a c a' c', ReadsK lo V a t.ks → ReadsK lo' V a' t.ks → Calls Tryz.prog 14 #[nodeV t.op t.nm t.n a t.ks.len c, nodeV t.op t.nm t.n a' t.ks.len c'] V fun e w' => e = .returned (.bool true) ∧ Below V.heap.size V w') (fun lo lo' V a c a' c' hr hr' => by
        have h := same_any t _ _ V a a' c c' t HOK.out.1.lens hr hr'
        rw [sameT_self] at h
        exact h)
      have C1 := Lib.hid (CO.out _ (drew_below W4))
      clear HT2' HN3 HOK
      go_region_held3 (fun w' => w'.cell? ⟨B2, 0, none⟩ = some (.string t.op) ∧ w'.cell? ⟨B2, 1, none⟩ = some (.string t.nm) ∧ w'.cell? ⟨B2, 2, none⟩ = some (.int .i64 t.n) ∧ w'.cell? ⟨B2, 3, none⟩ = some (.slice a2 t.ks.len c2) ∧ w'.cell? ⟨B3, 0, none⟩ = some (.string t.op) ∧ w'.cell? ⟨B3, 1, none⟩ = some (.string t.nm) ∧ w'.cell? ⟨B3, 2, none⟩ = some (.int .i64 t.n) ∧ w'.cell? ⟨B3, 3, none⟩ = some (.slice a3 t.ks.len c3)) (first | assumption | exact ⟨x0, x1, x2, x3, y0, y1, y2, y3⟩ | exact CELLS.out _ B8.out | exact CELLS.out _ B7.out | exact CELLS.out _ B6.out | exact CELLS.out _ B5.out) (first
        | (go_at_call 13
           with_reducible refine C1.out.mono ?_
           rintro e w5 ⟨a5, c5, rfl, hr, hb⟩
           have B5 := Lib.hid ((drew_below W4).trans hb)
           have R5 := Lib.hid hr
           have c5' := CELLS.out _ B5.out
           clear hb hr)
        | (go_at_call 12
           with_reducible refine (CC.out _ w5 a5 c5 R5.out).mono ?_
           rintro e w6 ⟨rfl, hb⟩
           have B6 := Lib.hid (B5.out.trans (hb.mono B5.out.size))
           have c6' := CELLS.out _ B6.out
           clear hb)
        | (go_at_call 13
           with_reducible refine (CO.out w6 B6.out).mono ?_
           rintro e w7 ⟨a7, c7, rfl, hr, hb⟩
           have B7 := Lib.hid (B6.out.trans (hb.mono B6.out.size))
           have R7 := Lib.hid hr
           have c7' := CELLS.out _ B7.out
           clear hb hr)
        | (go_at_call 14
           with_reducible refine (CS.out _ _ w7 a7 c7 a3 c3 R7.out (HR3.out.kept B7.out)).mono ?_
           rintro e w8 ⟨rfl, hb⟩
           have B8 := Lib.hid (B7.out.trans (hb.mono B7.out.size))
           have c8' := CELLS.out _ B8.out
           clear hb)
        | fail)
      have HE := Lib.hid ((HK3.out.step B8.out).b)
      clear B5 B6 B7 B8 CELLS CO CC CS C1 x0 x1 x2 x3 y0 y1 y2 y3
      go_wp2_with fail
      go_ret
      exact ⟨rfl, HE.out⟩

end Go.Proofs.YteegdemnajhehaaGreatDoor
