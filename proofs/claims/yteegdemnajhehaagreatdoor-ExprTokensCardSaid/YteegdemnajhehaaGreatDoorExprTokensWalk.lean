/-
  No statement: ExprTokens' walk.
-/
import Derived.Test.YteegdemnajhehaaGreatDoorExprTextsWalk
import Derived.Test.YteegdemnajhehaaGreatDoorETo
import Derived.Test.YteegdemnajhehaaGreatDoorGOf
import Derived.Test.YteegdemnajhehaaGreatDoorLRTok
namespace Go.Proofs.YteegdemnajhehaaGreatDoor
open Go.RowKit

set_option maxHeartbeats 8000000 in
theorem exprTokens_walk (s : ByteArray) (o : Nat) (ho : o < 256) (w : World) (hw : Laid9 w) : Calls Tryz.prog 4 #[.string s, .int .u8 o] w fun e w' => e = .returned (.bool true) ∧ Below w.heap.size w w' := by
  have KN := Lib.hid (known9_any w hw)
  have LD := Lib.hid hw
  clear hw
  have hl : s.data.toList.length = s.size := by simp
  go_enter Tryz.func4, Tryz.ntmps4
  go_wp2_with fail
  refine KN.out.mono ?_
  rintro e w1 ⟨rfl, hb1⟩
  have K1 := Lib.hid (show KB9 w w1 from ⟨hb1, LD.out.step hb1, hb1.size⟩)
  have A1 := Lib.hid (rTokens_any s w1)
  clear hb1 KN LD
  cases hp : lexT s.data.toList with
  | bad p er =>
    obtain ⟨q1, q2⟩ := lexT_bad_ne hp
    rw [hp] at A1
    clear hp
    go_wp2_with fail
    refine A1.out.mono ?_
    rintro e v2 ⟨hb, rfl⟩
    have HB := Lib.hid (K1.out.step hb).b
    clear hb A1
    by_cases hlen : 500 < s.size
    · have a1 : (500 : Int) < (s.size : Int) := by omega
      go_wp2_with fail
      go_ret
      exact ⟨rfl, HB.out⟩
    · have a1 : ¬ (500 : Int) < (s.size : Int) := by omega
      go_wp2_with fail
      go_ret
      exact ⟨rfl, HB.out⟩
  | ok ts =>
    rw [hp] at A1
    have HP := Lib.hid hp
    clear hp
    by_cases hlen : 500 < s.size
    · have a1 : (500 : Int) < (s.size : Int) := by omega
      go_wp2_with fail
      refine A1.out.mono ?_
      rintro e v2 ⟨hb, a, c, rfl, hown⟩
      have HB := Lib.hid (K1.out.step hb).b
      clear hb hown A1
      go_wp2_with fail
      go_ret
      exact ⟨rfl, HB.out⟩
    · have a1 : ¬ (500 : Int) < (s.size : Int) := by omega
      have hts : ts.length ≤ 500 := by
        have h := HP.out
        unfold lexT at h
        split at h
        · cases h
        · exact Nat.le_trans (lex_sizes _ _ _ h).2.1 (by rw [hl]; omega)
      go_wp2_with fail
      refine A1.out.mono ?_
      rintro e v2 ⟨hb, a, c, rfl, hown⟩
      have K2 := Lib.hid (K1.out.step hb)
      have RT := Lib.hid (readsT_own hown)
      clear hb hown A1
      obtain ⟨k, hk⟩ : ∃ k, o % (ts.length + 1) = k := ⟨_, rfl⟩
      have hk2 : k ≤ ts.length := by have := Nat.mod_lt o (show 0 < ts.length + 1 by omega); omega
      have hk3 : (o : Int) % ((ts.length : Int) + 1) = (k : Int) := by rw [← hk, Int.natCast_emod, Int.natCast_add]; rfl
      have hz : ((ts.length : Int) + 1 == 0) = false := by rw [beq_eq_false_iff_ne]; omega
      have GT := Lib.hid (lexT_good HP.out)
      go_upto_region 7 with fail
      rw [hk3]
      go_wp2_with fail
      refine (to_any ts a c (by omega) v2 RT.out).mono ?_
      rintro e v3 ⟨⟨a', c', rfl, hrt⟩, hb⟩
      have K3 := Lib.hid (K2.out.step hb)
      have RT3 := Lib.hid (RT.out.kept hb)
      have PO := Lib.hid (pOf_any ts GT.out a' c' k (by omega) hk2 v3 hrt)
      have RO := Lib.hid (p := ∀ V, ReadsT V a ts → Calls Tryz.prog 18 #[.slice a ts.length c, .int .i64 k] V (OfPost (ofL ts k) V)) (fun V hr => rOf_any ts a c k (by omega) hk2 V hr)
      clear hrt hb K2 RT
      obtain ⟨r, hr⟩ : ∃ r, ofL ts k = r := ⟨_, rfl⟩
      rw [hr] at PO RO
      cases r with
      | bad q er =>
        have q2 : ((er : Int) != 0) = true := by rcases ofL_ne hr with h | h; exact h.1; exact h
        have q1 : ((er : Int) == 0) = false := by simpa using q2
        clear hr
        go_wp2_with fail
        refine PO.out.mono ?_
        rintro e v4 ⟨⟨hb, rfl⟩, -⟩
        have BA := (Below.refl v4.heap.size v4).alloc (Nat.le_refl _) (ndG ⟨#[]⟩ ⟨#[]⟩ 0 none 0 0)
        have K4 := (K3.out.step hb).step BA
        have RT4 := (RT3.out.kept hb).kept BA
        generalize hW2 : v4.alloc (ndG ⟨#[]⟩ ⟨#[]⟩ 0 none 0 0) = W2 at K4 RT4
        have HW2 := Lib.hid hW2
        have HK2 := Lib.hid K4
        have HRT := Lib.hid RT4
        clear hb K4 hW2 BA RT4 RT3 K3 PO
        go_upto_region 8 with fail
        rw [HW2.out]
        clear HW2
        go_wp2_with fail
        refine (RO.out W2 HRT.out).mono ?_
        rintro e v5 ⟨hb, rfl⟩
        have K5 := (HK2.out.step hb).step ((Below.refl v5.heap.size v5).alloc (Nat.le_refl _) (ndO ⟨#[]⟩ ⟨#[]⟩ 0 none 0 0))
        generalize hW3 : v5.alloc (ndO ⟨#[]⟩ ⟨#[]⟩ 0 none 0 0) = W3 at K5
        have HW3 := Lib.hid hW3
        have HK3 := Lib.hid K5
        clear hb K5 hW3 RO
        go_upto_region 9 with fail
        rw [HW3.out]
        clear HW3
        go_quiet (fail)
        go_wp2_with fail
        go_ret
        exact ⟨rfl, below_drewN HK3.out.b _⟩
      | ok t q =>
        have HOK := Lib.hid (And.intro (md_sz (ofL_made GT.out hr)) (ofL_good GT.out hr))
        clear hr
        go_wp2_with fail
        refine PO.out.mono ?_
        rintro e v4 ⟨⟨hb, a2, c2, rfl, hr⟩, -⟩
        have BA := (Below.refl v4.heap.size v4).alloc (Nat.le_refl _) (ndG t.op t.nm t.n a2 t.ks.len c2)
        have T2 := kt9_new (t := t) (a := a2) (c := c2) K3.out.z hr
        have K4 := (K3.out.step hb).step BA
        have RT4 := (RT3.out.kept hb).kept BA
        generalize hW3 : v4.alloc (ndG t.op t.nm t.n a2 t.ks.len c2) = W3 at T2 K4 RT4
        generalize hB2 : v4.heap.size = B2 at T2
        have HB2 := Lib.hid hB2
        have HW3 := Lib.hid hW3
        have HT2 := Lib.hid T2
        have HK2 := Lib.hid K4
        have HRT := Lib.hid RT4
        clear hb hr BA T2 K4 hW3 hB2 RT4 RT3 K3 PO
        go_upto_region 8 with fail
        rw [HW3.out, HB2.out]
        clear HW3 HB2
        go_wp2_with fail
        refine (RO.out W3 HRT.out).mono ?_
        rintro e v5 ⟨hb, a3, c3, rfl, hr⟩
        have BA := (Below.refl v5.heap.size v5).alloc (Nat.le_refl _) (ndO t.op t.nm t.n a3 t.ks.len c3)
        have N3 := heap_alloc_new v5 (ndO t.op t.nm t.n a3 t.ks.len c3)
        have R3 := (hr.kept BA).mono HK2.out.z
        have K5 := (HK2.out.step hb).step BA
        have T2 := (HT2.out.step hb).step BA
        generalize hW4 : v5.alloc (ndO t.op t.nm t.n a3 t.ks.len c3) = W4 at T2 N3 R3 K5
        generalize hB3 : v5.heap.size = B3 at N3
        have HB3 := Lib.hid hB3
        have HW4 := Lib.hid hW4
        have HT2' := Lib.hid T2
        have HN3 := Lib.hid N3
        have HR3 := Lib.hid R3
        have HK3 := Lib.hid K5
        clear hb hr BA T2 N3 R3 K5 hW4 hB3 RO HT2 HK2 HRT
        go_upto_region 9 with fail
        rw [HW4.out, HB3.out]
        clear HW4 HB3
        obtain ⟨⟨x0, x1, x2, x3⟩, -⟩ := four HT2'.out.n
        obtain ⟨⟨y0, y1, y2, y3⟩, -⟩ := four HN3.out
        have CELLS := Lib.hid (p := ∀ w', Below W4.heap.size W4 w' → (w'.cell? ⟨B2, 0, none⟩ = some (.string t.op) ∧ w'.cell? ⟨B2, 1, none⟩ = some (.string t.nm) ∧ w'.cell? ⟨B2, 2, none⟩ = some (.int .i64 t.n) ∧ w'.cell? ⟨B2, 3, none⟩ = some (.slice a2 t.ks.len c2) ∧ w'.cell? ⟨B3, 0, none⟩ = some (.string t.op) ∧ w'.cell? ⟨B3, 1, none⟩ = some (.string t.nm) ∧ w'.cell? ⟨B3, 2, none⟩ = some (.int .i64 t.n) ∧ w'.cell? ⟨B3, 3, none⟩ = some (.slice a3 t.ks.len c3))) (fun w' h => by
          obtain ⟨⟨x0, x1, x2, x3⟩, -⟩ := four ((h.block _ (lt_block HT2'.out.n)).trans HT2'.out.n)
          obtain ⟨⟨y0, y1, y2, y3⟩, -⟩ := four ((h.block _ (lt_block HN3.out)).trans HN3.out)
          exact ⟨x0, x1, x2, x3, y0, y1, y2, y3⟩)
        have CO := Lib.hid (p := ∀ V, Below W4.heap.size W4 V → Calls Tryz.prog 13 #[nodeV t.op t.nm t.n a2 t.ks.len c2] V fun e w' => ∃ a5 c5, e = .returned (nodeV t.op t.nm t.n a5 t.ks.len c5) ∧ ReadsK V.heap.size w' a5 t.ks ∧ Below V.heap.size V w') (fun V h => lof_any t _ V a2 c2 (by have := HOK.out.2.2; omega) (HT2'.out.r.kept h))
        have CC := Lib.hid (p := ∀ lo V a c, ReadsK lo V a t.ks → Calls Tryz.prog 12 #[nodeV t.op t.nm t.n a t.ks.len c] V fun e w' => e = .returned (.int .i64 0) ∧ Below V.heap.size V w') (fun lo V a c hr => by
          have h := rCheck_any (t := t) c HOK.out.1 hr
          rw [HOK.out.2.1] at h
          exact h)
        have CS := Lib.hid (p := ∀ lo lo' V a c a' c', ReadsK lo V a t.ks → ReadsK lo' V a' t.ks → Calls Tryz.prog 14 #[nodeV t.op t.nm t.n a t.ks.len c, nodeV t.op t.nm t.n a' t.ks.len c'] V fun e w' => e = .returned (.bool true) ∧ Below V.heap.size V w') (fun lo lo' V a c a' c' hr hr' => by
          have h := same_any t _ _ V a a' c c' t HOK.out.1.lens hr hr'
          rw [sameT_self] at h
          exact h)
        have C1 := Lib.hid (CO.out _ (drew_below W4))
        clear HT2' HN3 HOK
        go_region_held3 (fun w' => w'.cell? ⟨B2, 0, none⟩ = some (.string t.op) ∧ w'.cell? ⟨B2, 1, none⟩ = some (.string t.nm) ∧ w'.cell? ⟨B2, 2, none⟩ = some (.int .i64 t.n) ∧ w'.cell? ⟨B2, 3, none⟩ = some (.slice a2 t.ks.len c2) ∧ w'.cell? ⟨B3, 0, none⟩ = some (.string t.op) ∧ w'.cell? ⟨B3, 1, none⟩ = some (.string t.nm) ∧ w'.cell? ⟨B3, 2, none⟩ = some (.int .i64 t.n) ∧ w'.cell? ⟨B3, 3, none⟩ = some (.slice a3 t.ks.len c3)) (first | assumption | exact ⟨x0, x1, x2, x3, y0, y1, y2, y3⟩ | exact CELLS.out _ B8.out | exact CELLS.out _ B7.out | exact CELLS.out _ B6.out | exact CELLS.out _ B5.out) (first
          | (go_at_call 13
             with_reducible refine C1.out.mono ?_
             rintro e w5 ⟨a5, c5, rfl, hr, hb⟩
             have B5 := Lib.hid ((drew_below W4).trans hb)
             have R5 := Lib.hid hr
             have c5' := CELLS.out _ B5.out
             clear hb hr)
          | (go_at_call 12
             with_reducible refine (CC.out _ w5 a5 c5 R5.out).mono ?_
             rintro e w6 ⟨rfl, hb⟩
             have B6 := Lib.hid (B5.out.trans (hb.mono B5.out.size))
             have c6' := CELLS.out _ B6.out
             clear hb)
          | (go_at_call 13
             with_reducible refine (CO.out w6 B6.out).mono ?_
             rintro e w7 ⟨a7, c7, rfl, hr, hb⟩
             have B7 := Lib.hid (B6.out.trans (hb.mono B6.out.size))
             have R7 := Lib.hid hr
             have c7' := CELLS.out _ B7.out
             clear hb hr)
          | (go_at_call 14
             with_reducible refine (CS.out _ _ w7 a7 c7 a3 c3 R7.out (HR3.out.kept B7.out)).mono ?_
             rintro e w8 ⟨rfl, hb⟩
             have B8 := Lib.hid (B7.out.trans (hb.mono B7.out.size))
             have c8' := CELLS.out _ B8.out
             clear hb)
          | fail)
        have HE := Lib.hid ((HK3.out.step B8.out).b)
        clear B5 B6 B7 B8 CELLS CO CC CS C1 x0 x1 x2 x3 y0 y1 y2 y3
        go_wp2_with fail
        go_ret
        exact ⟨rfl, HE.out⟩

end Go.Proofs.YteegdemnajhehaaGreatDoor
