/-
  No statement: the document's sameness and words of trees.
-/
import Derived.Test.YteegdemnajhehaaGreatDoorAChk
import Derived.Deep.RegionHeld3
import Derived.Test.YteegdemnajhehaaGreatDoorABack
import Derived.Test.YteegdemnajhehaaGreatDoorBase
import Derived.Test.YteegdemnajhehaaGreatDoorAMath
import Derived.Laws.IdiomStrings
namespace Go.Proofs.YteegdemnajhehaaGreatDoor
open Go.RowKit

theorem same_cons {f g : F} {t u : TN} {r s : F} (hf : f = .cons t.op t.nm t.n t.ks r) (hg : g = .cons u.op u.nm u.n u.ks s) : sameF f g = (sameT t u && sameF r s) := by
  rw [hf, hg, sameT, TN.f, TN.f, sameF, sameF]
  simp only [sameF, Bool.and_true]

theorem same_head (t u : TN) : sameT t u = ((t.op.toList == u.op.toList) && (t.ks.len == u.ks.len) && !((t.op.toList == [110, 117, 109]) && t.n != u.n) && !((t.op.toList == [110, 97, 109, 101]) && (t.nm.toList != u.nm.toList)) && sameF t.ks u.ks) := by
  rw [sameT, TN.f, TN.f, sameF]
  simp only [sameF, Bool.and_true, isNum, isName, bNum, bName, Lib.toList_data]

/-- SameNode's contract at a tree. -/
def SameOK (t : TN) : Prop := ∀ (G H : Nat → Prop) (w : World) (a a2 : Option Addr) (c c2 : Nat) (u : TN), LenF t.f → ReadsN G w a t.ks → ReadsN H w a2 u.ks → Calls Tryz.prog 14 #[nodeV t.op t.nm t.n a t.ks.len c, nodeV u.op u.nm u.n a2 u.ks.len c2] w fun e w' => e = .returned (.bool (sameT t u)) ∧ Below w.heap.size w w'

set_option maxHeartbeats 4000000 in
theorem same_step (t : TN) (ih : EachF SameOK t.ks) : SameOK t := by
  intro G H w a a2 c c2 u hS hr hs
  have R := Lib.hid hr
  have R2 := Lib.hid hs
  have IH := Lib.hid ih
  obtain ⟨hm, hL2, -⟩ := hS
  have LK := Lib.hid hL2
  obtain ⟨r, hR⟩ : ∃ r, sameT t u = r := ⟨_, rfl⟩
  rw [hR]
  rw [same_head] at hR
  have hop : (t.op.toList == u.op.toList) = true → u.op = t.op := fun h => ByteArray.ext (Array.ext' (by rw [← Lib.toList_data, ← Lib.toList_data]; exact (eq_of_beq h).symm))
  obtain ⟨uo, um, un, uks⟩ := u
  dsimp only at hop hR hs ⊢
  obtain ⟨L, hL⟩ : ∃ L, uks.len = L := ⟨_, rfl⟩
  have HL := Lib.hid hL
  rw [hL] at hR ⊢
  have NB : Hid ((w.alloc (ndO t.op t.nm t.n a t.ks.len c)).heap[w.heap.size]? = some (ndO t.op t.nm t.n a t.ks.len c)) := Lib.hid (heap_alloc_new w _)
  have NB0 : Hid (((w.alloc (ndO t.op t.nm t.n a t.ks.len c)).alloc (ndO uo um un a2 L c2)).heap[w.heap.size]? = some (ndO t.op t.nm t.n a t.ks.len c)) := Lib.hid ((heap_alloc_old _ _ (lt_block NB.out)).trans NB.out)
  have NB1 : Hid (((w.alloc (ndO t.op t.nm t.n a t.ks.len c)).alloc (ndO uo um un a2 L c2)).heap[w.heap.size + 1]? = some (ndO uo um un a2 L c2)) := Lib.hid (by have := heap_alloc_new (w.alloc (ndO t.op t.nm t.n a t.ks.len c)) (ndO uo um un a2 L c2); rwa [World.size_alloc] at this)
  have B0 := Lib.hid (((Below.refl w.heap.size w).alloc (Nat.le_refl _) (ndO t.op t.nm t.n a t.ks.len c)).alloc (by simp) (ndO uo um un a2 L c2))
  clear hr hs ih hL2 NB hL
  cases h1 : (t.op.toList == uo.toList) with
  | false =>
    have RR := Lib.hid (show false = r by rw [← hR, h1]; rfl)
    clear hR hop
    go_enter Tryz.func14, Tryz.ntmps14
    go_wp2_with fail
    go_ret
    rw [RR.out]
    exact ⟨rfl, B0.out⟩
  | true =>
    obtain rfl := hop h1
    clear hop h1
    by_cases h2 : t.ks.len = L
    · subst h2
      obtain ⟨p, hp⟩ : ∃ p, (t.op.toList == [110, 97, 109, 101]) = p := ⟨_, rfl⟩
      obtain ⟨q, hq⟩ : ∃ q, (t.op.toList == [110, 117, 109]) = q := ⟨_, rfl⟩
      rw [hp, hq] at hR
      cases q with
      | true =>
        obtain rfl : p = false := by rw [← hp, eq_of_beq hq]; rfl
        by_cases h3 : un = t.n
        · subst h3
          have H0 := Lib.hid (show sameF (t.ks.drop 0) (uks.drop 0) = r by rw [F.drop_zero, F.drop_zero, ← hR]; simp)
          clear hR
          go_enter Tryz.func14, Tryz.ntmps14
          go_wp2_with fail
          generalize (w.alloc (ndO t.op t.nm t.n a t.ks.len c)).alloc (ndO t.op um t.n a2 t.ks.len c2) = W at NB0 NB1 B0 ⊢
          go_loopw [5] (fun i wr => ∃ (k : Nat), i = .int .i64 k ∧ k ≤ t.ks.len ∧ Hid (sameF (t.ks.drop k) (uks.drop k) = r) ∧ Hid (Below w.heap.size w wr) ∧ Hid (wr.heap[w.heap.size]? = some (ndO t.op t.nm t.n a t.ks.len c)) ∧ Hid (wr.heap[w.heap.size + 1]? = some (ndO t.op um t.n a2 t.ks.len c2))) (fun i _ => t.ks.len - (intOf i).toNat)
          case atStart => exact ⟨0, rfl, Nat.zero_le _, H0, B0, NB0, NB1⟩
          case round =>
            obtain ⟨k, rfl, hk, hE, hB, hN, hM⟩ := hrel
            obtain ⟨⟨m0, m1, m2, m3⟩, -⟩ := four hN.out
            obtain ⟨⟨q0, q1, q2, q3⟩, -⟩ := four hM.out
            by_cases hlt : k < t.ks.len
            · obtain ⟨t2, hat, hdr⟩ := at_some hlt
              obtain ⟨u2, hau, hdu⟩ := at_some (show k < uks.len by rw [HL.out]; exact hlt)
              obtain ⟨b, off, a3, c3, ha, hG, hbl, ⟨p0, p1, p2, p3⟩, hr2⟩ := readsN_at (R.out.kept hB.out) hat
              obtain ⟨b', off', a4, c4, ha', hG', hbl', ⟨p4, p5, p6, p7⟩, hr3⟩ := readsN_at (R2.out.kept hB.out) hau
              have EN := Lib.hid (show (sameT t2 u2 && sameF (t.ks.drop (k + 1)) (uks.drop (k + 1))) = r from (same_cons hdr hdu).symm.trans hE.out)
              have hdr' : Below wr.heap.size wr wr.drew := ⟨rfl, rfl, rfl, Nat.le_refl _, fun _ _ => rfl⟩
              have C := Lib.hid ((EachF.at IH.out hat) G H wr.drew a3 a4 c3 c4 u2 (LK.out.at hat) (hr2.kept hdr') (hr3.kept hdr'))
              subst ha ha'
              obtain ⟨y, hy⟩ : ∃ y, sameT t2 u2 = y := ⟨_, rfl⟩
              rw [hy] at C EN
              have CELLS := Lib.hid (p := ∀ w', Below wr.heap.size wr w' → (w'.cell? ⟨w.heap.size, 3, none⟩ = some (.slice (some ⟨b, off, none⟩) t.ks.len c) ∧ w'.cell? ⟨w.heap.size + 1, 3, none⟩ = some (.slice (some ⟨b', off', none⟩) t.ks.len c2) ∧ w'.cell? ⟨b, off + k * 4, none⟩ = some (.string t2.op) ∧ w'.cell? ⟨b, off + k * 4 + 1, none⟩ = some (.string t2.nm) ∧ w'.cell? ⟨b, off + k * 4 + 2, none⟩ = some (.int .i64 t2.n) ∧ w'.cell? ⟨b, off + k * 4 + 3, none⟩ = some (.slice a3 t2.ks.len c3) ∧ w'.cell? ⟨b', off' + k * 4, none⟩ = some (.string u2.op) ∧ w'.cell? ⟨b', off' + k * 4 + 1, none⟩ = some (.string u2.nm) ∧ w'.cell? ⟨b', off' + k * 4 + 2, none⟩ = some (.int .i64 u2.n) ∧ w'.cell? ⟨b', off' + k * 4 + 3, none⟩ = some (.slice a4 u2.ks.len c4))) (fun w' h => ⟨(h.cell (lt_block hN.out)).trans m3, (h.cell (lt_block hM.out)).trans q3, (h.cell hbl).trans p0, (h.cell hbl).trans p1, (h.cell hbl).trans p2, (h.cell hbl).trans p3, (h.cell hbl').trans p4, (h.cell hbl').trans p5, (h.cell hbl').trans p6, (h.cell hbl').trans p7⟩)
              clear hat hdr hau hdu hr2 hr3 hy hdr'
              go_wp2_with fail
              go_region_held3 (fun w' => w'.cell? ⟨w.heap.size, 3, none⟩ = some (.slice (some ⟨b, off, none⟩) t.ks.len c) ∧ w'.cell? ⟨w.heap.size + 1, 3, none⟩ = some (.slice (some ⟨b', off', none⟩) t.ks.len c2) ∧ w'.cell? ⟨b, off + k * 4, none⟩ = some (.string t2.op) ∧ w'.cell? ⟨b, off + k * 4 + 1, none⟩ = some (.string t2.nm) ∧ w'.cell? ⟨b, off + k * 4 + 2, none⟩ = some (.int .i64 t2.n) ∧ w'.cell? ⟨b, off + k * 4 + 3, none⟩ = some (.slice a3 t2.ks.len c3) ∧ w'.cell? ⟨b', off' + k * 4, none⟩ = some (.string u2.op) ∧ w'.cell? ⟨b', off' + k * 4 + 1, none⟩ = some (.string u2.nm) ∧ w'.cell? ⟨b', off' + k * 4 + 2, none⟩ = some (.int .i64 u2.n) ∧ w'.cell? ⟨b', off' + k * 4 + 3, none⟩ = some (.slice a4 u2.ks.len c4)) (first | exact ⟨m3, q3, p0, p1, p2, p3, p4, p5, p6, p7⟩ | exact CELLS.out _ B2.out) (first
                | (go_at_call 14
                   with_reducible refine C.out.mono ?_
                   rintro e w2 ⟨rfl, hb⟩
                   have B2 := Lib.hid ((drew_below wr).trans hb)
                   clear hb)
                | fail)
              have hz := hB.out.size
              have N2 := Lib.hid ((B2.out.block _ (lt_block hN.out)).trans hN.out)
              have M2 := Lib.hid ((B2.out.block _ (lt_block hM.out)).trans hM.out)
              have B3 := Lib.hid (hB.out.trans (B2.out.mono hz))
              clear B2 C CELLS m0 m1 m2 m3 q0 q1 q2 q3 p0 p1 p2 p3 p4 p5 p6 p7
              cases y with
              | true =>
                have EN2 := Lib.hid ((Bool.true_and _).symm.trans EN.out)
                clear EN
                go_wp2_with fail
                go_roundw
                case rel => exact ⟨k + 1, by go_num, by omega, EN2, B3, N2, M2⟩
                case measure => simp [intOf]; omega
              | false =>
                have RR := Lib.hid (show false = r from (Bool.false_and _).symm.trans EN.out)
                clear EN
                go_wp2_with fail
                go_ret
                rw [RR.out]
                exact ⟨rfl, B3.out⟩
            · have RR := Lib.hid (show true = r by rw [← hE.out, F.drop_len _ _ (by omega), F.drop_len _ _ (by rw [HL.out]; omega)]; rfl)
              go_wp2_with fail
              go_ret
              rw [RR.out]
              exact ⟨rfl, hB.out⟩
        · have RR := Lib.hid (show false = r by rw [← hR]; simp [bne_iff_ne.2 (Ne.symm h3)])
          clear hR
          go_enter Tryz.func14, Tryz.ntmps14
          go_wp2_with fail
          go_ret
          rw [RR.out]
          exact ⟨rfl, B0.out⟩
      | false =>
        cases p with
        | true =>
          cases h4 : (t.nm.toList == um.toList) with
          | true =>
            have H0 := Lib.hid (show sameF (t.ks.drop 0) (uks.drop 0) = r by rw [F.drop_zero, F.drop_zero, ← hR]; simp [bne, h4])
            clear hR
            go_enter Tryz.func14, Tryz.ntmps14
            go_wp2_with fail
            generalize (w.alloc (ndO t.op t.nm t.n a t.ks.len c)).alloc (ndO t.op um un a2 t.ks.len c2) = W at NB0 NB1 B0 ⊢
            go_loopw [5] (fun i wr => ∃ (k : Nat), i = .int .i64 k ∧ k ≤ t.ks.len ∧ Hid (sameF (t.ks.drop k) (uks.drop k) = r) ∧ Hid (Below w.heap.size w wr) ∧ Hid (wr.heap[w.heap.size]? = some (ndO t.op t.nm t.n a t.ks.len c)) ∧ Hid (wr.heap[w.heap.size + 1]? = some (ndO t.op um un a2 t.ks.len c2))) (fun i _ => t.ks.len - (intOf i).toNat)
            case atStart => exact ⟨0, rfl, Nat.zero_le _, H0, B0, NB0, NB1⟩
            case round =>
              obtain ⟨k, rfl, hk, hE, hB, hN, hM⟩ := hrel
              obtain ⟨⟨m0, m1, m2, m3⟩, -⟩ := four hN.out
              obtain ⟨⟨q0, q1, q2, q3⟩, -⟩ := four hM.out
              by_cases hlt : k < t.ks.len
              · obtain ⟨t2, hat, hdr⟩ := at_some hlt
                obtain ⟨u2, hau, hdu⟩ := at_some (show k < uks.len by rw [HL.out]; exact hlt)
                obtain ⟨b, off, a3, c3, ha, hG, hbl, ⟨p0, p1, p2, p3⟩, hr2⟩ := readsN_at (R.out.kept hB.out) hat
                obtain ⟨b', off', a4, c4, ha', hG', hbl', ⟨p4, p5, p6, p7⟩, hr3⟩ := readsN_at (R2.out.kept hB.out) hau
                have EN := Lib.hid (show (sameT t2 u2 && sameF (t.ks.drop (k + 1)) (uks.drop (k + 1))) = r from (same_cons hdr hdu).symm.trans hE.out)
                have hdr' : Below wr.heap.size wr wr.drew := ⟨rfl, rfl, rfl, Nat.le_refl _, fun _ _ => rfl⟩
                have C := Lib.hid ((EachF.at IH.out hat) G H wr.drew a3 a4 c3 c4 u2 (LK.out.at hat) (hr2.kept hdr') (hr3.kept hdr'))
                subst ha ha'
                obtain ⟨y, hy⟩ : ∃ y, sameT t2 u2 = y := ⟨_, rfl⟩
                rw [hy] at C EN
                have CELLS := Lib.hid (p := ∀ w', Below wr.heap.size wr w' → (w'.cell? ⟨w.heap.size, 3, none⟩ = some (.slice (some ⟨b, off, none⟩) t.ks.len c) ∧ w'.cell? ⟨w.heap.size + 1, 3, none⟩ = some (.slice (some ⟨b', off', none⟩) t.ks.len c2) ∧ w'.cell? ⟨b, off + k * 4, none⟩ = some (.string t2.op) ∧ w'.cell? ⟨b, off + k * 4 + 1, none⟩ = some (.string t2.nm) ∧ w'.cell? ⟨b, off + k * 4 + 2, none⟩ = some (.int .i64 t2.n) ∧ w'.cell? ⟨b, off + k * 4 + 3, none⟩ = some (.slice a3 t2.ks.len c3) ∧ w'.cell? ⟨b', off' + k * 4, none⟩ = some (.string u2.op) ∧ w'.cell? ⟨b', off' + k * 4 + 1, none⟩ = some (.string u2.nm) ∧ w'.cell? ⟨b', off' + k * 4 + 2, none⟩ = some (.int .i64 u2.n) ∧ w'.cell? ⟨b', off' + k * 4 + 3, none⟩ = some (.slice a4 u2.ks.len c4))) (fun w' h => ⟨(h.cell (lt_block hN.out)).trans m3, (h.cell (lt_block hM.out)).trans q3, (h.cell hbl).trans p0, (h.cell hbl).trans p1, (h.cell hbl).trans p2, (h.cell hbl).trans p3, (h.cell hbl').trans p4, (h.cell hbl').trans p5, (h.cell hbl').trans p6, (h.cell hbl').trans p7⟩)
                clear hat hdr hau hdu hr2 hr3 hy hdr'
                go_wp2_with fail
                go_region_held3 (fun w' => w'.cell? ⟨w.heap.size, 3, none⟩ = some (.slice (some ⟨b, off, none⟩) t.ks.len c) ∧ w'.cell? ⟨w.heap.size + 1, 3, none⟩ = some (.slice (some ⟨b', off', none⟩) t.ks.len c2) ∧ w'.cell? ⟨b, off + k * 4, none⟩ = some (.string t2.op) ∧ w'.cell? ⟨b, off + k * 4 + 1, none⟩ = some (.string t2.nm) ∧ w'.cell? ⟨b, off + k * 4 + 2, none⟩ = some (.int .i64 t2.n) ∧ w'.cell? ⟨b, off + k * 4 + 3, none⟩ = some (.slice a3 t2.ks.len c3) ∧ w'.cell? ⟨b', off' + k * 4, none⟩ = some (.string u2.op) ∧ w'.cell? ⟨b', off' + k * 4 + 1, none⟩ = some (.string u2.nm) ∧ w'.cell? ⟨b', off' + k * 4 + 2, none⟩ = some (.int .i64 u2.n) ∧ w'.cell? ⟨b', off' + k * 4 + 3, none⟩ = some (.slice a4 u2.ks.len c4)) (first | exact ⟨m3, q3, p0, p1, p2, p3, p4, p5, p6, p7⟩ | exact CELLS.out _ B2.out) (first
                  | (go_at_call 14
                     with_reducible refine C.out.mono ?_
                     rintro e w2 ⟨rfl, hb⟩
                     have B2 := Lib.hid ((drew_below wr).trans hb)
                     clear hb)
                  | fail)
                have hz := hB.out.size
                have N2 := Lib.hid ((B2.out.block _ (lt_block hN.out)).trans hN.out)
                have M2 := Lib.hid ((B2.out.block _ (lt_block hM.out)).trans hM.out)
                have B3 := Lib.hid (hB.out.trans (B2.out.mono hz))
                clear B2 C CELLS m0 m1 m2 m3 q0 q1 q2 q3 p0 p1 p2 p3 p4 p5 p6 p7
                cases y with
                | true =>
                  have EN2 := Lib.hid ((Bool.true_and _).symm.trans EN.out)
                  clear EN
                  go_wp2_with fail
                  go_roundw
                  case rel => exact ⟨k + 1, by go_num, by omega, EN2, B3, N2, M2⟩
                  case measure => simp [intOf]; omega
                | false =>
                  have RR := Lib.hid (show false = r from (Bool.false_and _).symm.trans EN.out)
                  clear EN
                  go_wp2_with fail
                  go_ret
                  rw [RR.out]
                  exact ⟨rfl, B3.out⟩
              · have RR := Lib.hid (show true = r by rw [← hE.out, F.drop_len _ _ (by omega), F.drop_len _ _ (by rw [HL.out]; omega)]; rfl)
                go_wp2_with fail
                go_ret
                rw [RR.out]
                exact ⟨rfl, hB.out⟩
          | false =>
            have RR := Lib.hid (show false = r by rw [← hR]; simp [bne, h4])
            clear hR
            go_enter Tryz.func14, Tryz.ntmps14
            go_wp2_with fail
            go_ret
            rw [RR.out]
            exact ⟨rfl, B0.out⟩
        | false =>
          have H0 := Lib.hid (show sameF (t.ks.drop 0) (uks.drop 0) = r by rw [F.drop_zero, F.drop_zero, ← hR]; simp)
          clear hR
          go_enter Tryz.func14, Tryz.ntmps14
          go_wp2_with fail
          generalize (w.alloc (ndO t.op t.nm t.n a t.ks.len c)).alloc (ndO t.op um un a2 t.ks.len c2) = W at NB0 NB1 B0 ⊢
          go_loopw [5] (fun i wr => ∃ (k : Nat), i = .int .i64 k ∧ k ≤ t.ks.len ∧ Hid (sameF (t.ks.drop k) (uks.drop k) = r) ∧ Hid (Below w.heap.size w wr) ∧ Hid (wr.heap[w.heap.size]? = some (ndO t.op t.nm t.n a t.ks.len c)) ∧ Hid (wr.heap[w.heap.size + 1]? = some (ndO t.op um un a2 t.ks.len c2))) (fun i _ => t.ks.len - (intOf i).toNat)
          case atStart => exact ⟨0, rfl, Nat.zero_le _, H0, B0, NB0, NB1⟩
          case round =>
            obtain ⟨k, rfl, hk, hE, hB, hN, hM⟩ := hrel
            obtain ⟨⟨m0, m1, m2, m3⟩, -⟩ := four hN.out
            obtain ⟨⟨q0, q1, q2, q3⟩, -⟩ := four hM.out
            by_cases hlt : k < t.ks.len
            · obtain ⟨t2, hat, hdr⟩ := at_some hlt
              obtain ⟨u2, hau, hdu⟩ := at_some (show k < uks.len by rw [HL.out]; exact hlt)
              obtain ⟨b, off, a3, c3, ha, hG, hbl, ⟨p0, p1, p2, p3⟩, hr2⟩ := readsN_at (R.out.kept hB.out) hat
              obtain ⟨b', off', a4, c4, ha', hG', hbl', ⟨p4, p5, p6, p7⟩, hr3⟩ := readsN_at (R2.out.kept hB.out) hau
              have EN := Lib.hid (show (sameT t2 u2 && sameF (t.ks.drop (k + 1)) (uks.drop (k + 1))) = r from (same_cons hdr hdu).symm.trans hE.out)
              have hdr' : Below wr.heap.size wr wr.drew := ⟨rfl, rfl, rfl, Nat.le_refl _, fun _ _ => rfl⟩
              have C := Lib.hid ((EachF.at IH.out hat) G H wr.drew a3 a4 c3 c4 u2 (LK.out.at hat) (hr2.kept hdr') (hr3.kept hdr'))
              subst ha ha'
              obtain ⟨y, hy⟩ : ∃ y, sameT t2 u2 = y := ⟨_, rfl⟩
              rw [hy] at C EN
              have CELLS := Lib.hid (p := ∀ w', Below wr.heap.size wr w' → (w'.cell? ⟨w.heap.size, 3, none⟩ = some (.slice (some ⟨b, off, none⟩) t.ks.len c) ∧ w'.cell? ⟨w.heap.size + 1, 3, none⟩ = some (.slice (some ⟨b', off', none⟩) t.ks.len c2) ∧ w'.cell? ⟨b, off + k * 4, none⟩ = some (.string t2.op) ∧ w'.cell? ⟨b, off + k * 4 + 1, none⟩ = some (.string t2.nm) ∧ w'.cell? ⟨b, off + k * 4 + 2, none⟩ = some (.int .i64 t2.n) ∧ w'.cell? ⟨b, off + k * 4 + 3, none⟩ = some (.slice a3 t2.ks.len c3) ∧ w'.cell? ⟨b', off' + k * 4, none⟩ = some (.string u2.op) ∧ w'.cell? ⟨b', off' + k * 4 + 1, none⟩ = some (.string u2.nm) ∧ w'.cell? ⟨b', off' + k * 4 + 2, none⟩ = some (.int .i64 u2.n) ∧ w'.cell? ⟨b', off' + k * 4 + 3, none⟩ = some (.slice a4 u2.ks.len c4))) (fun w' h => ⟨(h.cell (lt_block hN.out)).trans m3, (h.cell (lt_block hM.out)).trans q3, (h.cell hbl).trans p0, (h.cell hbl).trans p1, (h.cell hbl).trans p2, (h.cell hbl).trans p3, (h.cell hbl').trans p4, (h.cell hbl').trans p5, (h.cell hbl').trans p6, (h.cell hbl').trans p7⟩)
              clear hat hdr hau hdu hr2 hr3 hy hdr'
              go_wp2_with fail
              go_region_held3 (fun w' => w'.cell? ⟨w.heap.size, 3, none⟩ = some (.slice (some ⟨b, off, none⟩) t.ks.len c) ∧ w'.cell? ⟨w.heap.size + 1, 3, none⟩ = some (.slice (some ⟨b', off', none⟩) t.ks.len c2) ∧ w'.cell? ⟨b, off + k * 4, none⟩ = some (.string t2.op) ∧ w'.cell? ⟨b, off + k * 4 + 1, none⟩ = some (.string t2.nm) ∧ w'.cell? ⟨b, off + k * 4 + 2, none⟩ = some (.int .i64 t2.n) ∧ w'.cell? ⟨b, off + k * 4 + 3, none⟩ = some (.slice a3 t2.ks.len c3) ∧ w'.cell? ⟨b', off' + k * 4, none⟩ = some (.string u2.op) ∧ w'.cell? ⟨b', off' + k * 4 + 1, none⟩ = some (.string u2.nm) ∧ w'.cell? ⟨b', off' + k * 4 + 2, none⟩ = some (.int .i64 u2.n) ∧ w'.cell? ⟨b', off' + k * 4 + 3, none⟩ = some (.slice a4 u2.ks.len c4)) (first | exact ⟨m3, q3, p0, p1, p2, p3, p4, p5, p6, p7⟩ | exact CELLS.out _ B2.out) (first
                | (go_at_call 14
                   with_reducible refine C.out.mono ?_
                   rintro e w2 ⟨rfl, hb⟩
                   have B2 := Lib.hid ((drew_below wr).trans hb)
                   clear hb)
                | fail)
              have hz := hB.out.size
              have N2 := Lib.hid ((B2.out.block _ (lt_block hN.out)).trans hN.out)
              have M2 := Lib.hid ((B2.out.block _ (lt_block hM.out)).trans hM.out)
              have B3 := Lib.hid (hB.out.trans (B2.out.mono hz))
              clear B2 C CELLS m0 m1 m2 m3 q0 q1 q2 q3 p0 p1 p2 p3 p4 p5 p6 p7
              cases y with
              | true =>
                have EN2 := Lib.hid ((Bool.true_and _).symm.trans EN.out)
                clear EN
                go_wp2_with fail
                go_roundw
                case rel => exact ⟨k + 1, by go_num, by omega, EN2, B3, N2, M2⟩
                case measure => simp [intOf]; omega
              | false =>
                have RR := Lib.hid (show false = r from (Bool.false_and _).symm.trans EN.out)
                clear EN
                go_wp2_with fail
                go_ret
                rw [RR.out]
                exact ⟨rfl, B3.out⟩
            · have RR := Lib.hid (show true = r by rw [← hE.out, F.drop_len _ _ (by omega), F.drop_len _ _ (by rw [HL.out]; omega)]; rfl)
              go_wp2_with fail
              go_ret
              rw [RR.out]
              exact ⟨rfl, hB.out⟩
    · have RR := Lib.hid (show false = r by rw [← hR]; simp [h2])
      clear hR
      go_enter Tryz.func14, Tryz.ntmps14
      go_wp2_with fail
      go_ret
      rw [RR.out]
      exact ⟨rfl, B0.out⟩

theorem same_any (t : TN) : SameOK t := tree_of same_step t

end Go.Proofs.YteegdemnajhehaaGreatDoor

namespace Go.Proofs.YteegdemnajhehaaGreatDoor
open Go.RowKit

/-- A digit's byte. -/
def dig (m : Nat) : ByteArray := ⟨#[UInt8.ofNat (48 + m % 10)]⟩

/-- What stands ahead of the digits that are told. -/
def ahead (m : Nat) : List UInt8 := if m < 10 then [] else Lib.decDigits (m / 10)

theorem dec_ahead (m : Nat) : Lib.decDigits m = ahead m ++ (dig m).data.toList := by
  unfold ahead
  by_cases h : m < 10
  · rw [if_pos h, Lib.decDigits, dif_pos h]; simp [dig, Nat.mod_eq_of_lt h]
  · rw [if_neg h, Lib.decDigits, dif_neg h]; simp [dig]

theorem digit_conv (w : World) (m : Nat) : (convert 110 9 (.slice (some ⟨w.heap.size, 0, none⟩) 1 1)).run Tryz.prog (w.alloc (.cells #[.int .u8 (48 + (m : Int) % 10)] 5)) = .ok (.string (dig m)) (w.alloc (.cells #[.int .u8 (48 + (m : Int) % 10)] 5)) := by
  have := run_convert_bytes_back (P := Tryz.prog) (w.alloc (.cells #[.int .u8 (48 + (m : Int) % 10)] 5)) 110 9 5 ⟨w.heap.size, 0, none⟩ 1 [UInt8.ofNat (48 + m % 10)] Tryz.underlying110 Tryz.underlying5 Tryz.underlying9 (fun j hj => by
    obtain rfl : j = 0 := by simpa using hj
    have e : ((UInt8.ofNat (48 + m % 10)).toNat : Int) = 48 + (m : Int) % 10 := by
      rw [UInt8.toNat_ofNat']; omega
    simp only [List.getElem_cons_zero, e]
    exact cell_one_new w _ _ 0 _ rfl)
  exact this

theorem dec_length {n : Nat} (hn : n ≤ 9223372036854775807) : (Lib.decDigits n).length ≤ 21 := by
  have := dec_len 18 n (by omega)
  omega

set_option maxRecDepth 100000 in
set_option maxHeartbeats 4000000 in
theorem decNat_any (n : Nat) (hn : n ≤ 9223372036854775807) (w : World) : Calls Tryz.prog 46 #[.int .i64 n] w fun e w' => e = .returned (.string ⟨(Lib.decDigits n).toArray⟩) ∧ Below w.heap.size w w' := by
  have hcv := digit_conv w n
  have DC := Lib.hid (fun w m => digit_conv w m)
  have q1 : ((n : Int) == -9223372036854775808) = false := by rw [beq_eq_false_iff_ne]; omega
  have q2 : decide ((n : Int) < 0) = false := decide_eq_false (by omega)
  have ql := Lib.hid (dec_length hn)
  go_enter Tryz.func46, Tryz.ntmps46
  go_wp2
  go_loopw [0, 3] (fun v t wr => ∃ (m : Nat) (T : ByteArray), m ≤ 9223372036854775807 ∧ v = .int .i64 m ∧ t = .string T ∧ Hid (Lib.decDigits n = ahead m ++ T.data.toList) ∧ Hid (Below w.heap.size w wr)) (fun v _ _ => (intOf v).toNat)
  case atStart => exact ⟨n, dig n, hn, rfl, rfl, Lib.hid (dec_ahead n), Lib.hid ((Below.refl _ _).alloc (Nat.le_refl _) _)⟩
  case round =>
    obtain ⟨m, T, hm, rfl, rfl, hd, hb⟩ := hrel
    clear hcv
    by_cases h : 10 ≤ m
    · have hcv : (convert 110 9 (.slice (some ⟨wr.heap.size, 0, none⟩) 1 1)).run Tryz.prog (wr.alloc (.cells #[.int .u8 (48 + (m : Int) / 10 % 10)] 5)) = .ok (.string (dig (m / 10))) (wr.alloc (.cells #[.int .u8 (48 + (m : Int) / 10 % 10)] 5)) := DC.out wr (m / 10)
      have hd2 := Lib.hid (show Lib.decDigits n = ahead (m / 10) ++ (dig (m / 10) ++ T).data.toList by
        rw [hd.out, show ahead m = Lib.decDigits (m / 10) by unfold ahead; rw [if_neg (by omega)], dec_ahead (m / 10)]
        simp)
      have hb2 := Lib.hid (hb.out.alloc (by have := hb.out.size; exact this) (.cells #[.int .u8 (48 + (m : Int) / 10 % 10)] 5))
      have hT : T.size ≤ 21 := by
        have := congrArg List.length hd.out
        rw [List.length_append] at this
        have e : T.data.toList.length = T.size := by simp
        have := ql.out
        omega
      have hD : (dig (m / 10)).size ≤ 1 := Nat.le_refl _
      go_wp2
      exact ⟨⟨m / 10, dig (m / 10) ++ T, by omega, rfl, rfl, hd2, hb2⟩, by simp [intOf]; omega⟩
    · go_wp2
      go_ret
      refine ⟨?_, hb.out⟩
      rw [hd.out, show ahead m = [] by unfold ahead; rw [if_pos (by omega)]]
      rfl

end Go.Proofs.YteegdemnajhehaaGreatDoor

namespace Go.Proofs.YteegdemnajhehaaGreatDoor
open Go.RowKit

/-- NodeText's contract at a tree. -/
def TxtOK (t : TN) : Prop := ∀ (G : Nat → Prop) (w : World) (a : Option Addr) (c : Nat), (textE t).length ≤ 4000 → ReadsN G w a t.ks → Calls Tryz.prog 22 #[nodeV t.op t.nm t.n a t.ks.len c] w fun e w' => e = .returned (.string ⟨(textE t).toArray⟩) ∧ Below w.heap.size w w'

theorem op_yes {o : ByteArray} {x : List UInt8} (h : (o.data.toList == x) = true) : (o.toList == x) = true := by rw [Lib.toList_data]; exact h
theorem op_not {o : ByteArray} {x : List UInt8} (h : (o.data.toList == x) = false) : (o.toList == x) = false := by rw [Lib.toList_data]; exact h

set_option maxHeartbeats 4000000 in
theorem txt_num (o m : ByteArray) (n : Int) (h1 : isNum o = true) (h0 : 0 ≤ n) (hn : n ≤ 9223372036854775807) : TxtOK ⟨o, m, n, .nil⟩ := by
  intro G w a c hl hr
  rw [(text_num h1).1]
  clear hl hr
  dsimp only
  have g1 := op_yes h1
  unfold bNum at g1
  obtain ⟨k, rfl⟩ : ∃ k : Nat, n = k := ⟨n.toNat, by omega⟩
  have D := Lib.hid (fun V => decNat_any k (by omega) V)
  have R := Lib.hid (show Lib.itoa (k : Int) = Lib.decDigits k by rw [Lib.itoa, if_neg (by omega), Int.toNat_natCast])
  have NB := Lib.hid (heap_alloc_new w (ndO o m k a F.nil.len c))
  have B0 := Lib.hid ((Below.refl w.heap.size w).alloc (Nat.le_refl _) (ndO o m k a F.nil.len c))
  clear h0 hn h1
  go_enter Tryz.func22, Tryz.ntmps22
  go_wp2_with fail
  generalize w.alloc (ndO o m k a F.nil.len c) = W at NB B0 ⊢
  obtain ⟨⟨m0, m1, m2, m3⟩, -⟩ := four NB.out
  go_wp2_with fail
  refine (D.out _).mono ?_
  rintro e w1 ⟨rfl, hb⟩
  have B1 := Lib.hid (B0.out.trans (hb.mono B0.out.size))
  clear hb
  go_wp2_with fail
  go_ret
  rw [R.out]
  exact ⟨rfl, B1.out⟩

set_option maxHeartbeats 4000000 in
theorem txt_name (o m : ByteArray) (n : Int) (h1 : isNum o = false) (h2 : isName o = true) : TxtOK ⟨o, m, n, .nil⟩ := by
  intro G w a c hl hr
  rw [(text_name h1 h2).1, ba_toList]
  clear hl hr
  dsimp only
  have g1 := op_not h1
  have g2 := op_yes h2
  unfold bNum at g1
  unfold bName at g2
  have B0 := Lib.hid ((Below.refl w.heap.size w).alloc (Nat.le_refl _) (ndO o m n a F.nil.len c))
  clear h1 h2
  go_enter Tryz.func22, Tryz.ntmps22
  go_wp2_with fail
  go_ret
  exact ⟨rfl, B0.out⟩

set_option maxHeartbeats 4000000 in
theorem txt_neg (o m : ByteArray) (n : Int) (t : TN) (h1 : isNum o = false) (h2 : isName o = false) (h3 : isNeg o = true) (ih : TxtOK t) : TxtOK ⟨o, m, n, t.f⟩ := by
  intro G w a c hl hr
  rw [(text_neg t h1 h2 h3).1] at hl ⊢
  dsimp only at hr ⊢
  rw [show t.f.len = 1 from rfl]
  have g1 := op_not h1
  have g2 := op_not h2
  have g3 := op_yes h3
  unfold bNum at g1
  unfold bName at g2
  unfold bNeg at g3
  rw [List.length_cons] at hl
  obtain ⟨T, hT⟩ : ∃ T, textE t = T := ⟨_, rfl⟩
  rw [hT] at hl ⊢
  have NB := Lib.hid (heap_alloc_new w (ndO o m n a 1 c))
  have B0 := Lib.hid ((Below.refl w.heap.size w).alloc (Nat.le_refl _) (ndO o m n a 1 c))
  obtain ⟨b, off, a2, c2, ha, hG, hbl, ⟨p0, p1, p2, p3⟩, hr2⟩ := readsN_at (hr.kept B0.out) (show t.f.at 0 = some t from rfl)
  have C := Lib.hid (ih G (w.alloc (ndO o m n a 1 c)) a2 c2 (by rw [hT]; omega) hr2)
  rw [hT] at C
  rw [Nat.zero_mul, Nat.add_zero] at p0 p1 p2 p3
  subst ha
  have hS : (⟨T.toArray⟩ : ByteArray).size ≤ 4000 := by show T.toArray.size ≤ 4000; simp; omega
  obtain ⟨S, hS2⟩ : ∃ S : ByteArray, ⟨T.toArray⟩ = S := ⟨_, rfl⟩
  have E := Lib.hid (show (⟨(45 :: T).toArray⟩ : ByteArray) = ⟨#[45]⟩ ++ S from text_eq (by rw [← hS2]; simp))
  rw [hS2] at C hS
  clear h1 h2 h3 hr ih hl hT hr2 hS2
  go_enter Tryz.func22, Tryz.ntmps22
  go_wp2_with fail
  generalize w.alloc (ndO o m n (some ⟨b, off, none⟩) 1 c) = W at NB B0 C hbl p0 p1 p2 p3 ⊢
  obtain ⟨⟨m0, m1, m2, m3⟩, -⟩ := four NB.out
  go_wp2_with fail
  refine C.out.mono ?_
  rintro e w1 ⟨rfl, hb⟩
  have B1 := Lib.hid (B0.out.trans (hb.mono B0.out.size))
  clear hb
  go_wp2_with fail
  go_ret
  rw [E.out]
  exact ⟨rfl, B1.out⟩

set_option maxHeartbeats 8000000 in
theorem txt_two (o m : ByteArray) (n : Int) (t u : TN) (h1 : isNum o = false) (h2 : isName o = false) (h3 : isNeg o = false) (h4 : isTwo o = true) (ih : TxtOK t) (iu : TxtOK u) : TxtOK ⟨o, m, n, .cons t.op t.nm t.n t.ks u.f⟩ := by
  intro G w a c hl hr
  rw [(text_two t u h1 h2 h3).1] at hl ⊢
  dsimp only at hr ⊢
  rw [show (F.cons t.op t.nm t.n t.ks u.f).len = 2 from rfl]
  have g1 := op_not h1
  have g2 := op_not h2
  have g3 := op_not h3
  unfold bNum at g1
  unfold bName at g2
  unfold bNeg at g3
  have hos : o.size = 1 := by
    obtain ⟨_, x, hx, _⟩ := two_sign h4
    have : o.data.toList.length = 1 := by rw [hx]; rfl
    rw [← this]; simp
  simp only [List.length_cons, List.length_append, List.length_nil] at hl
  obtain ⟨T, hT⟩ : ∃ T, textE t = T := ⟨_, rfl⟩
  obtain ⟨U, hU⟩ : ∃ U, textE u = U := ⟨_, rfl⟩
  rw [hT, hU] at hl ⊢
  have NB := Lib.hid (heap_alloc_new w (ndO o m n a 2 c))
  have B0 := Lib.hid ((Below.refl w.heap.size w).alloc (Nat.le_refl _) (ndO o m n a 2 c))
  obtain ⟨b, off, a2, c2, ha, hG, hbl, ⟨p0, p1, p2, p3⟩, hr2⟩ := readsN_at (hr.kept B0.out) (show (F.cons t.op t.nm t.n t.ks u.f).at 0 = some t from rfl)
  obtain ⟨b', off', a3, c3, ha', hG', hbl', ⟨q0, q1, q2, q3⟩, hr3⟩ := readsN_at (hr.kept B0.out) (show (F.cons t.op t.nm t.n t.ks u.f).at 1 = some u from rfl)
  subst ha
  cases ha'
  have C := Lib.hid (ih G (w.alloc (ndO o m n (some ⟨b, off, none⟩) 2 c)).drew a2 c2 (by rw [hT]; omega) (hr2.kept (drew_below _)))
  have D := Lib.hid (fun V (hV : Below (w.alloc (ndO o m n (some ⟨b, off, none⟩) 2 c)).heap.size (w.alloc (ndO o m n (some ⟨b, off, none⟩) 2 c)) V) => iu G V a3 c3 (by rw [hU]; omega) (hr3.kept hV))
  rw [hT] at C
  rw [hU] at D
  rw [Nat.zero_mul, Nat.add_zero] at p0 p1 p2 p3
  rw [Nat.one_mul] at q0 q1 q2 q3
  have hS : (⟨T.toArray⟩ : ByteArray).size ≤ 4000 := by show T.toArray.size ≤ 4000; simp; omega
  have hV : (⟨U.toArray⟩ : ByteArray).size ≤ 4000 := by show U.toArray.size ≤ 4000; simp; omega
  obtain ⟨S, hS2⟩ : ∃ S : ByteArray, ⟨T.toArray⟩ = S := ⟨_, rfl⟩
  obtain ⟨V, hV2⟩ : ∃ S : ByteArray, ⟨U.toArray⟩ = S := ⟨_, rfl⟩
  have E := Lib.hid (show (⟨(40 :: (T ++ 32 :: (o.data.toList ++ 32 :: (U ++ [41])))).toArray⟩ : ByteArray) = ⟨#[40]⟩ ++ S ++ ⟨#[32]⟩ ++ o ++ ⟨#[32]⟩ ++ V ++ ⟨#[41]⟩ from text_eq (by rw [← hS2, ← hV2]; simp))
  rw [hS2] at C hS
  rw [hV2] at D hV
  have z1 : (9223372036854775807 < 1 + S.size) = False := by rw [eq_iff_iff, iff_false]; omega
  have z2 : (9223372036854775807 < 1 + S.size + 1) = False := by rw [eq_iff_iff, iff_false]; omega
  have z3 : (9223372036854775807 < 1 + S.size + 1 + o.size) = False := by rw [eq_iff_iff, iff_false]; omega
  have z4 : (9223372036854775807 < 1 + S.size + 1 + o.size + 1) = False := by rw [eq_iff_iff, iff_false]; omega
  have z5 : (9223372036854775807 < 1 + S.size + 1 + o.size + 1 + V.size) = False := by rw [eq_iff_iff, iff_false]; omega
  have z6 : (9223372036854775807 < 1 + S.size + 1 + o.size + 1 + V.size + 1) = False := by rw [eq_iff_iff, iff_false]; omega
  clear h1 h2 h3 h4 hr ih iu hl hT hU hr2 hr3 hS2 hV2 hos
  go_enter Tryz.func22, Tryz.ntmps22
  go_wp2_with fail
  generalize w.alloc (ndO o m n (some ⟨b, off, none⟩) 2 c) = W at NB B0 C D hbl hbl' p0 p1 p2 p3 q0 q1 q2 q3 ⊢
  obtain ⟨⟨m0, m1, m2, m3⟩, -⟩ := four NB.out
  have hlt := lt_block NB.out
  have CELLS := Lib.hid (p := ∀ w', Below W.heap.size W w' → (w'.cell? ⟨w.heap.size, 0, none⟩ = some (.string o) ∧ w'.cell? ⟨w.heap.size, 3, none⟩ = some (.slice (some ⟨b, off, none⟩) 2 c) ∧ w'.cell? ⟨b, off, none⟩ = some (.string t.op) ∧ w'.cell? ⟨b, off + 1, none⟩ = some (.string t.nm) ∧ w'.cell? ⟨b, off + 2, none⟩ = some (.int .i64 t.n) ∧ w'.cell? ⟨b, off + 3, none⟩ = some (.slice a2 t.ks.len c2) ∧ w'.cell? ⟨b, off + 4, none⟩ = some (.string u.op) ∧ w'.cell? ⟨b, off + 4 + 1, none⟩ = some (.string u.nm) ∧ w'.cell? ⟨b, off + 4 + 2, none⟩ = some (.int .i64 u.n) ∧ w'.cell? ⟨b, off + 4 + 3, none⟩ = some (.slice a3 u.ks.len c3))) (fun w' h => ⟨(h.cell hlt).trans m0, (h.cell hlt).trans m3, (h.cell hbl).trans p0, (h.cell hbl).trans p1, (h.cell hbl).trans p2, (h.cell hbl).trans p3, (h.cell hbl).trans q0, (h.cell hbl).trans q1, (h.cell hbl).trans q2, (h.cell hbl).trans q3⟩)
  go_wp2_with fail
  go_region_held3 (fun w' => w'.cell? ⟨w.heap.size, 0, none⟩ = some (.string o) ∧ w'.cell? ⟨w.heap.size, 3, none⟩ = some (.slice (some ⟨b, off, none⟩) 2 c) ∧ w'.cell? ⟨b, off, none⟩ = some (.string t.op) ∧ w'.cell? ⟨b, off + 1, none⟩ = some (.string t.nm) ∧ w'.cell? ⟨b, off + 2, none⟩ = some (.int .i64 t.n) ∧ w'.cell? ⟨b, off + 3, none⟩ = some (.slice a2 t.ks.len c2) ∧ w'.cell? ⟨b, off + 4, none⟩ = some (.string u.op) ∧ w'.cell? ⟨b, off + 4 + 1, none⟩ = some (.string u.nm) ∧ w'.cell? ⟨b, off + 4 + 2, none⟩ = some (.int .i64 u.n) ∧ w'.cell? ⟨b, off + 4 + 3, none⟩ = some (.slice a3 u.ks.len c3)) (first | assumption | exact ⟨m0, m3, p0, p1, p2, p3, q0, q1, q2, q3⟩ | exact CELLS.out _ B3.out | exact CELLS.out _ B2.out) (first
    | (go_at_call 22
       with_reducible refine C.out.mono ?_
       rintro e w2 ⟨rfl, hb⟩
       have B2 := Lib.hid ((drew_below W).trans hb)
       have cc := CELLS.out _ B2.out
       clear hb)
    | (go_at_call 22
       with_reducible refine (D.out _ B2.out).mono ?_
       rintro e w3 ⟨rfl, hb⟩
       have B3 := Lib.hid (B2.out.trans (hb.mono B2.out.size))
       have cd := CELLS.out _ B3.out
       clear hb)
    | fail)
  have B4 := Lib.hid (B0.out.trans (B3.out.mono B0.out.size))
  clear B3 B2 C D CELLS m0 m1 m2 m3 p0 p1 p2 p3 q0 q1 q2 q3
  go_wp2_with fail
  go_ret
  rw [E.out]
  exact ⟨rfl, B4.out⟩

theorem txt_any (t : TN) (h : OkT t) (hn : NumsF t.f) : TxtOK t :=
  tree_induct1 (P := TxtOK) (fun o m n a b c => txt_num o m n a b c) (fun o m n a b _ => txt_name o m n a b) (fun o m n t a b c ih => txt_neg o m n t a b c ih) (fun o m n t u a b c d ih iu => txt_two o m n t u a b c d ih iu) t h hn

end Go.Proofs.YteegdemnajhehaaGreatDoor
