/-
  No statement: what these walks need, of earlier texts: ECheck, GFoldB, GOfE, GFoldE, ESame.
-/
import Derived.Test.YtcmcnmmhkpolcaaGreatDoorHZ6
import Derived.WalkKit
import Derived.WalkSpells
import Derived.Lib.Hide
import Derived.Deep.Draws
import Derived.Sort.Walk0
import Derived.Lib.ParseIntB
import Derived.Lib.AtoiErrMem
import Derived.Lib.AppendIntMem
import Derived.Test.YtcmcnmmhkpolcaaGreatDoorShelf
import Derived.Test.YtcmcnmmhkpolcaaGreatDoorProg
import Derived.IntWalk
import Derived.LoopTactic
import Derived.StillTailTactics
import Derived.Deep.QuietTactic
import Derived.BigQuiet
import Derived.Lib.ParseIntBTie
import Derived.RangeFuncRecord
import Derived.ArgAppend
import Derived.OwnWalk
import Derived.BigRegion
import Derived.Deep.Cut
import Derived.Deep.RegionLaw
import Derived.Deep.RegionHeld3
import Derived.Shelf.Spec.SearchS
import Derived.Laws.IdiomStrings
import Derived.Lib.AppendZerosOnto
import Derived.Lib.SliceRun
import Derived.Lib.OwnBridge
import Derived.Lib.SlicesCompact
import Derived.Sort.OwnSorted
import Derived.RangeFuncBox
namespace Go.Proofs.YtcmcnmmhkpolcaaGreatDoor
section
open Go.RowKit

/-- Rows whose names are of a size that may be. -/
def SzF : F → Prop
  | .nil => True
  | .cons _ m _ ks r => m.size ≤ 281474976710656 ∧ ks.len ≤ 9223372036854775807 ∧ SzF ks ∧ SzF r

theorem SzF.at : ∀ {f : F} {j : Nat} {t : TN}, SzF f → f.at j = some t → SzF t.f
  | .nil, _, _, _, h => by cases h
  | .cons o m n ks r, 0, t, hp, h => by
    have : (⟨o, m, n, ks⟩ : TN) = t := Option.some.inj h
    rw [← this]; exact ⟨hp.1, hp.2.1, hp.2.2.1, trivial⟩
  | .cons _ _ _ _ r, j + 1, t, hp, h => SzF.at (f := r) hp.2.2.2 h

theorem SzF.lens : ∀ {f : F}, SzF f → LenF f
  | .nil, _ => trivial
  | .cons _ _ _ _ _, h => ⟨h.2.1, h.2.2.1.lens, h.2.2.2.lens⟩

theorem chk_cons {f : F} {t : TN} {r : F} (h : f = .cons t.op t.nm t.n t.ks r) : chkF f = if chkF t.f = 0 then chkF r else chkF t.f := by
  rw [h, chkF, chk_tree]
  by_cases h1 : errN t.op t.nm t.n t.ks.len = 0
  · rw [if_pos h1, if_pos h1]
  · rw [if_neg h1, if_neg h1, if_neg h1]

/-- Check's contract at a tree. -/
def ChkOK (t : TN) : Prop := ∀ (G : Nat → Prop) (w : World) (a : Option Addr) (c : Nat), SzF t.f → ReadsN G w a t.ks → Calls Tryz.prog 22 #[nodeV t.op t.nm t.n a t.ks.len c] w fun e w' => e = .returned (.int .i64 (chkF t.f)) ∧ Below w.heap.size w w'

set_option maxHeartbeats 4000000 in
theorem chk_step (t : TN) (ih : EachF ChkOK t.ks) : ChkOK t := by
  intro G w a c hS hr
  have R := Lib.hid hr
  have IH := Lib.hid ih
  obtain ⟨hn, hm, hL2, -⟩ := hS
  have LK := Lib.hid hL2
  obtain ⟨r, hR⟩ : ∃ r, chkF t.f = r := ⟨_, rfl⟩
  rw [hR]
  rw [chk_tree] at hR
  have NB := Lib.hid (heap_alloc_new w (ndO t.op t.nm t.n a t.ks.len c))
  have B0 := Lib.hid ((Below.refl w.heap.size w).alloc (Nat.le_refl _) (ndO t.op t.nm t.n a t.ks.len c))
  have hE : errN t.op t.nm t.n t.ks.len = if (arity t.op != (t.ks.len : Int)) = true then 2 else if ((t.op.toList == [110, 97, 109, 101]) && !goodB t.nm.data.toList) = true then 5 else if ((t.op.toList == [110, 117, 109]) && decide (t.n < 0)) = true then 1 else 0 := by
    unfold errN isName isNum bNum bName; rw [Lib.toList_data]
  obtain ⟨ar, har⟩ : ∃ ar, arity t.op = ar := ⟨_, rfl⟩
  have KC := Lib.hid (fun V => kids_any t.op V)
  rw [har] at KC hE
  obtain ⟨gd, hgd⟩ : ∃ gd, goodB t.nm.data.toList = gd := ⟨_, rfl⟩
  have NC := Lib.hid (fun V => rName_any t.nm hn V)
  rw [hgd] at NC hE
  clear hr ih hL2 hgd har
  obtain ⟨p, hp⟩ : ∃ p, (t.op.toList == [110, 97, 109, 101]) = p := ⟨_, rfl⟩
  obtain ⟨q, hq⟩ : ∃ q, (t.op.toList == [110, 117, 109]) = q := ⟨_, rfl⟩
  rw [hp, hq] at hE
  by_cases h1 : ar = (t.ks.len : Int)
  · subst h1
    rw [if_neg (by simp)] at hE
    cases p with
    | true =>
      obtain rfl : q = false := by
        rw [← hq, eq_of_beq hp]; rfl
      cases gd with
      | false =>
        have RR := Lib.hid (show (5 : Int) = r by rw [← hR, hE]; rfl)
        clear hR hE
        go_enter Tryz.func22, Tryz.ntmps22
        go_wp2_with fail
        generalize w.alloc (ndO t.op t.nm t.n a t.ks.len c) = W at NB B0 ⊢
        obtain ⟨⟨m0, m1, m2, m3⟩, -⟩ := four NB.out
        go_wp2_with (go_quiet ((first | (go_at_call 37; refine (KC.out _).mono ?_; rintro e w1 ⟨he, rfl⟩; exact ⟨he, _, rfl⟩) | fail)))
        have N1 := Lib.hid (show (W.drewN nq).heap[w.heap.size]? = some (ndO t.op t.nm t.n a t.ks.len c) from NB.out)
        have B1 := Lib.hid (below_drewN B0.out nq)
        generalize W.drewN nq = W1 at N1 B1 ⊢
        clear NB B0 m0 m1 m2 m3
        obtain ⟨⟨m0, m1, m2, m3⟩, -⟩ := four N1.out
        go_wp2_with fail
        refine (NC.out _).mono ?_
        rintro e w1 ⟨rfl, rfl⟩
        go_wp2_with fail
        go_ret
        rw [RR.out]
        exact ⟨rfl, B1.out⟩
      | true =>
        have H0 := Lib.hid (show chkF (t.ks.drop 0) = r by rw [F.drop_zero, ← hR, hE]; rfl)
        clear hR hE
        go_enter Tryz.func22, Tryz.ntmps22
        go_wp2_with fail
        generalize w.alloc (ndO t.op t.nm t.n a t.ks.len c) = W at NB B0 ⊢
        obtain ⟨⟨m0, m1, m2, m3⟩, -⟩ := four NB.out
        go_wp2_with (go_quiet ((first | (go_at_call 37; refine (KC.out _).mono ?_; rintro e w1 ⟨he, rfl⟩; exact ⟨he, _, rfl⟩) | fail)))
        have N1 := Lib.hid (show (W.drewN nq).heap[w.heap.size]? = some (ndO t.op t.nm t.n a t.ks.len c) from NB.out)
        have B1 := Lib.hid (below_drewN B0.out nq)
        generalize W.drewN nq = W1 at N1 B1 ⊢
        clear NB B0 m0 m1 m2 m3
        obtain ⟨⟨m0, m1, m2, m3⟩, -⟩ := four N1.out
        go_wp2_with fail
        refine (NC.out _).mono ?_
        rintro e w1 ⟨rfl, rfl⟩
        go_wp2_with fail
        go_loopw [3] (fun i wr => ∃ (k : Nat), i = .int .i64 k ∧ k ≤ t.ks.len ∧ Hid (chkF (t.ks.drop k) = r) ∧ Hid (Below w.heap.size w wr) ∧ Hid (wr.heap[w.heap.size]? = some (ndO t.op t.nm t.n a t.ks.len c))) (fun i _ => t.ks.len - (intOf i).toNat)
        case atStart => exact ⟨0, rfl, Nat.zero_le _, H0, B1, N1⟩
        case round =>
          obtain ⟨k, rfl, hk, hE, hB, hN⟩ := hrel
          clear m0 m1 m2 m3
          obtain ⟨⟨m0, m1, m2, m3⟩, -⟩ := four hN.out
          by_cases hlt : k < t.ks.len
          · obtain ⟨t2, hat, hdr⟩ := at_some hlt
            obtain ⟨b, off, a2, c2, ha, hG, hbl, ⟨p0, p1, p2, p3⟩, hr2⟩ := readsN_at (R.out.kept hB.out) hat
            have EN := Lib.hid (show (if chkF t2.f = 0 then chkF (t.ks.drop (k + 1)) else chkF t2.f) = r from (chk_cons hdr).symm.trans hE.out)
            have C := Lib.hid ((EachF.at IH.out hat) G wr a2 c2 (LK.out.at hat) hr2)
            subst ha
            obtain ⟨y, hy⟩ : ∃ y, chkF t2.f = y := ⟨_, rfl⟩
            rw [hy] at C EN
            clear hat hdr hr2 hy
            go_wp2_with fail
            refine C.out.mono ?_
            rintro e w2 ⟨rfl, hb⟩
            have hz := hB.out.size
            have B2 := Lib.hid (hB.out.trans (hb.mono hz))
            have N2 := Lib.hid ((hb.block _ (lt_block hN.out)).trans hN.out)
            clear hb C m0 m1 m2 m3
            by_cases hy : y = 0
            · subst hy
              have EN2 := Lib.hid (EN.out.symm.trans (if_pos rfl)).symm
              clear EN
              go_wp2_with fail
              go_roundw
              case rel => exact ⟨k + 1, by go_num, by omega, EN2, B2, N2⟩
              case measure => simp [intOf]; omega
            · have RR := Lib.hid (show y = r by rw [← EN.out, if_neg hy])
              clear EN
              go_wp2_with fail
              go_ret
              rw [RR.out]
              exact ⟨rfl, B2.out⟩
          · have RR := Lib.hid (show (0 : Int) = r by rw [← hE.out, F.drop_len _ _ (by omega)]; rfl)
            go_wp2_with fail
            go_ret
            rw [RR.out]
            exact ⟨rfl, hB.out⟩
    | false =>
      by_cases h2 : (q && decide (t.n < 0)) = true
      · obtain ⟨rfl, h3⟩ : q = true ∧ t.n < 0 := by simpa using h2
        have RR := Lib.hid (show (1 : Int) = r by rw [← hR, hE, if_neg (show ¬ (false && !gd) = true by simp), if_pos h2, if_neg (by decide)])
        clear hR hE h2
        go_enter Tryz.func22, Tryz.ntmps22
        go_wp2_with fail
        generalize w.alloc (ndO t.op t.nm t.n a t.ks.len c) = W at NB B0 ⊢
        obtain ⟨⟨m0, m1, m2, m3⟩, -⟩ := four NB.out
        go_wp2_with (go_quiet ((first | (go_at_call 37; refine (KC.out _).mono ?_; rintro e w1 ⟨he, rfl⟩; exact ⟨he, _, rfl⟩) | fail)))
        have N1 := Lib.hid (show (W.drewN nq).heap[w.heap.size]? = some (ndO t.op t.nm t.n a t.ks.len c) from NB.out)
        have B1 := Lib.hid (below_drewN B0.out nq)
        generalize W.drewN nq = W1 at N1 B1 ⊢
        clear NB B0 m0 m1 m2 m3
        obtain ⟨⟨m0, m1, m2, m3⟩, -⟩ := four N1.out
        go_wp2_with fail
        go_ret
        rw [RR.out]
        exact ⟨rfl, B1.out⟩
      · rw [if_neg (show ¬ (false && !gd) = true by simp), if_neg h2] at hE
        have H0 := Lib.hid (show chkF (t.ks.drop 0) = r by rw [F.drop_zero, ← hR, hE]; rfl)
        cases q with
        | false =>
          clear hR hE h2
          go_enter Tryz.func22, Tryz.ntmps22
          go_wp2_with fail
          generalize w.alloc (ndO t.op t.nm t.n a t.ks.len c) = W at NB B0 ⊢
          obtain ⟨⟨m0, m1, m2, m3⟩, -⟩ := four NB.out
          go_wp2_with (go_quiet ((first | (go_at_call 37; refine (KC.out _).mono ?_; rintro e w1 ⟨he, rfl⟩; exact ⟨he, _, rfl⟩) | fail)))
          have N1 := Lib.hid (show (W.drewN nq).heap[w.heap.size]? = some (ndO t.op t.nm t.n a t.ks.len c) from NB.out)
          have B1 := Lib.hid (below_drewN B0.out nq)
          generalize W.drewN nq = W1 at N1 B1 ⊢
          clear NB B0 m0 m1 m2 m3
          obtain ⟨⟨m0, m1, m2, m3⟩, -⟩ := four N1.out
          go_wp2_with fail
          go_loopw [3] (fun i wr => ∃ (k : Nat), i = .int .i64 k ∧ k ≤ t.ks.len ∧ Hid (chkF (t.ks.drop k) = r) ∧ Hid (Below w.heap.size w wr) ∧ Hid (wr.heap[w.heap.size]? = some (ndO t.op t.nm t.n a t.ks.len c))) (fun i _ => t.ks.len - (intOf i).toNat)
          case atStart => exact ⟨0, rfl, Nat.zero_le _, H0, B1, N1⟩
          case round =>
            obtain ⟨k, rfl, hk, hE, hB, hN⟩ := hrel
            clear m0 m1 m2 m3
            obtain ⟨⟨m0, m1, m2, m3⟩, -⟩ := four hN.out
            by_cases hlt : k < t.ks.len
            · obtain ⟨t2, hat, hdr⟩ := at_some hlt
              obtain ⟨b, off, a2, c2, ha, hG, hbl, ⟨p0, p1, p2, p3⟩, hr2⟩ := readsN_at (R.out.kept hB.out) hat
              have EN := Lib.hid (show (if chkF t2.f = 0 then chkF (t.ks.drop (k + 1)) else chkF t2.f) = r from (chk_cons hdr).symm.trans hE.out)
              have C := Lib.hid ((EachF.at IH.out hat) G wr a2 c2 (LK.out.at hat) hr2)
              subst ha
              obtain ⟨y, hy⟩ : ∃ y, chkF t2.f = y := ⟨_, rfl⟩
              rw [hy] at C EN
              clear hat hdr hr2 hy
              go_wp2_with fail
              refine C.out.mono ?_
              rintro e w2 ⟨rfl, hb⟩
              have hz := hB.out.size
              have B2 := Lib.hid (hB.out.trans (hb.mono hz))
              have N2 := Lib.hid ((hb.block _ (lt_block hN.out)).trans hN.out)
              clear hb C m0 m1 m2 m3
              by_cases hy : y = 0
              · subst hy
                have EN2 := Lib.hid (EN.out.symm.trans (if_pos rfl)).symm
                clear EN
                go_wp2_with fail
                go_roundw
                case rel => exact ⟨k + 1, by go_num, by omega, EN2, B2, N2⟩
                case measure => simp [intOf]; omega
              · have RR := Lib.hid (show y = r by rw [← EN.out, if_neg hy])
                clear EN
                go_wp2_with fail
                go_ret
                rw [RR.out]
                exact ⟨rfl, B2.out⟩
            · have RR := Lib.hid (show (0 : Int) = r by rw [← hE.out, F.drop_len _ _ (by omega)]; rfl)
              go_wp2_with fail
              go_ret
              rw [RR.out]
              exact ⟨rfl, hB.out⟩
        | true =>
          have h3 : ¬ t.n < 0 := by simpa using h2
          clear hR hE h2
          go_enter Tryz.func22, Tryz.ntmps22
          go_wp2_with fail
          generalize w.alloc (ndO t.op t.nm t.n a t.ks.len c) = W at NB B0 ⊢
          obtain ⟨⟨m0, m1, m2, m3⟩, -⟩ := four NB.out
          go_wp2_with (go_quiet ((first | (go_at_call 37; refine (KC.out _).mono ?_; rintro e w1 ⟨he, rfl⟩; exact ⟨he, _, rfl⟩) | fail)))
          have N1 := Lib.hid (show (W.drewN nq).heap[w.heap.size]? = some (ndO t.op t.nm t.n a t.ks.len c) from NB.out)
          have B1 := Lib.hid (below_drewN B0.out nq)
          generalize W.drewN nq = W1 at N1 B1 ⊢
          clear NB B0 m0 m1 m2 m3
          obtain ⟨⟨m0, m1, m2, m3⟩, -⟩ := four N1.out
          go_wp2_with fail
          go_loopw [3] (fun i wr => ∃ (k : Nat), i = .int .i64 k ∧ k ≤ t.ks.len ∧ Hid (chkF (t.ks.drop k) = r) ∧ Hid (Below w.heap.size w wr) ∧ Hid (wr.heap[w.heap.size]? = some (ndO t.op t.nm t.n a t.ks.len c))) (fun i _ => t.ks.len - (intOf i).toNat)
          case atStart => exact ⟨0, rfl, Nat.zero_le _, H0, B1, N1⟩
          case round =>
            obtain ⟨k, rfl, hk, hE, hB, hN⟩ := hrel
            clear m0 m1 m2 m3
            obtain ⟨⟨m0, m1, m2, m3⟩, -⟩ := four hN.out
            by_cases hlt : k < t.ks.len
            · obtain ⟨t2, hat, hdr⟩ := at_some hlt
              obtain ⟨b, off, a2, c2, ha, hG, hbl, ⟨p0, p1, p2, p3⟩, hr2⟩ := readsN_at (R.out.kept hB.out) hat
              have EN := Lib.hid (show (if chkF t2.f = 0 then chkF (t.ks.drop (k + 1)) else chkF t2.f) = r from (chk_cons hdr).symm.trans hE.out)
              have C := Lib.hid ((EachF.at IH.out hat) G wr a2 c2 (LK.out.at hat) hr2)
              subst ha
              obtain ⟨y, hy⟩ : ∃ y, chkF t2.f = y := ⟨_, rfl⟩
              rw [hy] at C EN
              clear hat hdr hr2 hy
              go_wp2_with fail
              refine C.out.mono ?_
              rintro e w2 ⟨rfl, hb⟩
              have hz := hB.out.size
              have B2 := Lib.hid (hB.out.trans (hb.mono hz))
              have N2 := Lib.hid ((hb.block _ (lt_block hN.out)).trans hN.out)
              clear hb C m0 m1 m2 m3
              by_cases hy : y = 0
              · subst hy
                have EN2 := Lib.hid (EN.out.symm.trans (if_pos rfl)).symm
                clear EN
                go_wp2_with fail
                go_roundw
                case rel => exact ⟨k + 1, by go_num, by omega, EN2, B2, N2⟩
                case measure => simp [intOf]; omega
              · have RR := Lib.hid (show y = r by rw [← EN.out, if_neg hy])
                clear EN
                go_wp2_with fail
                go_ret
                rw [RR.out]
                exact ⟨rfl, B2.out⟩
            · have RR := Lib.hid (show (0 : Int) = r by rw [← hE.out, F.drop_len _ _ (by omega)]; rfl)
              go_wp2_with fail
              go_ret
              rw [RR.out]
              exact ⟨rfl, hB.out⟩
  · have RR := Lib.hid (show (2 : Int) = r by rw [← hR, hE, if_pos (show (ar != (t.ks.len : Int)) = true by simpa using h1), if_neg (by decide)])
    clear hR hE
    go_enter Tryz.func22, Tryz.ntmps22
    go_wp2_with fail
    generalize w.alloc (ndO t.op t.nm t.n a t.ks.len c) = W at NB B0 ⊢
    obtain ⟨⟨m0, m1, m2, m3⟩, -⟩ := four NB.out
    go_wp2_with (go_quiet ((first | (go_at_call 37; refine (KC.out _).mono ?_; rintro e w1 ⟨he, rfl⟩; exact ⟨he, _, rfl⟩) | fail)))
    go_ret
    rw [RR.out]
    exact ⟨rfl, below_drewN B0.out _⟩

-- behind check

theorem chk_any (t : TN) : ChkOK t := tree_of chk_step t

set_option maxHeartbeats 4000000 in
theorem rCheck_any {G : Nat → Prop} {w : World} {a : Option Addr} {t : TN} (c : Nat) (hS : SzF t.f) (hr : ReadsN G w a t.ks) : Calls Tryz.prog 7 #[nodeV t.op t.nm t.n a t.ks.len c] w fun e w' => e = .returned (.int .i64 (checkT t)) ∧ Below w.heap.size w w' := by
  have R := Lib.hid hr
  have C1 := Lib.hid (fun V (hV : Below w.heap.size w V) => cnt_any t G V a c 32 (by decide) (by decide) hS.lens (hr.kept hV))
  have C2 := Lib.hid (fun V (hV : Below w.heap.size w V) => chk_any t G V a c hS (hr.kept hV))
  obtain ⟨r, hR⟩ : ∃ r, checkT t = r := ⟨_, rfl⟩
  rw [hR]
  unfold checkT at hR
  obtain ⟨x, hx⟩ : ∃ x, cntF t.ks 31 = x := ⟨_, rfl⟩
  obtain ⟨y, hy⟩ : ∃ y, chkF t.f = y := ⟨_, rfl⟩
  rw [show (32 : Int) - 1 = 31 from rfl, hx] at C1
  rw [hx, hy] at hR
  rw [hy] at C2
  have B0 := Lib.hid ((Below.refl w.heap.size w).alloc (Nat.le_refl _) (ndO t.op t.nm t.n a t.ks.len c))
  have NB := Lib.hid (heap_alloc_new w (ndO t.op t.nm t.n a t.ks.len c))
  clear hx hy hS hr
  by_cases h : x < 0
  · have RR := Lib.hid (show (4 : Int) = r by rw [← hR, if_pos h])
    clear hR
    go_enter Tryz.func7, Tryz.ntmps7
    go_wp2_with fail
    generalize w.alloc (ndO t.op t.nm t.n a t.ks.len c) = W at NB B0 ⊢
    obtain ⟨⟨m0, m1, m2, m3⟩, -⟩ := four NB.out
    go_wp2_with fail
    refine (C1.out W B0.out).mono ?_
    rintro e w1 ⟨rfl, hb⟩
    have B1 := Lib.hid (B0.out.trans (hb.mono B0.out.size))
    clear hb
    go_wp2_with fail
    go_ret
    rw [RR.out]
    exact ⟨rfl, B1.out⟩
  · have RR := Lib.hid (show y = r by rw [← hR, if_neg h])
    clear hR
    go_enter Tryz.func7, Tryz.ntmps7
    go_wp2_with fail
    generalize w.alloc (ndO t.op t.nm t.n a t.ks.len c) = W at NB B0 ⊢
    obtain ⟨⟨m0, m1, m2, m3⟩, -⟩ := four NB.out
    go_wp2_with fail
    refine (C1.out W B0.out).mono ?_
    rintro e w1 ⟨rfl, hb⟩
    have B1 := Lib.hid (B0.out.trans (hb.mono B0.out.size))
    have N1 := Lib.hid ((hb.block _ (lt_block NB.out)).trans NB.out)
    clear hb m0 m1 m2 m3
    obtain ⟨⟨m0, m1, m2, m3⟩, -⟩ := four N1.out
    go_wp2_with fail
    refine (C2.out w1 B1.out).mono ?_
    rintro e w2 ⟨rfl, hb⟩
    have B2 := Lib.hid (B1.out.trans (hb.mono B1.out.size))
    clear hb
    go_wp2_with fail
    go_ret
    rw [RR.out]
    exact ⟨rfl, B2.out⟩

end

section
open Go.RowKit

theorem size_drop {f : F} {j : Nat} {t : TN} (h : f.at j = some t) : sizeF (f.drop j) = sizeT t + sizeF (f.drop (j + 1)) := by
  have hlt : j < f.len := by
    rcases Nat.lt_or_ge j f.len with h' | h'
    · exact h'
    · exfalso
      have : ∀ (f : F) (j : Nat), f.len ≤ j → f.at j = none := by
        intro f
        induction f with
        | nil => intro j _; rfl
        | cons o m n k r _ ih => intro j hj; cases j with
          | zero => simp [F.len] at hj
          | succ j => exact ih j (by simp [F.len] at hj; omega)
      rw [this f j h'] at h; cases h
  obtain ⟨t', h1, h2⟩ := F.drop_at f j hlt
  rw [h] at h1
  obtain rfl := Option.some.inj h1
  rw [h2, sizeF]
  rfl

theorem at_lt {f : F} {j : Nat} {t : TN} (h : f.at j = some t) : j < f.len := by
  rcases Nat.lt_or_ge j f.len with h' | h'
  · exact h'
  · exfalso
    have : ∀ (f : F) (j : Nat), f.len ≤ j → f.at j = none := by
      intro f
      induction f with
      | nil => intro j _; rfl
      | cons o m n k r _ ih => intro j hj; cases j with
        | zero => simp [F.len] at hj
        | succ j => exact ih j (by simp [F.len] at hj; omega)
    rw [this f j h'] at h; cases h

theorem size_drop_le : ∀ (f : F) (j : Nat), sizeF (f.drop j) ≤ sizeF f
  | f, 0 => by rw [F.drop_zero]; exact Nat.le_refl _
  | .nil, _ + 1 => Nat.le_refl _
  | .cons o m n k r, j + 1 => by
    have h := size_drop_le r j
    rw [F.drop, sizeF]
    omega

theorem one_cell {w : World} {b : Nat} {v : Value} {t : TypeId} (h : w.heap[b]? = some (.cells #[v] t (0, 0))) : w.cell? ⟨b, 0, none⟩ = some v ∧ w.frozen? ⟨b, 0, none⟩ = false := by
  constructor <;> simp [World.cell?, World.frozen?, h]

theorem one_set {w : World} {b : Nat} {v : Value} {t : TypeId} (h : w.heap[b]? = some (.cells #[v] t (0, 0))) (u : Value) : (w.setCell ⟨b, 0, none⟩ u).heap[b]? = some (.cells #[u] t (0, 0)) := by
  have := heap_setCell_same w b 0 _ t u h
  simpa using this

end

section
open Go.RowKit

theorem infoE : (Tryz.prog.info? 32).map (fun i => (i.zero, i.size, i.bytes)) = some (some (.int .i64 0), 1, 8) := by kernel_rfl

def PreE (t : TN) : Prop := SzF t.f

theorem preE2 {t t2 : TN} {j : Nat} (h : PreE t) (hj : t.ks.at j = some t2) : PreE t2 := SzF.at (f := t.ks) h.2.2.1 hj

def WdE (_ : Nat) (_ : World) : Prop := True

theorem wdE {w w' : World} {lb : Nat} (_ : WdE lb w) (_ : Kept (· = lb) w w') : WdE lb w' := trivial

def ResE (_ : Nat → Prop) (_ : World) (t : TN) (v : Value) : Prop := v = .int .i64 (chkF t.f)

theorem resE_imp {G H : Nat → Prop} {w : World} {t : TN} {v : Value} (h : ResE G w t v) (_ : ∀ b, b < w.heap.size → G b → H b) : ResE H w t v := h

theorem resE_keptS {S G : Nat → Prop} {w w' : World} {t : TN} {v : Value} (h : ResE G w t v) (_ : Kept S w w') (_ : ∀ k, S k → ¬ G k) : ResE G w' t v := h

theorem shapeE {G : Nat → Prop} {w : World} {t : TN} {v : Value} (h : ResE G w t v) : ∃ z, v = .int .i64 z := ⟨_, h⟩

theorem oneE {G : Nat → Prop} {w : World} {t : TN} {v : Value} (h : ResE G w t v) : v.oneCell' = true := by rw [h]; rfl

theorem chkF_cons (t : TN) (r : F) : chkF (.cons t.op t.nm t.n t.ks r) = if chkF t.f = 0 then chkF r else chkF t.f := by
  rw [chk_tree, chkF]
  by_cases h1 : errN t.op t.nm t.n t.ks.len = 0
  · rw [if_pos h1, if_pos h1]
  · rw [if_neg h1, if_neg h1, if_neg h1]

theorem op_yes' {o : ByteArray} {x : List UInt8} (h : (o.data.toList == x) = true) : (o.toList == x) = true := by rw [Lib.toList_data]; exact h

theorem op_not' {o : ByteArray} {x : List UInt8} (h : (o.data.toList == x) = false) : (o.toList == x) = false := by rw [Lib.toList_data]; exact h

set_option maxHeartbeats 8000000 in
theorem ofE_any (t : TN) (w : World) (G : Nat → Prop) (a : Option Addr) (c : Nat) (va : Option Addr) (vc : Nat) (vs : List Value) (base : Nat) (hpre : PreE t) {lb : Nat} (_ : WdE lb w) (_ : ReadsN G w a t.ks) (ho : w.ownsRow base 32 1 (.slice va t.ks.len vc) t.ks.len vs)
    (hv : ∀ j t2, t.ks.at j = some t2 → ∃ v, vs[j]? = some v ∧ ResE (fun b => base ≤ b ∧ (Value.slice va t.ks.len vc).ownBlock ≠ some b) w t2 v) :
    Calls Tryz.prog 24 #[nodeV t.op t.nm t.n a t.ks.len c, .slice va t.ks.len vc] w fun e w' => ∃ v, e = .returned v ∧ ResE (fun b => w.heap.size ≤ b) w' t v ∧ Below w.heap.size w w' := by
  have BA := (Below.refl w.heap.size w).alloc (Nat.le_refl _) (ndG t.op t.nm t.n a t.ks.len c)
  have NB := heap_alloc_new w (ndG t.op t.nm t.n a t.ks.len c)
  have O1 := Lib.hid (owns_below ho BA)
  generalize hW : w.alloc (ndG t.op t.nm t.n a t.ks.len c) = W at BA NB O1
  have HW := Lib.hid hW
  have HB := Lib.hid BA
  have HV := Lib.hid hv
  have hm : t.nm.size ≤ 281474976710656 := hpre.1
  have hlen9 : t.ks.len ≤ 9223372036854775807 := hpre.2.1
  obtain ⟨⟨m0, m1, m2, m3⟩, -⟩ := four NB
  have KO := Lib.hid (fun w => kidsOf_any t.op w)
  have NM := Lib.hid (fun w => wName_any t.nm hm w)
  have CT := chk_tree t
  unfold errN at CT
  have HCT := Lib.hid CT
  clear hW BA NB ho hv hpre CT
  have P := Lib.hid (p := ∀ r : Int, r = chkF t.f → ∀ W', Below w.heap.size w W' → ∃ v, Ending.returned (.int .i64 r) = .returned v ∧ ResE (fun b => w.heap.size ≤ b) W' t v ∧ Below w.heap.size w W') (fun r hr W' hb => ⟨_, rfl, by rw [hr]; rfl, hb⟩)
  by_cases h1 : (arity t.op != (t.ks.len : Int)) = true
  · have P2 := Lib.hid (P.out 2 (by rw [HCT.out, if_pos h1]; rfl) W HB.out)
    have b1 : ((t.ks.len : Int) != arity t.op) = true := by rw [bne_iff_ne] at h1 ⊢; exact fun e => h1 e.symm
    clear h1 P HCT
    go_enter Tryz.func24, Tryz.ntmps24
    go_upto_region 1 with fail
    rw [HW.out]
    go_wp2_with (go_at_call 40; refine (KO.out _).mono ?_; rintro e w' ⟨rfl, rfl⟩)
    go_ret
    exact P2.out
  · have b1 : ((t.ks.len : Int) != arity t.op) = false := by rw [bne_eq_false_iff_eq]; simp at h1; exact h1.symm
    rw [if_neg h1] at HCT
    clear h1
    cases h2 : isName t.op with
    | true =>
      have g2 := op_yes' h2
      have g1 : (t.op.toList == [110, 117, 109]) = false := by
        have : t.op.data.toList = bName := by unfold isName at h2; simpa using h2
        rw [Lib.toList_data, this]; rfl
      have hn : isNum t.op = false := by unfold isNum bNum; rw [← Lib.toList_data]; exact g1
      unfold bName at g2
      cases hg : goodB t.nm.data.toList with
      | false =>
        rw [hg] at NM
        have P2 := Lib.hid (P.out 5 (by rw [HCT.out, h2, hg]; rfl) W HB.out)
        clear h2 hg hn P HCT
        go_enter Tryz.func24, Tryz.ntmps24
        go_upto_region 1 with fail
        rw [HW.out]
        go_wp2_with (first | (go_at_call 40; refine (KO.out _).mono ?_; rintro e w' ⟨rfl, rfl⟩) | (go_at_call 41; refine (NM.out _).mono ?_; rintro e w' ⟨rfl, rfl⟩))
        go_ret
        exact P2.out
      | true =>
        rw [hg] at NM
        have E := Lib.hid (show chkF t.f = chkF t.ks by rw [HCT.out, h2, hg, hn]; rfl)
        clear h2 hg hn HCT
        go_enter Tryz.func24, Tryz.ntmps24
        go_upto_region 1 with fail
        rw [HW.out]
        go_wp2_with (first | (go_at_call 40; refine (KO.out _).mono ?_; rintro e w' ⟨rfl, rfl⟩) | (go_at_call 41; refine (NM.out _).mono ?_; rintro e w' ⟨rfl, rfl⟩))
        go_loop [35] (fun i => ∃ k : Nat, i = .int .i64 k ∧ k ≤ t.ks.len ∧ Hid (chkF (t.ks.drop k) = chkF t.ks)) (fun i => t.ks.len - (intOf i).toNat)
        case atStart => exact ⟨0, rfl, Nat.zero_le _, Lib.hid (by rw [F.drop_zero])⟩
        case round =>
          obtain ⟨k, rfl, hk, hD⟩ := hrel
          by_cases hlt : k < t.ks.len
          · obtain ⟨t2, hat, hdr⟩ := at_some hlt
            obtain ⟨v, hvj, hvr⟩ := HV.out k t2 hat
            obtain ⟨g, cc, hva, -, -, hcs⟩ := own_full O1.out (by omega)
            have hx := hcs k v hvj
            have HD2 := Lib.hid (show chkF t.ks = if chkF t2.f = 0 then chkF (t.ks.drop (k + 1)) else chkF t2.f by have e := chkF_cons t2 (t.ks.drop (k + 1)); rw [← hdr, hD.out] at e; exact e)
            simp only [Value.slice.injEq, true_and] at hva
            obtain ⟨rfl, rfl⟩ := hva
            unfold ResE at hvr
            subst hvr
            clear hvj hat hdr hcs
            by_cases h0 : chkF t2.f = 0
            · have b0 : ((chkF t2.f : Int) != 0) = false := by rw [h0]; rfl
              have D2 := Lib.hid (show chkF (t.ks.drop (k + 1)) = chkF t.ks by rw [HD2.out, if_pos h0])
              clear h0 HD2
              go_wp2_with fail
              go_round
              case rel => exact ⟨k + 1, by go_num, by omega, D2⟩
              case measure => simp [intOf]; omega
            · have b0 : ((chkF t2.f : Int) != 0) = true := by simpa using h0
              have P2 := Lib.hid (P.out (chkF t2.f) (by rw [E.out, HD2.out, if_neg h0]) W HB.out)
              clear h0 HD2
              go_wp2_with fail
              go_ret
              exact P2.out
          · obtain rfl : k = t.ks.len := by omega
            have P2 := Lib.hid (P.out 0 (by rw [E.out, ← hD.out, F.drop_len _ _ (Nat.le_refl _)]; rfl) W HB.out)
            go_wp2_with fail
            go_ret
            exact P2.out
    | false =>
      have g2 := op_not' h2
      unfold bName at g2
      cases h3 : isNum t.op with
      | true =>
        have g3 := op_yes' h3
        unfold bNum at g3
        by_cases h4 : t.n < 0
        · have P2 := Lib.hid (P.out 1 (by rw [HCT.out, h2, h3, decide_eq_true h4]; rfl) W HB.out)
          clear h2 h3 P HCT
          go_enter Tryz.func24, Tryz.ntmps24
          go_upto_region 1 with fail
          rw [HW.out]
          go_wp2_with (go_at_call 40; refine (KO.out _).mono ?_; rintro e w' ⟨rfl, rfl⟩)
          go_ret
          exact P2.out
        · have E := Lib.hid (show chkF t.f = chkF t.ks by rw [HCT.out, h2, h3, decide_eq_false h4]; rfl)
          clear h2 h3 HCT
          go_enter Tryz.func24, Tryz.ntmps24
          go_upto_region 1 with fail
          rw [HW.out]
          go_wp2_with (go_at_call 40; refine (KO.out _).mono ?_; rintro e w' ⟨rfl, rfl⟩)
          go_loop [35] (fun i => ∃ k : Nat, i = .int .i64 k ∧ k ≤ t.ks.len ∧ Hid (chkF (t.ks.drop k) = chkF t.ks)) (fun i => t.ks.len - (intOf i).toNat)
          case atStart => exact ⟨0, rfl, Nat.zero_le _, Lib.hid (by rw [F.drop_zero])⟩
          case round =>
            obtain ⟨k, rfl, hk, hD⟩ := hrel
            by_cases hlt : k < t.ks.len
            · obtain ⟨t2, hat, hdr⟩ := at_some hlt
              obtain ⟨v, hvj, hvr⟩ := HV.out k t2 hat
              obtain ⟨g, cc, hva, -, -, hcs⟩ := own_full O1.out (by omega)
              have hx := hcs k v hvj
              have HD2 := Lib.hid (show chkF t.ks = if chkF t2.f = 0 then chkF (t.ks.drop (k + 1)) else chkF t2.f by have e := chkF_cons t2 (t.ks.drop (k + 1)); rw [← hdr, hD.out] at e; exact e)
              simp only [Value.slice.injEq, true_and] at hva
              obtain ⟨rfl, rfl⟩ := hva
              unfold ResE at hvr
              subst hvr
              clear hvj hat hdr hcs
              by_cases h0 : chkF t2.f = 0
              · have b0 : ((chkF t2.f : Int) != 0) = false := by rw [h0]; rfl
                have D2 := Lib.hid (show chkF (t.ks.drop (k + 1)) = chkF t.ks by rw [HD2.out, if_pos h0])
                clear h0 HD2
                go_wp2_with fail
                go_round
                case rel => exact ⟨k + 1, by go_num, by omega, D2⟩
                case measure => simp [intOf]; omega
              · have b0 : ((chkF t2.f : Int) != 0) = true := by simpa using h0
                have P2 := Lib.hid (P.out (chkF t2.f) (by rw [E.out, HD2.out, if_neg h0]) W HB.out)
                clear h0 HD2
                go_wp2_with fail
                go_ret
                exact P2.out
            · obtain rfl : k = t.ks.len := by omega
              have P2 := Lib.hid (P.out 0 (by rw [E.out, ← hD.out, F.drop_len _ _ (Nat.le_refl _)]; rfl) W HB.out)
              go_wp2_with fail
              go_ret
              exact P2.out
      | false =>
        have g3 := op_not' h3
        unfold bNum at g3
        have E := Lib.hid (show chkF t.f = chkF t.ks by rw [HCT.out, h2, h3]; rfl)
        clear h2 h3 HCT
        go_enter Tryz.func24, Tryz.ntmps24
        go_upto_region 1 with fail
        rw [HW.out]
        go_wp2_with (go_at_call 40; refine (KO.out _).mono ?_; rintro e w' ⟨rfl, rfl⟩)
        go_loop [35] (fun i => ∃ k : Nat, i = .int .i64 k ∧ k ≤ t.ks.len ∧ Hid (chkF (t.ks.drop k) = chkF t.ks)) (fun i => t.ks.len - (intOf i).toNat)
        case atStart => exact ⟨0, rfl, Nat.zero_le _, Lib.hid (by rw [F.drop_zero])⟩
        case round =>
          obtain ⟨k, rfl, hk, hD⟩ := hrel
          by_cases hlt : k < t.ks.len
          · obtain ⟨t2, hat, hdr⟩ := at_some hlt
            obtain ⟨v, hvj, hvr⟩ := HV.out k t2 hat
            obtain ⟨g, cc, hva, -, -, hcs⟩ := own_full O1.out (by omega)
            have hx := hcs k v hvj
            have HD2 := Lib.hid (show chkF t.ks = if chkF t2.f = 0 then chkF (t.ks.drop (k + 1)) else chkF t2.f by have e := chkF_cons t2 (t.ks.drop (k + 1)); rw [← hdr, hD.out] at e; exact e)
            simp only [Value.slice.injEq, true_and] at hva
            obtain ⟨rfl, rfl⟩ := hva
            unfold ResE at hvr
            subst hvr
            clear hvj hat hdr hcs
            by_cases h0 : chkF t2.f = 0
            · have b0 : ((chkF t2.f : Int) != 0) = false := by rw [h0]; rfl
              have D2 := Lib.hid (show chkF (t.ks.drop (k + 1)) = chkF t.ks by rw [HD2.out, if_pos h0])
              clear h0 HD2
              go_wp2_with fail
              go_round
              case rel => exact ⟨k + 1, by go_num, by omega, D2⟩
              case measure => simp [intOf]; omega
            · have b0 : ((chkF t2.f : Int) != 0) = true := by simpa using h0
              have P2 := Lib.hid (P.out (chkF t2.f) (by rw [E.out, HD2.out, if_neg h0]) W HB.out)
              clear h0 HD2
              go_wp2_with fail
              go_ret
              exact P2.out
          · obtain rfl : k = t.ks.len := by omega
            have P2 := Lib.hid (P.out 0 (by rw [E.out, ← hD.out, F.drop_len _ _ (Nat.le_refl _)]; rfl) W HB.out)
            go_wp2_with fail
            go_ret
            exact P2.out

end

section
open Go.RowKit

/-- What foldWithin does at a tree. -/
def FoldE (t : TN) : Prop := ∀ (G : Nat → Prop) (lb : Nat) (w : World) (a : Option Addr) (c l : Nat), l ≤ 1000 → PreE t → (∀ b, G b → b ≠ lb) → WdE lb w → ReadsN G w a t.ks → w.heap[lb]? = some (.cells #[.int .i64 l] 3 (0, 0)) →
  Calls Tryz.prog 39 #[.pointer (some ⟨lb, 0, none⟩), nodeV t.op t.nm t.n a t.ks.len c, .func (.func 24) #[] #[]] w fun e w' => Kept (· = lb) w w' ∧
    (sizeT t ≤ l → ∃ v, e = .returned (.tuple #[v, .bool true]) ∧ ResE (fun b => w.heap.size ≤ b) w' t v) ∧
    (sizeT t ≤ l → w'.heap[lb]? = some (.cells #[.int .i64 ((l - sizeT t : Nat) : Int)] 3 (0, 0))) ∧
    (¬ sizeT t ≤ l → e = .returned (.tuple #[.int .i64 0, .bool false]))

set_option maxHeartbeats 8000000 in
set_option maxRecDepth 100000 in
theorem foldE_step (t : TN) (ih : EachF FoldE t.ks) : FoldE t := by
  intro G lb w a c l hl hpre hG hwd hr hlb
  obtain ⟨i0, hi, hz0, hz1, hz2⟩ := info_parts infoE
  have und : Tryz.prog.underlying 70 = some (.slice 32) := Tryz.underlying70
  have hlt := (Array.getElem?_eq_some_iff.1 hlb).1
  have IH := Lib.hid ih
  have R := Lib.hid hr
  have PRE := Lib.hid hpre
  have HG := Lib.hid hG
  have WD := Lib.hid hwd
  have BA := (Below.refl w.heap.size w).alloc (Nat.le_refl _) (ndG t.op t.nm t.n a t.ks.len c)
  have NB := heap_alloc_new w (ndG t.op t.nm t.n a t.ks.len c)
  have LB1 := (BA.block lb hlt).trans hlb
  have hs0 : (w.alloc (ndG t.op t.nm t.n a t.ks.len c)).heap.size = w.heap.size + 1 := World.size_alloc _ _
  generalize hW : w.alloc (ndG t.op t.nm t.n a t.ks.len c) = W at BA NB LB1 hs0
  have HW := Lib.hid hW
  have hsize : sizeT t = 1 + sizeF t.ks := rfl
  have hlen := len_size t.ks
  have K1 := (kept_below BA (· = lb)).setCell (p := ⟨lb, 0, none⟩) (.inl rfl) (.int .i64 ((l : Int) - 1))
  have LB2 := one_set LB1 (.int .i64 ((l : Int) - 1))
  have NB2 := ((Kept.refl (· = lb) W).setCell (p := ⟨lb, 0, none⟩) (.inl rfl) (.int .i64 ((l : Int) - 1))).heap NB (by omega)
  have hs1 : (W.setCell ⟨lb, 0, none⟩ (.int .i64 ((l : Int) - 1))).heap.size = w.heap.size + 1 := by rw [World.size_setCell]; exact hs0
  obtain ⟨lc, lf⟩ := one_cell LB1
  by_cases hstop : (l : Int) - 1 < (t.ks.len : Int)
  · have P := Lib.hid (show ¬ sizeT t ≤ l by omega)
    generalize hV : W.setCell ⟨lb, 0, none⟩ (.int .i64 ((l : Int) - 1)) = V at K1 LB2 NB2 hs1
    have HV := Lib.hid hV
    obtain ⟨lc2, -⟩ := one_cell LB2
    obtain ⟨⟨m0, m1, m2, m3⟩, -⟩ := four NB2
    have HK1 := Lib.hid K1
    clear hr hpre hG ih hwd hlb hW hV K1 LB1 LB2 NB NB2 BA hsize
    go_enter Tryz.func39, Tryz.ntmps39
    go_upto_region 2 with fail
    rw [HW.out]
    go_upto_region 3 with fail
    rw [HV.out]
    go_wp2_with (go_quiet (fail))
    go_ret2
    exact ⟨HK1.out.drewN _, fun h => absurd h P.out, fun h => absurd h P.out, fun _ => rfl⟩
  · obtain ⟨l', rfl⟩ : ∃ l', l = l' + 1 := ⟨l - 1, by omega⟩
    have hcast : (((l' + 1 : Nat) : Int) - 1) = (l' : Int) := by omega
    rw [hcast] at K1 LB2 NB2 hs1 hstop
    generalize hV : W.setCell ⟨lb, 0, none⟩ (.int .i64 (l' : Int)) = V at K1 LB2 NB2 hs1
    have HV := Lib.hid hV
    obtain ⟨lc2, -⟩ := one_cell LB2
    obtain ⟨⟨m0, m1, m2, m3⟩, -⟩ := four NB2
    have HK1 := Lib.hid K1
    have HLB := Lib.hid LB2
    have HNB := Lib.hid NB2
    have hll : t.ks.len ≤ l' := by omega
    have b9 : ¬ (l' : Int) < (t.ks.len : Int) := hstop
    clear hr hpre hG ih hwd hlb hW hV K1 LB1 LB2 NB NB2 BA hstop hcast
    go_enter Tryz.func39, Tryz.ntmps39
    go_upto_region 2 with fail
    rw [HW.out]
    go_upto_region 3 with fail
    rw [HV.out]
    go_upto_region 5 with (go_quiet (fail))
    have HK2 := Lib.hid (HK1.out.drewN nq)
    have HLB2 := Lib.hid (show (V.drewN nq).heap[lb]? = _ from HLB.out)
    have HNB2 := Lib.hid (show (V.drewN nq).heap[w.heap.size]? = _ from HNB.out)
    have hsV : (V.drewN nq).heap.size = w.heap.size + 1 := hs1
    have n3 : (V.drewN nq).cell? ⟨w.heap.size, 3, none⟩ = some (.slice a t.ks.len c) := m3
    generalize V.drewN nq = U at HK2 HLB2 HNB2 hsV n3 ⊢
    clear m0 m1 m2 m3 lc lf lc2 HW HV HK1 HLB HNB
    go_wp2_with fail
    go_loopw [9, 30] (fun kv i wr => ∃ (k x : Nat) (va : Option Addr) (vc : Nat) (vs : List Value), kv = .slice va k vc ∧ i = .int .i64 k ∧ k ≤ t.ks.len ∧ x + sizeF t.ks = l' + sizeF (t.ks.drop k) ∧ Hid (wr.ownsRow (w.heap.size + 1) 32 1 (.slice va k vc) k vs) ∧
      Hid (∀ j t2, j < k → t.ks.at j = some t2 → ∃ v, vs[j]? = some v ∧ ResE (fun b => w.heap.size + 1 ≤ b ∧ (Value.slice va k vc).ownBlock ≠ some b) wr t2 v) ∧ Hid (wr.heap[lb]? = some (.cells #[.int .i64 x] 3 (0, 0))) ∧ Hid (Kept (· = lb) w wr) ∧ Hid (wr.heap[w.heap.size]? = some (ndG t.op t.nm t.n a t.ks.len c))) (fun _ i _ => t.ks.len - (intOf i).toNat)
    case atStart => exact ⟨0, l', none, 0, [], rfl, rfl, Nat.zero_le _, by rw [F.drop_zero], Lib.hid (World.ownsRow_nil _ _ _ _), Lib.hid (fun _ _ h => absurd h (Nat.not_lt_zero _)), HLB2, HK2, HNB2⟩
    case round =>
      obtain ⟨k, x, va, vc, vs, rfl, rfl, hk, hx, hO, hV, hL, hK, hN⟩ := hrel
      clear n3
      obtain ⟨⟨m0, m1, m2, m3⟩, -⟩ := four hN.out
      have hz := hK.out.size
      by_cases hkl : k < t.ks.len
      · obtain ⟨t2, hat, -⟩ := at_some hkl
        have hsd := size_drop hat
        have hdl := size_drop_le t.ks k
        obtain ⟨b, off, a2, c2, ha, hGb, hbl, ⟨p0, p1, p2, p3⟩, hr2⟩ := readsN_at (R.out.keptS hK.out (fun q hq hg => HG.out q hg hq)) hat
        subst ha
        have hN1 : w.heap.size < wr.heap.size := (Array.getElem?_eq_some_iff.1 hN.out).1
        have BA := (Below.refl wr.heap.size wr).alloc (Nat.le_refl _) (ndG t2.op t2.nm t2.n a2 t2.ks.len c2)
        have NB := heap_alloc_new wr (ndG t2.op t2.nm t2.n a2 t2.ks.len c2)
        have hs2 : (wr.alloc (ndG t2.op t2.nm t2.n a2 t2.ks.len c2)).heap.size = wr.heap.size + 1 := World.size_alloc _ _
        generalize hX : wr.alloc (ndG t2.op t2.nm t2.n a2 t2.ks.len c2) = Z at BA NB hs2
        have HX := Lib.hid hX
        have CF := Lib.hid ((EachF.at IH.out hat) G lb Z a2 c2 x (by omega) (preE2 PRE.out hat) HG.out (wdE WD.out (hK.out.trans (kept_below BA (· = lb)) (fun _ h _ => h))) (hr2.kept BA) ((BA.block lb (by omega)).trans hL.out))
        have HAT := Lib.hid hat
        have HBA := Lib.hid BA
        have OZ := Lib.hid (owns_below hO.out BA)
        obtain ⟨⟨z0, z1, z2, z3⟩, -⟩ := four NB
        clear hX BA NB hr2 hat hGb
        go_upto_region 9 with fail
        rw [HX.out]
        clear p0 p1 p2 p3 m0 m1 m2 m3
        go_wp2_with fail
        refine CF.out.mono ?_
        rintro e w2 ⟨k2, hA1, hA2, hB⟩
        have hzk2 := k2.size
        have K2 := Lib.hid (hK.out.trans ((kept_below HBA.out (· = lb)).trans k2 (fun _ h _ => h)) (fun _ h _ => h))
        have N2 := Lib.hid (k2.heap ((HBA.out.block w.heap.size (by omega)).trans hN.out) (by omega))
        by_cases hfit : sizeT t2 ≤ x
        · obtain ⟨v, rfl, hv⟩ := hA1 hfit
          obtain ⟨z, rfl⟩ := shapeE hv
          have L2 := Lib.hid (hA2 hfit)
          have O2 := Lib.hid (owns_kept (row := some lb) OZ.out (k2.mono (fun i hi _ => by rw [hi])) (fun q hq e => by have := (OZ.out.lt q hq).1; have := Option.some.inj e; omega))
          have HVV := Lib.hid hv
          have hx2 : (x - sizeT t2) + sizeF t.ks = l' + sizeF (t.ks.drop (k + 1)) := by omega
          have hksz : k + 1 ≤ 1000 := by omega
          have vone : ∀ u ∈ [(Value.int .i64 z)], u.oneCell' = true := fun u hu => by rw [List.mem_singleton.1 hu]; exact oneE hv
          clear CF hA1 hA2 hB hv hfit z0 z1 z2 z3
          go_upto_region 12 with fail
          have BN := (Below.refl w2.heap.size w2).alloc (Nat.le_refl _) (.cells #[(Value.int .i64 z)] 32)
          have F2 := Lib.hid (show ∀ j u, [(Value.int .i64 z)][j]? = some u → (w2.alloc (.cells #[(Value.int .i64 z)] 32)).cell? ((⟨w2.heap.size, 0, none⟩ : Addr).add j) = some u from fun j u hj => by
            rw [Addr.add_lit, Nat.zero_add, cell_of_row _ _ _ _ _ (0, 0) (heap_alloc_new w2 _)]
            simpa using hj)
          have HBN := Lib.hid BN
          clear BN
          go_wp2_with (at_builtin; refine wpList_append_new rfl _ _ 70 rfl und hi hz0 hz1 hz2 rfl (by decide) (.slice va k vc) k 1 1 ⟨w2.heap.size, 0, none⟩ vs [(Value.int .i64 z)] rfl rfl (owns_below O2.out HBN.out) rfl F2.out vone (by unfold maxLen; omega) (by omega) (by rw [World.size_alloc]; omega) ?_)
          intro v3 w3 ho hg hq
          obtain ⟨va3, vc3, rfl⟩ := own_rowG ho
          have kg : Kept (fun b => (Value.slice va k vc).ownBlock = some b) w2 w3 := ((Kept.refl _ w2).alloc _).grown hg (fun q hq => .inl hq)
          have hov : ∀ q, (Value.slice va k vc).ownBlock = some q → w.heap.size + 1 ≤ q ∧ q < w2.heap.size := fun q hq => by have := O2.out.lt q hq; omega
          have O3 := Lib.hid ho
          have L3 := Lib.hid (kg.heap L2.out (fun e => by have := hov lb e; omega))
          have K3 := Lib.hid (K2.out.trans (kg.mono (T := fun b => w.heap.size + 1 ≤ b) (fun i hi _ => (hov i hi).1)) (fun i hi hlt => by omega))
          have N3 := Lib.hid (kg.heap N2.out (fun e => by have := hov _ e; omega))
          have hnewb : ∀ b, b < w2.heap.size → (Value.slice va k vc).ownBlock ≠ some b → (Value.slice va3 (k + 1) vc3).ownBlock ≠ some b := fun b hb hne e => by
            rcases hq b e with h1 | h1
            · exact hne h1
            · omega
          have V3 := Lib.hid (show ∀ j t3, j < k + 1 → t.ks.at j = some t3 → ∃ u, (vs ++ [(Value.int .i64 z)])[j]? = some u ∧ ResE (fun b => w.heap.size + 1 ≤ b ∧ (Value.slice va3 (k + 1) vc3).ownBlock ≠ some b) w3 t3 u from fun j t3 hj hjt => by
            have hvl : vs.length = k := by have := hO.out.1; rwa [Nat.mul_one] at this
            by_cases hjk : j < k
            · obtain ⟨u, hu, hru⟩ := hV.out j t3 hjk hjt
              refine ⟨u, by rw [List.getElem?_append_left (by omega)]; exact hu, ?_⟩
              have r1 := resE_keptS (resE_keptS hru (kept_below HBA.out (fun _ => False)) (fun _ h => h.elim)) k2 (fun q hq hg => by have := hg.1; omega)
              have r2 := resE_imp (H := fun b => (w.heap.size + 1 ≤ b ∧ (Value.slice va k vc).ownBlock ≠ some b) ∧ (Value.slice va3 (k + 1) vc3).ownBlock ≠ some b) r1 (fun b hb hg => ⟨hg, hnewb b hb hg.2⟩)
              exact resE_imp (resE_keptS r2 kg (fun q hq hg => hg.1.2 hq)) (fun b hb hg => ⟨hg.1.1, hg.2⟩)
            · obtain rfl : j = k := by omega
              have : t3 = t2 := by rw [HAT.out] at hjt; exact (Option.some.inj hjt).symm
              subst this
              refine ⟨_, by rw [List.getElem?_append_right (by omega), hvl, Nat.sub_self]; rfl, ?_⟩
              have r2 := resE_imp (H := fun b => (w.heap.size + 1 ≤ b ∧ (Value.slice va j vc).ownBlock ≠ some b) ∧ (Value.slice va3 (j + 1) vc3).ownBlock ≠ some b) HVV.out (fun b hb hg => by
                have hne : (Value.slice va j vc).ownBlock ≠ some b := fun e => by have := (OZ.out.lt b e).2; omega
                exact ⟨⟨by omega, hne⟩, hnewb b hb hne⟩)
              exact resE_imp (resE_keptS r2 kg (fun q hq hg => hg.1.2 hq)) (fun b hb hg => ⟨hg.1.1, hg.2⟩))
          clear ho hg hq kg hov hnewb
          go_wp2_with fail
          go_roundw
          case rel => exact ⟨k + 1, x - sizeT t2, va3, vc3, vs ++ [(Value.int .i64 z)], rfl, by go_num, by omega, hx2, O3, V3, L3, K3, N3⟩
          case measure => simp [intOf]; omega
        · obtain rfl := hB hfit
          have P := Lib.hid (show ¬ sizeT t ≤ l' + 1 by omega)
          clear CF hA1 hA2 hB hfit z0 z1 z2 z3
          go_wp2_with fail
          go_ret2
          exact ⟨K2.out, fun h => absurd h P.out, fun h => absurd h P.out, fun _ => rfl⟩
      · obtain rfl : k = t.ks.len := by omega
        have hx2 : x + sizeF t.ks = l' := by rw [hx, F.drop_len _ _ (Nat.le_refl _)]; rfl
        have CO := Lib.hid (ofE_any t wr G a c va vc vs (w.heap.size + 1) PRE.out (wdE WD.out hK.out) (R.out.keptS hK.out (fun q hq hg => HG.out q hg hq)) hO.out (fun j t2 hj => hV.out j t2 (at_lt hj) hj))
        go_wp2_with fail
        refine CO.out.mono ?_
        rintro e w2 ⟨v, rfl, hv, hb⟩
        have P := Lib.hid (show Kept (· = lb) w w2 ∧ ResE (fun b => w.heap.size ≤ b) w2 t v ∧ w2.heap[lb]? = some (.cells #[.int .i64 ((l' + 1 - sizeT t : Nat) : Int)] 3 (0, 0)) ∧ sizeT t ≤ l' + 1 from
          ⟨hK.out.trans (kept_below hb (· = lb)) (fun _ h _ => h), resE_imp hv (fun b _ hg => by omega), by rw [hb.block lb (by omega), hL.out, show x = l' + 1 - sizeT t by omega], by omega⟩)
        clear hv hb CO m0 m1 m2 m3
        go_wp2_with fail
        go_ret2
        exact ⟨P.out.1, fun _ => ⟨v, rfl, P.out.2.1⟩, fun _ => P.out.2.2.1, fun h => absurd P.out.2.2.2 h⟩

theorem foldE_all (t : TN) : FoldE t := tree_of foldE_step t

set_option maxHeartbeats 4000000 in
set_option maxRecDepth 100000 in
theorem foldE_any (t : TN) (G : Nat → Prop) (w : World) (a : Option Addr) (c : Nat) (hpre : PreE t) (hwd : ∀ lb, w.heap.size ≤ lb → WdE lb w) (hr : ReadsN G w a t.ks) :
    Calls Tryz.prog 23 #[nodeV t.op t.nm t.n a t.ks.len c, .func (.func 24) #[] #[]] w fun e w' => Below w.heap.size w w' ∧
      (sizeT t ≤ 32 → ∃ v, e = .returned (.tuple #[v, .bool true]) ∧ ResE (fun b => w.heap.size ≤ b) w' t v) ∧ (¬ sizeT t ≤ 32 → e = .returned (.tuple #[.int .i64 0, .bool false])) := by
  have BA := (Below.refl w.heap.size w).alloc (Nat.le_refl _) (ndG t.op t.nm t.n a t.ks.len c)
  have NB := heap_alloc_new w (ndG t.op t.nm t.n a t.ks.len c)
  have hs0 : (w.alloc (ndG t.op t.nm t.n a t.ks.len c)).heap.size = w.heap.size + 1 := World.size_alloc _ _
  generalize hW : w.alloc (ndG t.op t.nm t.n a t.ks.len c) = W at BA NB hs0
  have BB := (Below.refl W.heap.size W).alloc (Nat.le_refl _) (.cells #[.int .i64 32] 3)
  have NC := heap_alloc_new W (.cells #[.int .i64 32] 3)
  have hs1 : (W.alloc (.cells #[.int .i64 32] 3)).heap.size = w.heap.size + 2 := by rw [World.size_alloc]; omega
  generalize hV : W.alloc (.cells #[.int .i64 32] 3) = V at BB NC hs1
  rw [hs0] at NC
  have BV := BA.trans (BB.mono (by omega))
  have N2 := (BB.block w.heap.size (by omega)).trans NB
  have hGlt := hr.imp (H := fun b => G b ∧ b < w.heap.size) (fun b hb hg => ⟨hg, hb⟩)
  have CF := Lib.hid (foldE_all t (fun b => G b ∧ b < w.heap.size) (w.heap.size + 1) V a c 32 (by omega) hpre (fun b hg => by omega) (wdE (hwd (w.heap.size + 1) (by omega)) (kept_below BV (fun _ => False) |>.mono (fun _ h _ => h.elim) : Kept (· = w.heap.size + 1) w V)) (hGlt.keptS (kept_below BV (fun _ => False)) (fun _ h => h.elim)) NC)
  have HW := Lib.hid hW
  have HV := Lib.hid hV
  have HB := Lib.hid BV
  obtain ⟨⟨m0, m1, m2, m3⟩, -⟩ := four N2
  clear hW hV BA NB BB NC BV N2 hGlt hr hpre hwd
  go_enter Tryz.func23, Tryz.ntmps23
  go_upto_region 1 with fail
  rw [HW.out]
  go_upto_region 2 with fail
  rw [HV.out]
  go_wp2_with fail
  refine CF.out.mono ?_
  rintro e w2 ⟨k2, hA, -, hB⟩
  have B2 := Lib.hid (HB.out.trans (Kept.below k2 (B := w.heap.size) (fun q hq => by omega) (by omega)))
  by_cases h32 : sizeT t ≤ 32
  · obtain ⟨v, rfl, hv⟩ := hA h32
    have HR := Lib.hid (resE_imp hv (H := fun b => w.heap.size ≤ b) (fun b _ hg => by omega))
    have H32 := Lib.hid h32
    clear k2 hA hB hv h32 CF m0 m1 m2 m3
    go_wp2_with fail
    go_ret2
    exact ⟨B2.out, fun _ => ⟨v, rfl, HR.out⟩, fun h => absurd H32.out h⟩
  · obtain rfl := hB h32
    have H32 := Lib.hid h32
    clear k2 hA hB h32 CF m0 m1 m2 m3
    go_wp2_with fail
    go_ret2
    exact ⟨B2.out, fun h => absurd h H32.out, fun _ => rfl⟩

end

section
open Go.RowKit

theorem same_cons {f g : F} {t u : TN} {r s : F} (hf : f = .cons t.op t.nm t.n t.ks r) (hg : g = .cons u.op u.nm u.n u.ks s) : sameF f g = (sameT t u && sameF r s) := by
  rw [hf, hg, sameT, TN.f, TN.f, sameF, sameF]
  simp only [sameF, Bool.and_true]

theorem same_head (t u : TN) : sameT t u = ((t.op.toList == u.op.toList) && (t.ks.len == u.ks.len) && !((t.op.toList == [110, 117, 109]) && t.n != u.n) && !((t.op.toList == [110, 97, 109, 101]) && (t.nm.toList != u.nm.toList)) && sameF t.ks u.ks) := by
  rw [sameT, TN.f, TN.f, sameF]
  simp only [sameF, Bool.and_true, isNum, isName, bNum, bName, Lib.toList_data]

/-- SameNode's contract at a tree. -/
def SameOK (t : TN) : Prop := ∀ (G H : Nat → Prop) (w : World) (a a2 : Option Addr) (c c2 : Nat) (u : TN), LenF t.f → ReadsN G w a t.ks → ReadsN H w a2 u.ks → Calls Tryz.prog 13 #[nodeV t.op t.nm t.n a t.ks.len c, nodeV u.op u.nm u.n a2 u.ks.len c2] w fun e w' => e = .returned (.bool (sameT t u)) ∧ Below w.heap.size w w'

set_option maxHeartbeats 4000000 in
theorem same_step (t : TN) (ih : EachF SameOK t.ks) : SameOK t := by
  intro G H w a a2 c c2 u hS hr hs
  have R := Lib.hid hr
  have R2 := Lib.hid hs
  have IH := Lib.hid ih
  obtain ⟨hm, hL2, -⟩ := hS
  have LK := Lib.hid hL2
  obtain ⟨r, hR⟩ : ∃ r, sameT t u = r := ⟨_, rfl⟩
  rw [hR]
  rw [same_head] at hR
  have hop : (t.op.toList == u.op.toList) = true → u.op = t.op := fun h => ByteArray.ext (Array.ext' (by rw [← Lib.toList_data, ← Lib.toList_data]; exact (eq_of_beq h).symm))
  obtain ⟨uo, um, un, uks⟩ := u
  dsimp only at hop hR hs ⊢
  obtain ⟨L, hL⟩ : ∃ L, uks.len = L := ⟨_, rfl⟩
  have HL := Lib.hid hL
  rw [hL] at hR ⊢
  have NB : Hid ((w.alloc (ndO t.op t.nm t.n a t.ks.len c)).heap[w.heap.size]? = some (ndO t.op t.nm t.n a t.ks.len c)) := Lib.hid (heap_alloc_new w _)
  have NB0 : Hid (((w.alloc (ndO t.op t.nm t.n a t.ks.len c)).alloc (ndO uo um un a2 L c2)).heap[w.heap.size]? = some (ndO t.op t.nm t.n a t.ks.len c)) := Lib.hid ((heap_alloc_old _ _ (lt_block NB.out)).trans NB.out)
  have NB1 : Hid (((w.alloc (ndO t.op t.nm t.n a t.ks.len c)).alloc (ndO uo um un a2 L c2)).heap[w.heap.size + 1]? = some (ndO uo um un a2 L c2)) := Lib.hid (by have := heap_alloc_new (w.alloc (ndO t.op t.nm t.n a t.ks.len c)) (ndO uo um un a2 L c2); rwa [World.size_alloc] at this)
  have B0 := Lib.hid (((Below.refl w.heap.size w).alloc (Nat.le_refl _) (ndO t.op t.nm t.n a t.ks.len c)).alloc (by simp) (ndO uo um un a2 L c2))
  clear hr hs ih hL2 NB hL
  cases h1 : (t.op.toList == uo.toList) with
  | false =>
    have RR := Lib.hid (show false = r by rw [← hR, h1]; rfl)
    clear hR hop
    go_enter Tryz.func13, Tryz.ntmps13
    go_wp2_with fail
    go_ret
    rw [RR.out]
    exact ⟨rfl, B0.out⟩
  | true =>
    obtain rfl := hop h1
    clear hop h1
    by_cases h2 : t.ks.len = L
    · subst h2
      obtain ⟨p, hp⟩ : ∃ p, (t.op.toList == [110, 97, 109, 101]) = p := ⟨_, rfl⟩
      obtain ⟨q, hq⟩ : ∃ q, (t.op.toList == [110, 117, 109]) = q := ⟨_, rfl⟩
      rw [hp, hq] at hR
      cases q with
      | true =>
        obtain rfl : p = false := by rw [← hp, eq_of_beq hq]; rfl
        by_cases h3 : un = t.n
        · subst h3
          have H0 := Lib.hid (show sameF (t.ks.drop 0) (uks.drop 0) = r by rw [F.drop_zero, F.drop_zero, ← hR]; simp)
          clear hR
          go_enter Tryz.func13, Tryz.ntmps13
          go_wp2_with fail
          generalize (w.alloc (ndO t.op t.nm t.n a t.ks.len c)).alloc (ndO t.op um t.n a2 t.ks.len c2) = W at NB0 NB1 B0 ⊢
          go_loopw [5] (fun i wr => ∃ (k : Nat), i = .int .i64 k ∧ k ≤ t.ks.len ∧ Hid (sameF (t.ks.drop k) (uks.drop k) = r) ∧ Hid (Below w.heap.size w wr) ∧ Hid (wr.heap[w.heap.size]? = some (ndO t.op t.nm t.n a t.ks.len c)) ∧ Hid (wr.heap[w.heap.size + 1]? = some (ndO t.op um t.n a2 t.ks.len c2))) (fun i _ => t.ks.len - (intOf i).toNat)
          case atStart => exact ⟨0, rfl, Nat.zero_le _, H0, B0, NB0, NB1⟩
          case round =>
            obtain ⟨k, rfl, hk, hE, hB, hN, hM⟩ := hrel
            obtain ⟨⟨m0, m1, m2, m3⟩, -⟩ := four hN.out
            obtain ⟨⟨q0, q1, q2, q3⟩, -⟩ := four hM.out
            by_cases hlt : k < t.ks.len
            · obtain ⟨t2, hat, hdr⟩ := at_some hlt
              obtain ⟨u2, hau, hdu⟩ := at_some (show k < uks.len by rw [HL.out]; exact hlt)
              obtain ⟨b, off, a3, c3, ha, hG, hbl, ⟨p0, p1, p2, p3⟩, hr2⟩ := readsN_at (R.out.kept hB.out) hat
              obtain ⟨b', off', a4, c4, ha', hG', hbl', ⟨p4, p5, p6, p7⟩, hr3⟩ := readsN_at (R2.out.kept hB.out) hau
              have EN := Lib.hid (show (sameT t2 u2 && sameF (t.ks.drop (k + 1)) (uks.drop (k + 1))) = r from (same_cons hdr hdu).symm.trans hE.out)
              have hdr' : Below wr.heap.size wr wr.drew := ⟨rfl, rfl, rfl, Nat.le_refl _, fun _ _ => rfl⟩
              have C := Lib.hid ((EachF.at IH.out hat) G H wr.drew a3 a4 c3 c4 u2 (LK.out.at hat) (hr2.kept hdr') (hr3.kept hdr'))
              subst ha ha'
              obtain ⟨y, hy⟩ : ∃ y, sameT t2 u2 = y := ⟨_, rfl⟩
              rw [hy] at C EN
              have CELLS := Lib.hid (p := ∀ w', Below wr.heap.size wr w' → (w'.cell? ⟨w.heap.size, 3, none⟩ = some (.slice (some ⟨b, off, none⟩) t.ks.len c) ∧ w'.cell? ⟨w.heap.size + 1, 3, none⟩ = some (.slice (some ⟨b', off', none⟩) t.ks.len c2) ∧ w'.cell? ⟨b, off + k * 4, none⟩ = some (.string t2.op) ∧ w'.cell? ⟨b, off + k * 4 + 1, none⟩ = some (.string t2.nm) ∧ w'.cell? ⟨b, off + k * 4 + 2, none⟩ = some (.int .i64 t2.n) ∧ w'.cell? ⟨b, off + k * 4 + 3, none⟩ = some (.slice a3 t2.ks.len c3) ∧ w'.cell? ⟨b', off' + k * 4, none⟩ = some (.string u2.op) ∧ w'.cell? ⟨b', off' + k * 4 + 1, none⟩ = some (.string u2.nm) ∧ w'.cell? ⟨b', off' + k * 4 + 2, none⟩ = some (.int .i64 u2.n) ∧ w'.cell? ⟨b', off' + k * 4 + 3, none⟩ = some (.slice a4 u2.ks.len c4))) (fun w' h => ⟨(h.cell (lt_block hN.out)).trans m3, (h.cell (lt_block hM.out)).trans q3, (h.cell hbl).trans p0, (h.cell hbl).trans p1, (h.cell hbl).trans p2, (h.cell hbl).trans p3, (h.cell hbl').trans p4, (h.cell hbl').trans p5, (h.cell hbl').trans p6, (h.cell hbl').trans p7⟩)
              clear hat hdr hau hdu hr2 hr3 hy hdr'
              go_wp2_with fail
              go_region_held3 (fun w' => w'.cell? ⟨w.heap.size, 3, none⟩ = some (.slice (some ⟨b, off, none⟩) t.ks.len c) ∧ w'.cell? ⟨w.heap.size + 1, 3, none⟩ = some (.slice (some ⟨b', off', none⟩) t.ks.len c2) ∧ w'.cell? ⟨b, off + k * 4, none⟩ = some (.string t2.op) ∧ w'.cell? ⟨b, off + k * 4 + 1, none⟩ = some (.string t2.nm) ∧ w'.cell? ⟨b, off + k * 4 + 2, none⟩ = some (.int .i64 t2.n) ∧ w'.cell? ⟨b, off + k * 4 + 3, none⟩ = some (.slice a3 t2.ks.len c3) ∧ w'.cell? ⟨b', off' + k * 4, none⟩ = some (.string u2.op) ∧ w'.cell? ⟨b', off' + k * 4 + 1, none⟩ = some (.string u2.nm) ∧ w'.cell? ⟨b', off' + k * 4 + 2, none⟩ = some (.int .i64 u2.n) ∧ w'.cell? ⟨b', off' + k * 4 + 3, none⟩ = some (.slice a4 u2.ks.len c4)) (first | exact ⟨m3, q3, p0, p1, p2, p3, p4, p5, p6, p7⟩ | exact CELLS.out _ B2.out) (first
                | (go_at_call 13
                   with_reducible refine C.out.mono ?_
                   rintro e w2 ⟨rfl, hb⟩
                   have B2 := Lib.hid ((drew_below wr).trans hb)
                   clear hb)
                | fail)
              have hz := hB.out.size
              have N2 := Lib.hid ((B2.out.block _ (lt_block hN.out)).trans hN.out)
              have M2 := Lib.hid ((B2.out.block _ (lt_block hM.out)).trans hM.out)
              have B3 := Lib.hid (hB.out.trans (B2.out.mono hz))
              clear B2 C CELLS m0 m1 m2 m3 q0 q1 q2 q3 p0 p1 p2 p3 p4 p5 p6 p7
              cases y with
              | true =>
                have EN2 := Lib.hid ((Bool.true_and _).symm.trans EN.out)
                clear EN
                go_wp2_with fail
                go_roundw
                case rel => exact ⟨k + 1, by go_num, by omega, EN2, B3, N2, M2⟩
                case measure => simp [intOf]; omega
              | false =>
                have RR := Lib.hid (show false = r from (Bool.false_and _).symm.trans EN.out)
                clear EN
                go_wp2_with fail
                go_ret
                rw [RR.out]
                exact ⟨rfl, B3.out⟩
            · have RR := Lib.hid (show true = r by rw [← hE.out, F.drop_len _ _ (by omega), F.drop_len _ _ (by rw [HL.out]; omega)]; rfl)
              go_wp2_with fail
              go_ret
              rw [RR.out]
              exact ⟨rfl, hB.out⟩
        · have RR := Lib.hid (show false = r by rw [← hR]; simp [bne_iff_ne.2 (Ne.symm h3)])
          clear hR
          go_enter Tryz.func13, Tryz.ntmps13
          go_wp2_with fail
          go_ret
          rw [RR.out]
          exact ⟨rfl, B0.out⟩
      | false =>
        cases p with
        | true =>
          cases h4 : (t.nm.toList == um.toList) with
          | true =>
            have H0 := Lib.hid (show sameF (t.ks.drop 0) (uks.drop 0) = r by rw [F.drop_zero, F.drop_zero, ← hR]; simp [bne, h4])
            clear hR
            go_enter Tryz.func13, Tryz.ntmps13
            go_wp2_with fail
            generalize (w.alloc (ndO t.op t.nm t.n a t.ks.len c)).alloc (ndO t.op um un a2 t.ks.len c2) = W at NB0 NB1 B0 ⊢
            go_loopw [5] (fun i wr => ∃ (k : Nat), i = .int .i64 k ∧ k ≤ t.ks.len ∧ Hid (sameF (t.ks.drop k) (uks.drop k) = r) ∧ Hid (Below w.heap.size w wr) ∧ Hid (wr.heap[w.heap.size]? = some (ndO t.op t.nm t.n a t.ks.len c)) ∧ Hid (wr.heap[w.heap.size + 1]? = some (ndO t.op um un a2 t.ks.len c2))) (fun i _ => t.ks.len - (intOf i).toNat)
            case atStart => exact ⟨0, rfl, Nat.zero_le _, H0, B0, NB0, NB1⟩
            case round =>
              obtain ⟨k, rfl, hk, hE, hB, hN, hM⟩ := hrel
              obtain ⟨⟨m0, m1, m2, m3⟩, -⟩ := four hN.out
              obtain ⟨⟨q0, q1, q2, q3⟩, -⟩ := four hM.out
              by_cases hlt : k < t.ks.len
              · obtain ⟨t2, hat, hdr⟩ := at_some hlt
                obtain ⟨u2, hau, hdu⟩ := at_some (show k < uks.len by rw [HL.out]; exact hlt)
                obtain ⟨b, off, a3, c3, ha, hG, hbl, ⟨p0, p1, p2, p3⟩, hr2⟩ := readsN_at (R.out.kept hB.out) hat
                obtain ⟨b', off', a4, c4, ha', hG', hbl', ⟨p4, p5, p6, p7⟩, hr3⟩ := readsN_at (R2.out.kept hB.out) hau
                have EN := Lib.hid (show (sameT t2 u2 && sameF (t.ks.drop (k + 1)) (uks.drop (k + 1))) = r from (same_cons hdr hdu).symm.trans hE.out)
                have hdr' : Below wr.heap.size wr wr.drew := ⟨rfl, rfl, rfl, Nat.le_refl _, fun _ _ => rfl⟩
                have C := Lib.hid ((EachF.at IH.out hat) G H wr.drew a3 a4 c3 c4 u2 (LK.out.at hat) (hr2.kept hdr') (hr3.kept hdr'))
                subst ha ha'
                obtain ⟨y, hy⟩ : ∃ y, sameT t2 u2 = y := ⟨_, rfl⟩
                rw [hy] at C EN
                have CELLS := Lib.hid (p := ∀ w', Below wr.heap.size wr w' → (w'.cell? ⟨w.heap.size, 3, none⟩ = some (.slice (some ⟨b, off, none⟩) t.ks.len c) ∧ w'.cell? ⟨w.heap.size + 1, 3, none⟩ = some (.slice (some ⟨b', off', none⟩) t.ks.len c2) ∧ w'.cell? ⟨b, off + k * 4, none⟩ = some (.string t2.op) ∧ w'.cell? ⟨b, off + k * 4 + 1, none⟩ = some (.string t2.nm) ∧ w'.cell? ⟨b, off + k * 4 + 2, none⟩ = some (.int .i64 t2.n) ∧ w'.cell? ⟨b, off + k * 4 + 3, none⟩ = some (.slice a3 t2.ks.len c3) ∧ w'.cell? ⟨b', off' + k * 4, none⟩ = some (.string u2.op) ∧ w'.cell? ⟨b', off' + k * 4 + 1, none⟩ = some (.string u2.nm) ∧ w'.cell? ⟨b', off' + k * 4 + 2, none⟩ = some (.int .i64 u2.n) ∧ w'.cell? ⟨b', off' + k * 4 + 3, none⟩ = some (.slice a4 u2.ks.len c4))) (fun w' h => ⟨(h.cell (lt_block hN.out)).trans m3, (h.cell (lt_block hM.out)).trans q3, (h.cell hbl).trans p0, (h.cell hbl).trans p1, (h.cell hbl).trans p2, (h.cell hbl).trans p3, (h.cell hbl').trans p4, (h.cell hbl').trans p5, (h.cell hbl').trans p6, (h.cell hbl').trans p7⟩)
                clear hat hdr hau hdu hr2 hr3 hy hdr'
                go_wp2_with fail
                go_region_held3 (fun w' => w'.cell? ⟨w.heap.size, 3, none⟩ = some (.slice (some ⟨b, off, none⟩) t.ks.len c) ∧ w'.cell? ⟨w.heap.size + 1, 3, none⟩ = some (.slice (some ⟨b', off', none⟩) t.ks.len c2) ∧ w'.cell? ⟨b, off + k * 4, none⟩ = some (.string t2.op) ∧ w'.cell? ⟨b, off + k * 4 + 1, none⟩ = some (.string t2.nm) ∧ w'.cell? ⟨b, off + k * 4 + 2, none⟩ = some (.int .i64 t2.n) ∧ w'.cell? ⟨b, off + k * 4 + 3, none⟩ = some (.slice a3 t2.ks.len c3) ∧ w'.cell? ⟨b', off' + k * 4, none⟩ = some (.string u2.op) ∧ w'.cell? ⟨b', off' + k * 4 + 1, none⟩ = some (.string u2.nm) ∧ w'.cell? ⟨b', off' + k * 4 + 2, none⟩ = some (.int .i64 u2.n) ∧ w'.cell? ⟨b', off' + k * 4 + 3, none⟩ = some (.slice a4 u2.ks.len c4)) (first | exact ⟨m3, q3, p0, p1, p2, p3, p4, p5, p6, p7⟩ | exact CELLS.out _ B2.out) (first
                  | (go_at_call 13
                     with_reducible refine C.out.mono ?_
                     rintro e w2 ⟨rfl, hb⟩
                     have B2 := Lib.hid ((drew_below wr).trans hb)
                     clear hb)
                  | fail)
                have hz := hB.out.size
                have N2 := Lib.hid ((B2.out.block _ (lt_block hN.out)).trans hN.out)
                have M2 := Lib.hid ((B2.out.block _ (lt_block hM.out)).trans hM.out)
                have B3 := Lib.hid (hB.out.trans (B2.out.mono hz))
                clear B2 C CELLS m0 m1 m2 m3 q0 q1 q2 q3 p0 p1 p2 p3 p4 p5 p6 p7
                cases y with
                | true =>
                  have EN2 := Lib.hid ((Bool.true_and _).symm.trans EN.out)
                  clear EN
                  go_wp2_with fail
                  go_roundw
                  case rel => exact ⟨k + 1, by go_num, by omega, EN2, B3, N2, M2⟩
                  case measure => simp [intOf]; omega
                | false =>
                  have RR := Lib.hid (show false = r from (Bool.false_and _).symm.trans EN.out)
                  clear EN
                  go_wp2_with fail
                  go_ret
                  rw [RR.out]
                  exact ⟨rfl, B3.out⟩
              · have RR := Lib.hid (show true = r by rw [← hE.out, F.drop_len _ _ (by omega), F.drop_len _ _ (by rw [HL.out]; omega)]; rfl)
                go_wp2_with fail
                go_ret
                rw [RR.out]
                exact ⟨rfl, hB.out⟩
          | false =>
            have RR := Lib.hid (show false = r by rw [← hR]; simp [bne, h4])
            clear hR
            go_enter Tryz.func13, Tryz.ntmps13
            go_wp2_with fail
            go_ret
            rw [RR.out]
            exact ⟨rfl, B0.out⟩
        | false =>
          have H0 := Lib.hid (show sameF (t.ks.drop 0) (uks.drop 0) = r by rw [F.drop_zero, F.drop_zero, ← hR]; simp)
          clear hR
          go_enter Tryz.func13, Tryz.ntmps13
          go_wp2_with fail
          generalize (w.alloc (ndO t.op t.nm t.n a t.ks.len c)).alloc (ndO t.op um un a2 t.ks.len c2) = W at NB0 NB1 B0 ⊢
          go_loopw [5] (fun i wr => ∃ (k : Nat), i = .int .i64 k ∧ k ≤ t.ks.len ∧ Hid (sameF (t.ks.drop k) (uks.drop k) = r) ∧ Hid (Below w.heap.size w wr) ∧ Hid (wr.heap[w.heap.size]? = some (ndO t.op t.nm t.n a t.ks.len c)) ∧ Hid (wr.heap[w.heap.size + 1]? = some (ndO t.op um un a2 t.ks.len c2))) (fun i _ => t.ks.len - (intOf i).toNat)
          case atStart => exact ⟨0, rfl, Nat.zero_le _, H0, B0, NB0, NB1⟩
          case round =>
            obtain ⟨k, rfl, hk, hE, hB, hN, hM⟩ := hrel
            obtain ⟨⟨m0, m1, m2, m3⟩, -⟩ := four hN.out
            obtain ⟨⟨q0, q1, q2, q3⟩, -⟩ := four hM.out
            by_cases hlt : k < t.ks.len
            · obtain ⟨t2, hat, hdr⟩ := at_some hlt
              obtain ⟨u2, hau, hdu⟩ := at_some (show k < uks.len by rw [HL.out]; exact hlt)
              obtain ⟨b, off, a3, c3, ha, hG, hbl, ⟨p0, p1, p2, p3⟩, hr2⟩ := readsN_at (R.out.kept hB.out) hat
              obtain ⟨b', off', a4, c4, ha', hG', hbl', ⟨p4, p5, p6, p7⟩, hr3⟩ := readsN_at (R2.out.kept hB.out) hau
              have EN := Lib.hid (show (sameT t2 u2 && sameF (t.ks.drop (k + 1)) (uks.drop (k + 1))) = r from (same_cons hdr hdu).symm.trans hE.out)
              have hdr' : Below wr.heap.size wr wr.drew := ⟨rfl, rfl, rfl, Nat.le_refl _, fun _ _ => rfl⟩
              have C := Lib.hid ((EachF.at IH.out hat) G H wr.drew a3 a4 c3 c4 u2 (LK.out.at hat) (hr2.kept hdr') (hr3.kept hdr'))
              subst ha ha'
              obtain ⟨y, hy⟩ : ∃ y, sameT t2 u2 = y := ⟨_, rfl⟩
              rw [hy] at C EN
              have CELLS := Lib.hid (p := ∀ w', Below wr.heap.size wr w' → (w'.cell? ⟨w.heap.size, 3, none⟩ = some (.slice (some ⟨b, off, none⟩) t.ks.len c) ∧ w'.cell? ⟨w.heap.size + 1, 3, none⟩ = some (.slice (some ⟨b', off', none⟩) t.ks.len c2) ∧ w'.cell? ⟨b, off + k * 4, none⟩ = some (.string t2.op) ∧ w'.cell? ⟨b, off + k * 4 + 1, none⟩ = some (.string t2.nm) ∧ w'.cell? ⟨b, off + k * 4 + 2, none⟩ = some (.int .i64 t2.n) ∧ w'.cell? ⟨b, off + k * 4 + 3, none⟩ = some (.slice a3 t2.ks.len c3) ∧ w'.cell? ⟨b', off' + k * 4, none⟩ = some (.string u2.op) ∧ w'.cell? ⟨b', off' + k * 4 + 1, none⟩ = some (.string u2.nm) ∧ w'.cell? ⟨b', off' + k * 4 + 2, none⟩ = some (.int .i64 u2.n) ∧ w'.cell? ⟨b', off' + k * 4 + 3, none⟩ = some (.slice a4 u2.ks.len c4))) (fun w' h => ⟨(h.cell (lt_block hN.out)).trans m3, (h.cell (lt_block hM.out)).trans q3, (h.cell hbl).trans p0, (h.cell hbl).trans p1, (h.cell hbl).trans p2, (h.cell hbl).trans p3, (h.cell hbl').trans p4, (h.cell hbl').trans p5, (h.cell hbl').trans p6, (h.cell hbl').trans p7⟩)
              clear hat hdr hau hdu hr2 hr3 hy hdr'
              go_wp2_with fail
              go_region_held3 (fun w' => w'.cell? ⟨w.heap.size, 3, none⟩ = some (.slice (some ⟨b, off, none⟩) t.ks.len c) ∧ w'.cell? ⟨w.heap.size + 1, 3, none⟩ = some (.slice (some ⟨b', off', none⟩) t.ks.len c2) ∧ w'.cell? ⟨b, off + k * 4, none⟩ = some (.string t2.op) ∧ w'.cell? ⟨b, off + k * 4 + 1, none⟩ = some (.string t2.nm) ∧ w'.cell? ⟨b, off + k * 4 + 2, none⟩ = some (.int .i64 t2.n) ∧ w'.cell? ⟨b, off + k * 4 + 3, none⟩ = some (.slice a3 t2.ks.len c3) ∧ w'.cell? ⟨b', off' + k * 4, none⟩ = some (.string u2.op) ∧ w'.cell? ⟨b', off' + k * 4 + 1, none⟩ = some (.string u2.nm) ∧ w'.cell? ⟨b', off' + k * 4 + 2, none⟩ = some (.int .i64 u2.n) ∧ w'.cell? ⟨b', off' + k * 4 + 3, none⟩ = some (.slice a4 u2.ks.len c4)) (first | exact ⟨m3, q3, p0, p1, p2, p3, p4, p5, p6, p7⟩ | exact CELLS.out _ B2.out) (first
                | (go_at_call 13
                   with_reducible refine C.out.mono ?_
                   rintro e w2 ⟨rfl, hb⟩
                   have B2 := Lib.hid ((drew_below wr).trans hb)
                   clear hb)
                | fail)
              have hz := hB.out.size
              have N2 := Lib.hid ((B2.out.block _ (lt_block hN.out)).trans hN.out)
              have M2 := Lib.hid ((B2.out.block _ (lt_block hM.out)).trans hM.out)
              have B3 := Lib.hid (hB.out.trans (B2.out.mono hz))
              clear B2 C CELLS m0 m1 m2 m3 q0 q1 q2 q3 p0 p1 p2 p3 p4 p5 p6 p7
              cases y with
              | true =>
                have EN2 := Lib.hid ((Bool.true_and _).symm.trans EN.out)
                clear EN
                go_wp2_with fail
                go_roundw
                case rel => exact ⟨k + 1, by go_num, by omega, EN2, B3, N2, M2⟩
                case measure => simp [intOf]; omega
              | false =>
                have RR := Lib.hid (show false = r from (Bool.false_and _).symm.trans EN.out)
                clear EN
                go_wp2_with fail
                go_ret
                rw [RR.out]
                exact ⟨rfl, B3.out⟩
            · have RR := Lib.hid (show true = r by rw [← hE.out, F.drop_len _ _ (by omega), F.drop_len _ _ (by rw [HL.out]; omega)]; rfl)
              go_wp2_with fail
              go_ret
              rw [RR.out]
              exact ⟨rfl, hB.out⟩
    · have RR := Lib.hid (show false = r by rw [← hR]; simp [h2])
      clear hR
      go_enter Tryz.func13, Tryz.ntmps13
      go_wp2_with fail
      go_ret
      rw [RR.out]
      exact ⟨rfl, B0.out⟩

theorem same_any (t : TN) : SameOK t := tree_of same_step t

end

end Go.Proofs.YtcmcnmmhkpolcaaGreatDoor
