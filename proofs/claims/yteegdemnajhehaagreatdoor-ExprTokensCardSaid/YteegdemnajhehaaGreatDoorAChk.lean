/-
  No statement: the document's count and check of trees.
-/
import Derived.Test.YteegdemnajhehaaGreatDoorEFac
import Derived.Test.YteegdemnajhehaaGreatDoorABack
namespace Go.Proofs.YteegdemnajhehaaGreatDoor
open Go.RowKit

theorem drew_below (w : World) : Below w.heap.size w w.drew := ⟨rfl, rfl, rfl, Nat.le_refl _, fun _ _ => rfl⟩

theorem EachF.at {P : TN → Prop} : ∀ {f : F} {j : Nat} {t : TN}, EachF P f → f.at j = some t → P t
  | .nil, _, _, _, h => by cases h
  | .cons o m n ks r, 0, t, hp, h => by
    have : (⟨o, m, n, ks⟩ : TN) = t := Option.some.inj h
    rw [← this]; exact hp.1
  | .cons _ _ _ _ r, j + 1, t, hp, h => EachF.at (f := r) hp.2 h

theorem each_of {P : TN → Prop} (step : ∀ t : TN, EachF P t.ks → P t) : ∀ f : F, EachF P f
  | .nil => trivial
  | .cons o m n ks r => ⟨step ⟨o, m, n, ks⟩ (each_of step ks), each_of step r⟩
theorem tree_of {P : TN → Prop} (step : ∀ t : TN, EachF P t.ks → P t) (t : TN) : P t := step t (each_of step t.ks)

/-- The cells of the tree at a place of a row. -/
theorem readsN_at {G : Nat → Prop} {w : World} {a : Option Addr} {ks : F} {j : Nat} {t : TN} (h : ReadsN G w a ks) (hj : ks.at j = some t) :
    ∃ b off a2 c2, a = some ⟨b, off, none⟩ ∧ G b ∧ b < w.heap.size ∧ (w.cell? ⟨b, off + j * 4, none⟩ = some (.string t.op) ∧ w.cell? ⟨b, off + j * 4 + 1, none⟩ = some (.string t.nm) ∧ w.cell? ⟨b, off + j * 4 + 2, none⟩ = some (.int .i64 t.n) ∧ w.cell? ⟨b, off + j * 4 + 3, none⟩ = some (.slice a2 t.ks.len c2)) ∧ ReadsN G w a2 t.ks := by
  rcases h with rfl | ⟨b, off, ha, h⟩
  · cases hj
  · have hlt : j < ks.len := by
      rcases Nat.lt_or_ge j ks.len with h' | h'
      · exact h'
      · exfalso
        have : ∀ (f : F) (j : Nat), f.len ≤ j → f.at j = none := by
          intro f
          induction f with
          | nil => intro j _; rfl
          | cons o m n k r _ ih => intro j hj; cases j with
            | zero => simp [F.len] at hj
            | succ j => exact ih j (by simp [F.len] at hj; omega)
        rw [this ks j h'] at hj; cases hj
    obtain ⟨t', h1, h2⟩ := F.drop_at ks j hlt
    rw [hj] at h1
    obtain rfl := Option.some.inj h1
    have hd := h.drop j
    rw [h2] at hd
    obtain ⟨g1, g2, ⟨a2, c2, hc, hk⟩, _⟩ := hd
    exact ⟨b, off, a2, c2, ha, g1, g2, hc, hk⟩

theorem at_some {ks : F} {j : Nat} (h : j < ks.len) : ∃ t, ks.at j = some t ∧ ks.drop j = .cons t.op t.nm t.n t.ks (ks.drop (j + 1)) := F.drop_at ks j h

set_option maxHeartbeats 4000000 in
theorem kids_any (o : ByteArray) (w : World) : Calls Tryz.prog 55 #[.string o] w fun e w' => e = .returned (.int .i64 (arity o)) ∧ w = w' := by
  have E : arity o = if (o.toList == [110, 117, 109] || o.toList == [110, 97, 109, 101]) = true then 0 else if (o.toList == [110, 101, 103]) = true then 1 else if (o.toList == [43] || o.toList == [45] || o.toList == [42] || o.toList == [47] || o.toList == [37]) = true then 2 else -1 := by
    unfold arity isNum isName isNeg isTwo bNum bName bNeg
    rw [Lib.toList_data]
  cases h0 : (o.toList == [110, 117, 109]) with
  | true =>
    have R := Lib.hid (show arity o = 0 by rw [E]; simp [h0])
    clear E
    go_enter Tryz.func55, Tryz.ntmps55
    go_wp2_with fail
    go_ret
    rw [R.out]
    exact ⟨rfl, rfl⟩
  | false =>
    cases h1 : (o.toList == [110, 97, 109, 101]) with
    | true =>
      have R := Lib.hid (show arity o = 0 by rw [E]; simp [h0, h1])
      clear E
      go_enter Tryz.func55, Tryz.ntmps55
      go_wp2_with fail
      go_ret
      rw [R.out]
      exact ⟨rfl, rfl⟩
    | false =>
      cases h2 : (o.toList == [110, 101, 103]) with
      | true =>
        have R := Lib.hid (show arity o = 1 by rw [E]; simp [h0, h1, h2])
        clear E
        go_enter Tryz.func55, Tryz.ntmps55
        go_wp2_with fail
        go_ret
        rw [R.out]
        exact ⟨rfl, rfl⟩
      | false =>
        cases h3 : (o.toList == [43]) with
        | true =>
          have R := Lib.hid (show arity o = 2 by rw [E]; simp [h0, h1, h2, h3])
          clear E
          go_enter Tryz.func55, Tryz.ntmps55
          go_wp2_with fail
          go_ret
          rw [R.out]
          exact ⟨rfl, rfl⟩
        | false =>
          cases h4 : (o.toList == [45]) with
          | true =>
            have R := Lib.hid (show arity o = 2 by rw [E]; simp [h0, h1, h2, h3, h4])
            clear E
            go_enter Tryz.func55, Tryz.ntmps55
            go_wp2_with fail
            go_ret
            rw [R.out]
            exact ⟨rfl, rfl⟩
          | false =>
            cases h5 : (o.toList == [42]) with
            | true =>
              have R := Lib.hid (show arity o = 2 by rw [E]; simp [h0, h1, h2, h3, h4, h5])
              clear E
              go_enter Tryz.func55, Tryz.ntmps55
              go_wp2_with fail
              go_ret
              rw [R.out]
              exact ⟨rfl, rfl⟩
            | false =>
              cases h6 : (o.toList == [47]) with
              | true =>
                have R := Lib.hid (show arity o = 2 by rw [E]; simp [h0, h1, h2, h3, h4, h5, h6])
                clear E
                go_enter Tryz.func55, Tryz.ntmps55
                go_wp2_with fail
                go_ret
                rw [R.out]
                exact ⟨rfl, rfl⟩
              | false =>
                cases h7 : (o.toList == [37]) with
                | true =>
                  have R := Lib.hid (show arity o = 2 by rw [E]; simp [h0, h1, h2, h3, h4, h5, h6, h7])
                  clear E
                  go_enter Tryz.func55, Tryz.ntmps55
                  go_wp2_with fail
                  go_ret
                  rw [R.out]
                  exact ⟨rfl, rfl⟩
                | false =>
                  have R := Lib.hid (show arity o = -1 by rw [E]; simp [h0, h1, h2, h3, h4, h5, h6, h7])
                  clear E
                  go_enter Tryz.func55, Tryz.ntmps55
                  go_wp2_with fail
                  go_ret
                  rw [R.out]
                  exact ⟨rfl, rfl⟩

/-- Rows of a length that may be. -/
def LenF : F → Prop
  | .nil => True
  | .cons _ _ _ ks r => ks.len ≤ 9223372036854775807 ∧ LenF ks ∧ LenF r

theorem LenF.at : ∀ {f : F} {j : Nat} {t : TN}, LenF f → f.at j = some t → LenF t.f
  | .nil, _, _, _, h => by cases h
  | .cons o m n ks r, 0, t, hp, h => by
    have : (⟨o, m, n, ks⟩ : TN) = t := Option.some.inj h
    rw [← this]; exact ⟨hp.1, hp.2.1, trivial⟩
  | .cons _ _ _ _ r, j + 1, t, hp, h => LenF.at (f := r) hp.2.2 h

theorem cnt_ge : ∀ (f : F) (l : Int), -1 ≤ l → -1 ≤ cntF f l
  | .nil, l, h => h
  | .cons _ _ _ ks r, l, h => by
    rw [cntF]
    split
    · exact h
    · exact cnt_ge r _ (cnt_ge ks _ (by omega))

/-- Count's contract at a tree. -/
def CntOK (t : TN) : Prop := ∀ (G : Nat → Prop) (w : World) (a : Option Addr) (c : Nat) (l : Int), 0 ≤ l → l ≤ 1000 → LenF t.f → ReadsN G w a t.ks → Calls Tryz.prog 32 #[nodeV t.op t.nm t.n a t.ks.len c, .int .i64 l] w fun e w' => e = .returned (.int .i64 (cntF t.ks (l - 1))) ∧ Below w.heap.size w w'

set_option maxHeartbeats 4000000 in
theorem cnt_step (t : TN) (ih : EachF CntOK t.ks) : CntOK t := by
  intro G w a c l hl0 hl1 hL hr
  have R := Lib.hid hr
  have IH := Lib.hid ih
  obtain ⟨hm, hL2, -⟩ := hL
  have LK := Lib.hid hL2
  obtain ⟨r, hR⟩ : ∃ r, cntF t.ks (l - 1) = r := ⟨_, rfl⟩
  rw [hR]
  have H0 := Lib.hid (show cntF (t.ks.drop 0) (l - 1) = r by rw [F.drop_zero]; exact hR)
  have NB := Lib.hid (heap_alloc_new w (ndO t.op t.nm t.n a t.ks.len c))
  have B0 := Lib.hid ((Below.refl w.heap.size w).alloc (Nat.le_refl _) (ndO t.op t.nm t.n a t.ks.len c))
  clear hr ih hR hL2
  go_enter Tryz.func32, Tryz.ntmps32
  go_wp2_with fail
  generalize w.alloc (ndO t.op t.nm t.n a t.ks.len c) = W at NB B0 ⊢
  go_loopw [1, 5] (fun v i wr => ∃ (k : Nat) (x : Int), i = .int .i64 k ∧ v = .int .i64 x ∧ k ≤ t.ks.len ∧ -1 ≤ x ∧ x ≤ 1000 ∧ Hid (cntF (t.ks.drop k) x = r) ∧ Hid (Below w.heap.size w wr) ∧ Hid (wr.heap[w.heap.size]? = some (ndO t.op t.nm t.n a t.ks.len c))) (fun _ i _ => t.ks.len - (intOf i).toNat)
  case atStart => exact ⟨0, l - 1, rfl, rfl, Nat.zero_le _, by omega, by omega, H0, B0, NB⟩
  case round =>
    obtain ⟨k, x, rfl, rfl, hk, hx0, hx1, hE, hB, hN⟩ := hrel
    obtain ⟨⟨m0, m1, m2, m3⟩, -⟩ := four hN.out
    by_cases hlt : k < t.ks.len
    · obtain ⟨t2, hat, hdr⟩ := at_some hlt
      by_cases hx : x < 0
      · have RR := Lib.hid (show x = r by rw [← hE.out, hdr, cntF, if_pos hx])
        have g0 : ¬ (0 : Int) ≤ x := by omega
        clear hat hdr hx
        go_wp2_with fail
        go_ret
        rw [RR.out]
        exact ⟨rfl, hB.out⟩
      · have g0 : (0 : Int) ≤ x := by omega
        obtain ⟨b, off, a2, c2, ha, hG, hbl, ⟨p0, p1, p2, p3⟩, hr2⟩ := readsN_at (R.out.kept hB.out) hat
        have EN := Lib.hid (show cntF (t.ks.drop (k + 1)) (cntF t2.ks (x - 1)) = r by rw [← hE.out, hdr, cntF, if_neg hx])
        have C := Lib.hid ((EachF.at IH.out hat) G wr a2 c2 x g0 hx1 (LK.out.at hat) hr2)
        have h1 := cnt_ge t2.ks (x - 1) (by omega)
        have h2 := cnt_le t2.ks (x - 1)
        subst ha
        obtain ⟨y, hy⟩ : ∃ y, cntF t2.ks (x - 1) = y := ⟨_, rfl⟩
        rw [hy] at C EN h1 h2
        clear hat hdr hx hr2 hy
        go_wp2_with fail
        refine C.out.mono ?_
        rintro e w1 ⟨rfl, hb⟩
        have hz := hB.out.size
        have B1 := Lib.hid (hB.out.trans (hb.mono hz))
        have N1 := Lib.hid ((hb.block _ (lt_block hN.out)).trans hN.out)
        clear hb C m0 m1 m2 m3
        go_wp2_with fail
        go_roundw
        case rel => exact ⟨k + 1, y, by go_num, rfl, by omega, h1, by omega, EN, B1, N1⟩
        case measure => simp [intOf]; omega
    · have RR := Lib.hid (show x = r by rw [← hE.out, F.drop_len _ _ (by omega)]; rfl)
      go_wp2_with fail
      go_ret
      rw [RR.out]
      exact ⟨rfl, hB.out⟩

theorem cnt_any (t : TN) : CntOK t := tree_of cnt_step t

end Go.Proofs.YteegdemnajhehaaGreatDoor

namespace Go.Proofs.YteegdemnajhehaaGreatDoor
open Go.RowKit

/-- Rows whose names are of a size that may be. -/
def SzF : F → Prop
  | .nil => True
  | .cons _ m _ ks r => m.size ≤ 281474976710656 ∧ ks.len ≤ 9223372036854775807 ∧ SzF ks ∧ SzF r

theorem SzF.at : ∀ {f : F} {j : Nat} {t : TN}, SzF f → f.at j = some t → SzF t.f
  | .nil, _, _, _, h => by cases h
  | .cons o m n ks r, 0, t, hp, h => by
    have : (⟨o, m, n, ks⟩ : TN) = t := Option.some.inj h
    rw [← this]; exact ⟨hp.1, hp.2.1, hp.2.2.1, trivial⟩
  | .cons _ _ _ _ r, j + 1, t, hp, h => SzF.at (f := r) hp.2.2.2 h

theorem SzF.lens : ∀ {f : F}, SzF f → LenF f
  | .nil, _ => trivial
  | .cons _ _ _ _ _, h => ⟨h.2.1, h.2.2.1.lens, h.2.2.2.lens⟩

theorem chk_cons {f : F} {t : TN} {r : F} (h : f = .cons t.op t.nm t.n t.ks r) : chkF f = if chkF t.f = 0 then chkF r else chkF t.f := by
  rw [h, chkF, chk_tree]
  by_cases h1 : errN t.op t.nm t.n t.ks.len = 0
  · rw [if_pos h1, if_pos h1]
  · rw [if_neg h1, if_neg h1, if_neg h1]

/-- Check's contract at a tree. -/
def ChkOK (t : TN) : Prop := ∀ (G : Nat → Prop) (w : World) (a : Option Addr) (c : Nat), SzF t.f → ReadsN G w a t.ks → Calls Tryz.prog 33 #[nodeV t.op t.nm t.n a t.ks.len c] w fun e w' => e = .returned (.int .i64 (chkF t.f)) ∧ Below w.heap.size w w'

set_option maxHeartbeats 4000000 in
theorem chk_step (t : TN) (ih : EachF ChkOK t.ks) : ChkOK t := by
  intro G w a c hS hr
  have R := Lib.hid hr
  have IH := Lib.hid ih
  obtain ⟨hn, hm, hL2, -⟩ := hS
  have LK := Lib.hid hL2
  obtain ⟨r, hR⟩ : ∃ r, chkF t.f = r := ⟨_, rfl⟩
  rw [hR]
  rw [chk_tree] at hR
  have NB := Lib.hid (heap_alloc_new w (ndO t.op t.nm t.n a t.ks.len c))
  have B0 := Lib.hid ((Below.refl w.heap.size w).alloc (Nat.le_refl _) (ndO t.op t.nm t.n a t.ks.len c))
  have hE : errN t.op t.nm t.n t.ks.len = if (arity t.op != (t.ks.len : Int)) = true then 2 else if ((t.op.toList == [110, 97, 109, 101]) && !goodB t.nm.data.toList) = true then 5 else if ((t.op.toList == [110, 117, 109]) && decide (t.n < 0)) = true then 1 else 0 := by
    unfold errN isName isNum bNum bName; rw [Lib.toList_data]
  obtain ⟨ar, har⟩ : ∃ ar, arity t.op = ar := ⟨_, rfl⟩
  have KC := Lib.hid (fun V => kids_any t.op V)
  rw [har] at KC hE
  obtain ⟨gd, hgd⟩ : ∃ gd, goodB t.nm.data.toList = gd := ⟨_, rfl⟩
  have NC := Lib.hid (fun V => rName_any t.nm hn V)
  rw [hgd] at NC hE
  clear hr ih hL2 hgd har
  obtain ⟨p, hp⟩ : ∃ p, (t.op.toList == [110, 97, 109, 101]) = p := ⟨_, rfl⟩
  obtain ⟨q, hq⟩ : ∃ q, (t.op.toList == [110, 117, 109]) = q := ⟨_, rfl⟩
  rw [hp, hq] at hE
  by_cases h1 : ar = (t.ks.len : Int)
  · subst h1
    rw [if_neg (by simp)] at hE
    cases p with
    | true =>
      obtain rfl : q = false := by
        rw [← hq, eq_of_beq hp]; rfl
      cases gd with
      | false =>
        have RR := Lib.hid (show (5 : Int) = r by rw [← hR, hE]; rfl)
        clear hR hE
        go_enter Tryz.func33, Tryz.ntmps33
        go_wp2_with fail
        generalize w.alloc (ndO t.op t.nm t.n a t.ks.len c) = W at NB B0 ⊢
        obtain ⟨⟨m0, m1, m2, m3⟩, -⟩ := four NB.out
        go_wp2_with (go_quiet ((first | (go_at_call 55; refine (KC.out _).mono ?_; rintro e w1 ⟨he, rfl⟩; exact ⟨he, _, rfl⟩) | fail)))
        have N1 := Lib.hid (show (W.drewN nq).heap[w.heap.size]? = some (ndO t.op t.nm t.n a t.ks.len c) from NB.out)
        have B1 := Lib.hid (below_drewN B0.out nq)
        generalize W.drewN nq = W1 at N1 B1 ⊢
        clear NB B0 m0 m1 m2 m3
        obtain ⟨⟨m0, m1, m2, m3⟩, -⟩ := four N1.out
        go_wp2_with fail
        refine (NC.out _).mono ?_
        rintro e w1 ⟨rfl, rfl⟩
        go_wp2_with fail
        go_ret
        rw [RR.out]
        exact ⟨rfl, B1.out⟩
      | true =>
        have H0 := Lib.hid (show chkF (t.ks.drop 0) = r by rw [F.drop_zero, ← hR, hE]; rfl)
        clear hR hE
        go_enter Tryz.func33, Tryz.ntmps33
        go_wp2_with fail
        generalize w.alloc (ndO t.op t.nm t.n a t.ks.len c) = W at NB B0 ⊢
        obtain ⟨⟨m0, m1, m2, m3⟩, -⟩ := four NB.out
        go_wp2_with (go_quiet ((first | (go_at_call 55; refine (KC.out _).mono ?_; rintro e w1 ⟨he, rfl⟩; exact ⟨he, _, rfl⟩) | fail)))
        have N1 := Lib.hid (show (W.drewN nq).heap[w.heap.size]? = some (ndO t.op t.nm t.n a t.ks.len c) from NB.out)
        have B1 := Lib.hid (below_drewN B0.out nq)
        generalize W.drewN nq = W1 at N1 B1 ⊢
        clear NB B0 m0 m1 m2 m3
        obtain ⟨⟨m0, m1, m2, m3⟩, -⟩ := four N1.out
        go_wp2_with fail
        refine (NC.out _).mono ?_
        rintro e w1 ⟨rfl, rfl⟩
        go_wp2_with fail
        go_loopw [3] (fun i wr => ∃ (k : Nat), i = .int .i64 k ∧ k ≤ t.ks.len ∧ Hid (chkF (t.ks.drop k) = r) ∧ Hid (Below w.heap.size w wr) ∧ Hid (wr.heap[w.heap.size]? = some (ndO t.op t.nm t.n a t.ks.len c))) (fun i _ => t.ks.len - (intOf i).toNat)
        case atStart => exact ⟨0, rfl, Nat.zero_le _, H0, B1, N1⟩
        case round =>
          obtain ⟨k, rfl, hk, hE, hB, hN⟩ := hrel
          clear m0 m1 m2 m3
          obtain ⟨⟨m0, m1, m2, m3⟩, -⟩ := four hN.out
          by_cases hlt : k < t.ks.len
          · obtain ⟨t2, hat, hdr⟩ := at_some hlt
            obtain ⟨b, off, a2, c2, ha, hG, hbl, ⟨p0, p1, p2, p3⟩, hr2⟩ := readsN_at (R.out.kept hB.out) hat
            have EN := Lib.hid (show (if chkF t2.f = 0 then chkF (t.ks.drop (k + 1)) else chkF t2.f) = r from (chk_cons hdr).symm.trans hE.out)
            have C := Lib.hid ((EachF.at IH.out hat) G wr a2 c2 (LK.out.at hat) hr2)
            subst ha
            obtain ⟨y, hy⟩ : ∃ y, chkF t2.f = y := ⟨_, rfl⟩
            rw [hy] at C EN
            clear hat hdr hr2 hy
            go_wp2_with fail
            refine C.out.mono ?_
            rintro e w2 ⟨rfl, hb⟩
            have hz := hB.out.size
            have B2 := Lib.hid (hB.out.trans (hb.mono hz))
            have N2 := Lib.hid ((hb.block _ (lt_block hN.out)).trans hN.out)
            clear hb C m0 m1 m2 m3
            by_cases hy : y = 0
            · subst hy
              have EN2 := Lib.hid (EN.out.symm.trans (if_pos rfl)).symm
              clear EN
              go_wp2_with fail
              go_roundw
              case rel => exact ⟨k + 1, by go_num, by omega, EN2, B2, N2⟩
              case measure => simp [intOf]; omega
            · have RR := Lib.hid (show y = r by rw [← EN.out, if_neg hy])
              clear EN
              go_wp2_with fail
              go_ret
              rw [RR.out]
              exact ⟨rfl, B2.out⟩
          · have RR := Lib.hid (show (0 : Int) = r by rw [← hE.out, F.drop_len _ _ (by omega)]; rfl)
            go_wp2_with fail
            go_ret
            rw [RR.out]
            exact ⟨rfl, hB.out⟩
    | false =>
      by_cases h2 : (q && decide (t.n < 0)) = true
      · obtain ⟨rfl, h3⟩ : q = true ∧ t.n < 0 := by simpa using h2
        have RR := Lib.hid (show (1 : Int) = r by rw [← hR, hE, if_neg (show ¬ (false && !gd) = true by simp), if_pos h2, if_neg (by decide)])
        clear hR hE h2
        go_enter Tryz.func33, Tryz.ntmps33
        go_wp2_with fail
        generalize w.alloc (ndO t.op t.nm t.n a t.ks.len c) = W at NB B0 ⊢
        obtain ⟨⟨m0, m1, m2, m3⟩, -⟩ := four NB.out
        go_wp2_with (go_quiet ((first | (go_at_call 55; refine (KC.out _).mono ?_; rintro e w1 ⟨he, rfl⟩; exact ⟨he, _, rfl⟩) | fail)))
        have N1 := Lib.hid (show (W.drewN nq).heap[w.heap.size]? = some (ndO t.op t.nm t.n a t.ks.len c) from NB.out)
        have B1 := Lib.hid (below_drewN B0.out nq)
        generalize W.drewN nq = W1 at N1 B1 ⊢
        clear NB B0 m0 m1 m2 m3
        obtain ⟨⟨m0, m1, m2, m3⟩, -⟩ := four N1.out
        go_wp2_with fail
        go_ret
        rw [RR.out]
        exact ⟨rfl, B1.out⟩
      · rw [if_neg (show ¬ (false && !gd) = true by simp), if_neg h2] at hE
        have H0 := Lib.hid (show chkF (t.ks.drop 0) = r by rw [F.drop_zero, ← hR, hE]; rfl)
        cases q with
        | false =>
          clear hR hE h2
          go_enter Tryz.func33, Tryz.ntmps33
          go_wp2_with fail
          generalize w.alloc (ndO t.op t.nm t.n a t.ks.len c) = W at NB B0 ⊢
          obtain ⟨⟨m0, m1, m2, m3⟩, -⟩ := four NB.out
          go_wp2_with (go_quiet ((first | (go_at_call 55; refine (KC.out _).mono ?_; rintro e w1 ⟨he, rfl⟩; exact ⟨he, _, rfl⟩) | fail)))
          have N1 := Lib.hid (show (W.drewN nq).heap[w.heap.size]? = some (ndO t.op t.nm t.n a t.ks.len c) from NB.out)
          have B1 := Lib.hid (below_drewN B0.out nq)
          generalize W.drewN nq = W1 at N1 B1 ⊢
          clear NB B0 m0 m1 m2 m3
          obtain ⟨⟨m0, m1, m2, m3⟩, -⟩ := four N1.out
          go_wp2_with fail
          go_loopw [3] (fun i wr => ∃ (k : Nat), i = .int .i64 k ∧ k ≤ t.ks.len ∧ Hid (chkF (t.ks.drop k) = r) ∧ Hid (Below w.heap.size w wr) ∧ Hid (wr.heap[w.heap.size]? = some (ndO t.op t.nm t.n a t.ks.len c))) (fun i _ => t.ks.len - (intOf i).toNat)
          case atStart => exact ⟨0, rfl, Nat.zero_le _, H0, B1, N1⟩
          case round =>
            obtain ⟨k, rfl, hk, hE, hB, hN⟩ := hrel
            clear m0 m1 m2 m3
            obtain ⟨⟨m0, m1, m2, m3⟩, -⟩ := four hN.out
            by_cases hlt : k < t.ks.len
            · obtain ⟨t2, hat, hdr⟩ := at_some hlt
              obtain ⟨b, off, a2, c2, ha, hG, hbl, ⟨p0, p1, p2, p3⟩, hr2⟩ := readsN_at (R.out.kept hB.out) hat
              have EN := Lib.hid (show (if chkF t2.f = 0 then chkF (t.ks.drop (k + 1)) else chkF t2.f) = r from (chk_cons hdr).symm.trans hE.out)
              have C := Lib.hid ((EachF.at IH.out hat) G wr a2 c2 (LK.out.at hat) hr2)
              subst ha
              obtain ⟨y, hy⟩ : ∃ y, chkF t2.f = y := ⟨_, rfl⟩
              rw [hy] at C EN
              clear hat hdr hr2 hy
              go_wp2_with fail
              refine C.out.mono ?_
              rintro e w2 ⟨rfl, hb⟩
              have hz := hB.out.size
              have B2 := Lib.hid (hB.out.trans (hb.mono hz))
              have N2 := Lib.hid ((hb.block _ (lt_block hN.out)).trans hN.out)
              clear hb C m0 m1 m2 m3
              by_cases hy : y = 0
              · subst hy
                have EN2 := Lib.hid (EN.out.symm.trans (if_pos rfl)).symm
                clear EN
                go_wp2_with fail
                go_roundw
                case rel => exact ⟨k + 1, by go_num, by omega, EN2, B2, N2⟩
                case measure => simp [intOf]; omega
              · have RR := Lib.hid (show y = r by rw [← EN.out, if_neg hy])
                clear EN
                go_wp2_with fail
                go_ret
                rw [RR.out]
                exact ⟨rfl, B2.out⟩
            · have RR := Lib.hid (show (0 : Int) = r by rw [← hE.out, F.drop_len _ _ (by omega)]; rfl)
              go_wp2_with fail
              go_ret
              rw [RR.out]
              exact ⟨rfl, hB.out⟩
        | true =>
          have h3 : ¬ t.n < 0 := by simpa using h2
          clear hR hE h2
          go_enter Tryz.func33, Tryz.ntmps33
          go_wp2_with fail
          generalize w.alloc (ndO t.op t.nm t.n a t.ks.len c) = W at NB B0 ⊢
          obtain ⟨⟨m0, m1, m2, m3⟩, -⟩ := four NB.out
          go_wp2_with (go_quiet ((first | (go_at_call 55; refine (KC.out _).mono ?_; rintro e w1 ⟨he, rfl⟩; exact ⟨he, _, rfl⟩) | fail)))
          have N1 := Lib.hid (show (W.drewN nq).heap[w.heap.size]? = some (ndO t.op t.nm t.n a t.ks.len c) from NB.out)
          have B1 := Lib.hid (below_drewN B0.out nq)
          generalize W.drewN nq = W1 at N1 B1 ⊢
          clear NB B0 m0 m1 m2 m3
          obtain ⟨⟨m0, m1, m2, m3⟩, -⟩ := four N1.out
          go_wp2_with fail
          go_loopw [3] (fun i wr => ∃ (k : Nat), i = .int .i64 k ∧ k ≤ t.ks.len ∧ Hid (chkF (t.ks.drop k) = r) ∧ Hid (Below w.heap.size w wr) ∧ Hid (wr.heap[w.heap.size]? = some (ndO t.op t.nm t.n a t.ks.len c))) (fun i _ => t.ks.len - (intOf i).toNat)
          case atStart => exact ⟨0, rfl, Nat.zero_le _, H0, B1, N1⟩
          case round =>
            obtain ⟨k, rfl, hk, hE, hB, hN⟩ := hrel
            clear m0 m1 m2 m3
            obtain ⟨⟨m0, m1, m2, m3⟩, -⟩ := four hN.out
            by_cases hlt : k < t.ks.len
            · obtain ⟨t2, hat, hdr⟩ := at_some hlt
              obtain ⟨b, off, a2, c2, ha, hG, hbl, ⟨p0, p1, p2, p3⟩, hr2⟩ := readsN_at (R.out.kept hB.out) hat
              have EN := Lib.hid (show (if chkF t2.f = 0 then chkF (t.ks.drop (k + 1)) else chkF t2.f) = r from (chk_cons hdr).symm.trans hE.out)
              have C := Lib.hid ((EachF.at IH.out hat) G wr a2 c2 (LK.out.at hat) hr2)
              subst ha
              obtain ⟨y, hy⟩ : ∃ y, chkF t2.f = y := ⟨_, rfl⟩
              rw [hy] at C EN
              clear hat hdr hr2 hy
              go_wp2_with fail
              refine C.out.mono ?_
              rintro e w2 ⟨rfl, hb⟩
              have hz := hB.out.size
              have B2 := Lib.hid (hB.out.trans (hb.mono hz))
              have N2 := Lib.hid ((hb.block _ (lt_block hN.out)).trans hN.out)
              clear hb C m0 m1 m2 m3
              by_cases hy : y = 0
              · subst hy
                have EN2 := Lib.hid (EN.out.symm.trans (if_pos rfl)).symm
                clear EN
                go_wp2_with fail
                go_roundw
                case rel => exact ⟨k + 1, by go_num, by omega, EN2, B2, N2⟩
                case measure => simp [intOf]; omega
              · have RR := Lib.hid (show y = r by rw [← EN.out, if_neg hy])
                clear EN
                go_wp2_with fail
                go_ret
                rw [RR.out]
                exact ⟨rfl, B2.out⟩
            · have RR := Lib.hid (show (0 : Int) = r by rw [← hE.out, F.drop_len _ _ (by omega)]; rfl)
              go_wp2_with fail
              go_ret
              rw [RR.out]
              exact ⟨rfl, hB.out⟩
  · have RR := Lib.hid (show (2 : Int) = r by rw [← hR, hE, if_pos (show (ar != (t.ks.len : Int)) = true by simpa using h1), if_neg (by decide)])
    clear hR hE
    go_enter Tryz.func33, Tryz.ntmps33
    go_wp2_with fail
    generalize w.alloc (ndO t.op t.nm t.n a t.ks.len c) = W at NB B0 ⊢
    obtain ⟨⟨m0, m1, m2, m3⟩, -⟩ := four NB.out
    go_wp2_with (go_quiet ((first | (go_at_call 55; refine (KC.out _).mono ?_; rintro e w1 ⟨he, rfl⟩; exact ⟨he, _, rfl⟩) | fail)))
    go_ret
    rw [RR.out]
    exact ⟨rfl, below_drewN B0.out _⟩

-- behind check
theorem chk_any (t : TN) : ChkOK t := tree_of chk_step t

set_option maxHeartbeats 4000000 in
theorem rCheck_any {G : Nat → Prop} {w : World} {a : Option Addr} {t : TN} (c : Nat) (hS : SzF t.f) (hr : ReadsN G w a t.ks) : Calls Tryz.prog 12 #[nodeV t.op t.nm t.n a t.ks.len c] w fun e w' => e = .returned (.int .i64 (checkT t)) ∧ Below w.heap.size w w' := by
  have R := Lib.hid hr
  have C1 := Lib.hid (fun V (hV : Below w.heap.size w V) => cnt_any t G V a c 32 (by decide) (by decide) hS.lens (hr.kept hV))
  have C2 := Lib.hid (fun V (hV : Below w.heap.size w V) => chk_any t G V a c hS (hr.kept hV))
  obtain ⟨r, hR⟩ : ∃ r, checkT t = r := ⟨_, rfl⟩
  rw [hR]
  unfold checkT at hR
  obtain ⟨x, hx⟩ : ∃ x, cntF t.ks 31 = x := ⟨_, rfl⟩
  obtain ⟨y, hy⟩ : ∃ y, chkF t.f = y := ⟨_, rfl⟩
  rw [show (32 : Int) - 1 = 31 from rfl, hx] at C1
  rw [hx, hy] at hR
  rw [hy] at C2
  have B0 := Lib.hid ((Below.refl w.heap.size w).alloc (Nat.le_refl _) (ndO t.op t.nm t.n a t.ks.len c))
  have NB := Lib.hid (heap_alloc_new w (ndO t.op t.nm t.n a t.ks.len c))
  clear hx hy hS hr
  by_cases h : x < 0
  · have RR := Lib.hid (show (4 : Int) = r by rw [← hR, if_pos h])
    clear hR
    go_enter Tryz.func12, Tryz.ntmps12
    go_wp2_with fail
    generalize w.alloc (ndO t.op t.nm t.n a t.ks.len c) = W at NB B0 ⊢
    obtain ⟨⟨m0, m1, m2, m3⟩, -⟩ := four NB.out
    go_wp2_with fail
    refine (C1.out W B0.out).mono ?_
    rintro e w1 ⟨rfl, hb⟩
    have B1 := Lib.hid (B0.out.trans (hb.mono B0.out.size))
    clear hb
    go_wp2_with fail
    go_ret
    rw [RR.out]
    exact ⟨rfl, B1.out⟩
  · have RR := Lib.hid (show y = r by rw [← hR, if_neg h])
    clear hR
    go_enter Tryz.func12, Tryz.ntmps12
    go_wp2_with fail
    generalize w.alloc (ndO t.op t.nm t.n a t.ks.len c) = W at NB B0 ⊢
    obtain ⟨⟨m0, m1, m2, m3⟩, -⟩ := four NB.out
    go_wp2_with fail
    refine (C1.out W B0.out).mono ?_
    rintro e w1 ⟨rfl, hb⟩
    have B1 := Lib.hid (B0.out.trans (hb.mono B0.out.size))
    have N1 := Lib.hid ((hb.block _ (lt_block NB.out)).trans NB.out)
    clear hb m0 m1 m2 m3
    obtain ⟨⟨m0, m1, m2, m3⟩, -⟩ := four N1.out
    go_wp2_with fail
    refine (C2.out w1 B1.out).mono ?_
    rintro e w2 ⟨rfl, hb⟩
    have B2 := Lib.hid (B1.out.trans (hb.mono B1.out.size))
    clear hb
    go_wp2_with fail
    go_ret
    rw [RR.out]
    exact ⟨rfl, B2.out⟩

end Go.Proofs.YteegdemnajhehaaGreatDoor
