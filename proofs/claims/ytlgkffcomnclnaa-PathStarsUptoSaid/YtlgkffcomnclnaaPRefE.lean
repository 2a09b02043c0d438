/-
  No statement: the contract of the document's Match.
-/
import Derived.Test.YtlgkffcomnclnaaPRefD
namespace Go.Proofs.Ytlgkffcomnclnaa
open Go.RowKit

set_option maxRecDepth 100000 in
set_option maxHeartbeats 8000000 in
theorem rMatch_any (p s : ByteArray) (hp : p.size ≤ 1000) (hs : s.size ≤ 1000) (w : World) : Calls Try.prog 28 #[.string p, .string s] w fun e w' => e = .returned (.bool (matchB p.data.toList s.data.toList)) ∧ Below w.heap.size w w' := by
  have CA := Lib.hid (fun w => rParseP s hs w)
  by_cases h0 : errP s.data.toList = 0
  · rw [h0] at CA
    have PP := Lib.hid (fun w => rPattern_any p hp w)
    cases hb : patB p.data.toList with
    | false =>
      rw [match_not hb]
      rw [hb] at PP
      clear hb h0
      go_enter Try.func28, Try.ntmps28
      go_wp2_with fail
      refine (CA.out _).mono ?_
      rintro e w1 ⟨⟨v, rfl, ho⟩, hb1⟩
      have B1 := Lib.hid hb1
      clear hb1 CA ho
      go_wp2_with fail
      refine (PP.out _).mono ?_
      rintro e w2 ⟨rfl, hb2⟩
      have B2 := Lib.hid (B1.out.trans (hb2.mono B1.out.size))
      clear hb2
      go_wp2_with fail
      go_ret
      exact ⟨rfl, B2.out⟩
    | true =>
      rw [hb] at PP
      obtain ⟨L, hL⟩ : ∃ L, cutL p.data.toList = some L := by
        unfold patB at hb
        cases hc : cutL p.data.toList with
        | none => rw [hc] at hb; cases hb
        | some L => exact ⟨L, rfl⟩
      have CB := Lib.hid (fun w => rCutP p hp w)
      unfold hasCut at CB
      rw [hL, show (some L).isSome = true from rfl, show (some L).getD [] = L from rfl] at CB
      have hfewL := (cut_parts hp hL).1
      have hfew := (few_parts s.data.toList).few
      have M : matchB p.data.toList s.data.toList = wm L (partsP s.data.toList) := by
        unfold matchB
        rw [if_pos h0, hL]
      rw [M]
      obtain ⟨l, hl⟩ : ∃ l, partsP s.data.toList = l := ⟨_, rfl⟩
      rw [hl] at CA hfew ⊢
      clear M hl hL hb h0
      by_cases hlast : L.getLast? = some [42, 42]
      · obtain ⟨Q, rfl⟩ : ∃ Q, L = Q ++ [[42, 42]] := by
          obtain ⟨Q, e⟩ := List.getLast?_eq_some_iff.1 hlast
          exact ⟨Q, e⟩
        rw [wm_rest]
        have hQl : (Q ++ [[42, 42]]).length = Q.length + 1 := by simp
        rw [hQl] at hfewL
        obtain ⟨ans, hans⟩ : ∃ b, (decide (Q.length ≤ l.length) && eqs Q l) = b := ⟨_, rfl⟩
        rw [hans]
        have HA := Lib.hid hans
        clear hans hlast
        have n0 : IntKind.i64.wrap (((Q ++ [[42, 42]]).length : Int) - 1) = (Q.length : Int) := by rw [IntWalk.i64_in _ (by omega)]; omega
        have n1 : (0 : Int) ≤ (Q.length : Int) := by omega
        have n2 : ((Q.length : Int)).toNat = Q.length := by omega
        have n3 : (Q.length : Int) < ((Q ++ [[42, 42]]).length : Int) := by omega
        have n4 : (0 : Int) < ((Q ++ [[42, 42]]).length : Int) := by omega
        go_enter Try.func28, Try.ntmps28
        go_wp2_with fail
        refine (CA.out _).mono ?_
        rintro e w1 ⟨⟨v, rfl, ho⟩, hb1⟩
        have B1 := Lib.hid hb1
        obtain ⟨a1, c1, rfl, hc1, hm1, hr1⟩ := ho.reads
        have R1 := Lib.hid hr1
        have hm1' : c1 ≤ 9223372036854775807 := hm1
        clear hb1 CA ho hr1 hm1
        go_wp2_with fail
        refine (PP.out _).mono ?_
        rintro e wp ⟨rfl, hbp⟩
        have Bp := Lib.hid (B1.out.trans (hbp.mono B1.out.size))
        have Rp := Lib.hid (R1.out.below hbp)
        clear hbp PP B1 R1
        go_wp2_with fail
        refine (CB.out _).mono ?_
        rintro e w2 ⟨⟨v, rfl, ho⟩, hb2⟩
        have B2 := Lib.hid (Bp.out.trans (hb2.mono Bp.out.size))
        have P2 := Lib.hid (Rp.out.below hb2)
        obtain ⟨a2, c2, rfl, hc2, hm2, hr2⟩ := ho.reads
        have Q2 := Lib.hid hr2
        have hm2' : c2 ≤ 9223372036854775807 := hm2
        clear hb2 CB ho hr2 hm2 Bp Rp
        obtain ⟨g2, rfl, c0⟩ := Q2.out.at (k := Q.length) (by omega)
        rw [show (Q ++ [[42, 42]])[Q.length]'(by omega) = [42, 42] by simp] at c0
        unfold tv at c0
        have n5 : (Q.length : Int) ≤ (c2 : Int) := by omega
        have T2 := Lib.hid (show RT w2 (some ⟨g2, 0, none⟩) Q by have h := Q2.out.take Q.length; rwa [List.take_left] at h)
        rw [hQl] at *
        go_upto_region 8 with fail
        clear c0
        by_cases hle : Q.length ≤ l.length
        · have m1 : ¬ (l.length : Int) < (Q.length : Int) := by omega
          have HB := Lib.hid (show eqs (Q.drop 0) (l.drop 0) = ans by have h := HA.out; rw [decide_eq_true hle, Bool.true_and] at h; exact h)
          clear HA
          go_wp2_with fail
          go_loopw [10] (fun i wr => ∃ k : Nat, i = .int .i64 k ∧ k ≤ Q.length ∧ Hid (eqs (Q.drop k) (l.drop k) = ans) ∧ Hid (Below w2.heap.size w2 wr)) (fun i _ => Q.length - (intOf i).toNat)
          case atStart => exact ⟨0, rfl, Nat.zero_le _, HB, Lib.hid (Below.refl _ _)⟩
          case round =>
            obtain ⟨k, rfl, hk, hok, hbb⟩ := hrel
            by_cases k2 : k < Q.length
            · have k1 : k < l.length := by omega
              have hd := hok.out
              rw [eqs_drop Q l k k2 k1] at hd
              obtain ⟨g1, rfl, u1⟩ := (P2.out.below hbb.out).at k1
              obtain ⟨g3, hg3, u2⟩ := (T2.out.below hbb.out).at k2
              obtain rfl : g2 = g3 := (Addr.mk.inj (Option.some.inj hg3)).1
              clear hg3
              obtain ⟨s, hss⟩ : ∃ x, l[k] = x := ⟨_, rfl⟩
              obtain ⟨t, ht⟩ : ∃ x, Q[k] = x := ⟨_, rfl⟩
              rw [hss] at u1 hd
              rw [ht] at u2 hd
              obtain ⟨S, hS⟩ : ∃ X : ByteArray, ⟨s.toArray⟩ = X := ⟨_, rfl⟩
              obtain ⟨T, hT⟩ : ∃ X : ByteArray, ⟨t.toArray⟩ = X := ⟨_, rfl⟩
              have hSl : S.toList = s := by rw [← hS, tv_text]
              have hTl : T.toList = t := by rw [← hT, tv_text]
              unfold tv at u1 u2
              rw [hS] at u1
              rw [hT] at u2
              have r1 : (k : Int) < (l.length : Int) := by omega
              have r2 : (k : Int) < (Q.length : Int) := by omega
              have r3 : (0 : Int) ≤ (k : Int) := by omega
              have r4 : ((k : Int)).toNat = k := by omega
              clear hss ht hS hT
              by_cases e : t = [42]
              · have e1 : (T.toList == [42]) = true := beq_iff_eq.2 (by rw [hTl, e])
                rw [decide_eq_true (.inl e), Bool.true_and] at hd
                have hok1 := Lib.hid hd
                clear e hSl hTl hd
                go_wp2_with (go_quiet (fail))
                go_roundw
                case rel => exact ⟨k + 1, by go_num, by omega, hok1, Lib.hid (below_drewN hbb.out _)⟩
                case measure => simp [intOf]; omega
              · have e1 : (T.toList == [42]) = false := beq_eq_false_iff_ne.2 (by rw [hTl]; exact e)
                by_cases f : t = s
                · have e2 : (T.toList == S.toList) = true := beq_iff_eq.2 (by rw [hTl, hSl, f])
                  rw [decide_eq_true (.inr f), Bool.true_and] at hd
                  have hok1 := Lib.hid hd
                  clear e f hSl hTl hd
                  go_wp2_with (go_quiet (fail))
                  go_roundw
                  case rel => exact ⟨k + 1, by go_num, by omega, hok1, Lib.hid (below_drewN hbb.out _)⟩
                  case measure => simp [intOf]; omega
                · have e2 : (T.toList == S.toList) = false := beq_eq_false_iff_ne.2 (by rw [hTl, hSl]; exact f)
                  rw [decide_eq_false (fun h => h.elim e f), Bool.false_and] at hd
                  subst hd
                  clear e f hSl hTl
                  go_wp2_with (go_quiet (fail))
                  go_ret
                  exact ⟨rfl, B2.out.trans ((below_drewN hbb.out _).mono B2.out.size)⟩
            · have hke : k = Q.length := by omega
              have hd := hok.out
              rw [hke, List.drop_length, eqs_nil] at hd
              subst hd
              go_wp2_with fail
              go_ret
              exact ⟨rfl, B2.out.trans (hbb.out.mono B2.out.size)⟩
        · have m1 : (l.length : Int) < (Q.length : Int) := by omega
          have h := HA.out
          rw [decide_eq_false hle, Bool.false_and] at h
          subst h
          go_wp2_with fail
          go_ret
          exact ⟨rfl, B2.out⟩
      · rw [wm_plain L l hlast]
        obtain ⟨ans, hans⟩ : ∃ b, (decide (L.length = l.length) && eqs L l) = b := ⟨_, rfl⟩
        rw [hans]
        have HA := Lib.hid hans
        clear hans
        by_cases hL0 : L = []
        · subst hL0
          have n4 : ¬ (0 : Int) < (([] : List (List UInt8)).length : Int) := by simp
          clear hlast
          obtain ⟨Q, hQ⟩ : ∃ Q : List (List UInt8), [] = Q := ⟨_, rfl⟩
          rw [hQ] at CB HA n4 hfewL
          clear hQ
          go_enter Try.func28, Try.ntmps28
          go_wp2_with fail
          refine (CA.out _).mono ?_
          rintro e w1 ⟨⟨v, rfl, ho⟩, hb1⟩
          have B1 := Lib.hid hb1
          obtain ⟨a1, c1, rfl, hc1, hm1, hr1⟩ := ho.reads
          have R1 := Lib.hid hr1
          have hm1' : c1 ≤ 9223372036854775807 := hm1
          clear hb1 CA ho hr1 hm1
          go_wp2_with fail
          refine (PP.out _).mono ?_
          rintro e wp ⟨rfl, hbp⟩
          have Bp := Lib.hid (B1.out.trans (hbp.mono B1.out.size))
          have Rp := Lib.hid (R1.out.below hbp)
          clear hbp PP B1 R1
          go_wp2_with fail
          refine (CB.out _).mono ?_
          rintro e w2 ⟨⟨v, rfl, ho⟩, hb2⟩
          have B2 := Lib.hid (Bp.out.trans (hb2.mono Bp.out.size))
          have P2 := Lib.hid (Rp.out.below hb2)
          obtain ⟨a2, c2, rfl, hc2, hm2, hr2⟩ := ho.reads
          have Q2 := Lib.hid hr2
          have hm2' : c2 ≤ 9223372036854775807 := hm2
          clear hb2 CB ho hr2 hm2 Bp Rp
          have T2 := Lib.hid Q2.out
          go_upto_region 8 with fail
          by_cases hle : Q.length = l.length
          · have m1 : ¬ (l.length : Int) < (Q.length : Int) := by omega
            have m2 : ¬ (Q.length : Int) < (l.length : Int) := by omega
            have HB := Lib.hid (show eqs (Q.drop 0) (l.drop 0) = ans by have h := HA.out; rw [decide_eq_true hle, Bool.true_and] at h; exact h)
            clear HA
            go_wp2_with fail
            go_loopw [10] (fun i wr => ∃ k : Nat, i = .int .i64 k ∧ k ≤ Q.length ∧ Hid (eqs (Q.drop k) (l.drop k) = ans) ∧ Hid (Below w2.heap.size w2 wr)) (fun i _ => Q.length - (intOf i).toNat)
            case atStart => exact ⟨0, rfl, Nat.zero_le _, HB, Lib.hid (Below.refl _ _)⟩
            case round =>
              obtain ⟨k, rfl, hk, hok, hbb⟩ := hrel
              by_cases k2 : k < Q.length
              · have k1 : k < l.length := by omega
                have hd := hok.out
                rw [eqs_drop Q l k k2 k1] at hd
                obtain ⟨g1, rfl, u1⟩ := (P2.out.below hbb.out).at k1
                obtain ⟨g3, hg3, u2⟩ := (T2.out.below hbb.out).at k2
                subst hg3
                obtain ⟨s, hss⟩ : ∃ x, l[k] = x := ⟨_, rfl⟩
                obtain ⟨t, ht⟩ : ∃ x, Q[k] = x := ⟨_, rfl⟩
                rw [hss] at u1 hd
                rw [ht] at u2 hd
                obtain ⟨S, hS⟩ : ∃ X : ByteArray, ⟨s.toArray⟩ = X := ⟨_, rfl⟩
                obtain ⟨T, hT⟩ : ∃ X : ByteArray, ⟨t.toArray⟩ = X := ⟨_, rfl⟩
                have hSl : S.toList = s := by rw [← hS, tv_text]
                have hTl : T.toList = t := by rw [← hT, tv_text]
                unfold tv at u1 u2
                rw [hS] at u1
                rw [hT] at u2
                have r1 : (k : Int) < (l.length : Int) := by omega
                have r2 : (k : Int) < (Q.length : Int) := by omega
                have r3 : (0 : Int) ≤ (k : Int) := by omega
                have r4 : ((k : Int)).toNat = k := by omega
                clear hss ht hS hT
                by_cases e : t = [42]
                · have e1 : (T.toList == [42]) = true := beq_iff_eq.2 (by rw [hTl, e])
                  rw [decide_eq_true (.inl e), Bool.true_and] at hd
                  have hok1 := Lib.hid hd
                  clear e hSl hTl hd
                  go_wp2_with (go_quiet (fail))
                  go_roundw
                  case rel => exact ⟨k + 1, by go_num, by omega, hok1, Lib.hid (below_drewN hbb.out _)⟩
                  case measure => simp [intOf]; omega
                · have e1 : (T.toList == [42]) = false := beq_eq_false_iff_ne.2 (by rw [hTl]; exact e)
                  by_cases f : t = s
                  · have e2 : (T.toList == S.toList) = true := beq_iff_eq.2 (by rw [hTl, hSl, f])
                    rw [decide_eq_true (.inr f), Bool.true_and] at hd
                    have hok1 := Lib.hid hd
                    clear e f hSl hTl hd
                    go_wp2_with (go_quiet (fail))
                    go_roundw
                    case rel => exact ⟨k + 1, by go_num, by omega, hok1, Lib.hid (below_drewN hbb.out _)⟩
                    case measure => simp [intOf]; omega
                  · have e2 : (T.toList == S.toList) = false := beq_eq_false_iff_ne.2 (by rw [hTl, hSl]; exact f)
                    rw [decide_eq_false (fun h => h.elim e f), Bool.false_and] at hd
                    subst hd
                    clear e f hSl hTl
                    go_wp2_with (go_quiet (fail))
                    go_ret
                    exact ⟨rfl, B2.out.trans ((below_drewN hbb.out _).mono B2.out.size)⟩
              · have hke : k = Q.length := by omega
                have hd := hok.out
                rw [hke, List.drop_length, eqs_nil] at hd
                subst hd
                go_wp2_with fail
                go_ret
                exact ⟨rfl, B2.out.trans (hbb.out.mono B2.out.size)⟩
          · have h := HA.out
            rw [decide_eq_false hle, Bool.false_and] at h
            subst h
            by_cases hlt : l.length < Q.length
            · have m1 : (l.length : Int) < (Q.length : Int) := by omega
              go_wp2_with fail
              go_ret
              exact ⟨rfl, B2.out⟩
            · have m1 : ¬ (l.length : Int) < (Q.length : Int) := by omega
              have m2 : (Q.length : Int) < (l.length : Int) := by omega
              go_wp2_with fail
              go_ret
              exact ⟨rfl, B2.out⟩
        · obtain ⟨hi, hg⟩ := last_get hL0
          have n0 : IntKind.i64.wrap ((L.length : Int) - 1) = ((L.length - 1 : Nat) : Int) := by rw [IntWalk.i64_in _ (by omega)]; omega
          have n1 : (0 : Int) ≤ ((L.length - 1 : Nat) : Int) := by omega
          have n2 : (((L.length - 1 : Nat) : Int)).toNat = L.length - 1 := by omega
          have n3 : ((L.length - 1 : Nat) : Int) < (L.length : Int) := by omega
          have n4 : (0 : Int) < (L.length : Int) := by omega
          have hz : ¬ L[L.length - 1] = [42, 42] := by
            intro e
            apply hlast
            rw [List.getLast?_eq_getElem?, List.getElem?_eq_getElem hi, e]
          obtain ⟨Q, hQ⟩ : ∃ Q, L = Q := ⟨_, rfl⟩
          subst hQ
          go_enter Try.func28, Try.ntmps28
          go_wp2_with fail
          refine (CA.out _).mono ?_
          rintro e w1 ⟨⟨v, rfl, ho⟩, hb1⟩
          have B1 := Lib.hid hb1
          obtain ⟨a1, c1, rfl, hc1, hm1, hr1⟩ := ho.reads
          have R1 := Lib.hid hr1
          have hm1' : c1 ≤ 9223372036854775807 := hm1
          clear hb1 CA ho hr1 hm1
          go_wp2_with fail
          refine (PP.out _).mono ?_
          rintro e wp ⟨rfl, hbp⟩
          have Bp := Lib.hid (B1.out.trans (hbp.mono B1.out.size))
          have Rp := Lib.hid (R1.out.below hbp)
          clear hbp PP B1 R1
          go_wp2_with fail
          refine (CB.out _).mono ?_
          rintro e w2 ⟨⟨v, rfl, ho⟩, hb2⟩
          have B2 := Lib.hid (Bp.out.trans (hb2.mono Bp.out.size))
          have P2 := Lib.hid (Rp.out.below hb2)
          obtain ⟨a2, c2, rfl, hc2, hm2, hr2⟩ := ho.reads
          have Q2 := Lib.hid hr2
          have hm2' : c2 ≤ 9223372036854775807 := hm2
          clear hb2 CB ho hr2 hm2 Bp Rp
          obtain ⟨g2, rfl, c0⟩ := Q2.out.at hi
          obtain ⟨z, hzz⟩ : ∃ z, L[L.length - 1] = z := ⟨_, rfl⟩
          rw [hzz] at c0 hz
          obtain ⟨Z, hZ⟩ : ∃ Z : ByteArray, ⟨z.toArray⟩ = Z := ⟨_, rfl⟩
          have e1 : (Z.toList == [42, 42]) = false := beq_eq_false_iff_ne.2 (by rw [← hZ, tv_text]; exact hz)
          unfold tv at c0
          rw [hZ] at c0
          have T2 := Lib.hid Q2.out
          clear hz hzz hZ hg hlast
          go_upto_region 8 with fail
          clear c0 e1
          by_cases hle : L.length = l.length
          · have m1 : ¬ (l.length : Int) < (L.length : Int) := by omega
            have m2 : ¬ (L.length : Int) < (l.length : Int) := by omega
            have HB := Lib.hid (show eqs (L.drop 0) (l.drop 0) = ans by have h := HA.out; rw [decide_eq_true hle, Bool.true_and] at h; exact h)
            clear HA
            go_wp2_with fail
            go_loopw [10] (fun i wr => ∃ k : Nat, i = .int .i64 k ∧ k ≤ L.length ∧ Hid (eqs (L.drop k) (l.drop k) = ans) ∧ Hid (Below w2.heap.size w2 wr)) (fun i _ => L.length - (intOf i).toNat)
            case atStart => exact ⟨0, rfl, Nat.zero_le _, HB, Lib.hid (Below.refl _ _)⟩
            case round =>
              obtain ⟨k, rfl, hk, hok, hbb⟩ := hrel
              by_cases k2 : k < L.length
              · have k1 : k < l.length := by omega
                have hd := hok.out
                rw [eqs_drop L l k k2 k1] at hd
                obtain ⟨g1, rfl, u1⟩ := (P2.out.below hbb.out).at k1
                obtain ⟨g3, hg3, u2⟩ := (T2.out.below hbb.out).at k2
                obtain rfl : g2 = g3 := (Addr.mk.inj (Option.some.inj hg3)).1
                clear hg3
                obtain ⟨s, hss⟩ : ∃ x, l[k] = x := ⟨_, rfl⟩
                obtain ⟨t, ht⟩ : ∃ x, L[k] = x := ⟨_, rfl⟩
                rw [hss] at u1 hd
                rw [ht] at u2 hd
                obtain ⟨S, hS⟩ : ∃ X : ByteArray, ⟨s.toArray⟩ = X := ⟨_, rfl⟩
                obtain ⟨T, hT⟩ : ∃ X : ByteArray, ⟨t.toArray⟩ = X := ⟨_, rfl⟩
                have hSl : S.toList = s := by rw [← hS, tv_text]
                have hTl : T.toList = t := by rw [← hT, tv_text]
                unfold tv at u1 u2
                rw [hS] at u1
                rw [hT] at u2
                have r1 : (k : Int) < (l.length : Int) := by omega
                have r2 : (k : Int) < (L.length : Int) := by omega
                have r3 : (0 : Int) ≤ (k : Int) := by omega
                have r4 : ((k : Int)).toNat = k := by omega
                clear hss ht hS hT
                by_cases e : t = [42]
                · have e1 : (T.toList == [42]) = true := beq_iff_eq.2 (by rw [hTl, e])
                  rw [decide_eq_true (.inl e), Bool.true_and] at hd
                  have hok1 := Lib.hid hd
                  clear e hSl hTl hd
                  go_wp2_with (go_quiet (fail))
                  go_roundw
                  case rel => exact ⟨k + 1, by go_num, by omega, hok1, Lib.hid (below_drewN hbb.out _)⟩
                  case measure => simp [intOf]; omega
                · have e1 : (T.toList == [42]) = false := beq_eq_false_iff_ne.2 (by rw [hTl]; exact e)
                  by_cases f : t = s
                  · have e2 : (T.toList == S.toList) = true := beq_iff_eq.2 (by rw [hTl, hSl, f])
                    rw [decide_eq_true (.inr f), Bool.true_and] at hd
                    have hok1 := Lib.hid hd
                    clear e f hSl hTl hd
                    go_wp2_with (go_quiet (fail))
                    go_roundw
                    case rel => exact ⟨k + 1, by go_num, by omega, hok1, Lib.hid (below_drewN hbb.out _)⟩
                    case measure => simp [intOf]; omega
                  · have e2 : (T.toList == S.toList) = false := beq_eq_false_iff_ne.2 (by rw [hTl, hSl]; exact f)
                    rw [decide_eq_false (fun h => h.elim e f), Bool.false_and] at hd
                    subst hd
                    clear e f hSl hTl
                    go_wp2_with (go_quiet (fail))
                    go_ret
                    exact ⟨rfl, B2.out.trans ((below_drewN hbb.out _).mono B2.out.size)⟩
              · have hke : k = L.length := by omega
                have hd := hok.out
                rw [hke, List.drop_length, eqs_nil] at hd
                subst hd
                go_wp2_with fail
                go_ret
                exact ⟨rfl, B2.out.trans (hbb.out.mono B2.out.size)⟩
          · have h := HA.out
            rw [decide_eq_false hle, Bool.false_and] at h
            subst h
            by_cases hlt : l.length < L.length
            · have m1 : (l.length : Int) < (L.length : Int) := by omega
              go_wp2_with fail
              go_ret
              exact ⟨rfl, B2.out⟩
            · have m1 : ¬ (l.length : Int) < (L.length : Int) := by omega
              have m2 : (L.length : Int) < (l.length : Int) := by omega
              go_wp2_with fail
              go_ret
              exact ⟨rfl, B2.out⟩
  · rw [show matchB p.data.toList s.data.toList = false from if_neg h0]
    obtain ⟨x, hx⟩ : ∃ x, errP s.data.toList = x := ⟨_, rfl⟩
    rw [hx] at CA h0
    have ex : (x == 0) = false := beq_eq_false_iff_ne.2 h0
    clear hx
    go_enter Try.func28, Try.ntmps28
    go_wp2_with fail
    refine (CA.out _).mono ?_
    rintro e w1 ⟨⟨v, rfl, ho⟩, hb1⟩
    have B1 := Lib.hid hb1
    clear hb1 CA ho
    go_wp2_with fail
    go_ret
    exact ⟨rfl, B1.out⟩

end Go.Proofs.Ytlgkffcomnclnaa
