/-
  No statement: the contracts of the document's Under, Common.
-/
import Derived.Test.YtlgkffcomnclnaaPRefB
namespace Go.Proofs.Ytlgkffcomnclnaa
open Go.RowKit

set_option maxRecDepth 100000 in
set_option maxHeartbeats 4000000 in
theorem rUnder_any (a b : ByteArray) (ha : a.size ≤ 1000) (hb : b.size ≤ 1000) (w : World) : Calls Try.prog 24 #[.string a, .string b] w fun e w' => e = .returned (.bool (underB a.data.toList b.data.toList)) ∧ Below w.heap.size w w' := by
  have CA := Lib.hid (fun w => rParseP a ha w)
  have CB := Lib.hid (fun w => rParseP b hb w)
  have FA := few_parts a.data.toList
  have FB := few_parts b.data.toList
  unfold underB
  obtain ⟨p, hp⟩ : ∃ q, partsP a.data.toList = q := ⟨_, rfl⟩
  obtain ⟨q, hq⟩ : ∃ q, partsP b.data.toList = q := ⟨_, rfl⟩
  obtain ⟨x, hx⟩ : ∃ x, errP a.data.toList = x := ⟨_, rfl⟩
  obtain ⟨y, hy⟩ : ∃ x, errP b.data.toList = x := ⟨_, rfl⟩
  rw [hp, hx] at CA
  rw [hq, hy] at CB
  rw [hp] at FA
  rw [hq] at FB
  rw [hp, hq, hx, hy]
  clear hp hq hx hy
  have l1 := FA.few
  have l2 := FB.few
  clear FA FB
  by_cases hx : x = 0
  · by_cases hy : y = 0
    · by_cases hl : p.length < q.length
      · rw [decide_eq_false (fun h => by have := (com_le p q).1; omega)]
        subst hx hy
        have m1 : (p.length : Int) < (q.length : Int) := by omega
        go_enter Try.func24, Try.ntmps24
        go_wp2_with fail
        refine (CA.out _).mono ?_
        rintro e w1 ⟨⟨v, rfl, ho⟩, hb1⟩
        have B1 := Lib.hid hb1
        obtain ⟨a1, c1, rfl, hc1, hm1, hr1⟩ := ho.reads
        have R1 := Lib.hid hr1
        have hm1' : c1 ≤ 9223372036854775807 := hm1
        clear hb1 CA ho hr1 hm1
        go_wp2_with fail
        refine (CB.out _).mono ?_
        rintro e w2 ⟨⟨v, rfl, ho⟩, hb2⟩
        have B2 := Lib.hid (B1.out.trans (hb2.mono B1.out.size))
        have P2 := Lib.hid (R1.out.below hb2)
        obtain ⟨a2, c2, rfl, hc2, hm2, hr2⟩ := ho.reads
        have Q2 := Lib.hid hr2
        have hm2' : c2 ≤ 9223372036854775807 := hm2
        clear hb2 CB ho hr2 hm2 B1 R1
        go_wp2_with fail
        go_ret
        exact ⟨rfl, B2.out⟩
      · have m1 : ¬ (p.length : Int) < (q.length : Int) := by omega
        obtain ⟨ans, hans⟩ : ∃ d, decide (x = 0 ∧ y = 0 ∧ comN p q = q.length) = d := ⟨_, rfl⟩
        have ANS := Lib.hid (show decide (comN p q = q.length) = ans by rw [← hans]; exact decide_eq_decide.2 ⟨fun h => ⟨hx, hy, h⟩, fun h => h.2.2⟩)
        rw [hans]
        clear hans
        subst hx hy
        go_enter Try.func24, Try.ntmps24
        go_wp2_with fail
        refine (CA.out _).mono ?_
        rintro e w1 ⟨⟨v, rfl, ho⟩, hb1⟩
        have B1 := Lib.hid hb1
        obtain ⟨a1, c1, rfl, hc1, hm1, hr1⟩ := ho.reads
        have R1 := Lib.hid hr1
        have hm1' : c1 ≤ 9223372036854775807 := hm1
        clear hb1 CA ho hr1 hm1
        go_wp2_with fail
        refine (CB.out _).mono ?_
        rintro e w2 ⟨⟨v, rfl, ho⟩, hb2⟩
        have B2 := Lib.hid (B1.out.trans (hb2.mono B1.out.size))
        have P2 := Lib.hid (R1.out.below hb2)
        obtain ⟨a2, c2, rfl, hc2, hm2, hr2⟩ := ho.reads
        have Q2 := Lib.hid hr2
        have hm2' : c2 ≤ 9223372036854775807 := hm2
        clear hb2 CB ho hr2 hm2 B1 R1
        go_wp2_with fail
        go_loopw [9] (fun i wr => ∃ k : Nat, i = .int .i64 k ∧ k ≤ q.length ∧ Hid (∀ j, j < k → p[j]? = q[j]?) ∧ Hid (Below w2.heap.size w2 wr)) (fun i _ => q.length - (intOf i).toNat)
        case atStart => exact ⟨0, rfl, Nat.zero_le _, Lib.hid (fun j h => by omega), Lib.hid (Below.refl _ _)⟩
        case round =>
          obtain ⟨k, rfl, hk, hok, hbb⟩ := hrel
          by_cases k2 : k < q.length
          · have k1 : k < p.length := by omega
            obtain ⟨g1, rfl, u1⟩ := (P2.out.below hbb.out).at k1
            obtain ⟨g2, rfl, u2⟩ := (Q2.out.below hbb.out).at k2
            have s1 := List.getElem?_eq_getElem k1
            have s2 := List.getElem?_eq_getElem k2
            obtain ⟨s, hs⟩ : ∃ x, p[k] = x := ⟨_, rfl⟩
            obtain ⟨t, ht⟩ : ∃ x, q[k] = x := ⟨_, rfl⟩
            rw [hs] at u1 s1
            rw [ht] at u2 s2
            obtain ⟨S, hS⟩ : ∃ X : ByteArray, ⟨s.toArray⟩ = X := ⟨_, rfl⟩
            obtain ⟨T, hT⟩ : ∃ X : ByteArray, ⟨t.toArray⟩ = X := ⟨_, rfl⟩
            have hSl : S.toList = s := by rw [← hS, tv_text]
            have hTl : T.toList = t := by rw [← hT, tv_text]
            unfold tv at u1 u2
            rw [hS] at u1
            rw [hT] at u2
            have G1 := Lib.hid s1
            have G2 := Lib.hid s2
            have n1 : (k : Int) < (p.length : Int) := by omega
            have n2 : (k : Int) < (q.length : Int) := by omega
            have n3 : (0 : Int) ≤ (k : Int) := by omega
            have n4 : ((k : Int)).toNat = k := by omega
            clear hs ht hS hT s1 s2
            by_cases e : s = t
            · have e1 : (S.toList == T.toList) = true := beq_iff_eq.2 (by rw [hSl, hTl, e])
              have hok1 := Lib.hid (show ∀ j, j < k + 1 → p[j]? = q[j]? from fun j hj => by
                by_cases ej : j = k
                · subst ej; rw [G1.out, G2.out, e]
                · exact hok.out j (by omega))
              clear e hSl hTl
              go_wp2_with (go_quiet (fail))
              go_roundw
              case rel => exact ⟨k + 1, by go_num, by omega, hok1, Lib.hid (below_drewN hbb.out _)⟩
              case measure => simp [intOf]; omega
            · have e1 : (S.toList == T.toList) = false := beq_eq_false_iff_ne.2 (by rw [hSl, hTl]; exact e)
              have E := com_parts p q k hok.out (by omega) (by omega) (.inr (.inr (by rw [G1.out, G2.out]; intro h; exact e (Option.some.inj h))))
              have A2 := ANS.out
              rw [E, decide_eq_false (by omega)] at A2
              subst A2
              clear e hSl hTl E
              go_wp2_with (go_quiet (fail))
              go_ret
              exact ⟨rfl, B2.out.trans ((below_drewN hbb.out _).mono B2.out.size)⟩
          · have E := com_parts p q k hok.out (by omega) hk (.inr (.inl (by omega)))
            have A2 := ANS.out
            rw [E, decide_eq_true (by omega)] at A2
            subst A2
            clear E
            go_wp2_with fail
            go_ret
            exact ⟨rfl, B2.out.trans (hbb.out.mono B2.out.size)⟩
    · rw [decide_eq_false (fun h => hy h.2.1)]
      have ey : (y == 0) = false := beq_eq_false_iff_ne.2 hy
      subst hx
      go_enter Try.func24, Try.ntmps24
      go_wp2_with fail
      refine (CA.out _).mono ?_
      rintro e w1 ⟨⟨v, rfl, ho⟩, hb1⟩
      have B1 := Lib.hid hb1
      obtain ⟨a1, c1, rfl, hc1, hm1, hr1⟩ := ho.reads
      have R1 := Lib.hid hr1
      have hm1' : c1 ≤ 9223372036854775807 := hm1
      clear hb1 CA ho hr1 hm1
      go_wp2_with fail
      refine (CB.out _).mono ?_
      rintro e w2 ⟨⟨v, rfl, ho⟩, hb2⟩
      have B2 := Lib.hid (B1.out.trans (hb2.mono B1.out.size))
      have P2 := Lib.hid (R1.out.below hb2)
      obtain ⟨a2, c2, rfl, hc2, hm2, hr2⟩ := ho.reads
      have Q2 := Lib.hid hr2
      have hm2' : c2 ≤ 9223372036854775807 := hm2
      clear hb2 CB ho hr2 hm2 B1 R1
      go_wp2_with fail
      go_ret
      exact ⟨rfl, B2.out⟩
  · rw [decide_eq_false (fun h => hx h.1)]
    have ex : (x == 0) = false := beq_eq_false_iff_ne.2 hx
    go_enter Try.func24, Try.ntmps24
    go_wp2_with fail
    refine (CA.out _).mono ?_
    rintro e w1 ⟨⟨v, rfl, ho⟩, hb1⟩
    have B1 := Lib.hid hb1
    obtain ⟨a1, c1, rfl, hc1, hm1, hr1⟩ := ho.reads
    have R1 := Lib.hid hr1
    have hm1' : c1 ≤ 9223372036854775807 := hm1
    clear hb1 CA ho hr1 hm1
    go_wp2_with fail
    refine (CB.out _).mono ?_
    rintro e w2 ⟨⟨v, rfl, ho⟩, hb2⟩
    have B2 := Lib.hid (B1.out.trans (hb2.mono B1.out.size))
    have P2 := Lib.hid (R1.out.below hb2)
    obtain ⟨a2, c2, rfl, hc2, hm2, hr2⟩ := ho.reads
    have Q2 := Lib.hid hr2
    have hm2' : c2 ≤ 9223372036854775807 := hm2
    clear hb2 CB ho hr2 hm2 B1 R1
    go_wp2_with fail
    go_ret
    exact ⟨rfl, B2.out⟩

set_option maxRecDepth 100000 in
set_option maxHeartbeats 4000000 in
theorem rCommon_any (a b : ByteArray) (ha : a.size ≤ 1000) (hb : b.size ≤ 1000) (w : World) : Calls Try.prog 26 #[.string a, .string b] w fun e w' => e = .returned (tv (commonP a.data.toList b.data.toList)) ∧ Below w.heap.size w w' := by
  have CA := Lib.hid (fun w => rParseP a ha w)
  have CB := Lib.hid (fun w => rParseP b hb w)
  have FA := few_parts a.data.toList
  have FB := few_parts b.data.toList
  unfold commonP
  obtain ⟨p, hp⟩ : ∃ q, partsP a.data.toList = q := ⟨_, rfl⟩
  obtain ⟨q, hq⟩ : ∃ q, partsP b.data.toList = q := ⟨_, rfl⟩
  obtain ⟨x, hx⟩ : ∃ x, errP a.data.toList = x := ⟨_, rfl⟩
  obtain ⟨y, hy⟩ : ∃ x, errP b.data.toList = x := ⟨_, rfl⟩
  rw [hp, hx] at CA
  rw [hq, hy] at CB
  rw [hp] at FA
  rw [hq] at FB
  rw [hp, hq, hx, hy]
  clear hp hq hx hy
  have l1 := FA.few
  have l2 := FB.few
  clear FB
  by_cases hx : x = 0
  · by_cases hy : y = 0
    · rw [if_pos ⟨hx, hy⟩]
      subst hx hy
      have FA := Lib.hid FA
      obtain ⟨T0, hT0⟩ : ∃ t, tv (textP (p.take (comN p q))) = t := ⟨_, rfl⟩
      have HT := Lib.hid hT0
      rw [hT0]
      clear hT0
      go_enter Try.func26, Try.ntmps26
      go_wp2_with fail
      refine (CA.out _).mono ?_
      rintro e w1 ⟨⟨v, rfl, ho⟩, hb1⟩
      have B1 := Lib.hid hb1
      obtain ⟨a1, c1, rfl, hc1, hm1, hr1⟩ := ho.reads
      have R1 := Lib.hid hr1
      have hm1' : c1 ≤ 9223372036854775807 := hm1
      clear hb1 CA ho hr1 hm1
      go_wp2_with fail
      refine (CB.out _).mono ?_
      rintro e w2 ⟨⟨v, rfl, ho⟩, hb2⟩
      have B2 := Lib.hid (B1.out.trans (hb2.mono B1.out.size))
      have P2 := Lib.hid (R1.out.below hb2)
      obtain ⟨a2, c2, rfl, hc2, hm2, hr2⟩ := ho.reads
      have Q2 := Lib.hid hr2
      have hm2' : c2 ≤ 9223372036854775807 := hm2
      clear hb2 CB ho hr2 hm2 B1 R1
      go_wp2_with fail
      go_loopw [9] (fun i wr => ∃ k : Nat, i = .int .i64 k ∧ k ≤ p.length ∧ k ≤ q.length ∧ Hid (∀ j, j < k → p[j]? = q[j]?) ∧ Hid (Below w2.heap.size w2 wr)) (fun i _ => q.length - (intOf i).toNat)
      case atStart => exact ⟨0, rfl, Nat.zero_le _, Nat.zero_le _, Lib.hid (fun j h => by omega), Lib.hid (Below.refl _ _)⟩
      case round =>
        obtain ⟨k, rfl, hk1, hk2, hok, hbb⟩ := hrel
        by_cases k1 : k < p.length
        · by_cases k2 : k < q.length
          · skip
            obtain ⟨g1, rfl, u1⟩ := (P2.out.below hbb.out).at k1
            obtain ⟨g2, rfl, u2⟩ := (Q2.out.below hbb.out).at k2
            have s1 := List.getElem?_eq_getElem k1
            have s2 := List.getElem?_eq_getElem k2
            obtain ⟨s, hs⟩ : ∃ x, p[k] = x := ⟨_, rfl⟩
            obtain ⟨t, ht⟩ : ∃ x, q[k] = x := ⟨_, rfl⟩
            rw [hs] at u1 s1
            rw [ht] at u2 s2
            obtain ⟨S, hS⟩ : ∃ X : ByteArray, ⟨s.toArray⟩ = X := ⟨_, rfl⟩
            obtain ⟨T, hT⟩ : ∃ X : ByteArray, ⟨t.toArray⟩ = X := ⟨_, rfl⟩
            have hSl : S.toList = s := by rw [← hS, tv_text]
            have hTl : T.toList = t := by rw [← hT, tv_text]
            unfold tv at u1 u2
            rw [hS] at u1
            rw [hT] at u2
            have G1 := Lib.hid s1
            have G2 := Lib.hid s2
            have n1 : (k : Int) < (p.length : Int) := by omega
            have n2 : (k : Int) < (q.length : Int) := by omega
            have n3 : (0 : Int) ≤ (k : Int) := by omega
            have n4 : ((k : Int)).toNat = k := by omega
            clear hs ht hS hT s1 s2
            by_cases e : s = t
            · have e1 : (S.toList == T.toList) = true := beq_iff_eq.2 (by rw [hSl, hTl, e])
              have hok1 := Lib.hid (show ∀ j, j < k + 1 → p[j]? = q[j]? from fun j hj => by
                by_cases ej : j = k
                · subst ej; rw [G1.out, G2.out, e]
                · exact hok.out j (by omega))
              clear e hSl hTl
              go_wp2_with (go_quiet (fail))
              go_roundw
              case rel => exact ⟨k + 1, by go_num, by omega, by omega, hok1, Lib.hid (below_drewN hbb.out _)⟩
              case measure => simp [intOf]; omega
            · have e1 : (S.toList == T.toList) = false := beq_eq_false_iff_ne.2 (by rw [hSl, hTl]; exact e)
              have E := com_parts p q k hok.out (by omega) (by omega) (.inr (.inr (by rw [G1.out, G2.out]; intro h; exact e (Option.some.inj h))))
              rw [E] at HT
              clear e hSl hTl E
              have TX := Lib.hid (fun w h => rPathText_any (some ⟨g1, 0, none⟩) c1 (p.take k) (few_take FA.out k) w h)
              rw [len_take p k hk1, HT.out] at TX
              have j1 : (0 : Int) ≤ (k : Int) := by omega
              have j2 : (k : Int) ≤ (c1 : Int) := by omega
              have j3 : ((k : Int)).toNat = k := by omega
              have TN := Lib.hid (fun m => TX.out (wr.drewN m) (((P2.out.below hbb.out).take k).below (below_drewN (Below.refl _ _) m)))
              have BN := Lib.hid (fun m => B2.out.trans ((below_drewN hbb.out m).mono B2.out.size))
              clear TX
              go_wp2_with (go_quiet (fail))
              refine (TN.out _).mono ?_
              rintro e w5 ⟨rfl, hb5⟩
              have B6 := Lib.hid ((BN.out _).trans (hb5.mono (BN.out _).size))
              clear hb5
              go_wp2_with fail
              go_ret
              exact ⟨rfl, B6.out⟩
          · have E := com_parts p q k hok.out hk1 hk2 (.inr (.inl (by omega)))
            rw [E] at HT
            have n1 : decide ((k : Int) < (p.length : Int)) = true := decide_eq_true (by omega)
            have n2 : decide ((k : Int) < (q.length : Int)) = false := decide_eq_false (by omega)
            clear E
            have TX := Lib.hid (fun w h => rPathText_any a1 c1 (p.take k) (few_take FA.out k) w h)
            rw [len_take p k hk1, HT.out] at TX
            have j1 : (0 : Int) ≤ (k : Int) := by omega
            have j2 : (k : Int) ≤ (c1 : Int) := by omega
            have j3 : ((k : Int)).toNat = k := by omega
            have TN := Lib.hid (fun m => TX.out (wr.drewN m) (((P2.out.below hbb.out).take k).below (below_drewN (Below.refl _ _) m)))
            have BN := Lib.hid (fun m => B2.out.trans ((below_drewN hbb.out m).mono B2.out.size))
            clear TX
            go_wp2_with (go_quiet (fail))
            refine (TN.out _).mono ?_
            rintro e w5 ⟨rfl, hb5⟩
            have B6 := Lib.hid ((BN.out _).trans (hb5.mono (BN.out _).size))
            clear hb5
            go_wp2_with fail
            go_ret
            exact ⟨rfl, B6.out⟩
        · have E := com_parts p q k hok.out hk1 hk2 (.inl (by omega))
          rw [E] at HT
          have n1 : decide ((k : Int) < (p.length : Int)) = false := decide_eq_false (by omega)
          clear E
          have TX := Lib.hid (fun w h => rPathText_any a1 c1 (p.take k) (few_take FA.out k) w h)
          rw [len_take p k hk1, HT.out] at TX
          have j1 : (0 : Int) ≤ (k : Int) := by omega
          have j2 : (k : Int) ≤ (c1 : Int) := by omega
          have j3 : ((k : Int)).toNat = k := by omega
          have TN := Lib.hid (fun m => TX.out (wr.drewN m) (((P2.out.below hbb.out).take k).below (below_drewN (Below.refl _ _) m)))
          have BN := Lib.hid (fun m => B2.out.trans ((below_drewN hbb.out m).mono B2.out.size))
          clear TX
          go_wp2_with (go_quiet (fail))
          refine (TN.out _).mono ?_
          rintro e w5 ⟨rfl, hb5⟩
          have B6 := Lib.hid ((BN.out _).trans (hb5.mono (BN.out _).size))
          clear hb5
          go_wp2_with fail
          go_ret
          exact ⟨rfl, B6.out⟩
    · rw [if_neg (fun h => hy h.2)]
      have ey : (y == 0) = false := beq_eq_false_iff_ne.2 hy
      subst hx
      clear FA
      go_enter Try.func26, Try.ntmps26
      go_wp2_with fail
      refine (CA.out _).mono ?_
      rintro e w1 ⟨⟨v, rfl, ho⟩, hb1⟩
      have B1 := Lib.hid hb1
      obtain ⟨a1, c1, rfl, hc1, hm1, hr1⟩ := ho.reads
      have R1 := Lib.hid hr1
      have hm1' : c1 ≤ 9223372036854775807 := hm1
      clear hb1 CA ho hr1 hm1
      go_wp2_with fail
      refine (CB.out _).mono ?_
      rintro e w2 ⟨⟨v, rfl, ho⟩, hb2⟩
      have B2 := Lib.hid (B1.out.trans (hb2.mono B1.out.size))
      have P2 := Lib.hid (R1.out.below hb2)
      obtain ⟨a2, c2, rfl, hc2, hm2, hr2⟩ := ho.reads
      have Q2 := Lib.hid hr2
      have hm2' : c2 ≤ 9223372036854775807 := hm2
      clear hb2 CB ho hr2 hm2 B1 R1
      go_wp2_with fail
      go_ret
      exact ⟨rfl, B2.out⟩
  · rw [if_neg (fun h => hx h.1)]
    have ex : (x == 0) = false := beq_eq_false_iff_ne.2 hx
    clear FA
    go_enter Try.func26, Try.ntmps26
    go_wp2_with fail
    refine (CA.out _).mono ?_
    rintro e w1 ⟨⟨v, rfl, ho⟩, hb1⟩
    have B1 := Lib.hid hb1
    obtain ⟨a1, c1, rfl, hc1, hm1, hr1⟩ := ho.reads
    have R1 := Lib.hid hr1
    have hm1' : c1 ≤ 9223372036854775807 := hm1
    clear hb1 CA ho hr1 hm1
    go_wp2_with fail
    refine (CB.out _).mono ?_
    rintro e w2 ⟨⟨v, rfl, ho⟩, hb2⟩
    have B2 := Lib.hid (B1.out.trans (hb2.mono B1.out.size))
    have P2 := Lib.hid (R1.out.below hb2)
    obtain ⟨a2, c2, rfl, hc2, hm2, hr2⟩ := ho.reads
    have Q2 := Lib.hid hr2
    have hm2' : c2 ≤ 9223372036854775807 := hm2
    clear hb2 CB ho hr2 hm2 B1 R1
    go_wp2_with fail
    go_ret
    exact ⟨rfl, B2.out⟩

end Go.Proofs.Ytlgkffcomnclnaa
