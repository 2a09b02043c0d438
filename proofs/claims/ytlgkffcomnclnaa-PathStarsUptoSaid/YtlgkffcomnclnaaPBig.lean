/-
  No statement: the contracts of the document's cut and Parse, for longer texts.
-/
import Derived.Test.YtlgkffcomnclnaaPKnown
namespace Go.Proofs.Ytlgkffcomnclnaa
open Go.RowKit

set_option maxRecDepth 100000 in
set_option maxHeartbeats 2000000 in
theorem rCut_anyB (s : ByteArray) (h1 : 2 ≤ s.size) (h0 : s[0] = 47) (hm : s.size ≤ 2000000) (w : World) : Calls Try.prog 33 #[.string s] w fun e w' => (∃ v, e = .returned (.tuple #[v, .bool true]) ∧ w'.ownsRow w.heap.size 9 1 v (segF (s.data.toList.drop 1)).length (segF (s.data.toList.drop 1))) ∧ Below w.heap.size w w' := by
  have e0 : ((s[0].toNat : Int) != 47) = false := by rw [h0]; decide
  have e1 := not_empty (s := s) (by omega)
  have e2 := not_one h1 47
  have e3 : (s.toList == (⟨#[47]⟩ : ByteArray).toList) = false := by simpa [Lib.toList_data] using e2
  obtain ⟨B, hB⟩ : ∃ B, w.heap.size = B := ⟨_, rfl⟩
  obtain ⟨i0, hi0, hz0, hz1, hz2⟩ := info_parts infoStr
  have own0 : (w.alloc (.cells #[.string ⟨#[]⟩] 9)).ownsRow B 9 1 (.slice (some ⟨B, 0, none⟩) 1 1) (segF ((s.data.toList.take 1).drop 1)).length (segF ((s.data.toList.take 1).drop 1)) := by
    rw [show (s.data.toList.take 1).drop 1 = [] by simp]
    refine ⟨rfl, .inr ⟨B, 1, #[.string ⟨#[]⟩], rfl, by omega, by rw [← hB]; exact World.alloc_heap_new w _, Nat.le_refl _, by unfold maxLen; omega, rfl, rfl⟩⟩
  have O := Lib.hid own0
  have BL := Lib.hid (show Below B w (w.alloc (.cells #[.string ⟨#[]⟩] 9)) from (Below.refl _ _).alloc (by omega) _)
  clear h0 own0
  rw [hB]
  go_enter Try.func33, Try.ntmps33
  go_wp2_with fail
  go_loopw [4, 5] (fun v i wr => ∃ k : Nat, 1 ≤ k ∧ k ≤ s.size ∧ i = .int .i64 k ∧ Hid (wr.ownsRow B 9 1 v (segF ((s.data.toList.take k).drop 1)).length (segF ((s.data.toList.take k).drop 1))) ∧ Hid (Below B w wr)) (fun _ i _ => s.size - (intOf i).toNat)
  case atStart => exact ⟨1, Nat.le_refl _, by omega, rfl, O, BL⟩
  case round =>
    obtain ⟨k, hk1, hk, rfl, ho, hb⟩ := hrel
    have hbs : B ≤ wr.heap.size := by have := hb.out.size; omega
    by_cases hlt : k < s.size
    · obtain ⟨q, a, g0, g1, g2⟩ := segs_snoc ((s.data.toList.take k).drop 1)
      have hnx : (s.data.toList.take (k + 1)).drop 1 = (s.data.toList.take k).drop 1 ++ [s[k]] := by
        have hk' : k < s.data.toList.length := by simpa using hlt
        rw [List.take_succ_eq_append_getElem hk', List.drop_append_of_le_length (by simp; omega)]
        rfl
      have hql : q.length ≤ 2000000 := by
        have := segs_len ((s.data.toList.take k).drop 1)
        rw [g0] at this
        simp at this; omega
      have hal : a.length ≤ 2000000 := by
        have h := segs_each ((s.data.toList.take k).drop 1) a (by rw [g0]; simp)
        simp at h; omega
      have hoo := ho.out
      obtain ⟨Q, hQ⟩ : ∃ Q, q.map tv = Q := ⟨_, rfl⟩
      have hQl : Q.length ≤ 2000000 := by rw [← hQ, List.length_map]; exact hql
      have hseg : segF ((s.data.toList.take k).drop 1) = Q ++ [tv a] := by unfold segF; rw [g0, List.map_append, hQ]; rfl
      rw [hseg] at hoo
      obtain ⟨N, hN⟩ : ∃ N, Q.length = N := ⟨_, rfl⟩
      rw [List.length_append, hN, show [tv a].length = 1 from rfl] at hoo
      obtain ⟨g, cap, rfl⟩ := ownsRow_succ hoo
      have HO := Lib.hid hoo
      rw [hN] at hQl
      by_cases hc : s[k] = 47
      · have hnew := Lib.hid (show segF ((s.data.toList.take (k + 1)).drop 1) = Q ++ [tv a] ++ [.string ⟨#[]⟩] by unfold segF; rw [hnx, hc, g1, List.map_append, List.map_append, hQ]; rfl)
        have hml := Lib.hid (show N + 1 + 1 ≤ maxLen by unfold maxLen; omega)
        have hlen := Lib.hid (show (Q ++ [tv a] ++ [Value.string ⟨#[]⟩]).length = N + 1 + 1 by simp [hN])
        have q47 : ((s[k].toNat : Int) == 47) = true := by rw [hc]; decide
        clear hoo g0 g1 g2 hnx hseg hQ hN hc hql ho
        go_wp2_with (at_builtin; refine wpList_append_own _ rfl _ _ 23 rfl B 9 i0 (.string ⟨#[]⟩) 1 16 Try.underlying23 hi0 hz0 hz1 hz2 rfl (by decide) _ _ _ rfl (HO.out.alloc _) ⟨wr.heap.size, 0, none⟩ 1 1 [.string ⟨#[]⟩] rfl rfl (cell_one_new _ _ _) (by simp [Value.oneCell']) hml.out (by omega) (by simp; omega) ?_; intro v2 w2 hown2 hgrow2 _; have O2 := Lib.hid hown2; have G2 := Lib.hid hgrow2; clear hown2 hgrow2)
        have hb2 := Lib.hid ((hb.out.alloc hbs _).grown G2.out (by simp; omega) (fun j e => by
            rcases HO.out.2 with ⟨h1, _⟩ | ⟨g, cap, cur, h1, hg, _⟩
            · rw [h1] at e; cases e
            · rw [h1] at e; cases e; exact hg))
        go_roundw
        case rel => exact ⟨k + 1, by omega, by omega, by go_num, Lib.hid (by rw [hnew.out, hlen.out]; exact O2.out), hb2⟩
        case measure => simp [intOf]; omega
      · have hnew := Lib.hid (show segF ((s.data.toList.take (k + 1)).drop 1) = (Q ++ [tv a]).set N (.string (⟨a.toArray⟩ ++ s.extract k (k + 1))) by
          unfold segF
          rw [hnx, g2 _ hc, List.map_append, hQ, text_more a s k hlt, List.set_append_right _ _ (by omega), hN, Nat.sub_self]
          rfl)
        have hlen := Lib.hid (show ((Q ++ [tv a]).set N (.string (⟨a.toArray⟩ ++ s.extract k (k + 1)))).length = N + 1 by simp [hN])
        have q47 : ((s[k].toNat : Int) == 47) = false := by
          rw [beq_eq_false_iff_ne]; intro e; apply hc
          apply UInt8.toNat_inj.1
          have : s[k].toNat = 47 := by omega
          rw [this]; rfl
        obtain ⟨c1, c2⟩ := own_cell HO.out (j := N) (v := tv a) (by rw [List.getElem?_append_right (by omega), hN, Nat.sub_self]; rfl)
        obtain ⟨O2, hBg⟩ := own_set HO.out N (by omega) (.string (⟨a.toArray⟩ ++ s.extract k (k + 1)))
        have O2 := Lib.hid O2
        obtain ⟨T, hT⟩ : ∃ T : ByteArray, ⟨a.toArray⟩ = T := ⟨_, rfl⟩
        have hTs : T.size ≤ 2000000 := by rw [← hT]; show a.toArray.size ≤ 2000000; simpa using hal
        have hb2 := Lib.hid (hb.out.setCell (p := ⟨g, N, none⟩) hBg (.string (⟨a.toArray⟩ ++ s.extract k (k + 1))))
        unfold tv at c1
        rw [hT] at c1 O2 hb2 hnew hlen
        clear hoo g0 g1 g2 hnx hseg hQ hN hc hql ho hal hT
        go_wp2_with fail
        have j1 : IntKind.i64.wrap (N : Int) = (N : Int) := IntWalk.i64_in _ (by omega)
        have j2 : IntKind.i64.wrap ((k : Int) + 1) = (k : Int) + 1 := IntWalk.i64_in _ (by omega)
        have j3 : (0 : Int) ≤ (k : Int) + 1 := by omega
        have j4 : ((k : Int) + 1).toNat = k + 1 := by omega
        have j5 : (0 : Int) ≤ (N : Int) := by omega
        have j6 : (N : Int) < (N : Int) + 1 := by omega
        have j7 : N < N + 1 := by omega
        have j8 : ((N : Int)).toNat = N := by omega
        have j9 : (N : Int) < ((N + 1 : Nat) : Int) := by omega
        have j10 : (k : Int) ≤ (k : Int) + 1 := by omega
        have j11 : (k : Int) + 1 ≤ (s.size : Int) := by omega
        have j12 : k ≤ k + 1 := by omega
        have j13 : k + 1 ≤ s.size := by omega
        have j14 : (0 : Int) ≤ (k : Int) := by omega
        have j15 : ((k : Int)).toNat = k := by omega
        obtain ⟨E, hE⟩ : ∃ E, s.extract k (k + 1) = E := ⟨_, rfl⟩
        have hEs : E.size ≤ 1 := by rw [← hE]; simp; omega
        rw [hE] at O2 hb2 hnew hlen
        have j16 : (9223372036854775807 < T.size + E.size) = False := by simp; omega
        go_still_tail 17, (by kernel_rfl)
        change wpList _ _ _ _ _ wr.drew
        go_wp2_with fail
        exact ⟨⟨k + 1, by omega, by omega, by go_num, Lib.hid (by rw [hnew.out, hlen.out]; exact ownsDrew O2.out), Lib.hid hb2.out.drew⟩, by simp [intOf]; omega⟩
    · obtain rfl : k = s.size := by omega
      rw [show (s.data.toList.take s.size).drop 1 = s.data.toList.drop 1 by rw [List.take_of_length_le (by simp)]] at ho
      obtain ⟨a1, cap1, rfl⟩ := row_slice' ho.out
      go_wp2_with fail
      go_ret2
      exact ⟨⟨_, rfl, ho.out⟩, hb.out⟩

theorem rCut_noneB (s : ByteArray) (h : s.size = 0 ∨ ∃ h : 0 < s.size, ¬ s[0] = 47) (hm : s.size ≤ 2000000) (w : World) : Calls Try.prog 33 #[.string s] w fun e w' => e = .returned (.tuple #[.slice none 0 0, .bool false]) ∧ w = w' := by
  rcases h with h | ⟨h, h'⟩
  · obtain rfl := size_nil h
    clear h hm
    go_enter Try.func33, Try.ntmps33
    go_wp2_with fail
    go_ret2
    exact ⟨rfl, rfl⟩
  · have e1 := not_empty (s := s) (by omega)
    have e0 := not_stroke h'
    clear h'
    go_enter Try.func33, Try.ntmps33
    go_wp2_with fail
    go_ret2
    exact ⟨rfl, rfl⟩

theorem rCutPB (s : ByteArray) (hm : s.size ≤ 2000000) (w : World) : Calls Try.prog 33 #[.string s] w fun e w' => (∃ v, e = .returned (.tuple #[v, .bool (hasCut s.data.toList)]) ∧ OwnT w.heap.size w' v ((cutL s.data.toList).getD [])) ∧ Below w.heap.size w w' := by
  unfold hasCut
  by_cases h : s.size = 0 ∨ ∃ h : 0 < s.size, ¬ s[0] = 47
  · rw [cut_none' h]
    refine (rCut_noneB s h hm w).mono ?_
    rintro e w' ⟨rfl, rfl⟩
    exact ⟨⟨_, rfl, OwnT.nil _ _⟩, Below.refl _ _⟩
  · obtain ⟨r, hr, hrl⟩ := cut_size h
    rw [hr, cutL_stroke]
    by_cases hn : r = []
    · subst hn
      rw [if_pos rfl]
      obtain rfl : s = ⟨#[47]⟩ := text_eq hr
      refine (rCut_root w).mono ?_
      rintro e w' ⟨rfl, rfl⟩
      exact ⟨⟨_, rfl, OwnT.nil _ _⟩, Below.refl _ _⟩
    · rw [if_neg hn]
      have h0 : s[0]'(by omega) = 47 := by
        have h00 : s.data.toList[0]? = some (s[0]'(by omega)) := List.getElem?_eq_getElem (by simp; omega)
        rw [hr] at h00
        simpa using h00.symm
      have h2 : 2 ≤ s.size := by
        have : 0 < r.length := List.length_pos_iff.2 hn
        omega
      refine (rCut_anyB s h2 h0 hm w).mono ?_
      rintro e w' ⟨⟨v, rfl, ho⟩, hb⟩
      refine ⟨⟨v, rfl, ?_⟩, hb⟩
      rw [hr] at ho
      unfold OwnT
      show w'.ownsRow w.heap.size 9 1 v (segs r).length ((segs r).map tv)
      have e : segF (List.drop 1 (47 :: r)) = (segs r).map tv := rfl
      rw [e, List.length_map] at ho
      exact ho

theorem cut_partsB {s : ByteArray} {q : List (List UInt8)} (hm : s.size ≤ 2000000) (h : cutL s.data.toList = some q) : q.length ≤ 2000000 ∧ ∀ x ∈ q, x.length ≤ 2000000 := by
  have hl : s.data.toList.length = s.size := by simp
  have k := cut_some h
  by_cases hq : q = []
  · subst hq; exact ⟨by simp, by simp⟩
  · have e : s.data.toList = joinT q := by rw [k.1, textP, if_neg hq]
    rw [e] at hl
    have h1 := parts_many q
    refine ⟨by omega, fun x hx => ?_⟩
    obtain ⟨i, hi, rfl⟩ := List.mem_iff_getElem.1 hx
    have := congrArg List.length (join_at q i hi)
    simp at this
    omega

set_option maxRecDepth 100000 in
set_option maxHeartbeats 4000000 in
theorem rParsePB (s : ByteArray) (hm : s.size ≤ 2000000) (w : World) : Calls Try.prog 10 #[.string s] w fun e w' => (∃ v, e = .returned (.tuple #[v, .int .i64 (errP s.data.toList)]) ∧ OwnT w.heap.size w' v (partsP s.data.toList)) ∧ Below w.heap.size w w' := by
  have C := Lib.hid (fun w => rCutPB s hm w)
  unfold hasCut at C
  unfold errP partsP
  cases hc : cutL s.data.toList with
  | none =>
    rw [hc] at C
    show Calls _ _ _ _ fun e w' => (∃ v, e = .returned (.tuple #[v, .int .i64 2]) ∧ OwnT w.heap.size w' v []) ∧ Below w.heap.size w w'
    rw [show (none : Option (List (List UInt8))).isSome = false from rfl] at C
    go_enter Try.func10, Try.ntmps10
    go_wp2_with fail
    refine (C.out _).mono ?_
    rintro e w1 ⟨⟨v, rfl, ho⟩, hb⟩
    have B1 := Lib.hid hb
    clear ho hb C
    go_wp2_with fail
    go_ret2
    exact ⟨⟨_, rfl, OwnT.nil _ _⟩, B1.out⟩
  | some q =>
    rw [hc] at C
    show Calls _ _ _ _ fun e w' => (∃ v, e = .returned (.tuple #[v, .int .i64 (errQ q)]) ∧ OwnT w.heap.size w' v (if errQ q = 0 then q else [])) ∧ Below w.heap.size w w'
    rw [show (some q).isSome = true from rfl, show (some q).getD [] = q from rfl] at C
    have hp := cut_partsB hm hc
    have hfew := hp.1
    have HE := Lib.hid hp.2
    have NM := Lib.hid (fun (T : ByteArray) (h : T.size ≤ 281474976710656) w => rName_any T h w)
    clear hc hp
    obtain ⟨E, hE⟩ : ∃ x, errQ q = x := ⟨_, rfl⟩
    have H := Lib.hid hE
    rw [hE]
    clear hE
    go_enter Try.func10, Try.ntmps10
    go_wp2_with fail
    refine (C.out _).mono ?_
    rintro e w1 ⟨⟨v, rfl, ho⟩, hb⟩
    have B1 := Lib.hid hb
    have O1 := Lib.hid ho
    obtain ⟨a, cap, rfl, hcap, hmx, hr⟩ := ho.reads
    have R := Lib.hid hr
    clear ho hb C hr hmx
    go_wp2_with fail
    go_loop [6] (fun i => ∃ k : Nat, k ≤ q.length ∧ i = .int .i64 k ∧ Hid ((q.take k).all goodB = true)) (fun i => q.length - (intOf i).toNat)
    case atStart => exact ⟨0, Nat.zero_le _, rfl, Lib.hid rfl⟩
    case round =>
      obtain ⟨k, hk, rfl, hok⟩ := hrel
      by_cases hlt : k < q.length
      · obtain ⟨g, rfl, c0⟩ := R.out.at hlt
        have hx := HE.out q[k] (List.getElem_mem hlt)
        have htk : (q.take (k + 1)) = q.take k ++ [q[k]] := List.take_succ_eq_append_getElem hlt
        have hmem : q[k] ∈ q := List.getElem_mem hlt
        obtain ⟨x, hxx⟩ : ∃ x, q[k] = x := ⟨_, rfl⟩
        rw [hxx] at c0 hx htk hmem
        obtain ⟨T, hT⟩ : ∃ T : ByteArray, ⟨x.toArray⟩ = T := ⟨_, rfl⟩
        have hTx : T.data.toList = x := by rw [← hT]
        have hTs : T.size ≤ 2000000 := by rw [← hT]; show x.toArray.size ≤ 2000000; simpa using hx
        have N := fun w => NM.out T (by omega) w
        rw [hTx] at N
        unfold tv at c0
        rw [hT] at c0
        clear hT hTx hxx hx
        cases hg : goodB x with
        | true =>
          rw [hg] at N
          have N := Lib.hid N
          have hok1 := Lib.hid (show (q.take (k + 1)).all goodB = true by rw [htk, List.all_append, hok.out]; simp [hg])
          clear hg htk hmem
          go_wp2_with fail
          refine (N.out _).mono ?_
          rintro e w2 ⟨rfl, rfl⟩
          go_wp2_with fail
          go_round
          case rel => exact ⟨k + 1, by omega, by go_num, hok1⟩
          case measure => simp [intOf]; omega
        | false =>
          rw [hg] at N
          have N := Lib.hid N
          have P := err_bad hmem hg
          rw [H.out] at P
          subst P
          clear hg htk hmem
          go_wp2_with fail
          refine (N.out _).mono ?_
          rintro e w2 ⟨rfl, rfl⟩
          go_wp2_with fail
          go_ret2
          exact ⟨⟨_, rfl, OwnT.nil _ _⟩, B1.out⟩
      · obtain rfl : k = q.length := by omega
        have hall : q.all goodB = true := by have := hok.out; rwa [List.take_length] at this
        by_cases h4 : q.length ≤ 4
        · have P := errQ_zero.2 ⟨hall, h4⟩
          rw [H.out] at P
          subst P
          have h4' : (q.length : Int) ≤ 4 := by omega
          clear hall h4
          go_wp2_with fail
          go_ret2
          exact ⟨⟨_, rfl, O1.out⟩, B1.out⟩
        · have P : errQ q = 4 := by unfold errQ; rw [if_pos hall, if_neg h4]
          rw [H.out] at P
          subst P
          have h4' : (4 : Int) < (q.length : Int) := by omega
          clear hall h4
          go_wp2_with fail
          go_ret2
          exact ⟨⟨_, rfl, OwnT.nil _ _⟩, B1.out⟩

end Go.Proofs.Ytlgkffcomnclnaa
