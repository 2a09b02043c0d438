/-
  No statement: the contract of the document's cut.
-/
import Derived.Test.YtfenfgbkphpboaaRPath
import Derived.Test.YtfenfgbkphpboaaTexts
import Derived.StillTailTactics
import Derived.LoopTactic
import Derived.IntWalk
import Derived.Maps.AppendAt
import Derived.RangeFuncBox
namespace Go.Proofs.Ytfenfgbkphpboaa
open Go.RowKit

theorem segs_snoc : ∀ l : List UInt8, ∃ q a, segs l = q ++ [a] ∧ segs (l ++ [47]) = q ++ [a] ++ [[]] ∧ ∀ c, ¬ c = 47 → segs (l ++ [c]) = q ++ [a ++ [c]]
  | [] => ⟨[], [], rfl, rfl, fun c hc => by rw [List.nil_append, segs_sign hc [] (a := []) (b := []) rfl]; rfl⟩
  | d :: l => by
    obtain ⟨q, a, h0, h1, h2⟩ := segs_snoc l
    by_cases hd : d = 47
    · subst hd
      refine ⟨[] :: q, a, ?_, ?_, fun c hc => ?_⟩
      · rw [segs_stroke, h0]; rfl
      · rw [List.cons_append, segs_stroke, h1]; rfl
      · rw [List.cons_append, segs_stroke, h2 c hc]; rfl
    · cases q with
      | nil =>
        refine ⟨[], d :: a, ?_, ?_, fun c hc => ?_⟩
        · rw [segs_sign hd l h0]; rfl
        · rw [List.cons_append, segs_sign hd _ h1]; rfl
        · rw [List.cons_append, segs_sign hd _ (h2 c hc)]; rfl
      | cons b q =>
        refine ⟨(d :: b) :: q, a, ?_, ?_, fun c hc => ?_⟩
        · rw [segs_sign hd l h0]; rfl
        · rw [List.cons_append, segs_sign hd _ h1]; rfl
        · rw [List.cons_append, segs_sign hd _ (h2 c hc)]; rfl

theorem segs_each : ∀ (l : List UInt8), ∀ x ∈ segs l, x.length ≤ l.length
  | [], x, h => by simp [segs] at h; subst h; simp
  | c :: l, x, h => by
    by_cases hc : c = 47
    · subst hc
      rw [segs_stroke] at h
      rcases List.mem_cons.1 h with rfl | h
      · simp
      · have := segs_each l x h; simp; omega
    · obtain ⟨a, q, e⟩ := segs_eq l
      rw [segs_sign hc l e] at h
      rcases List.mem_cons.1 h with rfl | h
      · have := segs_each l a (by rw [e]; simp); simp; omega
      · have := segs_each l x (by rw [e]; simp [h]); simp; omega

theorem segs_len (l : List UInt8) : (segs l).length ≤ l.length + 1 := by
  induction l with
  | nil => simp [segs]
  | cons c l ih =>
    by_cases h : c = 47
    · subst h; rw [segs_stroke]; simp; omega
    · obtain ⟨a, q, e⟩ := segs_eq l
      rw [segs_sign h l e]
      rw [e] at ih
      simp at ih ⊢; omega

/-- The parts, as values. -/
def segF (l : List UInt8) : List Value := (segs l).map tv

set_option maxRecDepth 100000 in
set_option maxHeartbeats 2000000 in
theorem rCut_any (s : ByteArray) (h1 : 2 ≤ s.size) (h0 : s[0] = 47) (hm : s.size ≤ 4000) (w : World) : Calls Try.prog 104 #[.string s] w fun e w' => (∃ v, e = .returned (.tuple #[v, .bool true]) ∧ w'.ownsRow w.heap.size 9 1 v (segF (s.data.toList.drop 1)).length (segF (s.data.toList.drop 1))) ∧ Below w.heap.size w w' := by
  have e0 : ((s[0].toNat : Int) != 47) = false := by rw [h0]; decide
  have e1 := not_empty (s := s) (by omega)
  have e2 := not_one h1 47
  have e3 : (s.toList == (⟨#[47]⟩ : ByteArray).toList) = false := by simpa [Lib.toList_data] using e2
  obtain ⟨B, hB⟩ : ∃ B, w.heap.size = B := ⟨_, rfl⟩
  obtain ⟨i0, hi0, hz0, hz1, hz2⟩ := info_parts infoStr
  have own0 : (w.alloc (.cells #[.string ⟨#[]⟩] 9)).ownsRow B 9 1 (.slice (some ⟨B, 0, none⟩) 1 1) (segF ((s.data.toList.take 1).drop 1)).length (segF ((s.data.toList.take 1).drop 1)) := by
    rw [show (s.data.toList.take 1).drop 1 = [] by simp]
    refine ⟨rfl, .inr ⟨B, 1, #[.string ⟨#[]⟩], rfl, by omega, by rw [← hB]; exact World.alloc_heap_new w _, Nat.le_refl _, by unfold maxLen; omega, rfl, rfl⟩⟩
  have O := Lib.hid own0
  have BL := Lib.hid (show Below B w (w.alloc (.cells #[.string ⟨#[]⟩] 9)) from (Below.refl _ _).alloc (by omega) _)
  clear h0 own0
  rw [hB]
  go_enter Try.func104, Try.ntmps104
  go_wp2_with fail
  go_loopw [4, 5] (fun v i wr => ∃ k : Nat, 1 ≤ k ∧ k ≤ s.size ∧ i = .int .i64 k ∧ Hid (wr.ownsRow B 9 1 v (segF ((s.data.toList.take k).drop 1)).length (segF ((s.data.toList.take k).drop 1))) ∧ Hid (Below B w wr)) (fun _ i _ => s.size - (intOf i).toNat)
  case atStart => exact ⟨1, Nat.le_refl _, by omega, rfl, O, BL⟩
  case round =>
    obtain ⟨k, hk1, hk, rfl, ho, hb⟩ := hrel
    have hbs : B ≤ wr.heap.size := by have := hb.out.size; omega
    by_cases hlt : k < s.size
    · obtain ⟨q, a, g0, g1, g2⟩ := segs_snoc ((s.data.toList.take k).drop 1)
      have hnx : (s.data.toList.take (k + 1)).drop 1 = (s.data.toList.take k).drop 1 ++ [s[k]] := by
        have hk' : k < s.data.toList.length := by simpa using hlt
        rw [List.take_succ_eq_append_getElem hk', List.drop_append_of_le_length (by simp; omega)]
        rfl
      have hql : q.length ≤ 4000 := by
        have := segs_len ((s.data.toList.take k).drop 1)
        rw [g0] at this
        simp at this; omega
      have hal : a.length ≤ 4000 := by
        have h := segs_each ((s.data.toList.take k).drop 1) a (by rw [g0]; simp)
        simp at h; omega
      have hoo := ho.out
      obtain ⟨Q, hQ⟩ : ∃ Q, q.map tv = Q := ⟨_, rfl⟩
      have hQl : Q.length ≤ 4000 := by rw [← hQ, List.length_map]; exact hql
      have hseg : segF ((s.data.toList.take k).drop 1) = Q ++ [tv a] := by unfold segF; rw [g0, List.map_append, hQ]; rfl
      rw [hseg] at hoo
      obtain ⟨N, hN⟩ : ∃ N, Q.length = N := ⟨_, rfl⟩
      rw [List.length_append, hN, show [tv a].length = 1 from rfl] at hoo
      obtain ⟨g, cap, rfl⟩ := ownsRow_succ hoo
      have HO := Lib.hid hoo
      rw [hN] at hQl
      by_cases hc : s[k] = 47
      · have hnew := Lib.hid (show segF ((s.data.toList.take (k + 1)).drop 1) = Q ++ [tv a] ++ [.string ⟨#[]⟩] by unfold segF; rw [hnx, hc, g1, List.map_append, List.map_append, hQ]; rfl)
        have hml := Lib.hid (show N + 1 + 1 ≤ maxLen by unfold maxLen; omega)
        have hlen := Lib.hid (show (Q ++ [tv a] ++ [Value.string ⟨#[]⟩]).length = N + 1 + 1 by simp [hN])
        have q47 : ((s[k].toNat : Int) == 47) = true := by rw [hc]; decide
        clear hoo g0 g1 g2 hnx hseg hQ hN hc hql ho
        go_wp2_with (at_builtin; refine wpList_append_own _ rfl _ _ 121 rfl B 9 i0 (.string ⟨#[]⟩) 1 16 Try.underlying121 hi0 hz0 hz1 hz2 rfl (by decide) _ _ _ rfl (HO.out.alloc _) ⟨wr.heap.size, 0, none⟩ 1 1 [.string ⟨#[]⟩] rfl rfl (cell_one_new _ _ _) (by simp [Value.oneCell']) hml.out (by omega) (by simp; omega) ?_; intro v2 w2 hown2 hgrow2 _; have O2 := Lib.hid hown2; have G2 := Lib.hid hgrow2; clear hown2 hgrow2)
        have hb2 := Lib.hid ((hb.out.alloc hbs _).grown G2.out (by simp; omega) (fun j e => by
            rcases HO.out.2 with ⟨h1, _⟩ | ⟨g, cap, cur, h1, hg, _⟩
            · rw [h1] at e; cases e
            · rw [h1] at e; cases e; exact hg))
        go_roundw
        case rel => exact ⟨k + 1, by omega, by omega, by go_num, Lib.hid (by rw [hnew.out, hlen.out]; exact O2.out), hb2⟩
        case measure => simp [intOf]; omega
      · have hnew := Lib.hid (show segF ((s.data.toList.take (k + 1)).drop 1) = (Q ++ [tv a]).set N (.string (⟨a.toArray⟩ ++ s.extract k (k + 1))) by
          unfold segF
          rw [hnx, g2 _ hc, List.map_append, hQ, text_more a s k hlt, List.set_append_right _ _ (by omega), hN, Nat.sub_self]
          rfl)
        have hlen := Lib.hid (show ((Q ++ [tv a]).set N (.string (⟨a.toArray⟩ ++ s.extract k (k + 1)))).length = N + 1 by simp [hN])
        have q47 : ((s[k].toNat : Int) == 47) = false := by
          rw [beq_eq_false_iff_ne]; intro e; apply hc
          apply UInt8.toNat_inj.1
          have : s[k].toNat = 47 := by omega
          rw [this]; rfl
        obtain ⟨c1, c2⟩ := own_cell HO.out (j := N) (v := tv a) (by rw [List.getElem?_append_right (by omega), hN, Nat.sub_self]; rfl)
        obtain ⟨O2, hBg⟩ := own_set HO.out N (by omega) (.string (⟨a.toArray⟩ ++ s.extract k (k + 1)))
        have O2 := Lib.hid O2
        obtain ⟨T, hT⟩ : ∃ T : ByteArray, ⟨a.toArray⟩ = T := ⟨_, rfl⟩
        have hTs : T.size ≤ 4000 := by rw [← hT]; show a.toArray.size ≤ 4000; simpa using hal
        have hb2 := Lib.hid (hb.out.setCell (p := ⟨g, N, none⟩) hBg (.string (⟨a.toArray⟩ ++ s.extract k (k + 1))))
        unfold tv at c1
        rw [hT] at c1 O2 hb2 hnew hlen
        clear hoo g0 g1 g2 hnx hseg hQ hN hc hql ho hal hT
        go_wp2_with fail
        have j1 : IntKind.i64.wrap (N : Int) = (N : Int) := IntWalk.i64_in _ (by omega)
        have j2 : IntKind.i64.wrap ((k : Int) + 1) = (k : Int) + 1 := IntWalk.i64_in _ (by omega)
        have j3 : (0 : Int) ≤ (k : Int) + 1 := by omega
        have j4 : ((k : Int) + 1).toNat = k + 1 := by omega
        have j5 : (0 : Int) ≤ (N : Int) := by omega
        have j6 : (N : Int) < (N : Int) + 1 := by omega
        have j7 : N < N + 1 := by omega
        have j8 : ((N : Int)).toNat = N := by omega
        have j9 : (N : Int) < ((N + 1 : Nat) : Int) := by omega
        have j10 : (k : Int) ≤ (k : Int) + 1 := by omega
        have j11 : (k : Int) + 1 ≤ (s.size : Int) := by omega
        have j12 : k ≤ k + 1 := by omega
        have j13 : k + 1 ≤ s.size := by omega
        have j14 : (0 : Int) ≤ (k : Int) := by omega
        have j15 : ((k : Int)).toNat = k := by omega
        obtain ⟨E, hE⟩ : ∃ E, s.extract k (k + 1) = E := ⟨_, rfl⟩
        have hEs : E.size ≤ 1 := by rw [← hE]; simp; omega
        rw [hE] at O2 hb2 hnew hlen
        have j16 : (9223372036854775807 < T.size + E.size) = False := by simp; omega
        go_still_tail 17, (by kernel_rfl)
        change wpList _ _ _ _ _ wr.drew
        go_wp2_with fail
        exact ⟨⟨k + 1, by omega, by omega, by go_num, Lib.hid (by rw [hnew.out, hlen.out]; exact ownsDrew O2.out), Lib.hid hb2.out.drew⟩, by simp [intOf]; omega⟩
    · obtain rfl : k = s.size := by omega
      rw [show (s.data.toList.take s.size).drop 1 = s.data.toList.drop 1 by rw [List.take_of_length_le (by simp)]] at ho
      obtain ⟨a1, cap1, rfl⟩ := row_slice' ho.out
      go_wp2_with fail
      go_ret2
      exact ⟨⟨_, rfl, ho.out⟩, hb.out⟩

end Go.Proofs.Ytfenfgbkphpboaa
