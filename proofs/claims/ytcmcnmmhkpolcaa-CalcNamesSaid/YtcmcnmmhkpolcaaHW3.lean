/-
  No statement: what these walks need, of earlier texts: RCut, RNode, RDec, RStamp.
-/
import Derived.Test.YtcmcnmmhkpolcaaHW2
import Derived.LoopTactic
import Derived.Deep.QuietTactic
import Derived.BigQuiet
import Derived.StillTailTactics
import Derived.Deep.RegionHeld3
import Derived.Lib.SliceRun
import Derived.Deep.LoopGhost
import Derived.Deep.Cut
import Derived.Test.YtcmcnmmhkpolcaaProg
import Derived.WalkKit
import Derived.WalkSpells
import Derived.IntWalk
import Derived.Lib.Hide
import Derived.RangeFuncBox
import Derived.Maps.AppendAt
import Derived.Laws.IdiomStrings
import Derived.RangeFuncRecord
import Derived.Deep.Slices
import Derived.Test.YtcmcnmmhkpolcaaShelf
import Derived.Deep.Fields
import Derived.ChangeSame
namespace Go.Proofs.Ytcmcnmmhkpolcaa.Wr
section
open Go.RowKit

theorem segs_snoc : ∀ l : List UInt8, ∃ q a, segs l = q ++ [a] ∧ segs (l ++ [47]) = q ++ [a] ++ [[]] ∧ ∀ c, ¬ c = 47 → segs (l ++ [c]) = q ++ [a ++ [c]]
  | [] => ⟨[], [], rfl, rfl, fun c hc => by rw [List.nil_append, segs_sign hc [] (a := []) (b := []) rfl]; rfl⟩
  | d :: l => by
    obtain ⟨q, a, h0, h1, h2⟩ := segs_snoc l
    by_cases hd : d = 47
    · subst hd
      refine ⟨[] :: q, a, ?_, ?_, fun c hc => ?_⟩
      · rw [segs_stroke, h0]; rfl
      · rw [List.cons_append, segs_stroke, h1]; rfl
      · rw [List.cons_append, segs_stroke, h2 c hc]; rfl
    · cases q with
      | nil =>
        refine ⟨[], d :: a, ?_, ?_, fun c hc => ?_⟩
        · rw [segs_sign hd l h0]; rfl
        · rw [List.cons_append, segs_sign hd _ h1]; rfl
        · rw [List.cons_append, segs_sign hd _ (h2 c hc)]; rfl
      | cons b q =>
        refine ⟨(d :: b) :: q, a, ?_, ?_, fun c hc => ?_⟩
        · rw [segs_sign hd l h0]; rfl
        · rw [List.cons_append, segs_sign hd _ h1]; rfl
        · rw [List.cons_append, segs_sign hd _ (h2 c hc)]; rfl

theorem segs_each : ∀ (l : List UInt8), ∀ x ∈ segs l, x.length ≤ l.length
  | [], x, h => by simp [segs] at h; subst h; simp
  | c :: l, x, h => by
    by_cases hc : c = 47
    · subst hc
      rw [segs_stroke] at h
      rcases List.mem_cons.1 h with rfl | h
      · simp
      · have := segs_each l x h; simp; omega
    · obtain ⟨a, q, e⟩ := segs_eq l
      rw [segs_sign hc l e] at h
      rcases List.mem_cons.1 h with rfl | h
      · have := segs_each l a (by rw [e]; simp); simp; omega
      · have := segs_each l x (by rw [e]; simp [h]); simp; omega

theorem segs_len (l : List UInt8) : (segs l).length ≤ l.length + 1 := by
  induction l with
  | nil => simp [segs]
  | cons c l ih =>
    by_cases h : c = 47
    · subst h; rw [segs_stroke]; simp; omega
    · obtain ⟨a, q, e⟩ := segs_eq l
      rw [segs_sign h l e]
      rw [e] at ih
      simp at ih ⊢; omega

/-- The parts, as values. -/
def segF (l : List UInt8) : List Value := (segs l).map tv

set_option maxRecDepth 100000 in
set_option maxHeartbeats 2000000 in
theorem rCut_any (s : ByteArray) (h1 : 2 ≤ s.size) (h0 : s[0] = 47) (hm : s.size ≤ 1000) (w : World) : Calls Try.prog 91 #[.string s] w fun e w' => (∃ v, e = .returned (.tuple #[v, .bool true]) ∧ w'.ownsRow w.heap.size 9 1 v (segF (s.data.toList.drop 1)).length (segF (s.data.toList.drop 1))) ∧ Below w.heap.size w w' := by
  have e0 : ((s[0].toNat : Int) != 47) = false := by rw [h0]; decide
  have e1 := not_empty (s := s) (by omega)
  have e2 := not_one h1 47
  have e3 : (s.toList == (⟨#[47]⟩ : ByteArray).toList) = false := by simpa [Lib.toList_data] using e2
  obtain ⟨B, hB⟩ : ∃ B, w.heap.size = B := ⟨_, rfl⟩
  obtain ⟨i0, hi0, hz0, hz1, hz2⟩ := info_parts infoStr
  have own0 : (w.alloc (.cells #[.string ⟨#[]⟩] 9)).ownsRow B 9 1 (.slice (some ⟨B, 0, none⟩) 1 1) (segF ((s.data.toList.take 1).drop 1)).length (segF ((s.data.toList.take 1).drop 1)) := by
    rw [show (s.data.toList.take 1).drop 1 = [] by simp]
    refine ⟨rfl, .inr ⟨B, 1, #[.string ⟨#[]⟩], rfl, by omega, by rw [← hB]; exact World.alloc_heap_new w _, Nat.le_refl _, by unfold maxLen; omega, rfl, rfl⟩⟩
  have O := Lib.hid own0
  have BL := Lib.hid (show Below B w (w.alloc (.cells #[.string ⟨#[]⟩] 9)) from (Below.refl _ _).alloc (by omega) _)
  clear h0 own0
  rw [hB]
  go_enter Try.func91, Try.ntmps91
  go_wp2_with fail
  go_loopw [4, 5] (fun v i wr => ∃ k : Nat, 1 ≤ k ∧ k ≤ s.size ∧ i = .int .i64 k ∧ Hid (wr.ownsRow B 9 1 v (segF ((s.data.toList.take k).drop 1)).length (segF ((s.data.toList.take k).drop 1))) ∧ Hid (Below B w wr)) (fun _ i _ => s.size - (intOf i).toNat)
  case atStart => exact ⟨1, Nat.le_refl _, by omega, rfl, O, BL⟩
  case round =>
    obtain ⟨k, hk1, hk, rfl, ho, hb⟩ := hrel
    have hbs : B ≤ wr.heap.size := by have := hb.out.size; omega
    by_cases hlt : k < s.size
    · obtain ⟨q, a, g0, g1, g2⟩ := segs_snoc ((s.data.toList.take k).drop 1)
      have hnx : (s.data.toList.take (k + 1)).drop 1 = (s.data.toList.take k).drop 1 ++ [s[k]] := by
        have hk' : k < s.data.toList.length := by simpa using hlt
        rw [List.take_succ_eq_append_getElem hk', List.drop_append_of_le_length (by simp; omega)]
        rfl
      have hql : q.length ≤ 1000 := by
        have := segs_len ((s.data.toList.take k).drop 1)
        rw [g0] at this
        simp at this; omega
      have hal : a.length ≤ 1000 := by
        have h := segs_each ((s.data.toList.take k).drop 1) a (by rw [g0]; simp)
        simp at h; omega
      have hoo := ho.out
      obtain ⟨Q, hQ⟩ : ∃ Q, q.map tv = Q := ⟨_, rfl⟩
      have hQl : Q.length ≤ 1000 := by rw [← hQ, List.length_map]; exact hql
      have hseg : segF ((s.data.toList.take k).drop 1) = Q ++ [tv a] := by unfold segF; rw [g0, List.map_append, hQ]; rfl
      rw [hseg] at hoo
      obtain ⟨N, hN⟩ : ∃ N, Q.length = N := ⟨_, rfl⟩
      rw [List.length_append, hN, show [tv a].length = 1 from rfl] at hoo
      obtain ⟨g, cap, rfl⟩ := ownsRow_succ hoo
      have HO := Lib.hid hoo
      rw [hN] at hQl
      by_cases hc : s[k] = 47
      · have hnew := Lib.hid (show segF ((s.data.toList.take (k + 1)).drop 1) = Q ++ [tv a] ++ [.string ⟨#[]⟩] by unfold segF; rw [hnx, hc, g1, List.map_append, List.map_append, hQ]; rfl)
        have hml := Lib.hid (show N + 1 + 1 ≤ maxLen by unfold maxLen; omega)
        have hlen := Lib.hid (show (Q ++ [tv a] ++ [Value.string ⟨#[]⟩]).length = N + 1 + 1 by simp [hN])
        have q47 : ((s[k].toNat : Int) == 47) = true := by rw [hc]; decide
        clear hoo g0 g1 g2 hnx hseg hQ hN hc hql ho
        go_wp2_with (at_builtin; refine wpList_append_own _ rfl _ _ 45 rfl B 9 i0 (.string ⟨#[]⟩) 1 16 Try.underlying45 hi0 hz0 hz1 hz2 rfl (by decide) _ _ _ rfl (HO.out.alloc _) ⟨wr.heap.size, 0, none⟩ 1 1 [.string ⟨#[]⟩] rfl rfl (cell_one_new _ _ _) (by simp [Value.oneCell']) hml.out (by omega) (by simp; omega) ?_; intro v2 w2 hown2 hgrow2 _; have O2 := Lib.hid hown2; have G2 := Lib.hid hgrow2; clear hown2 hgrow2)
        have hb2 := Lib.hid ((hb.out.alloc hbs _).grown G2.out (by simp; omega) (fun j e => by
            rcases HO.out.2 with ⟨h1, _⟩ | ⟨g, cap, cur, h1, hg, _⟩
            · rw [h1] at e; cases e
            · rw [h1] at e; cases e; exact hg))
        go_roundw
        case rel => exact ⟨k + 1, by omega, by omega, by go_num, Lib.hid (by rw [hnew.out, hlen.out]; exact O2.out), hb2⟩
        case measure => simp [intOf]; omega
      · have hnew := Lib.hid (show segF ((s.data.toList.take (k + 1)).drop 1) = (Q ++ [tv a]).set N (.string (⟨a.toArray⟩ ++ s.extract k (k + 1))) by
          unfold segF
          rw [hnx, g2 _ hc, List.map_append, hQ, text_more a s k hlt, List.set_append_right _ _ (by omega), hN, Nat.sub_self]
          rfl)
        have hlen := Lib.hid (show ((Q ++ [tv a]).set N (.string (⟨a.toArray⟩ ++ s.extract k (k + 1)))).length = N + 1 by simp [hN])
        have q47 : ((s[k].toNat : Int) == 47) = false := by
          rw [beq_eq_false_iff_ne]; intro e; apply hc
          apply UInt8.toNat_inj.1
          have : s[k].toNat = 47 := by omega
          rw [this]; rfl
        obtain ⟨c1, c2⟩ := own_cell HO.out (j := N) (v := tv a) (by rw [List.getElem?_append_right (by omega), hN, Nat.sub_self]; rfl)
        obtain ⟨O2, hBg⟩ := own_set HO.out N (by omega) (.string (⟨a.toArray⟩ ++ s.extract k (k + 1)))
        have O2 := Lib.hid O2
        obtain ⟨T, hT⟩ : ∃ T : ByteArray, ⟨a.toArray⟩ = T := ⟨_, rfl⟩
        have hTs : T.size ≤ 1000 := by rw [← hT]; show a.toArray.size ≤ 1000; simpa using hal
        have hb2 := Lib.hid (hb.out.setCell (p := ⟨g, N, none⟩) hBg (.string (⟨a.toArray⟩ ++ s.extract k (k + 1))))
        unfold tv at c1
        rw [hT] at c1 O2 hb2 hnew hlen
        clear hoo g0 g1 g2 hnx hseg hQ hN hc hql ho hal hT
        go_wp2_with fail
        have j1 : IntKind.i64.wrap (N : Int) = (N : Int) := IntWalk.i64_in _ (by omega)
        have j2 : IntKind.i64.wrap ((k : Int) + 1) = (k : Int) + 1 := IntWalk.i64_in _ (by omega)
        have j3 : (0 : Int) ≤ (k : Int) + 1 := by omega
        have j4 : ((k : Int) + 1).toNat = k + 1 := by omega
        have j5 : (0 : Int) ≤ (N : Int) := by omega
        have j6 : (N : Int) < (N : Int) + 1 := by omega
        have j7 : N < N + 1 := by omega
        have j8 : ((N : Int)).toNat = N := by omega
        have j9 : (N : Int) < ((N + 1 : Nat) : Int) := by omega
        have j10 : (k : Int) ≤ (k : Int) + 1 := by omega
        have j11 : (k : Int) + 1 ≤ (s.size : Int) := by omega
        have j12 : k ≤ k + 1 := by omega
        have j13 : k + 1 ≤ s.size := by omega
        have j14 : (0 : Int) ≤ (k : Int) := by omega
        have j15 : ((k : Int)).toNat = k := by omega
        obtain ⟨E, hE⟩ : ∃ E, s.extract k (k + 1) = E := ⟨_, rfl⟩
        have hEs : E.size ≤ 1 := by rw [← hE]; simp; omega
        rw [hE] at O2 hb2 hnew hlen
        have j16 : (9223372036854775807 < T.size + E.size) = False := by simp; omega
        go_still_tail 17, (by kernel_rfl)
        change wpList _ _ _ _ _ wr.drew
        go_wp2_with fail
        exact ⟨⟨k + 1, by omega, by omega, by go_num, Lib.hid (by rw [hnew.out, hlen.out]; exact ownsDrew O2.out), Lib.hid hb2.out.drew⟩, by simp [intOf]; omega⟩
    · obtain rfl : k = s.size := by omega
      rw [show (s.data.toList.take s.size).drop 1 = s.data.toList.drop 1 by rw [List.take_of_length_le (by simp)]] at ho
      obtain ⟨a1, cap1, rfl⟩ := row_slice' ho.out
      go_wp2_with fail
      go_ret2
      exact ⟨⟨_, rfl, ho.out⟩, hb.out⟩

end

section
open Go.RowKit

theorem node_at {s : ByteArray} (h : 1 ≤ s.size) (h0 : s[0] = 47) : nodeB s.data.toList = ((segs (s.data.toList.drop 1)).all goodB && decide ((segs (s.data.toList.drop 1)).length ≤ 4)) := by
  have hl : s.data.toList.length = s.size := by simp
  have h00 : s.data.toList[0]? = some s[0] := List.getElem?_eq_getElem (by omega)
  cases e : s.data.toList with
  | nil => rw [e] at hl; simp at hl; omega
  | cons c r =>
    rw [e] at h00
    have : c = s[0] := by simpa using h00
    rw [h0] at this
    subst this
    unfold nodeB
    rw [node_cons, List.drop_one, List.tail_cons]
    simp

/-- What Parse's error is. -/
def ParsesTo (s : ByteArray) (x : Int) : Prop := x = 0 ↔ nodeB s.data.toList = true

set_option maxRecDepth 100000 in
set_option maxHeartbeats 2000000 in
theorem rParse_any (s : ByteArray) (h1 : 2 ≤ s.size) (h0 : s[0] = 47) (hm : s.size ≤ 1000) (w : World) : Calls Try.prog 87 #[.string s] w fun e w' => (∃ v x, e = .returned (.tuple #[v, .int .i64 x]) ∧ ParsesTo s x) ∧ Below w.heap.size w w' := by
  have R := node_at (s := s) (by omega) h0
  have hlen := segs_len (s.data.toList.drop 1)
  have hsz : (s.data.toList.drop 1).length ≤ 1000 := by simp; omega
  have heach := segs_each (s.data.toList.drop 1)
  have hcut := fun w => rCut_any s h1 h0 hm w
  unfold segF at hcut
  obtain ⟨L, hL⟩ : ∃ L, segs (s.data.toList.drop 1) = L := ⟨_, rfl⟩
  have hne : 1 ≤ L.length := by
    rw [← hL]
    have := segs_ne (s.data.toList.drop 1)
    cases e : segs (s.data.toList.drop 1) with
    | nil => exact absurd e this
    | cons a b => simp
  rw [hL] at R hlen hcut heach
  have hLl : L.length ≤ 1001 := by omega
  have C := Lib.hid hcut
  have R := Lib.hid R
  have E := Lib.hid (show ∀ x ∈ L, x.length ≤ 1000 from fun x hx => Nat.le_trans (heach x hx) hsz)
  clear hL hlen hsz heach hcut h0
  obtain ⟨M, hM⟩ : ∃ M, (L.map tv).length = M + 1 := ⟨L.length - 1, by rw [List.length_map]; omega⟩
  have hM' : L.length = M + 1 := by rw [← hM, List.length_map]
  go_enter Try.func87, Try.ntmps87
  go_wp2_with fail
  refine (C.out _).mono ?_
  rintro e w1 ⟨⟨v, rfl, ho⟩, hb⟩
  rw [hM] at ho
  obtain ⟨g, cap, rfl⟩ := ownsRow_succ ho
  have HO := Lib.hid ho
  have HB := Lib.hid hb
  have HM := Lib.hid hM'
  have hMb : M ≤ 1000 := by omega
  clear ho hb C hM hM'
  go_wp2_with fail
  go_loop [6] (fun i => ∃ k : Nat, k ≤ M + 1 ∧ i = .int .i64 k ∧ Hid (∀ j x, j < k → L[j]? = some x → goodB x = true)) (fun i => M + 1 - (intOf i).toNat)
  case atStart => exact ⟨0, Nat.zero_le _, rfl, Lib.hid (fun j x h => by omega)⟩
  case round =>
    obtain ⟨k, hk, rfl, hok⟩ := hrel
    by_cases hlt : k < M + 1
    · obtain ⟨x, hx⟩ : ∃ x, L[k]? = some x := ⟨L[k]'(by rw [HM.out]; exact hlt), List.getElem?_eq_getElem _⟩
      obtain ⟨c1, -⟩ := own_cell HO.out (j := k) (v := tv x) (by rw [List.getElem?_map, hx]; rfl)
      have hxs : x.length ≤ 1000 := E.out x (List.mem_of_getElem? hx)
      obtain ⟨T, hT⟩ : ∃ T : ByteArray, ⟨x.toArray⟩ = T := ⟨_, rfl⟩
      have hTx : T.data.toList = x := by rw [← hT]
      have hTs : T.size ≤ 1000 := by rw [← hT]; show x.toArray.size ≤ 1000; simpa using hxs
      unfold tv at c1
      rw [hT] at c1
      have N := fun w => rName_any T (by omega) w
      rw [hTx] at N
      clear hT hTx hxs
      cases hg : goodB x with
      | true =>
        rw [hg] at N
        have N := Lib.hid N
        have hok1 := Lib.hid (show ∀ j y, j < k + 1 → L[j]? = some y → goodB y = true from fun j y hj hy => by
          by_cases e : j = k
          · subst e; rw [hx] at hy; cases hy; exact hg
          · exact hok.out j y (by omega) hy)
        clear hx hg
        go_wp2_with fail
        refine (N.out _).mono ?_
        rintro e w2 ⟨rfl, rfl⟩
        go_wp2_with fail
        go_round
        case rel => exact ⟨k + 1, by omega, by go_num, hok1⟩
        case measure => simp [intOf]; omega
      | false =>
        rw [hg] at N
        have N := Lib.hid N
        have P := Lib.hid (show ParsesTo s 2 from by
          refine ⟨fun h => absurd h (by decide), fun h => ?_⟩
          rw [R.out, Bool.and_eq_true, List.all_eq_true] at h
          have := h.1 x (List.mem_of_getElem? hx)
          rw [hg] at this; cases this)
        clear hx hg
        go_wp2_with fail
        refine (N.out _).mono ?_
        rintro e w2 ⟨rfl, rfl⟩
        go_wp2_with fail
        go_ret2
        exact ⟨⟨_, _, rfl, P.out⟩, HB.out⟩
    · have hall : L.all goodB = true := by
        rw [List.all_eq_true]
        intro x hx
        obtain ⟨j, hj, rfl⟩ := List.mem_iff_getElem.1 hx
        exact hok.out j _ (by rw [HM.out] at hj; omega) (List.getElem?_eq_getElem hj)
      by_cases h4 : M + 1 ≤ 4
      · have P := Lib.hid (show ParsesTo s 0 from ⟨fun _ => by rw [R.out, hall, HM.out, decide_eq_true h4]; rfl, fun _ => rfl⟩)
        clear hall
        go_wp2_with fail
        go_ret2
        exact ⟨⟨_, _, rfl, P.out⟩, HB.out⟩
      · have P := Lib.hid (show ParsesTo s 4 from by
          refine ⟨fun h => absurd h (by decide), fun h => ?_⟩
          rw [R.out, hall, HM.out, decide_eq_false h4] at h; cases h)
        clear hall
        go_wp2_with fail
        go_ret2
        exact ⟨⟨_, _, rfl, P.out⟩, HB.out⟩

theorem size_nil {s : ByteArray} (h : s.size = 0) : s = ⟨#[]⟩ := by
  cases s with | mk d => simp [ByteArray.size] at h; simp [h]

theorem node_not {s : ByteArray} (h : s.size = 0 ∨ ∃ h : 0 < s.size, ¬ s[0] = 47) : nodeB s.data.toList = false := by
  have hl : s.data.toList.length = s.size := by simp
  cases e : s.data.toList with
  | nil => rfl
  | cons c r =>
    rcases h with h | ⟨h, h'⟩
    · rw [e] at hl; simp at hl; omega
    · have h00 : s.data.toList[0]? = some s[0] := List.getElem?_eq_getElem (by omega)
      rw [e] at h00
      have : c = s[0] := by simpa using h00
      subst this
      unfold nodeB
      rw [node_cons, decide_eq_false h']; rfl

theorem not_stroke {c : UInt8} (h : ¬ c = 47) : ((c.toNat : Int) != 47) = true := by
  rw [bne_iff_ne]; intro e; apply h
  apply UInt8.toNat_inj.1
  have : c.toNat = 47 := by omega
  rw [this]; rfl

theorem rCut_none (s : ByteArray) (h : s.size = 0 ∨ ∃ h : 0 < s.size, ¬ s[0] = 47) (hm : s.size ≤ 1000) (w : World) : Calls Try.prog 91 #[.string s] w fun e w' => e = .returned (.tuple #[.slice none 0 0, .bool false]) ∧ w = w' := by
  rcases h with h | ⟨h, h'⟩
  · obtain rfl := size_nil h
    clear h hm
    go_enter Try.func91, Try.ntmps91
    go_wp2_with fail
    go_ret2
    exact ⟨rfl, rfl⟩
  · have e1 := not_empty (s := s) (by omega)
    have e0 := not_stroke h'
    clear h'
    go_enter Try.func91, Try.ntmps91
    go_wp2_with fail
    go_ret2
    exact ⟨rfl, rfl⟩

theorem rCut_root (w : World) : Calls Try.prog 91 #[.string ⟨#[47]⟩] w fun e w' => e = .returned (.tuple #[.slice none 0 0, .bool true]) ∧ w = w' := by
  go_enter Try.func91, Try.ntmps91
  go_wp2_with fail
  go_ret2
  exact ⟨rfl, rfl⟩

theorem rParse_none (s : ByteArray) (h : s.size = 0 ∨ ∃ h : 0 < s.size, ¬ s[0] = 47) (hm : s.size ≤ 1000) (w : World) : Calls Try.prog 87 #[.string s] w fun e w' => (∃ v x, e = .returned (.tuple #[v, .int .i64 x]) ∧ ParsesTo s x) ∧ Below w.heap.size w w' := by
  have P := Lib.hid (show ParsesTo s 2 from by
    refine ⟨fun h => absurd h (by decide), fun hn => ?_⟩
    rw [node_not h] at hn; cases hn)
  have C := Lib.hid (rCut_none s h hm)
  clear h
  go_enter Try.func87, Try.ntmps87
  go_wp2_with fail
  refine (C.out _).mono ?_
  rintro e w1 ⟨rfl, rfl⟩
  go_wp2_with fail
  go_ret2
  exact ⟨⟨_, _, rfl, P.out⟩, Below.refl _ _⟩

theorem rParse_root (w : World) : Calls Try.prog 87 #[.string ⟨#[47]⟩] w fun e w' => (∃ v, e = .returned (.tuple #[v, .int .i64 0])) ∧ w = w' := by
  go_enter Try.func87, Try.ntmps87
  go_wp2_with fail
  refine (rCut_root _).mono ?_
  rintro e w1 ⟨rfl, rfl⟩
  go_wp2_with fail
  go_loop [6] (fun i => i = .int .i64 0) (fun _ => 0)
  case atStart => rfl
  case round =>
    subst hrel
    go_wp2_with fail
    go_ret2
    exact ⟨⟨_, rfl⟩, rfl⟩

theorem rPath_node (s : ByteArray) (hs : ¬ s = ⟨#[47]⟩) (hm : s.size ≤ 1000) (w : World) : Calls Try.prog 73 #[.string s] w fun e w' => e = .returned (.bool (nodeB s.data.toList)) ∧ Below w.heap.size w w' := by
  have C : ∀ w, Calls Try.prog 87 #[.string s] w fun e w' => (∃ v x, e = .returned (.tuple #[v, .int .i64 x]) ∧ ParsesTo s x) ∧ Below w.heap.size w w' := by
    intro w
    by_cases h : s.size = 0 ∨ ∃ h : 0 < s.size, ¬ s[0] = 47
    · exact rParse_none s h hm w
    · have h0 : ¬ s.size = 0 := fun e => h (.inl e)
      have h47 : s[0]'(by omega) = 47 := Classical.byContradiction fun e => h (.inr ⟨by omega, e⟩)
      by_cases h2 : 2 ≤ s.size
      · exact rParse_any s h2 h47 hm w
      · exfalso; apply hs
        apply text_eq
        have hl : s.data.toList.length = s.size := by simp
        apply List.ext_getElem
        · simp; omega
        · intro i hi hi'
          have : i = 0 := by simp at hi'; exact hi'
          subst this
          exact h47
  have C := Lib.hid C
  clear hs
  go_enter Try.func73, Try.ntmps73
  go_wp2_with fail
  refine (C.out _).mono ?_
  rintro e w1 ⟨⟨v, x, rfl, hp⟩, hb⟩
  have HB := Lib.hid hb
  have HP := Lib.hid hp
  clear hb hp
  go_wp2_with fail
  go_ret
  refine ⟨ret_b (a := (x == 0)) ?_, HB.out⟩
  have := HP.out
  unfold ParsesTo at this
  cases hn : nodeB s.data.toList with
  | true => exact beq_iff_eq.2 (this.2 hn)
  | false =>
    rw [beq_eq_false_iff_ne]
    intro e
    rw [this.1 e] at hn; cases hn

theorem rPath_root (w : World) : Calls Try.prog 73 #[.string ⟨#[47]⟩] w fun e w' => e = .returned (.bool true) ∧ w = w' := by
  go_enter Try.func73, Try.ntmps73
  go_wp2_with fail
  refine (rParse_root _).mono ?_
  rintro e w1 ⟨⟨v, rfl⟩, rfl⟩
  go_wp2_with fail
  go_ret
  exact ⟨rfl, rfl⟩

theorem rNode_any (s : ByteArray) (hm : s.size ≤ 1000) (w : World) : Calls Try.prog 52 #[.string s] w fun e w' => e = .returned (.bool (nodeB s.data.toList)) ∧ Below w.heap.size w w' := by
  by_cases hs : s = ⟨#[47]⟩
  · subst hs
    rw [show nodeB (⟨#[47]⟩ : ByteArray).data.toList = false from rfl]
    go_enter Try.func52, Try.ntmps52
    go_wp2_with fail
    refine (rPath_root _).mono ?_
    rintro e w1 ⟨rfl, rfl⟩
    go_wp2_with fail
    go_ret
    exact ⟨rfl, Below.refl _ _⟩
  · have C := rPath_node s hs hm
    have q : (s.toList == [47]) = false := by
      rw [beq_eq_false_iff_ne, Lib.toList_data]; intro e; exact hs (text_eq e)
    obtain ⟨b, hb⟩ : ∃ b, nodeB s.data.toList = b := ⟨_, rfl⟩
    rw [hb] at C ⊢
    have C := Lib.hid C
    clear hb hs
    cases b with
    | true =>
      go_enter Try.func52, Try.ntmps52
      go_wp2_with fail
      refine (C.out _).mono ?_
      rintro e w1 ⟨rfl, hb⟩
      have HB := Lib.hid hb
      clear hb
      go_wp2_with fail
      go_ret
      exact ⟨rfl, HB.out⟩
    | false =>
      go_enter Try.func52, Try.ntmps52
      go_wp2_with fail
      refine (C.out _).mono ?_
      rintro e w1 ⟨rfl, hb⟩
      have HB := Lib.hid hb
      clear hb
      go_wp2_with fail
      go_ret
      exact ⟨rfl, HB.out⟩

end

section
open Go.RowKit

set_option maxHeartbeats 1000000 in
theorem of_any (k n : Int) (s : ByteArray) (a : Option Addr) (len cap : Nat) (w : World) : Calls Try.prog 31 #[val k n s (.slice a len cap)] w fun e w' => e = .returned (val k n s (.slice a len cap)) ∧ Below w.heap.size w w' := by
  unfold val
  go_enter Try.func31, Try.ntmps31
  go_wp2
  exact bodyPost_ret (v := .agg #[.int .i64 k, .int .i64 n, .string s, .slice a len cap]) (by simp [results, Try.results31, go_sem]) rfl ⟨rfl, ((Below.refl _ _).alloc (Nat.le_refl _) _).alloc (by simp) _⟩

end

section
open Go.RowKit

set_option maxHeartbeats 1000000 in
theorem rCheckStamp_any (t i q : Int) (o : ByteArray) (hm : o.size ≤ 1000) (w : World) : Calls Try.prog 39 #[stp t i q o] w fun e w' => e = .returned (.int .i64 (errS t i q o)) ∧ Below w.heap.size w w' := by
  have C1 := fun w => rIn_any t w
  have C2 := fun w => rIn_any i w
  have C3 := fun w => rIn_any q w
  have C4 := fun w => rNode_any o (by omega) w
  obtain ⟨b1, h1⟩ : ∃ b, countB t = b := ⟨_, rfl⟩
  obtain ⟨b2, h2⟩ : ∃ b, countB i = b := ⟨_, rfl⟩
  obtain ⟨b3, h3⟩ : ∃ b, countB q = b := ⟨_, rfl⟩
  obtain ⟨b4, h4⟩ : ∃ b, nodeB o.data.toList = b := ⟨_, rfl⟩
  unfold errS
  rw [h1] at C1 ⊢
  rw [h2] at C2 ⊢
  rw [h3] at C3 ⊢
  rw [h4] at C4 ⊢
  clear h1 h2 h3 h4
  have D1 := Lib.hid C1
  have D2 := Lib.hid C2
  have D3 := Lib.hid C3
  have D4 := Lib.hid C4
  clear C1 C2 C3 C4
  unfold stp
  cases b1 with
  | false =>
    go_enter Try.func39, Try.ntmps39
    go_wp2_with fail
    refine (D1.out _).mono ?_
    rintro e w1 ⟨rfl, rfl⟩
    go_wp2_with fail
    go_ret
    exact ⟨rfl, (Below.refl _ _).alloc (Nat.le_refl _) _⟩
  | true =>
    cases b2 with
    | false =>
      go_enter Try.func39, Try.ntmps39
      go_wp2_with fail
      refine (D1.out _).mono ?_
      rintro e w1 ⟨rfl, rfl⟩
      go_wp2_with fail
      refine (D2.out _).mono ?_
      rintro e w1 ⟨rfl, rfl⟩
      go_wp2_with fail
      go_ret
      exact ⟨rfl, (Below.refl _ _).alloc (Nat.le_refl _) _⟩
    | true =>
      cases b3 with
      | false =>
        go_enter Try.func39, Try.ntmps39
        go_wp2_with fail
        refine (D1.out _).mono ?_
        rintro e w1 ⟨rfl, rfl⟩
        go_wp2_with fail
        refine (D2.out _).mono ?_
        rintro e w1 ⟨rfl, rfl⟩
        go_wp2_with fail
        refine (D3.out _).mono ?_
        rintro e w1 ⟨rfl, rfl⟩
        go_wp2_with fail
        go_ret
        exact ⟨rfl, (Below.refl _ _).alloc (Nat.le_refl _) _⟩
      | true =>
        cases b4 with
        | false =>
          go_enter Try.func39, Try.ntmps39
          go_wp2_with fail
          refine (D1.out _).mono ?_
          rintro e w1 ⟨rfl, rfl⟩
          go_wp2_with fail
          refine (D2.out _).mono ?_
          rintro e w1 ⟨rfl, rfl⟩
          go_wp2_with fail
          refine (D3.out _).mono ?_
          rintro e w1 ⟨rfl, rfl⟩
          go_wp2_with fail
          refine (D4.out _).mono ?_
          rintro e w1 ⟨rfl, hb⟩
          have HB := Lib.hid hb
          clear hb
          go_wp2_with fail
          go_ret
          exact ⟨rfl, ((Below.refl _ _).alloc (Nat.le_refl _) _).trans (HB.out.mono (by simp))⟩
        | true =>
          go_enter Try.func39, Try.ntmps39
          go_wp2_with fail
          refine (D1.out _).mono ?_
          rintro e w1 ⟨rfl, rfl⟩
          go_wp2_with fail
          refine (D2.out _).mono ?_
          rintro e w1 ⟨rfl, rfl⟩
          go_wp2_with fail
          refine (D3.out _).mono ?_
          rintro e w1 ⟨rfl, rfl⟩
          go_wp2_with fail
          refine (D4.out _).mono ?_
          rintro e w1 ⟨rfl, hb⟩
          have HB := Lib.hid hb
          clear hb
          go_wp2_with fail
          go_ret
          exact ⟨rfl, ((Below.refl _ _).alloc (Nat.le_refl _) _).trans (HB.out.mono (by simp))⟩

end

end Go.Proofs.Ytcmcnmmhkpolcaa.Wr
