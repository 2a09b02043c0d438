/-
  No statement: the document's Check, whole.
-/
import Derived.Test.YtpdobbdbmgeoiaaApp
import Derived.Test.YtpdobbdbmgeoiaaProg
import Derived.WalkKit
import Derived.WalkSpells
import Derived.IntWalk
import Derived.Lib.Hide
import Derived.RangeFuncBox
import Derived.Test.YtpdobbdbmgeoiaaRPath
import Derived.StillTailTactics
import Derived.LoopTactic
import Derived.Maps.AppendAt
import Derived.Test.YtpdobbdbmgeoiaaVCmp
import Derived.Laws.IdiomStrings
import Derived.Test.YtpdobbdbmgeoiaaSCmp
import Derived.RangeFuncRecord
import Derived.Deep.RegionHeld3
import Derived.Test.YtpdobbdbmgeoiaaVCheck
import Derived.Test.YtpdobbdbmgeoiaaWSame
import Derived.Deep.QuietTactic
import Derived.BigQuiet
set_option linter.unusedVariables false
set_option linter.unusedSimpArgs false

namespace Go.Proofs.Ytpdobbdbmgeoiaa
open Go.RowKit

/-- A text as a value. -/
abbrev tv (l : List UInt8) : Value := .string ⟨l.toArray⟩

theorem own_set {w : World} {e : TypeId} {B g n c : Nat} {xs : List Value} (h : w.ownsRow B e 1 (.slice (some ⟨g, 0, none⟩) n c) n xs) (i : Nat) (_hi : i < n) (u : Value) :
    (w.setCell ⟨g, i, none⟩ u).ownsRow B e 1 (.slice (some ⟨g, 0, none⟩) n c) n (xs.set i u) ∧ B ≤ g := by
  refine ⟨⟨by rw [List.length_set]; exact h.1, ?_⟩, ?_⟩
  · rcases h.2 with ⟨h1, _⟩ | ⟨g', cap', cur, h1, hb, hg, hn, hm, hs, ht⟩
    · simp at h1
    · simp only [Value.slice.injEq, Option.some.injEq, Addr.mk.injEq] at h1
      obtain ⟨⟨rfl, -⟩, -, rfl⟩ := h1
      refine .inr ⟨g, c, cur.setIfInBounds i u, rfl, hb, heap_setCell_same w g i cur e u hg, hn, hm, by simpa using hs, ?_⟩
      rw [← ht]
      simp [List.take_set]
  · rcases h.2 with ⟨h1, _⟩ | ⟨g', cap', cur, h1, hb, _⟩
    · simp at h1
    · simp only [Value.slice.injEq, Option.some.injEq, Addr.mk.injEq] at h1
      obtain ⟨⟨rfl, -⟩, -, rfl⟩ := h1
      exact hb

theorem own_base {w : World} {e : TypeId} {B g n c : Nat} {xs : List Value} (h : w.ownsRow B e 1 (.slice (some ⟨g, 0, none⟩) n c) n xs) : B ≤ g := by
  rcases h.2 with ⟨h1, _⟩ | ⟨g', cap', cur, h1, hb, _⟩
  · simp at h1
  · simp only [Value.slice.injEq, Option.some.injEq, Addr.mk.injEq] at h1
    obtain ⟨⟨rfl, -⟩, -, rfl⟩ := h1
    exact hb

theorem own_cell {w : World} {e : TypeId} {B g n c : Nat} {xs : List Value} (h : w.ownsRow B e 1 (.slice (some ⟨g, 0, none⟩) n c) n xs) {j : Nat} {v : Value} (hj : xs[j]? = some v) : w.cell? ⟨g, j, none⟩ = some v ∧ w.frozen? ⟨g, j, none⟩ = false := by
  rcases h.2 with ⟨h1, _⟩ | ⟨g', cap', cur, h1, hb, hg, hn, hm, hs, ht⟩
  · simp at h1
  · simp only [Value.slice.injEq, Option.some.injEq, Addr.mk.injEq] at h1
    obtain ⟨⟨rfl, -⟩, -, rfl⟩ := h1
    rw [Nat.mul_one] at ht
    exact ⟨owns_cell hg ht hj, frozen_of_row w g j _ _ hg⟩

theorem row_slice' {W : World} {base : Nat} {e : TypeId} {size : Nat} {v : Value} {k : Nat} {xs : List Value} (h : W.ownsRow base e size v k xs) : ∃ a cap, v = .slice a k cap := by
  rcases h.2 with ⟨rfl, rfl⟩ | ⟨g, cap, _, rfl, _⟩
  · exact ⟨_, _, rfl⟩
  · exact ⟨_, _, rfl⟩

theorem infoStr : (Try.prog.info? 9).map (fun i => (i.zero, i.size, i.bytes)) = some (some (.string ⟨#[]⟩), 1, 16) := by kernel_rfl

/-- A byte behind a text. -/
theorem text_more (a : List UInt8) (s : ByteArray) (k : Nat) (hk : k < s.size) : (⟨a.toArray⟩ : ByteArray) ++ s.extract k (k + 1) = ⟨(a ++ [s[k]]).toArray⟩ := by
  apply text_eq
  have h : (s.extract k (k + 1)).data.toList = [s[k]] := by
    rw [ByteArray.data_extract, Array.toList_extract]
    show (s.data.toList.drop k).take (k + 1 - k) = _
    rw [List.drop_eq_getElem_cons (by simpa using hk), show k + 1 - k = 1 by omega]
    rfl
  show (_ ++ _ : ByteArray).data.toList = _
  rw [ByteArray.data_append, Array.toList_append, h]

end Go.Proofs.Ytpdobbdbmgeoiaa

namespace Go.Proofs.Ytpdobbdbmgeoiaa
open Go.RowKit

theorem segs_snoc : ∀ l : List UInt8, ∃ q a, segs l = q ++ [a] ∧ segs (l ++ [47]) = q ++ [a] ++ [[]] ∧ ∀ c, ¬ c = 47 → segs (l ++ [c]) = q ++ [a ++ [c]]
  | [] => ⟨[], [], rfl, rfl, fun c hc => by rw [List.nil_append, segs_sign hc [] (a := []) (b := []) rfl]; rfl⟩
  | d :: l => by
    obtain ⟨q, a, h0, h1, h2⟩ := segs_snoc l
    by_cases hd : d = 47
    · subst hd
      refine ⟨[] :: q, a, ?_, ?_, fun c hc => ?_⟩
      · rw [segs_stroke, h0]; rfl
      · rw [List.cons_append, segs_stroke, h1]; rfl
      · rw [List.cons_append, segs_stroke, h2 c hc]; rfl
    · cases q with
      | nil =>
        refine ⟨[], d :: a, ?_, ?_, fun c hc => ?_⟩
        · rw [segs_sign hd l h0]; rfl
        · rw [List.cons_append, segs_sign hd _ h1]; rfl
        · rw [List.cons_append, segs_sign hd _ (h2 c hc)]; rfl
      | cons b q =>
        refine ⟨(d :: b) :: q, a, ?_, ?_, fun c hc => ?_⟩
        · rw [segs_sign hd l h0]; rfl
        · rw [List.cons_append, segs_sign hd _ h1]; rfl
        · rw [List.cons_append, segs_sign hd _ (h2 c hc)]; rfl

theorem segs_each : ∀ (l : List UInt8), ∀ x ∈ segs l, x.length ≤ l.length
  | [], x, h => by simp [segs] at h; subst h; simp
  | c :: l, x, h => by
    by_cases hc : c = 47
    · subst hc
      rw [segs_stroke] at h
      rcases List.mem_cons.1 h with rfl | h
      · simp
      · have := segs_each l x h; simp; omega
    · obtain ⟨a, q, e⟩ := segs_eq l
      rw [segs_sign hc l e] at h
      rcases List.mem_cons.1 h with rfl | h
      · have := segs_each l a (by rw [e]; simp); simp; omega
      · have := segs_each l x (by rw [e]; simp [h]); simp; omega

theorem segs_len (l : List UInt8) : (segs l).length ≤ l.length + 1 := by
  induction l with
  | nil => simp [segs]
  | cons c l ih =>
    by_cases h : c = 47
    · subst h; rw [segs_stroke]; simp; omega
    · obtain ⟨a, q, e⟩ := segs_eq l
      rw [segs_sign h l e]
      rw [e] at ih
      simp at ih ⊢; omega

/-- The parts, as values. -/
def segF (l : List UInt8) : List Value := (segs l).map tv

set_option maxRecDepth 100000 in
set_option maxHeartbeats 2000000 in
theorem rCut_any (s : ByteArray) (h1 : 2 ≤ s.size) (h0 : s[0] = 47) (hm : s.size ≤ 4000) (w : World) : Calls Try.prog 75 #[.string s] w fun e w' => (∃ v, e = .returned (.tuple #[v, .bool true]) ∧ w'.ownsRow w.heap.size 9 1 v (segF (s.data.toList.drop 1)).length (segF (s.data.toList.drop 1))) ∧ Below w.heap.size w w' := by
  have e0 : ((s[0].toNat : Int) != 47) = false := by rw [h0]; decide
  have e1 := not_empty (s := s) (by omega)
  have e2 := not_one h1 47
  have e3 : (s.toList == (⟨#[47]⟩ : ByteArray).toList) = false := by simpa [Lib.toList_data] using e2
  obtain ⟨B, hB⟩ : ∃ B, w.heap.size = B := ⟨_, rfl⟩
  obtain ⟨i0, hi0, hz0, hz1, hz2⟩ := info_parts infoStr
  have own0 : (w.alloc (.cells #[.string ⟨#[]⟩] 9)).ownsRow B 9 1 (.slice (some ⟨B, 0, none⟩) 1 1) (segF ((s.data.toList.take 1).drop 1)).length (segF ((s.data.toList.take 1).drop 1)) := by
    rw [show (s.data.toList.take 1).drop 1 = [] by simp]
    refine ⟨rfl, .inr ⟨B, 1, #[.string ⟨#[]⟩], rfl, by omega, by rw [← hB]; exact World.alloc_heap_new w _, Nat.le_refl _, by unfold maxLen; omega, rfl, rfl⟩⟩
  have O := Lib.hid own0
  have BL := Lib.hid (show Below B w (w.alloc (.cells #[.string ⟨#[]⟩] 9)) from (Below.refl _ _).alloc (by omega) _)
  clear h0 own0
  rw [hB]
  go_enter Try.func75, Try.ntmps75
  go_wp2_with fail
  go_loopw [4, 5] (fun v i wr => ∃ k : Nat, 1 ≤ k ∧ k ≤ s.size ∧ i = .int .i64 k ∧ Hid (wr.ownsRow B 9 1 v (segF ((s.data.toList.take k).drop 1)).length (segF ((s.data.toList.take k).drop 1))) ∧ Hid (Below B w wr)) (fun _ i _ => s.size - (intOf i).toNat)
  case atStart => exact ⟨1, Nat.le_refl _, by omega, rfl, O, BL⟩
  case round =>
    obtain ⟨k, hk1, hk, rfl, ho, hb⟩ := hrel
    have hbs : B ≤ wr.heap.size := by have := hb.out.size; omega
    by_cases hlt : k < s.size
    · obtain ⟨q, a, g0, g1, g2⟩ := segs_snoc ((s.data.toList.take k).drop 1)
      have hnx : (s.data.toList.take (k + 1)).drop 1 = (s.data.toList.take k).drop 1 ++ [s[k]] := by
        have hk' : k < s.data.toList.length := by simpa using hlt
        rw [List.take_succ_eq_append_getElem hk', List.drop_append_of_le_length (by simp; omega)]
        rfl
      have hql : q.length ≤ 4000 := by
        have := segs_len ((s.data.toList.take k).drop 1)
        rw [g0] at this
        simp at this; omega
      have hal : a.length ≤ 4000 := by
        have h := segs_each ((s.data.toList.take k).drop 1) a (by rw [g0]; simp)
        simp at h; omega
      have hoo := ho.out
      obtain ⟨Q, hQ⟩ : ∃ Q, q.map tv = Q := ⟨_, rfl⟩
      have hQl : Q.length ≤ 4000 := by rw [← hQ, List.length_map]; exact hql
      have hseg : segF ((s.data.toList.take k).drop 1) = Q ++ [tv a] := by unfold segF; rw [g0, List.map_append, hQ]; rfl
      rw [hseg] at hoo
      obtain ⟨N, hN⟩ : ∃ N, Q.length = N := ⟨_, rfl⟩
      rw [List.length_append, hN, show [tv a].length = 1 from rfl] at hoo
      obtain ⟨g, cap, rfl⟩ := ownsRow_succ hoo
      have HO := Lib.hid hoo
      rw [hN] at hQl
      by_cases hc : s[k] = 47
      · have hnew := Lib.hid (show segF ((s.data.toList.take (k + 1)).drop 1) = Q ++ [tv a] ++ [.string ⟨#[]⟩] by unfold segF; rw [hnx, hc, g1, List.map_append, List.map_append, hQ]; rfl)
        have hml := Lib.hid (show N + 1 + 1 ≤ maxLen by unfold maxLen; omega)
        have hlen := Lib.hid (show (Q ++ [tv a] ++ [Value.string ⟨#[]⟩]).length = N + 1 + 1 by simp [hN])
        have q47 : ((s[k].toNat : Int) == 47) = true := by rw [hc]; decide
        clear hoo g0 g1 g2 hnx hseg hQ hN hc hql ho
        go_wp2_with (at_builtin; refine wpList_append_own _ rfl _ _ 112 rfl B 9 i0 (.string ⟨#[]⟩) 1 16 Try.underlying112 hi0 hz0 hz1 hz2 rfl (by decide) _ _ _ rfl (HO.out.alloc _) ⟨wr.heap.size, 0, none⟩ 1 1 [.string ⟨#[]⟩] rfl rfl (cell_one_new _ _ _) (by simp [Value.oneCell']) hml.out (by omega) (by simp; omega) ?_; intro v2 w2 hown2 hgrow2 _; have O2 := Lib.hid hown2; have G2 := Lib.hid hgrow2; clear hown2 hgrow2)
        have hb2 := Lib.hid ((hb.out.alloc hbs _).grown G2.out (by simp; omega) (fun j e => by
            rcases HO.out.2 with ⟨h1, _⟩ | ⟨g, cap, cur, h1, hg, _⟩
            · rw [h1] at e; cases e
            · rw [h1] at e; cases e; exact hg))
        go_roundw
        case rel => exact ⟨k + 1, by omega, by omega, by go_num, Lib.hid (by rw [hnew.out, hlen.out]; exact O2.out), hb2⟩
        case measure => simp [intOf]; omega
      · have hnew := Lib.hid (show segF ((s.data.toList.take (k + 1)).drop 1) = (Q ++ [tv a]).set N (.string (⟨a.toArray⟩ ++ s.extract k (k + 1))) by
          unfold segF
          rw [hnx, g2 _ hc, List.map_append, hQ, text_more a s k hlt, List.set_append_right _ _ (by omega), hN, Nat.sub_self]
          rfl)
        have hlen := Lib.hid (show ((Q ++ [tv a]).set N (.string (⟨a.toArray⟩ ++ s.extract k (k + 1)))).length = N + 1 by simp [hN])
        have q47 : ((s[k].toNat : Int) == 47) = false := by
          rw [beq_eq_false_iff_ne]; intro e; apply hc
          apply UInt8.toNat_inj.1
          have : s[k].toNat = 47 := by omega
          rw [this]; rfl
        obtain ⟨c1, c2⟩ := own_cell HO.out (j := N) (v := tv a) (by rw [List.getElem?_append_right (by omega), hN, Nat.sub_self]; rfl)
        obtain ⟨O2, hBg⟩ := own_set HO.out N (by omega) (.string (⟨a.toArray⟩ ++ s.extract k (k + 1)))
        have O2 := Lib.hid O2
        obtain ⟨T, hT⟩ : ∃ T : ByteArray, ⟨a.toArray⟩ = T := ⟨_, rfl⟩
        have hTs : T.size ≤ 4000 := by rw [← hT]; show a.toArray.size ≤ 4000; simpa using hal
        have hb2 := Lib.hid (hb.out.setCell (p := ⟨g, N, none⟩) hBg (.string (⟨a.toArray⟩ ++ s.extract k (k + 1))))
        unfold tv at c1
        rw [hT] at c1 O2 hb2 hnew hlen
        clear hoo g0 g1 g2 hnx hseg hQ hN hc hql ho hal hT
        go_wp2_with fail
        have j1 : IntKind.i64.wrap (N : Int) = (N : Int) := IntWalk.i64_in _ (by omega)
        have j2 : IntKind.i64.wrap ((k : Int) + 1) = (k : Int) + 1 := IntWalk.i64_in _ (by omega)
        have j3 : (0 : Int) ≤ (k : Int) + 1 := by omega
        have j4 : ((k : Int) + 1).toNat = k + 1 := by omega
        have j5 : (0 : Int) ≤ (N : Int) := by omega
        have j6 : (N : Int) < (N : Int) + 1 := by omega
        have j7 : N < N + 1 := by omega
        have j8 : ((N : Int)).toNat = N := by omega
        have j9 : (N : Int) < ((N + 1 : Nat) : Int) := by omega
        have j10 : (k : Int) ≤ (k : Int) + 1 := by omega
        have j11 : (k : Int) + 1 ≤ (s.size : Int) := by omega
        have j12 : k ≤ k + 1 := by omega
        have j13 : k + 1 ≤ s.size := by omega
        have j14 : (0 : Int) ≤ (k : Int) := by omega
        have j15 : ((k : Int)).toNat = k := by omega
        obtain ⟨E, hE⟩ : ∃ E, s.extract k (k + 1) = E := ⟨_, rfl⟩
        have hEs : E.size ≤ 1 := by rw [← hE]; simp; omega
        rw [hE] at O2 hb2 hnew hlen
        have j16 : (9223372036854775807 < T.size + E.size) = False := by simp; omega
        go_still_tail 17, (by kernel_rfl)
        change wpList _ _ _ _ _ wr.drew
        go_wp2_with fail
        exact ⟨⟨k + 1, by omega, by omega, by go_num, Lib.hid (by rw [hnew.out, hlen.out]; exact ownsDrew O2.out), Lib.hid hb2.out.drew⟩, by simp [intOf]; omega⟩
    · obtain rfl : k = s.size := by omega
      rw [show (s.data.toList.take s.size).drop 1 = s.data.toList.drop 1 by rw [List.take_of_length_le (by simp)]] at ho
      obtain ⟨a1, cap1, rfl⟩ := row_slice' ho.out
      go_wp2_with fail
      go_ret2
      exact ⟨⟨_, rfl, ho.out⟩, hb.out⟩

end Go.Proofs.Ytpdobbdbmgeoiaa

namespace Go.Proofs.Ytpdobbdbmgeoiaa
open Go.RowKit

theorem node_at {s : ByteArray} (h : 1 ≤ s.size) (h0 : s[0] = 47) : nodeB s.data.toList = ((segs (s.data.toList.drop 1)).all goodB && decide ((segs (s.data.toList.drop 1)).length ≤ 4)) := by
  have hl : s.data.toList.length = s.size := by simp
  have h00 : s.data.toList[0]? = some s[0] := List.getElem?_eq_getElem (by omega)
  cases e : s.data.toList with
  | nil => rw [e] at hl; simp at hl; omega
  | cons c r =>
    rw [e] at h00
    have : c = s[0] := by simpa using h00
    rw [h0] at this
    subst this
    unfold nodeB
    rw [node_cons, List.drop_one, List.tail_cons]
    simp

/-- What Parse's error is. -/
def ParsesTo (s : ByteArray) (x : Int) : Prop := x = 0 ↔ nodeB s.data.toList = true

set_option maxRecDepth 100000 in
set_option maxHeartbeats 2000000 in
theorem rParse_any (s : ByteArray) (h1 : 2 ≤ s.size) (h0 : s[0] = 47) (hm : s.size ≤ 4000) (w : World) : Calls Try.prog 64 #[.string s] w fun e w' => (∃ v x, e = .returned (.tuple #[v, .int .i64 x]) ∧ ParsesTo s x) ∧ Below w.heap.size w w' := by
  have R := node_at (s := s) (by omega) h0
  have hlen := segs_len (s.data.toList.drop 1)
  have hsz : (s.data.toList.drop 1).length ≤ 4000 := by simp; omega
  have heach := segs_each (s.data.toList.drop 1)
  have hcut := fun w => rCut_any s h1 h0 hm w
  unfold segF at hcut
  obtain ⟨L, hL⟩ : ∃ L, segs (s.data.toList.drop 1) = L := ⟨_, rfl⟩
  have hne : 1 ≤ L.length := by
    rw [← hL]
    have := segs_ne (s.data.toList.drop 1)
    cases e : segs (s.data.toList.drop 1) with
    | nil => exact absurd e this
    | cons a b => simp
  rw [hL] at R hlen hcut heach
  have hLl : L.length ≤ 4001 := by omega
  have C := Lib.hid hcut
  have R := Lib.hid R
  have E := Lib.hid (show ∀ x ∈ L, x.length ≤ 4000 from fun x hx => Nat.le_trans (heach x hx) hsz)
  clear hL hlen hsz heach hcut h0
  obtain ⟨M, hM⟩ : ∃ M, (L.map tv).length = M + 1 := ⟨L.length - 1, by rw [List.length_map]; omega⟩
  have hM' : L.length = M + 1 := by rw [← hM, List.length_map]
  go_enter Try.func64, Try.ntmps64
  go_wp2_with fail
  refine (C.out _).mono ?_
  rintro e w1 ⟨⟨v, rfl, ho⟩, hb⟩
  rw [hM] at ho
  obtain ⟨g, cap, rfl⟩ := ownsRow_succ ho
  have HO := Lib.hid ho
  have HB := Lib.hid hb
  have HM := Lib.hid hM'
  have hMb : M ≤ 4000 := by omega
  clear ho hb C hM hM'
  go_wp2_with fail
  go_loop [6] (fun i => ∃ k : Nat, k ≤ M + 1 ∧ i = .int .i64 k ∧ Hid (∀ j x, j < k → L[j]? = some x → goodB x = true)) (fun i => M + 1 - (intOf i).toNat)
  case atStart => exact ⟨0, Nat.zero_le _, rfl, Lib.hid (fun j x h => by omega)⟩
  case round =>
    obtain ⟨k, hk, rfl, hok⟩ := hrel
    by_cases hlt : k < M + 1
    · obtain ⟨x, hx⟩ : ∃ x, L[k]? = some x := ⟨L[k]'(by rw [HM.out]; exact hlt), List.getElem?_eq_getElem _⟩
      obtain ⟨c1, -⟩ := own_cell HO.out (j := k) (v := tv x) (by rw [List.getElem?_map, hx]; rfl)
      have hxs : x.length ≤ 4000 := E.out x (List.mem_of_getElem? hx)
      obtain ⟨T, hT⟩ : ∃ T : ByteArray, ⟨x.toArray⟩ = T := ⟨_, rfl⟩
      have hTx : T.data.toList = x := by rw [← hT]
      have hTs : T.size ≤ 4000 := by rw [← hT]; show x.toArray.size ≤ 4000; simpa using hxs
      unfold tv at c1
      rw [hT] at c1
      have N := fun w => rName_any T (by omega) w
      rw [hTx] at N
      clear hT hTx hxs
      cases hg : goodB x with
      | true =>
        rw [hg] at N
        have N := Lib.hid N
        have hok1 := Lib.hid (show ∀ j y, j < k + 1 → L[j]? = some y → goodB y = true from fun j y hj hy => by
          by_cases e : j = k
          · subst e; rw [hx] at hy; cases hy; exact hg
          · exact hok.out j y (by omega) hy)
        clear hx hg
        go_wp2_with fail
        refine (N.out _).mono ?_
        rintro e w2 ⟨rfl, rfl⟩
        go_wp2_with fail
        go_round
        case rel => exact ⟨k + 1, by omega, by go_num, hok1⟩
        case measure => simp [intOf]; omega
      | false =>
        rw [hg] at N
        have N := Lib.hid N
        have P := Lib.hid (show ParsesTo s 2 from by
          refine ⟨fun h => absurd h (by decide), fun h => ?_⟩
          rw [R.out, Bool.and_eq_true, List.all_eq_true] at h
          have := h.1 x (List.mem_of_getElem? hx)
          rw [hg] at this; cases this)
        clear hx hg
        go_wp2_with fail
        refine (N.out _).mono ?_
        rintro e w2 ⟨rfl, rfl⟩
        go_wp2_with fail
        go_ret2
        exact ⟨⟨_, _, rfl, P.out⟩, HB.out⟩
    · have hall : L.all goodB = true := by
        rw [List.all_eq_true]
        intro x hx
        obtain ⟨j, hj, rfl⟩ := List.mem_iff_getElem.1 hx
        exact hok.out j _ (by rw [HM.out] at hj; omega) (List.getElem?_eq_getElem hj)
      by_cases h4 : M + 1 ≤ 4
      · have P := Lib.hid (show ParsesTo s 0 from ⟨fun _ => by rw [R.out, hall, HM.out, decide_eq_true h4]; rfl, fun _ => rfl⟩)
        clear hall
        go_wp2_with fail
        go_ret2
        exact ⟨⟨_, _, rfl, P.out⟩, HB.out⟩
      · have P := Lib.hid (show ParsesTo s 4 from by
          refine ⟨fun h => absurd h (by decide), fun h => ?_⟩
          rw [R.out, hall, HM.out, decide_eq_false h4] at h; cases h)
        clear hall
        go_wp2_with fail
        go_ret2
        exact ⟨⟨_, _, rfl, P.out⟩, HB.out⟩

theorem size_nil {s : ByteArray} (h : s.size = 0) : s = ⟨#[]⟩ := by
  cases s with | mk d => simp [ByteArray.size] at h; simp [h]

theorem node_not {s : ByteArray} (h : s.size = 0 ∨ ∃ h : 0 < s.size, ¬ s[0] = 47) : nodeB s.data.toList = false := by
  have hl : s.data.toList.length = s.size := by simp
  cases e : s.data.toList with
  | nil => rfl
  | cons c r =>
    rcases h with h | ⟨h, h'⟩
    · rw [e] at hl; simp at hl; omega
    · have h00 : s.data.toList[0]? = some s[0] := List.getElem?_eq_getElem (by omega)
      rw [e] at h00
      have : c = s[0] := by simpa using h00
      subst this
      unfold nodeB
      rw [node_cons, decide_eq_false h']; rfl

theorem not_stroke {c : UInt8} (h : ¬ c = 47) : ((c.toNat : Int) != 47) = true := by
  rw [bne_iff_ne]; intro e; apply h
  apply UInt8.toNat_inj.1
  have : c.toNat = 47 := by omega
  rw [this]; rfl

theorem rCut_none (s : ByteArray) (h : s.size = 0 ∨ ∃ h : 0 < s.size, ¬ s[0] = 47) (hm : s.size ≤ 4000) (w : World) : Calls Try.prog 75 #[.string s] w fun e w' => e = .returned (.tuple #[.slice none 0 0, .bool false]) ∧ w = w' := by
  rcases h with h | ⟨h, h'⟩
  · obtain rfl := size_nil h
    clear h hm
    go_enter Try.func75, Try.ntmps75
    go_wp2_with fail
    go_ret2
    exact ⟨rfl, rfl⟩
  · have e1 := not_empty (s := s) (by omega)
    have e0 := not_stroke h'
    clear h'
    go_enter Try.func75, Try.ntmps75
    go_wp2_with fail
    go_ret2
    exact ⟨rfl, rfl⟩

theorem rCut_root (w : World) : Calls Try.prog 75 #[.string ⟨#[47]⟩] w fun e w' => e = .returned (.tuple #[.slice none 0 0, .bool true]) ∧ w = w' := by
  go_enter Try.func75, Try.ntmps75
  go_wp2_with fail
  go_ret2
  exact ⟨rfl, rfl⟩

theorem rParse_none (s : ByteArray) (h : s.size = 0 ∨ ∃ h : 0 < s.size, ¬ s[0] = 47) (hm : s.size ≤ 4000) (w : World) : Calls Try.prog 64 #[.string s] w fun e w' => (∃ v x, e = .returned (.tuple #[v, .int .i64 x]) ∧ ParsesTo s x) ∧ Below w.heap.size w w' := by
  have P := Lib.hid (show ParsesTo s 2 from by
    refine ⟨fun h => absurd h (by decide), fun hn => ?_⟩
    rw [node_not h] at hn; cases hn)
  have C := Lib.hid (rCut_none s h hm)
  clear h
  go_enter Try.func64, Try.ntmps64
  go_wp2_with fail
  refine (C.out _).mono ?_
  rintro e w1 ⟨rfl, rfl⟩
  go_wp2_with fail
  go_ret2
  exact ⟨⟨_, _, rfl, P.out⟩, Below.refl _ _⟩

theorem rParse_root (w : World) : Calls Try.prog 64 #[.string ⟨#[47]⟩] w fun e w' => (∃ v, e = .returned (.tuple #[v, .int .i64 0])) ∧ w = w' := by
  go_enter Try.func64, Try.ntmps64
  go_wp2_with fail
  refine (rCut_root _).mono ?_
  rintro e w1 ⟨rfl, rfl⟩
  go_wp2_with fail
  go_loop [6] (fun i => i = .int .i64 0) (fun _ => 0)
  case atStart => rfl
  case round =>
    subst hrel
    go_wp2_with fail
    go_ret2
    exact ⟨⟨_, rfl⟩, rfl⟩

theorem rPath_node (s : ByteArray) (hs : ¬ s = ⟨#[47]⟩) (hm : s.size ≤ 4000) (w : World) : Calls Try.prog 44 #[.string s] w fun e w' => e = .returned (.bool (nodeB s.data.toList)) ∧ Below w.heap.size w w' := by
  have C : ∀ w, Calls Try.prog 64 #[.string s] w fun e w' => (∃ v x, e = .returned (.tuple #[v, .int .i64 x]) ∧ ParsesTo s x) ∧ Below w.heap.size w w' := by
    intro w
    by_cases h : s.size = 0 ∨ ∃ h : 0 < s.size, ¬ s[0] = 47
    · exact rParse_none s h hm w
    · have h0 : ¬ s.size = 0 := fun e => h (.inl e)
      have h47 : s[0]'(by omega) = 47 := Classical.byContradiction fun e => h (.inr ⟨by omega, e⟩)
      by_cases h2 : 2 ≤ s.size
      · exact rParse_any s h2 h47 hm w
      · exfalso; apply hs
        apply text_eq
        have hl : s.data.toList.length = s.size := by simp
        apply List.ext_getElem
        · simp; omega
        · intro i hi hi'
          have : i = 0 := by simp at hi'; exact hi'
          subst this
          exact h47
  have C := Lib.hid C
  clear hs
  go_enter Try.func44, Try.ntmps44
  go_wp2_with fail
  refine (C.out _).mono ?_
  rintro e w1 ⟨⟨v, x, rfl, hp⟩, hb⟩
  have HB := Lib.hid hb
  have HP := Lib.hid hp
  clear hb hp
  go_wp2_with fail
  go_ret
  refine ⟨ret_b (a := (x == 0)) ?_, HB.out⟩
  have := HP.out
  unfold ParsesTo at this
  cases hn : nodeB s.data.toList with
  | true => exact beq_iff_eq.2 (this.2 hn)
  | false =>
    rw [beq_eq_false_iff_ne]
    intro e
    rw [this.1 e] at hn; cases hn

theorem rPath_root (w : World) : Calls Try.prog 44 #[.string ⟨#[47]⟩] w fun e w' => e = .returned (.bool true) ∧ w = w' := by
  go_enter Try.func44, Try.ntmps44
  go_wp2_with fail
  refine (rParse_root _).mono ?_
  rintro e w1 ⟨⟨v, rfl⟩, rfl⟩
  go_wp2_with fail
  go_ret
  exact ⟨rfl, rfl⟩

theorem rNode_any (s : ByteArray) (hm : s.size ≤ 4000) (w : World) : Calls Try.prog 26 #[.string s] w fun e w' => e = .returned (.bool (nodeB s.data.toList)) ∧ Below w.heap.size w w' := by
  by_cases hs : s = ⟨#[47]⟩
  · subst hs
    rw [show nodeB (⟨#[47]⟩ : ByteArray).data.toList = false from rfl]
    go_enter Try.func26, Try.ntmps26
    go_wp2_with fail
    refine (rPath_root _).mono ?_
    rintro e w1 ⟨rfl, rfl⟩
    go_wp2_with fail
    go_ret
    exact ⟨rfl, Below.refl _ _⟩
  · have C := rPath_node s hs hm
    have q : (s.toList == [47]) = false := by
      rw [beq_eq_false_iff_ne, Lib.toList_data]; intro e; exact hs (text_eq e)
    obtain ⟨b, hb⟩ : ∃ b, nodeB s.data.toList = b := ⟨_, rfl⟩
    rw [hb] at C ⊢
    have C := Lib.hid C
    clear hb hs
    cases b with
    | true =>
      go_enter Try.func26, Try.ntmps26
      go_wp2_with fail
      refine (C.out _).mono ?_
      rintro e w1 ⟨rfl, hb⟩
      have HB := Lib.hid hb
      clear hb
      go_wp2_with fail
      go_ret
      exact ⟨rfl, HB.out⟩
    | false =>
      go_enter Try.func26, Try.ntmps26
      go_wp2_with fail
      refine (C.out _).mono ?_
      rintro e w1 ⟨rfl, hb⟩
      have HB := Lib.hid hb
      clear hb
      go_wp2_with fail
      go_ret
      exact ⟨rfl, HB.out⟩

end Go.Proofs.Ytpdobbdbmgeoiaa

namespace Go.Proofs.Ytpdobbdbmgeoiaa
open Go.RowKit

set_option maxHeartbeats 1000000 in
theorem of2_any (k n : Int) (s : ByteArray) (a : Option Addr) (len cap : Nat) (w : World) : Calls Try.prog 47 #[val k n s (.slice a len cap)] w fun e w' => e = .returned (val k n s (.slice a len cap)) ∧ Below w.heap.size w w' := by
  unfold val
  go_enter Try.func47, Try.ntmps47
  go_wp2
  exact bodyPost_ret (v := .agg #[.int .i64 k, .int .i64 n, .string s, .slice a len cap]) (by simp [results, Try.results47, go_sem]) rfl ⟨rfl, ((Below.refl _ _).alloc (Nat.le_refl _) _).alloc (by simp) _⟩

end Go.Proofs.Ytpdobbdbmgeoiaa

namespace Go.Proofs.Ytpdobbdbmgeoiaa
open Go.RowKit

set_option maxHeartbeats 1000000 in
theorem rCheckStamp_any (t i q : Int) (o : ByteArray) (hm : o.size ≤ 4000) (w : World) : Calls Try.prog 30 #[stp t i q o] w fun e w' => e = .returned (.int .i64 (errS t i q o)) ∧ Below w.heap.size w w' := by
  have C1 := fun w => rIn_any t w
  have C2 := fun w => rIn_any i w
  have C3 := fun w => rIn_any q w
  have C4 := fun w => rNode_any o (by omega) w
  obtain ⟨b1, h1⟩ : ∃ b, countB t = b := ⟨_, rfl⟩
  obtain ⟨b2, h2⟩ : ∃ b, countB i = b := ⟨_, rfl⟩
  obtain ⟨b3, h3⟩ : ∃ b, countB q = b := ⟨_, rfl⟩
  obtain ⟨b4, h4⟩ : ∃ b, nodeB o.data.toList = b := ⟨_, rfl⟩
  unfold errS
  rw [h1] at C1 ⊢
  rw [h2] at C2 ⊢
  rw [h3] at C3 ⊢
  rw [h4] at C4 ⊢
  clear h1 h2 h3 h4
  have D1 := Lib.hid C1
  have D2 := Lib.hid C2
  have D3 := Lib.hid C3
  have D4 := Lib.hid C4
  clear C1 C2 C3 C4
  unfold stp
  cases b1 with
  | false =>
    go_enter Try.func30, Try.ntmps30
    go_wp2_with fail
    refine (D1.out _).mono ?_
    rintro e w1 ⟨rfl, rfl⟩
    go_wp2_with fail
    go_ret
    exact ⟨rfl, (Below.refl _ _).alloc (Nat.le_refl _) _⟩
  | true =>
    cases b2 with
    | false =>
      go_enter Try.func30, Try.ntmps30
      go_wp2_with fail
      refine (D1.out _).mono ?_
      rintro e w1 ⟨rfl, rfl⟩
      go_wp2_with fail
      refine (D2.out _).mono ?_
      rintro e w1 ⟨rfl, rfl⟩
      go_wp2_with fail
      go_ret
      exact ⟨rfl, (Below.refl _ _).alloc (Nat.le_refl _) _⟩
    | true =>
      cases b3 with
      | false =>
        go_enter Try.func30, Try.ntmps30
        go_wp2_with fail
        refine (D1.out _).mono ?_
        rintro e w1 ⟨rfl, rfl⟩
        go_wp2_with fail
        refine (D2.out _).mono ?_
        rintro e w1 ⟨rfl, rfl⟩
        go_wp2_with fail
        refine (D3.out _).mono ?_
        rintro e w1 ⟨rfl, rfl⟩
        go_wp2_with fail
        go_ret
        exact ⟨rfl, (Below.refl _ _).alloc (Nat.le_refl _) _⟩
      | true =>
        cases b4 with
        | false =>
          go_enter Try.func30, Try.ntmps30
          go_wp2_with fail
          refine (D1.out _).mono ?_
          rintro e w1 ⟨rfl, rfl⟩
          go_wp2_with fail
          refine (D2.out _).mono ?_
          rintro e w1 ⟨rfl, rfl⟩
          go_wp2_with fail
          refine (D3.out _).mono ?_
          rintro e w1 ⟨rfl, rfl⟩
          go_wp2_with fail
          refine (D4.out _).mono ?_
          rintro e w1 ⟨rfl, hb⟩
          have HB := Lib.hid hb
          clear hb
          go_wp2_with fail
          go_ret
          exact ⟨rfl, ((Below.refl _ _).alloc (Nat.le_refl _) _).trans (HB.out.mono (by simp))⟩
        | true =>
          go_enter Try.func30, Try.ntmps30
          go_wp2_with fail
          refine (D1.out _).mono ?_
          rintro e w1 ⟨rfl, rfl⟩
          go_wp2_with fail
          refine (D2.out _).mono ?_
          rintro e w1 ⟨rfl, rfl⟩
          go_wp2_with fail
          refine (D3.out _).mono ?_
          rintro e w1 ⟨rfl, rfl⟩
          go_wp2_with fail
          refine (D4.out _).mono ?_
          rintro e w1 ⟨rfl, hb⟩
          have HB := Lib.hid hb
          clear hb
          go_wp2_with fail
          go_ret
          exact ⟨rfl, ((Below.refl _ _).alloc (Nat.le_refl _) _).trans (HB.out.mono (by simp))⟩

end Go.Proofs.Ytpdobbdbmgeoiaa

namespace Go.Proofs.Ytpdobbdbmgeoiaa
open Go.RowKit

set_option maxRecDepth 100000 in
set_option maxHeartbeats 2000000 in
theorem rCheck_any (k n : Int) (s : ByteArray) (hm : s.size ≤ 281474976710656) (a : Option Addr) (len cap : Nat) (z : Nat → Int) (w : World) (hr : Reads w a len z) :
    Calls Try.prog 31 #[val k n s (.slice a len cap)] w fun e w' => e = .returned (.int .i64 (errV k s len z)) ∧ Below w.heap.size w w' := by
  unfold val
  by_cases h1 : k = 1
  · subst h1
    go_enter Try.func31, Try.ntmps31
    go_wp2_with fail
    go_ret
    exact ⟨rfl, (Below.refl _ _).alloc (Nat.le_refl _) _⟩
  have h1' : (k == 1) = false := by simpa using h1
  by_cases h2 : k = 2
  · subst h2
    have hlen : s.data.toList.length = s.size := by simp
    rw [show errV 2 s len z = errT s.data.toList from rfl]
    by_cases hl : 64 < s.size
    · have R := Lib.hid (show errT s.data.toList = 4 by unfold errT; rw [hlen, if_pos hl])
      clear hr hlen h1 h1'
      go_enter Try.func31, Try.ntmps31
      go_wp2
      go_ret
      exact ⟨ret_i64 R.out.symm, (Below.refl _ _).alloc (Nat.le_refl _) _⟩
    · have R := Lib.hid (show errT s.data.toList = if s.data.toList.any badB then 2 else 0 by unfold errT; rw [hlen, if_neg hl])
      clear hlen hr h1 h1'
      go_enter Try.func31, Try.ntmps31
      go_wp2
      go_loop [3] (fun i => ∃ k : Nat, k ≤ s.size ∧ i = .int .i64 k ∧ Hid (∀ j (hj : j < s.size), j < k → badB s[j] = false)) (fun i => s.size - (intOf i).toNat)
      case atStart => exact ⟨0, Nat.zero_le _, rfl, Lib.hid (fun j _ h => by omega)⟩
      case round =>
        obtain ⟨k, hk, rfl, hok⟩ := hrel
        by_cases hlt : k < s.size
        · obtain ⟨c, hc⟩ : ∃ c : Int, (s[k].toNat : Int) = c := ⟨_, rfl⟩
          have hb : badB s[k] = (decide (c < 32) || decide (126 < c) || decide (c = 34)) := by unfold badB; rw [hc]
          have hcase : c < 32 ∨ 126 < c ∨ c = 34 ∨ (32 ≤ c ∧ c ≤ 126 ∧ ¬ c = 34) := by omega
          rcases hcase with h1 | h1 | h1 | ⟨h1, h2, h3⟩
          · have h2 := h1
            have R2 := Lib.hid (R.out.trans (by rw [if_pos (anyT_yes hlt (by rw [hb]; first | (simp; done) | (simp; omega)))]))
            clear hb R hok
            go_wp2
            go_ret
            exact ⟨ret_i64 R2.out.symm, (Below.refl _ _).alloc (Nat.le_refl _) _⟩
          · have h2 : ¬ c < 32 := by omega
            have R2 := Lib.hid (R.out.trans (by rw [if_pos (anyT_yes hlt (by rw [hb]; first | (simp; done) | (simp; omega)))]))
            clear hb R hok
            go_wp2
            go_ret
            exact ⟨ret_i64 R2.out.symm, (Below.refl _ _).alloc (Nat.le_refl _) _⟩
          · subst h1
            have R2 := Lib.hid (R.out.trans (by rw [if_pos (anyT_yes hlt (by rw [hb]; first | (simp; done) | (simp; omega)))]))
            clear hb R hok
            go_wp2
            go_ret
            exact ⟨ret_i64 R2.out.symm, (Below.refl _ _).alloc (Nat.le_refl _) _⟩
          · have hok1 := Lib.hid (show ∀ j (hj : j < s.size), j < k + 1 → badB s[j] = false from fun j hj hjk => by
              by_cases e : j = k
              · subst e; rw [hb]; simp; omega
              · exact hok.out j hj (by omega))
            have h4 : (c == 34) = false := by simpa using h3
            clear hb h3
            go_wp2
            go_round
            case rel => exact ⟨k + 1, by omega, by go_num, hok1⟩
            case measure => simp [intOf]; omega
        · go_wp2
          go_ret
          exact ⟨ret_i64 (by rw [R.out, anyT fun j hj => hok.out j hj (by omega)]; rfl), (Below.refl _ _).alloc (Nat.le_refl _) _⟩
  have h2' : (k == 2) = false := by simpa using h2
  by_cases h3 : k = 3
  · subst h3
    rw [show errV 3 s len z = errL (upTo z len) from rfl]
    obtain ⟨hmax, hr⟩ := hr
    unfold maxLen at hmax
    have hlen := upTo_len z len
    by_cases hl : 16 < len
    · have R := Lib.hid (show errL (upTo z len) = 4 by unfold errL; rw [hlen, if_pos hl])
      clear hr hlen h1 h1' h2 h2'
      go_enter Try.func31, Try.ntmps31
      go_wp2
      go_ret
      exact ⟨ret_i64 R.out.symm, (Below.refl _ _).alloc (Nat.le_refl _) _⟩
    · have R := Lib.hid (show errL (upTo z len) = if risesB (upTo z len) then 0 else 2 by unfold errL; rw [hlen, if_neg hl])
      clear hlen h1 h1' h2 h2'
      obtain ⟨W0, hW0⟩ : ∃ W0, w.alloc (.cells #[.int .i64 3, .int .i64 n, .string s, .slice a len cap] 63) = W0 := ⟨_, rfl⟩
      have hbl : Below w.heap.size w W0 := by rw [← hW0]; exact (Below.refl _ _).alloc (Nat.le_refl _) _
      have BL := Lib.hid hbl
      rcases hr with rfl | ⟨b, off, rfl, hc⟩
      · clear hbl hW0
        go_enter Try.func31, Try.ntmps31
        go_wp2
        go_loop [4] (fun i => i = .int .i64 1) (fun _ => 0)
        case atStart => rfl
        case round =>
          subst hrel
          go_wp2
          go_ret
          exact ⟨ret_i64 (by rw [R.out]; rfl), (Below.refl _ _).alloc (Nat.le_refl _) _⟩
      · have hcc := Lib.hid (show ∀ j, j < len → W0.cell? ⟨b, off + j, none⟩ = some (.int .i64 (z j)) from fun j hj => (hbl.cell (p := ⟨b, off + j, none⟩) (World.block_lt_of_cell? w _ (hc j hj))).trans (hc j hj))
        subst hW0
        clear hc hbl
        go_enter Try.func31, Try.ntmps31
        go_wp2
        go_loopw [4] (fun i wr => ∃ k : Nat, 1 ≤ k ∧ (k ≤ len ∨ k = 1) ∧ i = .int .i64 k ∧ Hid (∀ j, j + 1 < k → j + 1 < len → z j < z (j + 1)) ∧ Hid (∃ n0, wr = (w.alloc (.cells #[.int .i64 3, .int .i64 n, .string s, .slice (some ⟨b, off, none⟩) len cap] 63)).drewN n0)) (fun i _ => len - (intOf i).toNat)
        case atStart => exact ⟨1, Nat.le_refl _, .inr rfl, rfl, Lib.hid (fun j h => by omega), Lib.hid ⟨0, rfl⟩⟩
        case round =>
          obtain ⟨k, h1, hk, rfl, hok, hw⟩ := hrel
          obtain ⟨n0, rfl⟩ := hw.out
          by_cases hlt : k < len
          · have c1 := hcc.out k hlt
            have c0 := hcc.out (k - 1) (by omega)
            have e1 : IntKind.i64.wrap ((k : Int) - 1) = (k : Int) - 1 := IntWalk.i64_in _ (by omega)
            have e2 : 0 ≤ (k : Int) - 1 := by omega
            have e3 : ((k : Int) - 1).toNat = k - 1 := by omega
            have e4 : (k : Int) - 1 < len := by omega
            by_cases hz : z k ≤ z (k - 1)
            · have hno := Lib.hid (show ¬ risesB (upTo z len) = true from fun h => by
                have := rises_upTo.1 h (k - 1) (by omega)
                rw [show k - 1 + 1 = k by omega] at this
                omega)
              go_wp2
              go_quiet (fail)
              clear e1 e2 e3 e4
              go_wp2
              go_ret
              exact ⟨ret_i64 (by rw [R.out, if_neg hno.out]), BL.out.trans ⟨rfl, rfl, rfl, Nat.le_refl _, fun _ _ => rfl⟩⟩
            · have hok1 := Lib.hid (show ∀ j, j + 1 < k + 1 → j + 1 < len → z j < z (j + 1) from fun j hj hl => by
                by_cases e : j + 1 = k
                · rw [e, show j = k - 1 by omega]; omega
                · exact hok.out j (by omega) hl)
              go_wp2
              go_quiet (fail)
              clear e1 e2 e3 e4
              go_wp2
              go_roundw
              case rel => exact ⟨k + 1, by omega, .inl (by omega), by go_num, hok1, Lib.hid ⟨_, rfl⟩⟩
              case measure => simp [intOf]; omega
          · go_wp2
            go_ret
            exact ⟨ret_i64 (by rw [R.out, if_pos (rises_upTo.2 fun j hj => hok.out j (by omega) hj)]), BL.out.trans ⟨rfl, rfl, rfl, Nat.le_refl _, fun _ _ => rfl⟩⟩
  have h3' : (k == 3) = false := by simpa using h3
  have R := Lib.hid (show errV k s len z = 7 by unfold errV; rw [if_neg h1, if_neg h2, if_neg h3])
  clear h1 h2 h3 hr
  go_enter Try.func31, Try.ntmps31
  go_wp2_with fail
  go_ret
  exact ⟨ret_i64 R.out.symm, (Below.refl _ _).alloc (Nat.le_refl _) _⟩

end Go.Proofs.Ytpdobbdbmgeoiaa

namespace Go.Proofs.Ytpdobbdbmgeoiaa
open Go.RowKit

theorem sixRefC {w : World} {b : Nat} {v0 v1 v2 v3 v4 v5 : Value} {t : TypeId} (h : w.heap[b]? = some (.cells #[v0, v1, v2, v3, v4, v5] t (0, 0))) :
    w.cell? ⟨b, 0, none⟩ = some v0 ∧ w.cell? ⟨b, 1, none⟩ = some v1 ∧ w.cell? ⟨b, 2, none⟩ = some v2 ∧ w.cell? ⟨b, 3, none⟩ = some v3 ∧ w.cell? ⟨b, 4, none⟩ = some v4 ∧ w.cell? ⟨b, 5, none⟩ = some v5 := by
  refine ⟨?_, ?_, ?_, ?_, ?_, ?_⟩ <;> simp [World.cell?, h]


/-- The name ahead of the k-th attribute. -/
def prevA (A : Nat → AD) (k : Nat) : ByteArray := if k = 0 then ⟨#[]⟩ else (A (k - 1)).m

theorem leS_of {p m : ByteArray} (h : lsS p m = false) : (Op.bytesLess p.toList m.toList) = false := h

/-- What the walk of ref.Check keeps. -/
structure XcK (w0 : World) (x : RD) (a : Option Addr) (c : Nat) (w : World) : Prop where
  box : w.heap[w0.heap.size]? = some (.cells #[.string x.key, .int .i64 x.t, .int .i64 x.i, .int .i64 x.q, .string x.o, .slice a x.len c] 52 (0, 0))
  bel : Below w0.heap.size w0 w

theorem XcK.kept {w0 w w' : World} {x : RD} {a : Option Addr} {c : Nat} (h : XcK w0 x a c w) (hb : Below w.heap.size w w') : XcK w0 x a c w' :=
  ⟨(hb.block _ (lt_of_block h.box)).trans h.box, h.bel.trans (hb.mono (by have := lt_of_block h.box; omega))⟩

theorem XcK.drewN {w0 w : World} {x : RD} {a : Option Addr} {c : Nat} (h : XcK w0 x a c w) (n : Nat) : XcK w0 x a c (w.drewN n) :=
  h.kept ⟨rfl, rfl, rfl, Nat.le_refl _, fun _ _ => rfl⟩

set_option maxRecDepth 100000 in
set_option maxHeartbeats 4000000 in
theorem xCheck_any (x : RD) (a : Option Addr) (c : Nat) (hk : x.key.size ≤ 4000) (ho : x.o.size ≤ 4000) (hA : ∀ j, j < x.len → (x.A j).m.size ≤ 4000 ∧ (x.A j).s.size ≤ 4000) (w : World) (hr : ReadsA w a x.len x.A) :
    Calls Try.prog 15 #[.agg #[.string x.key, .int .i64 x.t, .int .i64 x.i, .int .i64 x.q, .string x.o, .slice a x.len c]] w fun e w' => e = .returned (.int .i64 (errR x)) ∧ Below w.heap.size w w' := by
  have R := Lib.hid hr
  have N := Lib.hid (fun w => rName_any x.key (by omega) w)
  have HA := Lib.hid hA
  have hm := hr.1
  unfold maxLen at hm
  have BX := Lib.hid (show ∀ o, o = Obj.cells #[.string x.key, .int .i64 x.t, .int .i64 x.i, .int .i64 x.q, .string x.o, .slice a x.len c] 52 → XcK w x a c (w.alloc o) from fun o h => by subst h; exact ⟨heap_alloc_new w _, (Below.refl _ _).alloc (Nat.le_refl _) _⟩)
  clear hr hA
  cases hg : goodB x.key.data.toList with
  | false =>
    have E := Lib.hid (show errR x = 5 by unfold errR; rw [if_pos hg])
    have N1 := Lib.hid (p := ∀ w, Calls Try.prog 29 #[.string x.key] w fun e w' => e = .returned (.bool false) ∧ w = w') (fun w => by have := N.out w; rwa [hg] at this)
    clear N hg
    go_enter Try.func15, Try.ntmps15
    go_wp2_with fail
    refine (N1.out _).mono ?_
    rintro e w1 ⟨rfl, rfl⟩
    go_wp2_with fail
    go_ret
    exact ⟨ret_i64 E.out.symm, (BX.out _ rfl).bel⟩
  | true =>
    have N1 := Lib.hid (p := ∀ w, Calls Try.prog 29 #[.string x.key] w fun e w' => e = .returned (.bool true) ∧ w = w') (fun w => by have := N.out w; rwa [hg] at this)
    obtain ⟨es, hes⟩ : ∃ es, errS x.t x.i x.q x.o = es := ⟨_, rfl⟩
    have C := Lib.hid (p := ∀ w, Calls Try.prog 30 #[.agg #[.int .i64 x.t, .int .i64 x.i, .int .i64 x.q, .string x.o]] w fun e w' => e = .returned (.int .i64 es) ∧ Below w.heap.size w w') (fun w => by have := rCheckStamp_any x.t x.i x.q x.o ho w; rwa [hes] at this)
    have E0 : errR x = if es = 0 then (if 32 < x.len then 4 else errAs ⟨#[]⟩ (fromA x.A x.len 0)) else es := by unfold errR; rw [if_neg (by rw [hg]; simp), hes]
    clear N hg hes
    by_cases h0 : es = 0
    · subst h0
      rw [if_pos rfl] at E0
      by_cases h32 : 32 < x.len
      · rw [if_pos h32] at E0
        have E := Lib.hid E0
        clear E0
        go_enter Try.func15, Try.ntmps15
        go_wp2_with fail
        refine (N1.out _).mono ?_
        rintro e w1 ⟨rfl, rfl⟩
        go_wp2_with fail
        refine (C.out _).mono ?_
        rintro e w1 ⟨rfl, hb⟩
        have K1 := Lib.hid ((BX.out _ rfl).kept hb)
        clear hb
        obtain ⟨x0, x1, x2, x3, x4, x5⟩ := sixRefC K1.out.box
        go_wp2_with fail
        go_ret
        exact ⟨ret_i64 E.out.symm, K1.out.bel⟩
      · rw [if_neg h32] at E0
        have E := Lib.hid E0
        clear E0
        go_enter Try.func15, Try.ntmps15
        go_wp2_with fail
        refine (N1.out _).mono ?_
        rintro e w1 ⟨rfl, rfl⟩
        go_wp2_with fail
        refine (C.out _).mono ?_
        rintro e w1 ⟨rfl, hb⟩
        have K1 := Lib.hid ((BX.out _ rfl).kept hb)
        clear hb
        obtain ⟨x0, x1, x2, x3, x4, x5⟩ := sixRefC K1.out.box
        go_wp2_with fail
        go_loopw [3, 4] (fun e i wr => ∃ (k : Nat) (v : Int), e = .int .i64 v ∧ i = .int .i64 k ∧ k ≤ x.len ∧ Hid (errAs ⟨#[]⟩ (fromA x.A x.len 0) = errAs (prevA x.A k) (fromA x.A x.len k)) ∧ Hid (XcK w x a c wr)) (fun _ i _ => x.len - (intOf i).toNat)
        case atStart => exact ⟨0, 0, rfl, rfl, Nat.zero_le _, Lib.hid rfl, K1⟩
        case round =>
          obtain ⟨k, v, rfl, rfl, hk', hE, hK⟩ := hrel
          clear K1 x0 x1 x2 x3 x4 x5
          obtain ⟨x0, x1, x2, x3, x4, x5⟩ := sixRefC hK.out.box
          by_cases hlt : k < x.len
          · obtain ⟨-, hc⟩ := R.out
            obtain ⟨b, off, hab, hcs⟩ := hc.resolve_left (by omega)
            obtain ⟨y, cy, h50, hrd⟩ := hcs k hlt
            have h5 := h50.kept hK.out.bel
            obtain ⟨hm1, hs1⟩ := HA.out k hlt
            have hE2 : errAs (prevA x.A k) (fromA x.A x.len k) = if errA (prevA x.A k) (x.A k) = 0 then errAs (x.A k).m (fromA x.A x.len (k + 1)) else errA (prevA x.A k) (x.A k) := by rw [fromA_cons x.A hlt]; rfl
            have hnx : prevA x.A (k + 1) = (x.A k).m := by unfold prevA; rw [if_neg (by omega)]; rfl
            obtain ⟨u, hu⟩ : ∃ u, x.A k = u := ⟨_, rfl⟩
            rw [hu] at h5 h50 hrd hm1 hs1 hE2 hnx
            have HE := Lib.hid (hE.out.trans hE2)
            have NX := Lib.hid hnx
            have CV := Lib.hid (p := ∀ w', Below w.heap.size w w' → Calls Try.prog 31 #[.agg #[.int .i64 u.k, .int .i64 u.n, .string u.s, .slice y u.len cy]] w' fun e w'' => e = .returned (.int .i64 (errV u.k u.s u.len u.z)) ∧ Below w'.heap.size w' w'') (fun w' hb => rCheck_any u.k u.n u.s (by omega) y u.len cy u.z w' (hrd.kept hb))
            have H5 := Lib.hid (p := ∀ w', Below w.heap.size w w' → Cells5 w' b (off + k * 5) u y cy) (fun w' hb => h50.kept hb)
            have NM := Lib.hid (fun w => rName_any u.m (by omega) w)
            have HP := Lib.hid (p := 0 < k → ∀ w', Below w.heap.size w w' → w'.cell? ⟨b, off + (k - 1) * 5, none⟩ = some (.string (prevA x.A k))) (fun h w' hb => by
              obtain ⟨y', cy', g5, _⟩ := hcs (k - 1) (by omega)
              have e : prevA x.A k = (x.A (k - 1)).m := by unfold prevA; rw [if_neg (by omega)]
              rw [e]; exact (g5.kept hb).1)
            obtain ⟨p0, hp0⟩ : ∃ p, prevA x.A k = p := ⟨_, rfl⟩
            have HP0 := Lib.hid (p := k = 0 → p0 = ⟨#[]⟩) (fun h => by rw [← hp0, h]; rfl)
            rw [hp0] at HE HP
            obtain ⟨ev, hev⟩ : ∃ ev, errV u.k u.s u.len u.z = ev := ⟨_, rfl⟩
            have HA2 : errA p0 u = if goodB u.m.data.toList = false then 5 else if lsS p0 u.m = false then 6 else ev := by unfold errA; rw [hev]
            obtain ⟨g, hg⟩ : ∃ g, goodB u.m.data.toList = g := ⟨_, rfl⟩
            have HG := Lib.hid hg
            rw [hg] at HA2 NM
            rw [HA2] at HE
            rw [hev] at CV
            obtain ⟨d0, d1, d2, d3, d4⟩ := h5
            clear hE hE2 hnx hcs hrd h50 hu hp0 hev HA2 hc hg
            rw [hab] at x5
            have hab' := Lib.hid hab
            clear hab
            go_wp2_with fail
            refine (CV.out _ hK.out.bel).mono ?_
            rintro e w2 ⟨rfl, hb⟩
            have K2 := Lib.hid (hK.out.kept hb)
            clear hb hK x0 x1 x2 x3 x4 x5 d0 d1 d2 d3 d4
            obtain ⟨x0, x1, x2, x3, x4, x5⟩ := sixRefC K2.out.box
            rw [hab'.out] at x5
            obtain ⟨d0, d1, d2, d3, d4⟩ := H5.out _ K2.out.bel
            cases g with
            | false =>
              have HE1 := Lib.hid (p := errAs ⟨#[]⟩ (fromA x.A x.len 0) = 5) (by have := HE.out; simpa using this)
              clear HE HG
              go_wp2_with fail
              refine (NM.out _).mono ?_
              rintro e w3 ⟨rfl, rfl⟩
              go_wp2_with fail
              go_ret
              exact ⟨ret_i64 (by rw [E.out, HE1.out]), K2.out.bel⟩
            | true =>
              have HE1 := Lib.hid (p := errAs ⟨#[]⟩ (fromA x.A x.len 0) = if (if lsS p0 u.m = false then 6 else ev) = 0 then errAs u.m (fromA x.A x.len (k + 1)) else (if lsS p0 u.m = false then 6 else ev)) (by have := HE.out; simpa using this)
              clear HE
              go_wp2_with fail
              refine (NM.out _).mono ?_
              rintro e w3 ⟨rfl, rfl⟩
              by_cases hk0 : k = 0
              · subst hk0
                have hl : lsS p0 u.m = true := by rw [HP0.out rfl]; exact lsS_empty HG.out
                have HE2 := Lib.hid (p := errAs ⟨#[]⟩ (fromA x.A x.len 0) = if ev = 0 then errAs u.m (fromA x.A x.len (0 + 1)) else ev) (by have := HE1.out; rw [hl] at this; simpa using this)
                clear hl HE1 HP HP0
                go_wp2_with fail
                go_quiet (fail)
                by_cases he : ev = 0
                · subst he
                  have HE3 := Lib.hid (HE2.out.trans (if_pos rfl))
                  clear HE2
                  go_wp2_with fail
                  go_roundw
                  case rel => exact ⟨0 + 1, 0, rfl, by go_num, by omega, Lib.hid (by rw [HE3.out, NX.out]), Lib.hid (K2.out.drewN _)⟩
                  case measure => simp [intOf]; omega
                · have HE3 := Lib.hid (HE2.out.trans (if_neg he))
                  have he' : (ev == 0) = false := by simpa using he
                  clear HE2 he
                  go_wp2_with fail
                  go_ret
                  exact ⟨ret_i64 (by rw [E.out, HE3.out]), (K2.out.drewN _).bel⟩
              · have e0 : 0 < k := by omega
                have dp := HP.out e0 _ K2.out.bel
                have e1 : IntKind.i64.wrap ((k : Int) - 1) = (k : Int) - 1 := IntWalk.i64_in _ (by omega)
                have e2 : 0 ≤ (k : Int) - 1 := by omega
                have e3 : ((k : Int) - 1).toNat = k - 1 := by omega
                have e4 : (k : Int) - 1 < x.len := by omega
                cases hl : lsS p0 u.m with
                | false =>
                  have HE2 := Lib.hid (p := errAs ⟨#[]⟩ (fromA x.A x.len 0) = 6) (by have := HE1.out; rw [hl] at this; simpa using this)
                  have l1 := leqS_yes hl
                  have l2 : Op.bytesLess p0.toList u.m.toList = false := hl
                  clear hl HE1 HP HP0
                  go_wp2_with fail
                  go_quiet (fail)
                  clear e1 e2 e3 e4
                  go_wp2_with fail
                  go_ret
                  exact ⟨ret_i64 (by rw [E.out, HE2.out]), (K2.out.drewN _).bel⟩
                | true =>
                  have HE2 := Lib.hid (p := errAs ⟨#[]⟩ (fromA x.A x.len 0) = if ev = 0 then errAs u.m (fromA x.A x.len (k + 1)) else ev) (by have := HE1.out; rw [hl] at this; simpa using this)
                  obtain ⟨l1, l2⟩ := leqS_no hl
                  have l3 : Op.bytesLess p0.toList u.m.toList = true := hl
                  clear hl HE1 HP HP0
                  go_wp2_with fail
                  go_quiet (fail)
                  clear e1 e2 e3 e4
                  by_cases he : ev = 0
                  · subst he
                    have HE3 := Lib.hid (HE2.out.trans (if_pos rfl))
                    clear HE2
                    go_wp2_with fail
                    go_roundw
                    case rel => exact ⟨k + 1, 0, rfl, by go_num, by omega, Lib.hid (by rw [HE3.out, NX.out]), Lib.hid (K2.out.drewN _)⟩
                    case measure => simp [intOf]; omega
                  · have HE3 := Lib.hid (HE2.out.trans (if_neg he))
                    have he' : (ev == 0) = false := by simpa using he
                    clear HE2 he
                    go_wp2_with fail
                    go_ret
                    exact ⟨ret_i64 (by rw [E.out, HE3.out]), (K2.out.drewN _).bel⟩
          · go_wp2_with fail
            go_ret
            exact ⟨ret_i64 (by rw [E.out, hE.out, fromA_nil x.A (by omega)]; rfl), hK.out.bel⟩
    · rw [if_neg h0] at E0
      have E := Lib.hid E0
      have h0' : (es == 0) = false := by simpa using h0
      clear E0 h0
      go_enter Try.func15, Try.ntmps15
      go_wp2_with fail
      refine (N1.out _).mono ?_
      rintro e w1 ⟨rfl, rfl⟩
      go_wp2_with fail
      refine (C.out _).mono ?_
      rintro e w1 ⟨rfl, hb⟩
      have K1 := Lib.hid ((BX.out _ rfl).kept hb)
      clear hb
      go_wp2_with fail
      go_ret
      exact ⟨ret_i64 E.out.symm, K1.out.bel⟩

end Go.Proofs.Ytpdobbdbmgeoiaa
