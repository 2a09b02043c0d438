/-
  No statement: the contracts of the document's cut, Parse, Path, PathText.
-/
import Derived.Test.YtlgkffcomnclnaaPMatch
import Derived.Test.YtlgkffcomnclnaaRNode
namespace Go.Proofs.Ytlgkffcomnclnaa
open Go.RowKit

/-- A []string from its block's begin on reads as these texts. -/
def RT (w : World) (a : Option Addr) (q : List (List UInt8)) : Prop := q = [] ∨ ∃ g, a = some ⟨g, 0, none⟩ ∧ ∀ j x, q[j]? = some x → w.cell? ⟨g, j, none⟩ = some (tv x)

theorem RT.below {w w' : World} {a : Option Addr} {q : List (List UInt8)} (h : RT w a q) (hb : Below w.heap.size w w') : RT w' a q := by
  rcases h with h | ⟨g, rfl, hc⟩
  · exact .inl h
  · refine .inr ⟨g, rfl, fun j x hj => ?_⟩
    have := hc j x hj
    exact (hb.cell (p := ⟨g, j, none⟩) (by simpa using World.block_lt_of_cell? w _ this)).trans this

theorem RT.take {w : World} {a : Option Addr} {q : List (List UInt8)} (h : RT w a q) (n : Nat) : RT w a (q.take n) := by
  rcases h with h | ⟨g, rfl, hc⟩
  · exact .inl (by rw [h]; simp)
  · refine .inr ⟨g, rfl, fun j x hj => hc j x ?_⟩
    rw [List.getElem?_take] at hj
    split at hj
    · exact hj
    · cases hj

theorem RT.at {w : World} {a : Option Addr} {q : List (List UInt8)} (h : RT w a q) {k : Nat} (hk : k < q.length) : ∃ g, a = some ⟨g, 0, none⟩ ∧ w.cell? ⟨g, k, none⟩ = some (tv q[k]) := by
  rcases h with h | ⟨g, rfl, hc⟩
  · subst h; simp at hk
  · exact ⟨g, rfl, hc k _ (List.getElem?_eq_getElem hk)⟩

theorem OwnT.reads {B : Nat} {w : World} {v : Value} {q : List (List UInt8)} (h : OwnT B w v q) : ∃ a cap, v = .slice a q.length cap ∧ q.length ≤ cap ∧ cap ≤ maxLen ∧ RT w a q := by
  rcases h.2 with ⟨rfl, hn⟩ | ⟨g, cap, cur, rfl, hB, hg, hnc, hm, hs, ht⟩
  · exact ⟨none, 0, by rw [hn], by omega, by decide, .inl (List.length_eq_zero_iff.1 hn)⟩
  · rw [Nat.mul_one] at ht
    exact ⟨some ⟨g, 0, none⟩, cap, rfl, hnc, hm, .inr ⟨g, rfl, fun j x hj => owns_cell hg ht (by rw [List.getElem?_map, hj]; rfl)⟩⟩

theorem OwnT.mono {B B' : Nat} {w : World} {v : Value} {q : List (List UInt8)} (h : OwnT B w v q) (hB : B' ≤ B) : OwnT B' w v q := by
  refine ⟨h.1, ?_⟩
  rcases h.2 with h2 | ⟨g, cap, cur, hv, hb, rest⟩
  · exact .inl h2
  · exact .inr ⟨g, cap, cur, hv, Nat.le_trans hB hb, rest⟩

/-- Does a text begin with a stroke? -/
def hasCut (l : List UInt8) : Bool := (cutL l).isSome

theorem cut_size {s : ByteArray} (h : ¬ (s.size = 0 ∨ ∃ h : 0 < s.size, ¬ s[0] = 47)) : ∃ r, s.data.toList = 47 :: r ∧ r.length + 1 = s.size := by
  have hl : s.data.toList.length = s.size := by simp
  cases e : s.data.toList with
  | nil => rw [e] at hl; simp at hl; exact absurd (.inl hl.symm) h
  | cons c r =>
    have h0 : 0 < s.size := by rw [e] at hl; simp at hl; omega
    have h00 : s.data.toList[0]? = some s[0] := List.getElem?_eq_getElem (by omega)
    rw [e] at h00
    have hc : c = s[0] := by simpa using h00
    have : c = 47 := Classical.byContradiction fun e => h (.inr ⟨h0, hc ▸ e⟩)
    subst this
    exact ⟨r, rfl, by rw [e] at hl; simpa using hl⟩

theorem cut_none' {s : ByteArray} (h : s.size = 0 ∨ ∃ h : 0 < s.size, ¬ s[0] = 47) : cutL s.data.toList = none := by
  have hl : s.data.toList.length = s.size := by simp
  cases e : s.data.toList with
  | nil => rfl
  | cons c r =>
    rcases h with h | ⟨h, h'⟩
    · rw [e] at hl; simp at hl; omega
    · have h00 : s.data.toList[0]? = some s[0] := List.getElem?_eq_getElem (by omega)
      rw [e] at h00
      have : c = s[0] := by simpa using h00
      exact cutL_not (by rw [this]; exact h') r

theorem rCutP (s : ByteArray) (hm : s.size ≤ 1000) (w : World) : Calls Try.prog 33 #[.string s] w fun e w' => (∃ v, e = .returned (.tuple #[v, .bool (hasCut s.data.toList)]) ∧ OwnT w.heap.size w' v ((cutL s.data.toList).getD [])) ∧ Below w.heap.size w w' := by
  unfold hasCut
  by_cases h : s.size = 0 ∨ ∃ h : 0 < s.size, ¬ s[0] = 47
  · rw [cut_none' h]
    refine (rCut_none s h hm w).mono ?_
    rintro e w' ⟨rfl, rfl⟩
    exact ⟨⟨_, rfl, OwnT.nil _ _⟩, Below.refl _ _⟩
  · obtain ⟨r, hr, hrl⟩ := cut_size h
    rw [hr, cutL_stroke]
    by_cases hn : r = []
    · subst hn
      rw [if_pos rfl]
      obtain rfl : s = ⟨#[47]⟩ := text_eq hr
      refine (rCut_root w).mono ?_
      rintro e w' ⟨rfl, rfl⟩
      exact ⟨⟨_, rfl, OwnT.nil _ _⟩, Below.refl _ _⟩
    · rw [if_neg hn]
      have h0 : s[0]'(by omega) = 47 := by
        have h00 : s.data.toList[0]? = some (s[0]'(by omega)) := List.getElem?_eq_getElem (by simp; omega)
        rw [hr] at h00
        simpa using h00.symm
      have h2 : 2 ≤ s.size := by
        have : 0 < r.length := List.length_pos_iff.2 hn
        omega
      refine (rCut_any s h2 h0 hm w).mono ?_
      rintro e w' ⟨⟨v, rfl, ho⟩, hb⟩
      refine ⟨⟨v, rfl, ?_⟩, hb⟩
      rw [hr] at ho
      unfold OwnT
      show w'.ownsRow w.heap.size 9 1 v (segs r).length ((segs r).map tv)
      have e : segF (List.drop 1 (47 :: r)) = (segs r).map tv := rfl
      rw [e, List.length_map] at ho
      exact ho

theorem cut_parts {s : ByteArray} {q : List (List UInt8)} (hm : s.size ≤ 1000) (h : cutL s.data.toList = some q) : q.length ≤ 1000 ∧ ∀ x ∈ q, x.length ≤ 1000 := by
  have hl : s.data.toList.length = s.size := by simp
  have k := cut_some h
  by_cases hq : q = []
  · subst hq; exact ⟨by simp, by simp⟩
  · have e : s.data.toList = joinT q := by rw [k.1, textP, if_neg hq]
    rw [e] at hl
    have h1 := parts_many q
    refine ⟨by omega, fun x hx => ?_⟩
    obtain ⟨i, hi, rfl⟩ := List.mem_iff_getElem.1 hx
    have := congrArg List.length (join_at q i hi)
    simp at this
    omega

set_option maxRecDepth 100000 in
set_option maxHeartbeats 4000000 in
theorem rParseP (s : ByteArray) (hm : s.size ≤ 1000) (w : World) : Calls Try.prog 10 #[.string s] w fun e w' => (∃ v, e = .returned (.tuple #[v, .int .i64 (errP s.data.toList)]) ∧ OwnT w.heap.size w' v (partsP s.data.toList)) ∧ Below w.heap.size w w' := by
  have C := Lib.hid (fun w => rCutP s hm w)
  unfold hasCut at C
  unfold errP partsP
  cases hc : cutL s.data.toList with
  | none =>
    rw [hc] at C
    show Calls _ _ _ _ fun e w' => (∃ v, e = .returned (.tuple #[v, .int .i64 2]) ∧ OwnT w.heap.size w' v []) ∧ Below w.heap.size w w'
    rw [show (none : Option (List (List UInt8))).isSome = false from rfl] at C
    go_enter Try.func10, Try.ntmps10
    go_wp2_with fail
    refine (C.out _).mono ?_
    rintro e w1 ⟨⟨v, rfl, ho⟩, hb⟩
    have B1 := Lib.hid hb
    clear ho hb C
    go_wp2_with fail
    go_ret2
    exact ⟨⟨_, rfl, OwnT.nil _ _⟩, B1.out⟩
  | some q =>
    rw [hc] at C
    show Calls _ _ _ _ fun e w' => (∃ v, e = .returned (.tuple #[v, .int .i64 (errQ q)]) ∧ OwnT w.heap.size w' v (if errQ q = 0 then q else [])) ∧ Below w.heap.size w w'
    rw [show (some q).isSome = true from rfl, show (some q).getD [] = q from rfl] at C
    have hp := cut_parts hm hc
    have hfew := hp.1
    have HE := Lib.hid hp.2
    have NM := Lib.hid (fun (T : ByteArray) (h : T.size ≤ 281474976710656) w => rName_any T h w)
    clear hc hp
    obtain ⟨E, hE⟩ : ∃ x, errQ q = x := ⟨_, rfl⟩
    have H := Lib.hid hE
    rw [hE]
    clear hE
    go_enter Try.func10, Try.ntmps10
    go_wp2_with fail
    refine (C.out _).mono ?_
    rintro e w1 ⟨⟨v, rfl, ho⟩, hb⟩
    have B1 := Lib.hid hb
    have O1 := Lib.hid ho
    obtain ⟨a, cap, rfl, hcap, hmx, hr⟩ := ho.reads
    have R := Lib.hid hr
    clear ho hb C hr hmx
    go_wp2_with fail
    go_loop [6] (fun i => ∃ k : Nat, k ≤ q.length ∧ i = .int .i64 k ∧ Hid ((q.take k).all goodB = true)) (fun i => q.length - (intOf i).toNat)
    case atStart => exact ⟨0, Nat.zero_le _, rfl, Lib.hid rfl⟩
    case round =>
      obtain ⟨k, hk, rfl, hok⟩ := hrel
      by_cases hlt : k < q.length
      · obtain ⟨g, rfl, c0⟩ := R.out.at hlt
        have hx := HE.out q[k] (List.getElem_mem hlt)
        have htk : (q.take (k + 1)) = q.take k ++ [q[k]] := List.take_succ_eq_append_getElem hlt
        have hmem : q[k] ∈ q := List.getElem_mem hlt
        obtain ⟨x, hxx⟩ : ∃ x, q[k] = x := ⟨_, rfl⟩
        rw [hxx] at c0 hx htk hmem
        obtain ⟨T, hT⟩ : ∃ T : ByteArray, ⟨x.toArray⟩ = T := ⟨_, rfl⟩
        have hTx : T.data.toList = x := by rw [← hT]
        have hTs : T.size ≤ 1000 := by rw [← hT]; show x.toArray.size ≤ 1000; simpa using hx
        have N := fun w => NM.out T (by omega) w
        rw [hTx] at N
        unfold tv at c0
        rw [hT] at c0
        clear hT hTx hxx hx
        cases hg : goodB x with
        | true =>
          rw [hg] at N
          have N := Lib.hid N
          have hok1 := Lib.hid (show (q.take (k + 1)).all goodB = true by rw [htk, List.all_append, hok.out]; simp [hg])
          clear hg htk hmem
          go_wp2_with fail
          refine (N.out _).mono ?_
          rintro e w2 ⟨rfl, rfl⟩
          go_wp2_with fail
          go_round
          case rel => exact ⟨k + 1, by omega, by go_num, hok1⟩
          case measure => simp [intOf]; omega
        | false =>
          rw [hg] at N
          have N := Lib.hid N
          have P := err_bad hmem hg
          rw [H.out] at P
          subst P
          clear hg htk hmem
          go_wp2_with fail
          refine (N.out _).mono ?_
          rintro e w2 ⟨rfl, rfl⟩
          go_wp2_with fail
          go_ret2
          exact ⟨⟨_, rfl, OwnT.nil _ _⟩, B1.out⟩
      · obtain rfl : k = q.length := by omega
        have hall : q.all goodB = true := by have := hok.out; rwa [List.take_length] at this
        by_cases h4 : q.length ≤ 4
        · have P := errQ_zero.2 ⟨hall, h4⟩
          rw [H.out] at P
          subst P
          have h4' : (q.length : Int) ≤ 4 := by omega
          clear hall h4
          go_wp2_with fail
          go_ret2
          exact ⟨⟨_, rfl, O1.out⟩, B1.out⟩
        · have P : errQ q = 4 := by unfold errQ; rw [if_pos hall, if_neg h4]
          rw [H.out] at P
          subst P
          have h4' : (4 : Int) < (q.length : Int) := by omega
          clear hall h4
          go_wp2_with fail
          go_ret2
          exact ⟨⟨_, rfl, OwnT.nil _ _⟩, B1.out⟩

theorem rPathB (s : ByteArray) (hm : s.size ≤ 1000) (w : World) : Calls Try.prog 29 #[.string s] w fun e w' => e = .returned (.bool (decide (errP s.data.toList = 0))) ∧ Below w.heap.size w w' := by
  have C := Lib.hid (fun w => rParseP s hm w)
  obtain ⟨x, hx⟩ : ∃ x, errP s.data.toList = x := ⟨_, rfl⟩
  rw [hx] at C ⊢
  clear hx
  go_enter Try.func29, Try.ntmps29
  go_wp2_with fail
  refine (C.out _).mono ?_
  rintro e w1 ⟨⟨v, rfl, ho⟩, hb⟩
  have B1 := Lib.hid hb
  clear ho hb C
  go_wp2_with fail
  go_ret
  exact ⟨rfl, B1.out⟩

set_option maxRecDepth 100000 in
set_option maxHeartbeats 4000000 in
theorem rPathText_any (a : Option Addr) (cap : Nat) (q : List (List UInt8)) (hf : FewT q) (w : World) (h : RT w a q) : Calls Try.prog 30 #[.slice a q.length cap] w fun e w' => e = .returned (tv (textP q)) ∧ Below w.heap.size w w' := by
  have hlen := FewT.len hf.all
  have hfew := hf.few
  have HE := Lib.hid hf.all
  have R := Lib.hid h
  clear h hf
  go_enter Try.func30, Try.ntmps30
  go_wp2_with fail
  go_loopw [3, 4] (fun x i wr => ∃ k : Nat, k ≤ q.length ∧ i = .int .i64 k ∧ x = tv (joinT (q.take k)) ∧ Hid (Below w.heap.size w wr)) (fun _ i _ => q.length - (intOf i).toNat)
  case atStart => exact ⟨0, Nat.zero_le _, rfl, rfl, Lib.hid (Below.refl _ _)⟩
  case round =>
    obtain ⟨k, hk, rfl, rfl, hb⟩ := hrel
    have hjl : (joinT (q.take k)).length ≤ (joinT q).length := by
      have := congrArg List.length (joinT_take_drop q k)
      rw [List.length_append] at this; omega
    obtain ⟨X, hX⟩ : ∃ X : ByteArray, ⟨(joinT (q.take k)).toArray⟩ = X := ⟨_, rfl⟩
    have hXl : X.data.toList = joinT (q.take k) := by rw [← hX]
    have hXs : X.size ≤ 2000000 := by
      have h1 : X.data.toList.length = X.size := by simp
      rw [hXl] at h1; omega
    by_cases hlt : k < q.length
    · obtain ⟨g, rfl, c0⟩ := (R.out.below (hb.out.mono (Nat.le_refl _))).at hlt
      have hx := HE.out q[k] (List.getElem_mem hlt)
      have htk : (q.take (k + 1)) = q.take k ++ [q[k]] := List.take_succ_eq_append_getElem hlt
      obtain ⟨x, hxx⟩ : ∃ x, q[k] = x := ⟨_, rfl⟩
      rw [hxx] at c0 hx htk
      obtain ⟨T, hT⟩ : ∃ T : ByteArray, ⟨x.toArray⟩ = T := ⟨_, rfl⟩
      have hTx : T.data.toList = x := by rw [← hT]
      have hTs : T.size ≤ 1000 := by rw [← hT]; show x.toArray.size ≤ 1000; simpa using hx
      have E := Lib.hid (show (.string (X ++ ⟨#[47]⟩ ++ T) : Value) = tv (joinT (q.take (k + 1))) by
        unfold tv
        congr 1
        apply text_eq
        rw [ByteArray.data_append, Array.toList_append, ByteArray.data_append, Array.toList_append, hXl, hTx, htk, joinT_app, joinT_one]
        simp)
      unfold tv at c0 ⊢
      rw [hT] at c0
      rw [hX]
      have j1 : (9223372036854775807 < X.size + (⟨#[47]⟩ : ByteArray).size) = False := by
        have : (⟨#[47]⟩ : ByteArray).size = 1 := rfl
        simp only [eq_iff_iff, iff_false]; omega
      have j2 : (9223372036854775807 < (X ++ ⟨#[47]⟩).size + T.size) = False := by
        have : (X ++ ⟨#[47]⟩ : ByteArray).size = X.size + 1 := by rw [ByteArray.size_append]; rfl
        simp only [eq_iff_iff, iff_false]; omega
      clear hT hTx hxx hx htk hX hXl hjl
      go_wp2_with fail
      go_roundw
      case rel => exact ⟨k + 1, by omega, by go_num, E.out, hb⟩
      case measure => simp [intOf]; omega
    · obtain rfl : k = q.length := by omega
      rw [List.take_length] at hX hXl
      unfold tv
      rw [List.take_length, hX]
      by_cases hq : q = []
      · have e1 : (X.toList == []) = true := beq_iff_eq.2 (by rw [Lib.toList_data, hXl, hq]; rfl)
        have E := Lib.hid (show textP q = [47] by rw [hq]; rfl)
        clear hX hXl hq
        go_wp2_with fail
        go_ret
        rw [E.out]
        exact ⟨rfl, hb.out⟩
      · have e1 : (X.toList == []) = false := beq_eq_false_iff_ne.2 (by rw [Lib.toList_data, hXl]; exact fun e => hq (joinT_empty e))
        have E := Lib.hid (show tv (textP q) = .string X by unfold tv; rw [← hX, textP, if_neg hq])
        clear hX hXl hq
        go_wp2_with fail
        go_ret
        rw [E.out]
        exact ⟨rfl, hb.out⟩

end Go.Proofs.Ytlgkffcomnclnaa
