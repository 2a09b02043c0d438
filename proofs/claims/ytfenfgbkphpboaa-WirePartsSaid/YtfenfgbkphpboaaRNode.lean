/-
  No statement: the contracts of the document's Parse, Path, Node, CheckStamp.
-/
import Derived.Test.YtfenfgbkphpboaaRCut
namespace Go.Proofs.Ytfenfgbkphpboaa
open Go.RowKit

theorem node_at {s : ByteArray} (h : 1 ≤ s.size) (h0 : s[0] = 47) : nodeB s.data.toList = ((segs (s.data.toList.drop 1)).all goodB && decide ((segs (s.data.toList.drop 1)).length ≤ 4)) := by
  have hl : s.data.toList.length = s.size := by simp
  have h00 : s.data.toList[0]? = some s[0] := List.getElem?_eq_getElem (by omega)
  cases e : s.data.toList with
  | nil => rw [e] at hl; simp at hl; omega
  | cons c r =>
    rw [e] at h00
    have : c = s[0] := by simpa using h00
    rw [h0] at this
    subst this
    unfold nodeB
    rw [node_cons, List.drop_one, List.tail_cons]
    simp

/-- What Parse's error is. -/
def ParsesTo (s : ByteArray) (x : Int) : Prop := x = 0 ↔ nodeB s.data.toList = true

set_option maxRecDepth 100000 in
set_option maxHeartbeats 2000000 in
theorem rParse_any (s : ByteArray) (h1 : 2 ≤ s.size) (h0 : s[0] = 47) (hm : s.size ≤ 4000) (w : World) : Calls Try.prog 99 #[.string s] w fun e w' => (∃ v x, e = .returned (.tuple #[v, .int .i64 x]) ∧ ParsesTo s x) ∧ Below w.heap.size w w' := by
  have R := node_at (s := s) (by omega) h0
  have hlen := segs_len (s.data.toList.drop 1)
  have hsz : (s.data.toList.drop 1).length ≤ 4000 := by simp; omega
  have heach := segs_each (s.data.toList.drop 1)
  have hcut := fun w => rCut_any s h1 h0 hm w
  unfold segF at hcut
  obtain ⟨L, hL⟩ : ∃ L, segs (s.data.toList.drop 1) = L := ⟨_, rfl⟩
  have hne : 1 ≤ L.length := by
    rw [← hL]
    have := segs_ne (s.data.toList.drop 1)
    cases e : segs (s.data.toList.drop 1) with
    | nil => exact absurd e this
    | cons a b => simp
  rw [hL] at R hlen hcut heach
  have hLl : L.length ≤ 4001 := by omega
  have C := Lib.hid hcut
  have R := Lib.hid R
  have E := Lib.hid (show ∀ x ∈ L, x.length ≤ 4000 from fun x hx => Nat.le_trans (heach x hx) hsz)
  clear hL hlen hsz heach hcut h0
  obtain ⟨M, hM⟩ : ∃ M, (L.map tv).length = M + 1 := ⟨L.length - 1, by rw [List.length_map]; omega⟩
  have hM' : L.length = M + 1 := by rw [← hM, List.length_map]
  go_enter Try.func99, Try.ntmps99
  go_wp2_with fail
  refine (C.out _).mono ?_
  rintro e w1 ⟨⟨v, rfl, ho⟩, hb⟩
  rw [hM] at ho
  obtain ⟨g, cap, rfl⟩ := ownsRow_succ ho
  have HO := Lib.hid ho
  have HB := Lib.hid hb
  have HM := Lib.hid hM'
  have hMb : M ≤ 4000 := by omega
  clear ho hb C hM hM'
  go_wp2_with fail
  go_loop [6] (fun i => ∃ k : Nat, k ≤ M + 1 ∧ i = .int .i64 k ∧ Hid (∀ j x, j < k → L[j]? = some x → goodB x = true)) (fun i => M + 1 - (intOf i).toNat)
  case atStart => exact ⟨0, Nat.zero_le _, rfl, Lib.hid (fun j x h => by omega)⟩
  case round =>
    obtain ⟨k, hk, rfl, hok⟩ := hrel
    by_cases hlt : k < M + 1
    · obtain ⟨x, hx⟩ : ∃ x, L[k]? = some x := ⟨L[k]'(by rw [HM.out]; exact hlt), List.getElem?_eq_getElem _⟩
      obtain ⟨c1, -⟩ := own_cell HO.out (j := k) (v := tv x) (by rw [List.getElem?_map, hx]; rfl)
      have hxs : x.length ≤ 4000 := E.out x (List.mem_of_getElem? hx)
      obtain ⟨T, hT⟩ : ∃ T : ByteArray, ⟨x.toArray⟩ = T := ⟨_, rfl⟩
      have hTx : T.data.toList = x := by rw [← hT]
      have hTs : T.size ≤ 4000 := by rw [← hT]; show x.toArray.size ≤ 4000; simpa using hxs
      unfold tv at c1
      rw [hT] at c1
      have N := fun w => rName_any T (by omega) w
      rw [hTx] at N
      clear hT hTx hxs
      cases hg : goodB x with
      | true =>
        rw [hg] at N
        have N := Lib.hid N
        have hok1 := Lib.hid (show ∀ j y, j < k + 1 → L[j]? = some y → goodB y = true from fun j y hj hy => by
          by_cases e : j = k
          · subst e; rw [hx] at hy; cases hy; exact hg
          · exact hok.out j y (by omega) hy)
        clear hx hg
        go_wp2_with fail
        refine (N.out _).mono ?_
        rintro e w2 ⟨rfl, rfl⟩
        go_wp2_with fail
        go_round
        case rel => exact ⟨k + 1, by omega, by go_num, hok1⟩
        case measure => simp [intOf]; omega
      | false =>
        rw [hg] at N
        have N := Lib.hid N
        have P := Lib.hid (show ParsesTo s 2 from by
          refine ⟨fun h => absurd h (by decide), fun h => ?_⟩
          rw [R.out, Bool.and_eq_true, List.all_eq_true] at h
          have := h.1 x (List.mem_of_getElem? hx)
          rw [hg] at this; cases this)
        clear hx hg
        go_wp2_with fail
        refine (N.out _).mono ?_
        rintro e w2 ⟨rfl, rfl⟩
        go_wp2_with fail
        go_ret2
        exact ⟨⟨_, _, rfl, P.out⟩, HB.out⟩
    · have hall : L.all goodB = true := by
        rw [List.all_eq_true]
        intro x hx
        obtain ⟨j, hj, rfl⟩ := List.mem_iff_getElem.1 hx
        exact hok.out j _ (by rw [HM.out] at hj; omega) (List.getElem?_eq_getElem hj)
      by_cases h4 : M + 1 ≤ 4
      · have P := Lib.hid (show ParsesTo s 0 from ⟨fun _ => by rw [R.out, hall, HM.out, decide_eq_true h4]; rfl, fun _ => rfl⟩)
        clear hall
        go_wp2_with fail
        go_ret2
        exact ⟨⟨_, _, rfl, P.out⟩, HB.out⟩
      · have P := Lib.hid (show ParsesTo s 4 from by
          refine ⟨fun h => absurd h (by decide), fun h => ?_⟩
          rw [R.out, hall, HM.out, decide_eq_false h4] at h; cases h)
        clear hall
        go_wp2_with fail
        go_ret2
        exact ⟨⟨_, _, rfl, P.out⟩, HB.out⟩

theorem size_nil {s : ByteArray} (h : s.size = 0) : s = ⟨#[]⟩ := by
  cases s with | mk d => simp [ByteArray.size] at h; simp [h]

theorem node_not {s : ByteArray} (h : s.size = 0 ∨ ∃ h : 0 < s.size, ¬ s[0] = 47) : nodeB s.data.toList = false := by
  have hl : s.data.toList.length = s.size := by simp
  cases e : s.data.toList with
  | nil => rfl
  | cons c r =>
    rcases h with h | ⟨h, h'⟩
    · rw [e] at hl; simp at hl; omega
    · have h00 : s.data.toList[0]? = some s[0] := List.getElem?_eq_getElem (by omega)
      rw [e] at h00
      have : c = s[0] := by simpa using h00
      subst this
      unfold nodeB
      rw [node_cons, decide_eq_false h']; rfl

theorem not_stroke {c : UInt8} (h : ¬ c = 47) : ((c.toNat : Int) != 47) = true := by
  rw [bne_iff_ne]; intro e; apply h
  apply UInt8.toNat_inj.1
  have : c.toNat = 47 := by omega
  rw [this]; rfl

theorem rCut_none (s : ByteArray) (h : s.size = 0 ∨ ∃ h : 0 < s.size, ¬ s[0] = 47) (hm : s.size ≤ 4000) (w : World) : Calls Try.prog 104 #[.string s] w fun e w' => e = .returned (.tuple #[.slice none 0 0, .bool false]) ∧ w = w' := by
  rcases h with h | ⟨h, h'⟩
  · obtain rfl := size_nil h
    clear h hm
    go_enter Try.func104, Try.ntmps104
    go_wp2_with fail
    go_ret2
    exact ⟨rfl, rfl⟩
  · have e1 := not_empty (s := s) (by omega)
    have e0 := not_stroke h'
    clear h'
    go_enter Try.func104, Try.ntmps104
    go_wp2_with fail
    go_ret2
    exact ⟨rfl, rfl⟩

theorem rCut_root (w : World) : Calls Try.prog 104 #[.string ⟨#[47]⟩] w fun e w' => e = .returned (.tuple #[.slice none 0 0, .bool true]) ∧ w = w' := by
  go_enter Try.func104, Try.ntmps104
  go_wp2_with fail
  go_ret2
  exact ⟨rfl, rfl⟩

theorem rParse_none (s : ByteArray) (h : s.size = 0 ∨ ∃ h : 0 < s.size, ¬ s[0] = 47) (hm : s.size ≤ 4000) (w : World) : Calls Try.prog 99 #[.string s] w fun e w' => (∃ v x, e = .returned (.tuple #[v, .int .i64 x]) ∧ ParsesTo s x) ∧ Below w.heap.size w w' := by
  have P := Lib.hid (show ParsesTo s 2 from by
    refine ⟨fun h => absurd h (by decide), fun hn => ?_⟩
    rw [node_not h] at hn; cases hn)
  have C := Lib.hid (rCut_none s h hm)
  clear h
  go_enter Try.func99, Try.ntmps99
  go_wp2_with fail
  refine (C.out _).mono ?_
  rintro e w1 ⟨rfl, rfl⟩
  go_wp2_with fail
  go_ret2
  exact ⟨⟨_, _, rfl, P.out⟩, Below.refl _ _⟩

theorem rParse_root (w : World) : Calls Try.prog 99 #[.string ⟨#[47]⟩] w fun e w' => (∃ v, e = .returned (.tuple #[v, .int .i64 0])) ∧ w = w' := by
  go_enter Try.func99, Try.ntmps99
  go_wp2_with fail
  refine (rCut_root _).mono ?_
  rintro e w1 ⟨rfl, rfl⟩
  go_wp2_with fail
  go_loop [6] (fun i => i = .int .i64 0) (fun _ => 0)
  case atStart => rfl
  case round =>
    subst hrel
    go_wp2_with fail
    go_ret2
    exact ⟨⟨_, rfl⟩, rfl⟩

theorem rPath_node (s : ByteArray) (hs : ¬ s = ⟨#[47]⟩) (hm : s.size ≤ 4000) (w : World) : Calls Try.prog 89 #[.string s] w fun e w' => e = .returned (.bool (nodeB s.data.toList)) ∧ Below w.heap.size w w' := by
  have C : ∀ w, Calls Try.prog 99 #[.string s] w fun e w' => (∃ v x, e = .returned (.tuple #[v, .int .i64 x]) ∧ ParsesTo s x) ∧ Below w.heap.size w w' := by
    intro w
    by_cases h : s.size = 0 ∨ ∃ h : 0 < s.size, ¬ s[0] = 47
    · exact rParse_none s h hm w
    · have h0 : ¬ s.size = 0 := fun e => h (.inl e)
      have h47 : s[0]'(by omega) = 47 := Classical.byContradiction fun e => h (.inr ⟨by omega, e⟩)
      by_cases h2 : 2 ≤ s.size
      · exact rParse_any s h2 h47 hm w
      · exfalso; apply hs
        apply text_eq
        have hl : s.data.toList.length = s.size := by simp
        apply List.ext_getElem
        · simp; omega
        · intro i hi hi'
          have : i = 0 := by simp at hi'; exact hi'
          subst this
          exact h47
  have C := Lib.hid C
  clear hs
  go_enter Try.func89, Try.ntmps89
  go_wp2_with fail
  refine (C.out _).mono ?_
  rintro e w1 ⟨⟨v, x, rfl, hp⟩, hb⟩
  have HB := Lib.hid hb
  have HP := Lib.hid hp
  clear hb hp
  go_wp2_with fail
  go_ret
  refine ⟨ret_b (a := (x == 0)) ?_, HB.out⟩
  have := HP.out
  unfold ParsesTo at this
  cases hn : nodeB s.data.toList with
  | true => exact beq_iff_eq.2 (this.2 hn)
  | false =>
    rw [beq_eq_false_iff_ne]
    intro e
    rw [this.1 e] at hn; cases hn

theorem rPath_root (w : World) : Calls Try.prog 89 #[.string ⟨#[47]⟩] w fun e w' => e = .returned (.bool true) ∧ w = w' := by
  go_enter Try.func89, Try.ntmps89
  go_wp2_with fail
  refine (rParse_root _).mono ?_
  rintro e w1 ⟨⟨v, rfl⟩, rfl⟩
  go_wp2_with fail
  go_ret
  exact ⟨rfl, rfl⟩

theorem rNode_any (s : ByteArray) (hm : s.size ≤ 4000) (w : World) : Calls Try.prog 73 #[.string s] w fun e w' => e = .returned (.bool (nodeB s.data.toList)) ∧ Below w.heap.size w w' := by
  by_cases hs : s = ⟨#[47]⟩
  · subst hs
    rw [show nodeB (⟨#[47]⟩ : ByteArray).data.toList = false from rfl]
    go_enter Try.func73, Try.ntmps73
    go_wp2_with fail
    refine (rPath_root _).mono ?_
    rintro e w1 ⟨rfl, rfl⟩
    go_wp2_with fail
    go_ret
    exact ⟨rfl, Below.refl _ _⟩
  · have C := rPath_node s hs hm
    have q : (s.toList == [47]) = false := by
      rw [beq_eq_false_iff_ne, Lib.toList_data]; intro e; exact hs (text_eq e)
    obtain ⟨b, hb⟩ : ∃ b, nodeB s.data.toList = b := ⟨_, rfl⟩
    rw [hb] at C ⊢
    have C := Lib.hid C
    clear hb hs
    cases b with
    | true =>
      go_enter Try.func73, Try.ntmps73
      go_wp2_with fail
      refine (C.out _).mono ?_
      rintro e w1 ⟨rfl, hb⟩
      have HB := Lib.hid hb
      clear hb
      go_wp2_with fail
      go_ret
      exact ⟨rfl, HB.out⟩
    | false =>
      go_enter Try.func73, Try.ntmps73
      go_wp2_with fail
      refine (C.out _).mono ?_
      rintro e w1 ⟨rfl, hb⟩
      have HB := Lib.hid hb
      clear hb
      go_wp2_with fail
      go_ret
      exact ⟨rfl, HB.out⟩

end Go.Proofs.Ytfenfgbkphpboaa
