/-
  No statement: the contracts of Text, Join of package path.
-/
import Derived.Test.YtlgkffcomnclnaaPOther
import Derived.Test.YtlgkffcomnclnaaAppS
namespace Go.Proofs.Ytlgkffcomnclnaa
open Go.RowKit

theorem join_tail (r : List (List UInt8)) : Lib.joinTail [47] r = joinT r := by
  induction r with
  | nil => rfl
  | cons a r ih =>
    rw [joinT_cons, ← ih]
    simp [Lib.joinTail]

theorem join_text (q : List (List UInt8)) : 47 :: Lib.join q [47] = textP q := by
  unfold textP
  cases q with
  | nil => rfl
  | cons a q => rw [if_neg (by simp), Lib.join_cons, join_tail, joinT_cons]

/-- Parts that no machine's bounds touch. -/
structure FewT (q : List (List UInt8)) : Prop where
  few : q.length ≤ 1000
  all : ∀ x ∈ q, x.length ≤ 1000

theorem FewT.len : ∀ {q : List (List UInt8)}, (∀ x ∈ q, x.length ≤ 1000) → (joinT q).length ≤ 1001 * q.length
  | [], _ => Nat.zero_le _
  | a :: q, h => by
    have := FewT.len (q := q) (fun x hx => h x (by simp [hx]))
    have := h a (by simp)
    rw [joinT_cons]; simp; omega

theorem textP_len (q : List (List UInt8)) : (textP q).length ≤ (joinT q).length + 1 := by
  unfold textP
  split <;> simp

theorem bytes_all (q : List (List UInt8)) : (q.map (fun l => (⟨l.toArray⟩ : ByteArray))).map (·.data.toList) = q := by
  rw [List.map_map]
  exact (List.map_congr_left (fun x _ => rfl)).trans (List.map_id q)

set_option maxRecDepth 100000 in
set_option maxHeartbeats 2000000 in
theorem text_any (B : Nat) (v : Value) (q : List (List UInt8)) (hf : FewT q) (w : World) (h : OwnT B w v q) : Calls Try.prog 22 #[v] w fun e w' => e = .returned (tv (textP q)) ∧ Below w.heap.size w w' := by
  have hlen := FewT.len hf.all
  have hfew := hf.few
  have hT := textP_len q
  have J : ∀ w', w' = w → Calls Try.prog 37 #[v, .string ⟨#[47]⟩] w' fun e w'' => e = .returned (.string ⟨(Lib.join q [47]).toArray⟩) ∧ Below w'.heap.size w' w'' := by
    rintro w' rfl
    rcases h.2 with ⟨rfl, hn⟩ | ⟨g, cap, cur, rfl, hB, hg, hnc, hm, hs, ht⟩
    · have hq : q = [] := List.length_eq_zero_iff.1 hn
      subst hq
      exact (Try.strings_Join_none none 0 ⟨#[47]⟩ w').mono fun e w'' ⟨he, hw⟩ => ⟨he, hw ▸ Below.refl _ _⟩
    · rw [Nat.mul_one] at ht
      have K := Try.strings_Join g 0 cap (q.map (fun l => (⟨l.toArray⟩ : ByteArray))) ⟨#[47]⟩ w' (fun j x hj => by
        rw [Nat.zero_add]
        rw [List.getElem?_map] at hj
        obtain ⟨y, hy, rfl⟩ := Option.map_eq_some_iff.1 hj
        exact owns_cell hg ht (j := j) (v := tv y) (by rw [List.getElem?_map, hy]; rfl)) (lt_of_block hg) (by rw [List.length_map]; omega) (by rw [List.length_map]; exact hnc) (by
          rw [bytes_all]
          have := congrArg List.length (join_text q)
          simp only [List.length_cons] at this
          show (Lib.join q [47]).length ≤ _
          omega)
      rw [bytes_all, List.length_map] at K
      exact K
  have JJ := Lib.hid (J w rfl)
  obtain ⟨T, hT1⟩ : ∃ T : ByteArray, ⟨(Lib.join q [47]).toArray⟩ = T := ⟨_, rfl⟩
  have E := Lib.hid (show tv (textP q) = .string ((⟨#[47]⟩ : ByteArray) ++ T) by
    unfold tv
    congr 1
    apply text_eq
    show textP q = _
    rw [← join_text, ← hT1, ByteArray.data_append, Array.toList_append]
    rfl)
  have hTs : T.size ≤ 2000000 := by
    have : T.size = (Lib.join q [47]).length := by rw [← hT1]; show (Lib.join q [47]).toArray.size = _; simp
    have h2 := congrArg List.length (join_text q)
    simp only [List.length_cons] at h2
    omega
  rw [hT1] at JJ
  clear J h hT1 hf hlen hfew hT
  have j1 : (9223372036854775807 < (⟨#[47]⟩ : ByteArray).size + T.size) = False := by
    have : (⟨#[47]⟩ : ByteArray).size = 1 := rfl
    simp only [eq_iff_iff, iff_false]; omega
  go_enter Try.func22, Try.ntmps22
  go_wp2_with fail
  refine JJ.out.mono ?_
  rintro e w1 ⟨rfl, hb⟩
  have B1 := Lib.hid hb
  clear hb JJ
  go_wp2_with fail
  go_ret
  rw [E.out]
  exact ⟨rfl, B1.out⟩

theorem few_parts (l : List UInt8) : FewT (partsP l) := by
  by_cases h : errP l = 0
  · have k := parts_ok h
    exact ⟨by omega, fun x hx => by have := (good_len (List.all_eq_true.1 k.1 x hx)).2; omega⟩
  · rw [parts_bad h]
    exact ⟨by simp, by simp⟩

theorem few_more {q : List (List UInt8)} {a : List UInt8} (h : FewT q) (hq : q.length ≤ 999) (ha : a.length ≤ 1000) : FewT (q ++ [a]) :=
  ⟨by simp; omega, fun x hx => by
    rcases List.mem_append.1 hx with hx | hx
    · exact h.all x hx
    · rw [List.mem_singleton.1 hx]; exact ha⟩

theorem str_tv (s : ByteArray) : (.string s : Value) = tv s.data.toList := by
  unfold tv
  congr 1

set_option maxRecDepth 100000 in
set_option maxHeartbeats 2000000 in
theorem join_any (s p : ByteArray) (hm : s.size ≤ 281474976710656) (hp : p.size ≤ 281474976710656) (w : World) : Calls Try.prog 11 #[.string s, .string p] w fun e w' => e = .returned (.tuple #[tv (joinP s.data.toList p.data.toList), .int .i64 (joinE s.data.toList p.data.toList)]) ∧ Below w.heap.size w w' := by
  have PA := Lib.hid (fun w => parse_any s hm w)
  have FP := Lib.hid (few_parts s.data.toList)
  have N := Lib.hid (fun w => wName_any p hp w)
  have hl4 : errP s.data.toList = 0 → (partsP s.data.toList).length ≤ 4 := fun h => (parts_ok h).2.1
  unfold joinP joinE
  obtain ⟨q, hq⟩ : ∃ q, partsP s.data.toList = q := ⟨_, rfl⟩
  obtain ⟨x, hx⟩ : ∃ x, errP s.data.toList = x := ⟨_, rfl⟩
  obtain ⟨b, hb⟩ : ∃ b, goodB p.data.toList = b := ⟨_, rfl⟩
  have hpl : b = true → p.data.toList.length ≤ 8 := fun h => (good_len (hb.trans h)).2
  rw [hq, hx] at PA hl4
  rw [hq] at FP
  rw [hb] at N
  rw [hq, hx, hb]
  clear hq hx hb
  by_cases h0 : x = 0
  · subst h0
    have hl4 := hl4 rfl
    rw [if_pos rfl]
    cases b with
    | false =>
      rw [if_neg (show ¬ (false = true) by decide), if_neg (show ¬ (5 : Int) = 0 by decide)]
      go_enter Try.func11, Try.ntmps11
      go_wp2_with fail
      refine (PA.out _).mono ?_
      rintro e w1 ⟨⟨v, rfl, ho⟩, hb1⟩
      have B1 := Lib.hid hb1
      clear hb1 PA ho
      go_wp2_with fail
      refine (N.out _).mono ?_
      rintro e w2 ⟨rfl, rfl⟩
      go_wp2_with fail
      go_ret2
      exact ⟨rfl, B1.out⟩
    | true =>
      have hpl := hpl rfl
      rw [if_pos rfl]
      by_cases h4 : q.length = 4
      · rw [if_pos h4]
        have h4' : ((q.length : Int) == 4) = true := by rw [beq_iff_eq]; omega
        go_enter Try.func11, Try.ntmps11
        go_wp2_with fail
        refine (PA.out _).mono ?_
        rintro e w1 ⟨⟨v, rfl, ho⟩, hb1⟩
        have B1 := Lib.hid hb1
        obtain ⟨a, cap, rfl⟩ := row_slice' ho
        clear hb1 PA ho
        go_wp2_with fail
        refine (N.out _).mono ?_
        rintro e w2 ⟨rfl, rfl⟩
        go_wp2_with fail
        go_ret2
        exact ⟨rfl, B1.out⟩
      · rw [if_neg h4]
        have h4' : ((q.length : Int) == 4) = false := by rw [beq_eq_false_iff_ne]; omega
        have TX := Lib.hid (fun B v w h => text_any B v (q ++ [p.data.toList]) (few_more FP.out (by omega) (by omega)) w h)
        obtain ⟨i0, hi0, hz0, hz1, hz2⟩ := info_parts infoStr
        go_enter Try.func11, Try.ntmps11
        go_wp2_with fail
        refine (PA.out _).mono ?_
        rintro e w1 ⟨⟨v, rfl, ho⟩, hb1⟩
        have B1 := Lib.hid hb1
        have O1 := Lib.hid ho
        obtain ⟨a, cap, rfl⟩ := row_slice' ho
        clear hb1 PA ho
        go_wp2_with fail
        refine (N.out _).mono ?_
        rintro e w2 ⟨rfl, rfl⟩
        have hw1 := B1.out.size
        go_wp2_with (at_builtin; refine wpList_append_from rfl _ _ 23 rfl (base := w.heap.size) (e := 9) (i := i0) (z := .string ⟨#[]⟩) (bytes := 16) Try.underlying23 hi0 hz0 hz1 hz2 rfl (.slice a q.length cap) (.slice (some ⟨w1.heap.size, 0, none⟩) 1 1) q.length 1 (q.map tv) [.string p] rfl rfl (O1.out.alloc _) (from_one (by simp)) (by simp [Value.oneCell']) (by unfold maxLen; omega) (by omega) (by simp; omega) ?_; intro v3 w3 ho3 hg3 _; have O3 := Lib.hid (show OwnT w.heap.size w3 v3 (q ++ [p.data.toList]) by (unfold OwnT; rw [List.length_append, List.map_append]; simp only [List.map_cons, List.map_nil, ← str_tv]; exact ho3)); have B3 := Lib.hid ((B1.out.alloc hw1 (.cells #[.string p] 9)).grown hg3 (by simp; omega) (fun k hk => (O1.out.lt k hk).1)); clear ho3 hg3)
        refine (TX.out _ _ _ O3.out).mono ?_
        rintro e w4 ⟨rfl, hb4⟩
        have B4 := Lib.hid (B3.out.trans (hb4.mono B3.out.size))
        clear hb4
        go_wp2_with fail
        go_ret2
        exact ⟨rfl, B4.out⟩
  · have e0 : (x == 0) = false := beq_eq_false_iff_ne.2 h0
    rw [if_neg h0]
    go_enter Try.func11, Try.ntmps11
    go_wp2_with fail
    refine (PA.out _).mono ?_
    rintro e w1 ⟨⟨v, rfl, ho⟩, hb1⟩
    have B1 := Lib.hid hb1
    clear hb1 PA ho
    go_wp2_with fail
    go_ret2
    exact ⟨rfl, B1.out⟩

end Go.Proofs.Ytlgkffcomnclnaa
