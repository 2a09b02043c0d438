/-
  No statement: the walk of the law PathStars.
-/
import Derived.Test.YtlgkffcomnclnaaPBig
namespace Go.Proofs.Ytlgkffcomnclnaa
open Go.RowKit

theorem eqs_all : ∀ (L l : List (List UInt8)), (∀ (i : Nat) x, L[i]? = some x → ∃ y, l[i]? = some y ∧ (x = [42] ∨ x = y)) → eqs L l = true
  | [], l, _ => eqs_nil l
  | a :: L, [], h => by obtain ⟨y, hy, _⟩ := h 0 a rfl; cases hy
  | a :: L, x :: l, h => by
    rw [eqs_cons, eqs_all L l (fun i y hy => h (i + 1) y hy), Bool.and_true]
    obtain ⟨y, hy, hh⟩ := h 0 a rfl
    cases hy
    exact decide_eq_true hh

theorem star_free : ∀ c ∈ ([42] : List UInt8), ¬ c = 47 := by decide
theorem stars_free : ∀ c ∈ ([42, 42] : List UInt8), ¬ c = 47 := by decide

theorem match_text {L : List (List UInt8)} {s : List UInt8} (h0 : errP s = 0) (hf : Free L) (h1 : ¬ L = [[]]) : matchB (textP L) s = wm L (partsP s) := by
  unfold matchB
  rw [if_pos h0, cut_text hf h1]

theorem last_good {q : List (List UInt8)} (h : q.all goodB = true) : ¬ q.getLast? = some [42, 42] := by
  intro e
  have := List.all_eq_true.1 h _ (List.mem_of_getLast? e)
  revert this; decide

theorem set_elems {q : List (List UInt8)} (h : q.all goodB = true) (i : Nat) : ∀ x ∈ q.set i [42], goodB x = true ∨ x = [42] := by
  intro x hx
  rcases List.mem_or_eq_of_mem_set hx with hx | hx
  · exact .inl (List.all_eq_true.1 h x hx)
  · exact .inr hx

theorem set_free {q : List (List UInt8)} (h : q.all goodB = true) (i : Nat) : Free (q.set i [42]) := by
  intro x hx
  rcases set_elems h i x hx with hx | rfl
  · exact good_free hx
  · exact star_free

theorem set_not1 {q : List (List UInt8)} (h : q.all goodB = true) (i : Nat) : ¬ q.set i [42] = [[]] := by
  intro e
  have := set_elems h i [] (by rw [e]; simp)
  rcases this with h | h
  · cases h
  · cases h

theorem set_last {q : List (List UInt8)} (h : q.all goodB = true) (i : Nat) : ¬ (q.set i [42]).getLast? = some [42, 42] := by
  intro e
  rcases set_elems h i _ (List.mem_of_getLast? e) with h | h
  · revert h; decide
  · revert h; decide

theorem more_free {q : List (List UInt8)} (h : q.all goodB = true) : Free (q ++ [[42, 42]]) := by
  intro x hx
  rcases List.mem_append.1 hx with hx | hx
  · exact good_free (List.all_eq_true.1 h x hx)
  · rw [List.mem_singleton.1 hx]; exact stars_free

theorem eqs_set {q l : List (List UInt8)} (i : Nat) (h : ∀ (j : Nat) x, q[j]? = some x → l[j]? = some x) : eqs (q.set i [42]) l = true := by
  refine eqs_all _ _ fun j x hj => ?_
  rw [List.getElem?_set] at hj
  have hql : ∀ j, j < q.length → ∃ y, l[j]? = some y := fun j hj => ⟨_, h j _ (List.getElem?_eq_getElem hj)⟩
  split at hj
  · split at hj
    · next e hl =>
      obtain ⟨y, hy⟩ := hql j (by omega)
      exact ⟨y, hy, .inl (Option.some.inj hj).symm⟩
    · cases hj
  · exact ⟨x, h j x hj, .inr rfl⟩

theorem eqs_self {q l : List (List UInt8)} (h : ∀ (j : Nat) x, q[j]? = some x → l[j]? = some x) : eqs q l = true :=
  eqs_all _ _ fun j x hj => ⟨x, h j x hj, .inr rfl⟩

/-- What a path's own patterns take. -/
theorem stars_facts {s : ByteArray} (h0 : errP s.data.toList = 0) (m : ByteArray) (t : Nat) : matchB s.data.toList s.data.toList = true ∧ matchB (⟨#[47, 42, 42]⟩ : ByteArray).data.toList s.data.toList = true ∧ (¬ partsP s.data.toList = [] →
    matchB (textP ((partsP s.data.toList).set (t % (partsP s.data.toList).length) [42])) s.data.toList = true ∧ matchB (textP (partsP s.data.toList ++ [[42, 42]])) s.data.toList = true ∧
    (joinE s.data.toList m.data.toList = 0 → matchB (textP (partsP s.data.toList ++ [[42, 42]])) (joinP s.data.toList m.data.toList) = true ∧ matchB s.data.toList (joinP s.data.toList m.data.toList) = false ∧
      matchB (textP ((partsP s.data.toList).set (t % (partsP s.data.toList).length) [42])) (joinP s.data.toList m.data.toList) = false)) := by
  have ok := parts_ok h0
  obtain ⟨q, hq⟩ : ∃ q, partsP s.data.toList = q := ⟨_, rfl⟩
  rw [hq] at ok ⊢
  have hs : ∀ L, wm L (partsP s.data.toList) = wm L q := fun L => by rw [hq]
  refine ⟨?_, ?_, fun hn => ⟨?_, ?_, fun hj => ?_⟩⟩
  · unfold matchB
    rw [if_pos h0, ok.2.2.2]
    show wm q (partsP s.data.toList) = true
    rw [hs, wm_plain q q (last_good ok.1), decide_eq_true rfl, eqs_self (fun _ _ h => h)]; rfl
  · rw [show (⟨#[47, 42, 42]⟩ : ByteArray).data.toList = textP [[42, 42]] by decide, match_text h0 (by intro x hx; rw [List.mem_singleton.1 hx]; exact stars_free) (by decide), hs]
    have := wm_rest [] q
    rw [List.nil_append] at this
    rw [this, eqs_nil, decide_eq_true (by simp)]; rfl
  · rw [match_text h0 (set_free ok.1 _) (set_not1 ok.1 _), hs, wm_plain _ _ (set_last ok.1 _), List.length_set, decide_eq_true rfl, eqs_set _ (fun _ _ h => h)]; rfl
  · rw [match_text h0 (more_free ok.1) (by intro e; have := congrArg List.length e; cases q with | nil => exact hn rfl | cons a r => simp at this), hs, wm_rest, decide_eq_true (Nat.le_refl _), eqs_self (fun _ _ h => h)]; rfl
  · have hjj := hj
    unfold joinE at hjj
    rw [if_pos h0] at hjj
    have hg : goodB m.data.toList = true := by
      cases e : goodB m.data.toList with
      | true => rfl
      | false => rw [e, if_neg (by decide)] at hjj; exact absurd hjj (by decide)
    rw [if_pos hg, hq] at hjj
    have h4 : ¬ q.length = 4 := fun e => by rw [if_pos e] at hjj; exact absurd hjj (by decide)
    have hJ : joinP s.data.toList m.data.toList = textP (q ++ [m.data.toList]) := by unfold joinP; rw [if_pos hj, hq]
    have tp := text_parts (q := q ++ [m.data.toList]) (by rw [List.all_append, ok.1]; simp [hg]) (by rw [List.length_append]; have := ok.2.1; simp; omega)
    rw [hJ]
    have hJs : ∀ L, wm L (partsP (textP (q ++ [m.data.toList]))) = wm L (q ++ [m.data.toList]) := fun L => by rw [tp.2]
    have hpre : ∀ (j : Nat) x, q[j]? = some x → (q ++ [m.data.toList])[j]? = some x := fun j x hx => by
      have : j < q.length := by
        rcases Nat.lt_or_ge j q.length with h | h
        · exact h
        · rw [List.getElem?_eq_none h] at hx; cases hx
      rw [List.getElem?_append_left this]; exact hx
    refine ⟨?_, ?_, ?_⟩
    · rw [match_text tp.1 (more_free ok.1) (by intro e; have := congrArg List.length e; cases q with | nil => exact hn rfl | cons a r => simp at this), hJs, wm_rest, decide_eq_true (by simp), eqs_self hpre]; rfl
    · unfold matchB
      rw [if_pos tp.1, ok.2.2.2]
      show wm q (partsP (textP (q ++ [m.data.toList]))) = false
      rw [hJs, wm_plain _ _ (last_good ok.1), decide_eq_false (by simp)]; rfl
    · rw [match_text tp.1 (set_free ok.1 _) (set_not1 ok.1 _), hJs, wm_plain _ _ (set_last ok.1 _), List.length_set, decide_eq_false (by simp)]; rfl

theorem stars_few {q : List (List UInt8)} (h : q.all goodB = true) (h4 : q.length ≤ 4) (i : Nat) : FewT (q.set i [42]) ∧ FewT (q ++ [[42, 42]]) ∧ (textP (q.set i [42])).length ≤ 2000000 ∧ (textP (q ++ [[42, 42]])).length ≤ 2000000 := by
  have f1 : FewT (q.set i [42]) := ⟨by rw [List.length_set]; omega, fun x hx => by
    rcases set_elems h i x hx with hx | rfl
    · have := (good_len hx).2; omega
    · decide⟩
  have f2 : FewT (q ++ [[42, 42]]) := ⟨by rw [List.length_append]; simp; omega, fun x hx => by
    rcases List.mem_append.1 hx with hx | hx
    · have := (good_len (List.all_eq_true.1 h x hx)).2; omega
    · rw [List.mem_singleton.1 hx]; decide⟩
  refine ⟨f1, f2, ?_, ?_⟩
  · have := FewT.len f1.all
    have := textP_len (q.set i [42])
    have := f1.few
    omega
  · have := FewT.len f2.all
    have := textP_len (q ++ [[42, 42]])
    have := f2.few
    omega

theorem join_short (s : ByteArray) {m : ByteArray} (hm : m.size ≤ 100) : (joinP s.data.toList m.data.toList).length ≤ 2000000 := by
  unfold joinP
  split
  · have hml : m.data.toList.length = m.size := by simp
    have h4 : (partsP s.data.toList).length ≤ 4 := by
      by_cases h0 : errP s.data.toList = 0
      · exact (parts_ok h0).2.1
      · rw [parts_bad h0]; simp
    have f := few_more (a := m.data.toList) (few_parts s.data.toList) (by omega) (by omega)
    have := FewT.len f.all
    have := textP_len (partsP s.data.toList ++ [m.data.toList])
    have := f.few
    omega
  · simp

set_option maxRecDepth 100000 in
set_option maxHeartbeats 8000000 in
theorem pathStars_walk (s : ByteArray) (t : Nat) (m : ByteArray) (hs : s.size ≤ 1048576) (ht : t < 256) (hm : m.size ≤ 1048576) (w : World) : Calls Try.prog 7 #[.string s, .int .u8 (t : Nat), .string m] w fun e w' => e = .returned (.bool true) ∧ Below w.heap.size w w' := by
  go_enter Try.func7, Try.ntmps7
  go_wp2_with fail
  refine (known_any w).mono ?_
  rintro e w1 ⟨rfl, hb⟩
  have B1 := Lib.hid hb
  clear hb
  have PA := Lib.hid (fun w => rParsePB s (by omega) w)
  go_wp2_with fail
  refine (PA.out _).mono ?_
  rintro e w2 ⟨⟨v, rfl, ho⟩, hb⟩
  have B2 := Lib.hid (B1.out.trans (hb.mono B1.out.size))
  clear hb B1
  have OL := Lib.hid ho
  clear ho PA
  by_cases hl : 100 < s.size
  · go_wp2_with fail
    go_ret
    exact ⟨rfl, B2.out⟩
  by_cases hl2 : 100 < m.size
  · go_wp2_with fail
    go_ret
    exact ⟨rfl, B2.out⟩
  by_cases h0 : errP s.data.toList = 0
  · have F := stars_facts h0 m t
    have JN := Lib.hid (fun w => rJoin_any s m (by omega) (by omega) w)
    have ok := parts_ok h0
    rw [h0]
    obtain ⟨q, hq⟩ : ∃ q, partsP s.data.toList = q := ⟨_, rfl⟩
    rw [hq] at OL F ok
    have hq4 := ok.2.1
    have m1 := Lib.hid (fun w => match_any s s (by omega) (by omega) w)
    rw [F.1] at m1
    have m2 := Lib.hid (fun w => match_any ⟨#[47, 42, 42]⟩ s (by decide) (by omega) w)
    rw [F.2.1] at m2
    obtain ⟨a2, c2, rfl, hc2, hm2, hr2⟩ := OL.out.reads
    have R2 := Lib.hid hr2
    clear hq h0 hr2 hm2
    go_wp2_with fail
    refine (m1.out _).mono ?_
    rintro e w3 ⟨rfl, hb⟩
    have B3 := Lib.hid (B2.out.trans (hb.mono B2.out.size))
    have R2 := Lib.hid (R2.out.below hb)
    have OL := Lib.hid (own_below OL.out hb)
    clear hb B2
    go_wp2_with fail
    refine (m2.out _).mono ?_
    rintro e w4 ⟨rfl, hb⟩
    have B4 := Lib.hid (B3.out.trans (hb.mono B3.out.size))
    have R2 := Lib.hid (R2.out.below hb)
    have OL := Lib.hid (own_below OL.out hb)
    clear hb B3
    by_cases hq0 : q = []
    · subst hq0
      rw [show ([] : List (List UInt8)).length = 0 from rfl]
      go_wp2_with fail
      go_ret
      exact ⟨rfl, B4.out⟩
    have hpos : 0 < q.length := List.length_pos_iff.2 hq0
    have F := Lib.hid (F.2.2 hq0)
    obtain ⟨i0, hi0, hz0, hz1, hz2⟩ := info_parts infoStr
    have hsz4 := B4.out.size
    have e0 : ((q.length : Int) == 0) = false := by rw [beq_eq_false_iff_ne]; omega
    obtain ⟨i, hi⟩ : ∃ i, t % q.length = i := ⟨_, rfl⟩
    have hil : i < q.length := by rw [← hi]; exact Nat.mod_lt _ hpos
    have hmod : (t : Int) % (q.length : Int) = (i : Int) := by rw [← Int.natCast_emod, hi]
    have hmod2 : (t : Int).tmod (q.length : Int) = (i : Int) := by rw [Int.tmod_eq_emod_of_nonneg (by omega)]; exact hmod
    have hwr : IntKind.i64.wrap (t : Int) = (t : Int) := IntWalk.i64_in _ (by omega)
    have hwi : IntKind.i64.wrap (i : Int) = (i : Int) := IntWalk.i64_in _ (by omega)
    have hi1 : (0 : Int) ≤ (i : Int) := by omega
    have hi2 : (i : Int) < (q.length : Int) := by omega
    have hi3 : ((i : Int)).toNat = i := by omega
    rw [hi] at F
    have F1 := Lib.hid ((OwnT.from (B := w1.heap.size) (q := q) OL.out).below ((Below.refl w4.heap.size w4).alloc (Nat.le_refl _) (.cells #[] 9)))
    have FQ := Lib.hid (stars_few ok.1 hq4 i)
    clear hq0 hi m1 m2 ok
    go_upto_region 10 with fail
    go_upto_region 11 with (at_builtin; (refine wpList_append_from rfl _ _ 23 rfl (base := w4.heap.size) (e := 9) (i := i0) (z := .string ⟨#[]⟩) (bytes := 16) Try.underlying23 hi0 hz0 hz1 hz2 rfl (.slice (some ⟨w4.heap.size, 0, none⟩) 0 0) (.slice a2 q.length c2) 0 q.length [] (q.map tv) rfl rfl (made_nil w4.heap.size w4 (Nat.le_refl _)) F1.out (tv_one q) (by unfold maxLen; omega) (by omega) (by rw [World.size_alloc]; omega) ?_
                                         intro v5 w5 ho5 hg5 _
                                         have O5 := Lib.hid (show OwnT w4.heap.size w5 v5 q by unfold OwnT; simpa using ho5)
                                         have D5 := Lib.hid (Below.grown ((Below.refl w4.heap.size w4).alloc (Nat.le_refl _) (.cells #[] 9)) hg5 (by rw [World.size_alloc]; omega) (fun k hk => by simp [Value.ownBlock] at hk; omega))
                                         clear ho5 hg5))
    obtain ⟨n, hn⟩ : ∃ n, q.length = n + 1 := ⟨q.length - 1, by omega⟩
    obtain ⟨g5, c5, rfl⟩ : ∃ g c, v5 = .slice (some ⟨g, 0, none⟩) q.length c := by
      have h := O5.out
      unfold OwnT at h
      rw [hn] at h ⊢
      exact ownsRow_succ h
    obtain ⟨k5, z5⟩ := own_cell O5.out (j := i) (v := tv q[i]) (by rw [List.getElem?_map, List.getElem?_eq_getElem hil]; rfl)
    obtain ⟨U, hU⟩ : ∃ U : ByteArray, tv q[i] = .string U := ⟨_, rfl⟩
    rw [hU] at k5
    obtain ⟨O6, g5B⟩ := own_set O5.out i hil (.string ⟨#[42]⟩)
    have O6 := Lib.hid (show OwnT w4.heap.size (w5.setCell ⟨g5, i, none⟩ (.string ⟨#[42]⟩)) (.slice (some ⟨g5, 0, none⟩) q.length c5) (q.set i [42]) by
      unfold OwnT
      rw [List.length_set, List.map_set]
      exact O6)
    have D6 := Lib.hid (D5.out.setCell (p := ⟨g5, i, none⟩) g5B (.string ⟨#[42]⟩))
    clear hU hn O5 D5 g5B F1
    go_upto_region 12 with fail
    generalize hW : World.setCell w5 _ _ = w6
    rw [hW] at O6 D6
    clear hW k5 z5 hmod hmod2 hwr hwi hi1 hi2 hi3
    have hsz6 := D6.out.size
    have F6 := Lib.hid ((OwnT.from (B := w1.heap.size) (q := q) OL.out).below (show Below w4.heap.size w4 (w6.alloc (.cells #[] 9)) from D6.out.alloc hsz6 _))
    go_upto_region 13 with (at_builtin; first
      | (refine wpList_append_from rfl _ _ 23 rfl (base := w6.heap.size) (e := 9) (i := i0) (z := .string ⟨#[]⟩) (bytes := 16) Try.underlying23 hi0 hz0 hz1 hz2 rfl (.slice (some ⟨w6.heap.size, 0, none⟩) 0 0) (.slice a2 q.length c2) 0 q.length [] (q.map tv) rfl rfl (made_nil w6.heap.size w6 (Nat.le_refl _)) F6.out (tv_one q) (by unfold maxLen; omega) (by omega) (by rw [World.size_alloc]; omega) ?_
         intro v7 w7 ho7 hg7 _
         have O7 := Lib.hid (show w7.ownsRow w6.heap.size 9 1 v7 q.length (q.map tv) by simpa using ho7)
         have D7 := Lib.hid (Below.grown ((Below.refl w6.heap.size w6).alloc (Nat.le_refl _) (.cells #[] 9)) hg7 (by rw [World.size_alloc]; omega) (fun k hk => by simp [Value.ownBlock] at hk; omega))
         have hsz7 := D7.out.size
         clear ho7 hg7)
      | (refine wpList_append_from rfl _ _ 23 rfl (base := w6.heap.size) (e := 9) (i := i0) (z := .string ⟨#[]⟩) (bytes := 16) Try.underlying23 hi0 hz0 hz1 hz2 rfl v7 (.slice (some ⟨w7.heap.size, 0, none⟩) 1 1) q.length 1 (q.map tv) [.string ⟨#[42, 42]⟩] rfl rfl (O7.out.alloc _) (from_one (by simp)) (by simp [Value.oneCell']) (by unfold maxLen; omega) (by omega) (by rw [World.size_alloc]; omega) ?_
         intro v8 w8 ho8 hg8 _
         have O8 := Lib.hid (show OwnT w6.heap.size w8 v8 (q ++ [[42, 42]]) from own_more ho8)
         have D8 := Lib.hid ((D7.out.alloc hsz7 (.cells #[.string ⟨#[42, 42]⟩] 9)).grown hg8 (by rw [World.size_alloc]; omega) (fun k hk => (O7.out.lt k hk).1))
         clear ho8 hg8))
    have P8 := Lib.hid (show OwnT w4.heap.size w8 (.slice (some ⟨g5, 0, none⟩) q.length c5) (q.set i [42]) from own_below O6.out D8.out)
    have B8 := Lib.hid (B4.out.trans ((D6.out.trans (D8.out.mono hsz6)).mono hsz4))
    obtain ⟨a8, c8, rfl, -, -, hr8⟩ := O8.out.reads
    rw [show List.length (q ++ [[42, 42]]) = q.length + 1 by simp]
    obtain ⟨b8, d8, hb8, -, -, hs8⟩ := P8.out.reads
    have RQ := Lib.hid hr8
    have RP := Lib.hid (show RT w8 (some ⟨g5, 0, none⟩) (q.set i [42]) by simp only [Value.slice.injEq] at hb8; rw [hb8.1]; exact hs8)
    clear hr8 hs8 hb8 O8 P8 O7 D7 D8 O6 D6 OL F6 R2
    
    obtain ⟨J, hJ⟩ : ∃ J : ByteArray, tv (joinP s.data.toList m.data.toList) = .string J := ⟨_, rfl⟩
    have hJl : joinP s.data.toList m.data.toList = J.data.toList := by cases hJ; rfl
    have hJs := join_short s (m := m) (by omega)
    rw [hJl] at hJs
    have hJz : J.size ≤ 2000000 := by have : J.data.toList.length = J.size := by simp
                                      omega
    obtain ⟨je, hje⟩ : ∃ q, joinE s.data.toList m.data.toList = q := ⟨_, rfl⟩
    rw [hJ, hje] at JN
    have F := F.out
    rw [hJl, hje] at F
    obtain ⟨T1, hT1⟩ : ∃ J : ByteArray, tv (textP (q.set i [42])) = .string J := ⟨_, rfl⟩
    have h1l : textP (q.set i [42]) = T1.data.toList := by cases hT1; rfl
    obtain ⟨T2, hT2⟩ : ∃ J : ByteArray, tv (textP (q ++ [[42, 42]])) = .string J := ⟨_, rfl⟩
    have h2l : textP (q ++ [[42, 42]]) = T2.data.toList := by cases hT2; rfl
    have X1 := Lib.hid (fun w h => rPathText_any (some ⟨g5, 0, none⟩) c5 (q.set i [42]) FQ.out.1 w h)
    rw [List.length_set, hT1] at X1
    have X2 := Lib.hid (fun w h => rPathText_any a8 c8 (q ++ [[42, 42]]) FQ.out.2.1 w h)
    rw [hT2, show List.length (q ++ [[42, 42]]) = q.length + 1 by simp] at X2
    have h1s := FQ.out.2.2.1
    have h2s := FQ.out.2.2.2
    rw [h1l] at F h1s
    rw [h2l] at F h2s
    have h1z : T1.size ≤ 2000000 := by have : T1.data.toList.length = T1.size := by simp
                                       omega
    have h2z : T2.size ≤ 2000000 := by have : T2.data.toList.length = T2.size := by simp
                                       omega
    have M1 := Lib.hid (fun w => match_any T1 s (by omega) (by omega) w)
    rw [F.1] at M1
    have M2 := Lib.hid (fun w => match_any T2 s (by omega) (by omega) w)
    rw [F.2.1] at M2
    have M3 := Lib.hid (fun w => match_any T2 J (by omega) (by omega) w)
    have M4 := Lib.hid (fun w => match_any s J (by omega) (by omega) w)
    have M5 := Lib.hid (fun w => match_any T1 J (by omega) (by omega) w)
    have F := Lib.hid F.2.2
    clear hJl hJs hJ hje hT1 h1l hT2 h2l h1s h2s FQ h1z h2z hJz
    go_wp2_with fail
    refine (JN.out _).mono ?_
    rintro e w9 ⟨rfl, hb⟩
    have B9 := Lib.hid (B8.out.trans (hb.mono B8.out.size))
    have RQ := Lib.hid (RQ.out.below hb)
    have RP := Lib.hid (RP.out.below hb)
    clear hb B8
    go_wp2_with fail
    refine (X1.out _ RP.out).mono ?_
    rintro e w10 ⟨rfl, hb⟩
    have B10 := Lib.hid (B9.out.trans (hb.mono B9.out.size))
    have RQ := Lib.hid (RQ.out.below hb)
    have RP := Lib.hid (RP.out.below hb)
    clear hb B9
    go_wp2_with fail
    refine (M1.out _).mono ?_
    rintro e w11 ⟨rfl, hb⟩
    have B11 := Lib.hid (B10.out.trans (hb.mono B10.out.size))
    have RQ := Lib.hid (RQ.out.below hb)
    have RP := Lib.hid (RP.out.below hb)
    clear hb B10
    go_wp2_with fail
    refine (X2.out _ RQ.out).mono ?_
    rintro e w12 ⟨rfl, hb⟩
    have B12 := Lib.hid (B11.out.trans (hb.mono B11.out.size))
    have RQ := Lib.hid (RQ.out.below hb)
    have RP := Lib.hid (RP.out.below hb)
    clear hb B11
    go_wp2_with fail
    refine (M2.out _).mono ?_
    rintro e w13 ⟨rfl, hb⟩
    have B13 := Lib.hid (B12.out.trans (hb.mono B12.out.size))
    have RQ := Lib.hid (RQ.out.below hb)
    have RP := Lib.hid (RP.out.below hb)
    clear hb B12
    by_cases hj : je = 0
    · have f := F.out hj
      rw [f.1] at M3
      rw [f.2.1] at M4
      rw [f.2.2] at M5
      subst hj
      clear f F
      go_wp2_with fail
      refine (X2.out _ RQ.out).mono ?_
      rintro e w14 ⟨rfl, hb⟩
      have B14 := Lib.hid (B13.out.trans (hb.mono B13.out.size))
      have RQ := Lib.hid (RQ.out.below hb)
      have RP := Lib.hid (RP.out.below hb)
      clear hb B13
      go_wp2_with fail
      refine (M3.out _).mono ?_
      rintro e w15 ⟨rfl, hb⟩
      have B15 := Lib.hid (B14.out.trans (hb.mono B14.out.size))
      have RQ := Lib.hid (RQ.out.below hb)
      have RP := Lib.hid (RP.out.below hb)
      clear hb B14
      go_wp2_with fail
      refine (M4.out _).mono ?_
      rintro e w16 ⟨rfl, hb⟩
      have B16 := Lib.hid (B15.out.trans (hb.mono B15.out.size))
      have RQ := Lib.hid (RQ.out.below hb)
      have RP := Lib.hid (RP.out.below hb)
      clear hb B15
      go_wp2_with fail
      refine (X1.out _ RP.out).mono ?_
      rintro e w17 ⟨rfl, hb⟩
      have B17 := Lib.hid (B16.out.trans (hb.mono B16.out.size))
      have RQ := Lib.hid (RQ.out.below hb)
      have RP := Lib.hid (RP.out.below hb)
      clear hb B16
      go_wp2_with fail
      refine (M5.out _).mono ?_
      rintro e w18 ⟨rfl, hb⟩
      have B18 := Lib.hid (B17.out.trans (hb.mono B17.out.size))
      have RQ := Lib.hid (RQ.out.below hb)
      have RP := Lib.hid (RP.out.below hb)
      clear hb B17
      go_wp2_with fail
      go_ret
      exact ⟨rfl, B18.out⟩
    · have ej : (je == 0) = false := beq_eq_false_iff_ne.2 hj
      have ej' : (je != 0) = true := by rw [bne, ej]; rfl
      go_wp2_with fail
      go_ret
      exact ⟨rfl, B13.out⟩
  · have e0 : (errP s.data.toList == 0) = false := beq_eq_false_iff_ne.2 h0
    obtain ⟨x, hx⟩ : ∃ x, errP s.data.toList = x := ⟨_, rfl⟩
    rw [hx] at e0
    rw [hx]
    have e1 : (x != 0) = true := by rw [bne, e0]; rfl
    clear hx h0 OL
    go_wp2_with fail
    go_ret
    exact ⟨rfl, B2.out⟩

end Go.Proofs.Ytlgkffcomnclnaa
