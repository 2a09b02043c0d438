/-
  No statement: the contract of Match of package path.
-/
import Derived.Test.YtlgkffcomnclnaaPUnder
namespace Go.Proofs.Ytlgkffcomnclnaa
open Go.RowKit

/-- As the program walks over a pattern. -/
def pw : List UInt8 → List (List UInt8) → Bool
  | p, [] => p == [] || p == [47, 42, 42]
  | p, x :: l => if headL p = [42, 42] ∧ restL p = [] then true else if ¬ headL p = [42] ∧ ¬ headL p = x then false else pw (restL p) l

theorem pw_nil (p : List UInt8) : pw p [] = (p == [] || p == [47, 42, 42]) := by cases p <;> rfl
theorem pw_cons (p x : List UInt8) (l : List (List UInt8)) : pw p (x :: l) = if headL p = [42, 42] ∧ restL p = [] then true else if ¬ headL p = [42] ∧ ¬ headL p = x then false else pw (restL p) l := rfl

theorem wm_cons (a : List UInt8) (q : List (List UInt8)) (x : List UInt8) (l : List (List UInt8)) : wm (a :: q) (x :: l) = if a = [42, 42] ∧ q = [] then true else if ¬ a = [42] ∧ ¬ a = x then false else wm q l := rfl

theorem headL_not {c : UInt8} (h : ¬ c = 47) (r : List UInt8) : headL (c :: r) = [] := if_neg h

theorem join_nil_iff (q : List (List UInt8)) : joinT q = [] ↔ q = [] := ⟨joinT_empty, fun h => by rw [h]; rfl⟩

theorem beq_dec (a b : List UInt8) : (a == b) = decide (a = b) := by
  cases h : (a == b) with
  | true => exact (decide_eq_true (beq_iff_eq.1 h)).symm
  | false => exact (decide_eq_false (beq_eq_false_iff_ne.1 h)).symm

theorem beq_decQ (a b : List (List UInt8)) : (a == b) = decide (a = b) := by
  cases h : (a == b) with
  | true => exact (decide_eq_true (beq_iff_eq.1 h)).symm
  | false => exact (decide_eq_false (beq_eq_false_iff_ne.1 h)).symm

theorem pw_wm : ∀ (l L : List (List UInt8)), Free L → (∀ x ∈ l, x ≠ []) → pw (joinT L) l = wm L l
  | [], L, hL, _ => by
    rw [pw_nil, wm_nil, beq_dec, beq_dec, beq_decQ, beq_decQ, decide_eq_decide.2 (join_nil_iff L)]
    congr 1
    apply decide_eq_decide.2
    constructor
    · intro h
      cases L with
      | nil => cases h
      | cons a q =>
        rw [joinT_cons] at h
        have h1 := (List.cons.inj h).2
        have h2 := segs_joinT q a hL
        rw [h1] at h2
        rw [← h2]; rfl
    · rintro rfl; rfl
  | x :: l, [], _, hx => by
    rw [pw_cons]
    show (if ([] : List UInt8) = [42, 42] ∧ ([] : List UInt8) = [] then true else if ¬ ([] : List UInt8) = [42] ∧ ¬ ([] : List UInt8) = x then false else pw [] l) = false
    rw [if_neg (by simp), if_pos ⟨by simp, fun h => hx x (by simp) h.symm⟩]
  | x :: l, a :: q, hL, hx => by
    have h := head_join (q := q) (hL a (by simp))
    rw [pw_cons, h.1, h.2]
    have ih := pw_wm l q (fun b hb => hL b (by simp [hb])) (fun y hy => hx y (by simp [hy]))
    rw [ih, wm_cons]
    by_cases c : a = [42, 42] ∧ q = []
    · rw [if_pos c, if_pos ⟨c.1, (join_nil_iff q).2 c.2⟩]
    · rw [if_neg c, if_neg (fun h => c ⟨h.1, (join_nil_iff q).1 h.2⟩)]

theorem pw_not {p : List UInt8} (h : headL p = []) {x : List UInt8} (hx : x ≠ []) (l : List (List UInt8)) : pw p (x :: l) = false := by
  rw [pw_cons, h, if_neg (by simp), if_pos ⟨by simp, fun e => hx e.symm⟩]

/-- What Match answers, as the program does it. -/
theorem match_is {p s : List UInt8} (h : errP s = 0) : matchB p s = if partsP s = [] then (p == [47] || p == [47, 42, 42]) else pw p (partsP s) := by
  have k := parts_ok h
  obtain ⟨q, hq⟩ : ∃ q, partsP s = q := ⟨_, rfl⟩
  unfold matchB
  rw [if_pos h, hq]
  rw [hq] at k
  have hne : ∀ x ∈ q, x ≠ [] := fun x hx => good_ne (List.all_eq_true.1 k.1 x hx)
  cases hc : cutL p with
  | none =>
    show false = _
    cases p with
    | nil =>
      cases q with
      | nil => rfl
      | cons x l => rw [if_neg (by simp), pw_not rfl (hne x (by simp))]
    | cons c r =>
      have hc' : ¬ c = 47 := by
        rintro rfl
        rw [cutL_stroke] at hc
        split at hc <;> cases hc
      cases q with
      | nil =>
        rw [if_pos rfl, beq_dec, beq_dec, decide_eq_false (fun e => hc' (List.cons.inj e).1), decide_eq_false (fun e => hc' (List.cons.inj e).1)]; rfl
      | cons x l => rw [if_neg (by simp), pw_not (headL_not hc' r) (hne x (by simp))]
  | some L =>
    show wm L q = _
    have hp := cut_some hc
    by_cases hL : L = []
    · subst hL
      have : p = [47] := hp.1
      subst this
      cases q with
      | nil => rfl
      | cons x l => rw [if_neg (by simp), pw_not rfl (hne x (by simp))]; rfl
    · have hpj : p = joinT L := by rw [hp.1, textP, if_neg hL]
      rw [← pw_wm q L hp.2.1 hne, ← hpj]
      cases q with
      | nil =>
        rw [if_pos rfl, pw_nil]
        congr 1
        rw [beq_dec, beq_dec]
        apply decide_eq_decide.2
        constructor
        · intro e; rw [e] at hpj; exact absurd (joinT_empty hpj.symm) hL
        · intro e
          exfalso
          have := hp.2.2
          cases L with
          | nil => exact hL rfl
          | cons a q =>
            rw [joinT_cons, e] at hpj
            have h2 := List.append_eq_nil_iff.1 (List.cons.inj hpj).2.symm
            exact this (by rw [h2.1, joinT_empty h2.2])
      | cons x l => rw [if_neg (by simp)]

theorem rest_len : ∀ p : List UInt8, (restL p).length ≤ p.length
  | [] => Nat.le_refl _
  | c :: r => by
    show (if c = 47 then r.dropWhile (fun d => !(d == 47)) else []).length ≤ r.length + 1
    by_cases h : c = 47
    · have := (List.dropWhile_sublist (l := r) (fun d => !(d == 47))).length_le
      rw [if_pos h]; omega
    · rw [if_neg h]; simp

theorem head_len : ∀ p : List UInt8, (headL p).length ≤ p.length
  | [] => Nat.le_refl _
  | c :: r => by
    show (if c = 47 then r.takeWhile (fun d => !(d == 47)) else []).length ≤ r.length + 1
    by_cases h : c = 47
    · have := (List.takeWhile_sublist (l := r) (fun d => !(d == 47))).length_le
      rw [if_pos h]; omega
    · rw [if_neg h]; simp

theorem ret_bool {a b : Bool} (h : a = b) : Ending.returned (.bool a) = .returned (.bool b) := by rw [h]

set_option maxRecDepth 100000 in
set_option maxHeartbeats 4000000 in
theorem match_any (p s : ByteArray) (hp : p.size ≤ 281474976710656) (hs : s.size ≤ 281474976710656) (w : World) : Calls Try.prog 27 #[.string p, .string s] w fun e w' => e = .returned (.bool (matchB p.data.toList s.data.toList)) ∧ Below w.heap.size w w' := by
  have CA := Lib.hid (fun w => cut_any s hs w)
  by_cases h0 : errP s.data.toList = 0
  · have I := IsC.of h0 hs
    rw [cutV_ok h0, h0] at CA
    have ok := (parts_ok h0).1
    rw [match_is h0]
    obtain ⟨q, hq⟩ : ∃ q, partsP s.data.toList = q := ⟨_, rfl⟩
    rw [hq] at CA I ok ⊢
    clear hq h0
    have l4 := I.few
    have PT := Lib.hid (fun i hi w => part_any s q I i hi w)
    have GD := Lib.hid (show ∀ i (hi : i < q.length), goodB q[i] = true from fun i hi => List.all_eq_true.1 ok _ (List.getElem_mem hi))
    clear I ok
    by_cases hq0 : q = []
    · subst hq0
      rw [if_pos rfl]
      unfold cutsV at CA
      rw [show (([] : List (List UInt8)).length) = 0 from rfl] at CA
      have f1 : (p.toList == [47]) = (p.data.toList == [47]) := by rw [Lib.toList_data]
      have f2 : (p.toList == [47, 42, 42]) = (p.data.toList == [47, 42, 42]) := by rw [Lib.toList_data]
      obtain ⟨b1, h1⟩ : ∃ b, (p.data.toList == [47]) = b := ⟨_, rfl⟩
      obtain ⟨b2, h2⟩ : ∃ b, (p.data.toList == [47, 42, 42]) = b := ⟨_, rfl⟩
      rw [h1] at f1 ⊢
      rw [h2] at f2 ⊢
      clear h1 h2
      go_enter Try.func27, Try.ntmps27
      go_wp2_with fail
      refine (CA.out _).mono ?_
      rintro e w1 ⟨rfl, hb1⟩
      have B1 := Lib.hid hb1
      clear hb1 CA
      cases b1 <;> cases b2 <;> (go_wp2_with fail; go_ret; exact ⟨rfl, B1.out.alloc B1.out.size _⟩)
    · rw [if_neg hq0]
      have hpos : 0 < q.length := List.length_pos_iff.2 hq0
      have e0 : ((q.length : Int) == 0) = false := by rw [beq_eq_false_iff_ne]; omega
      clear hq0
      obtain ⟨ans, hans⟩ : ∃ b, pw p.data.toList q = b := ⟨_, rfl⟩
      rw [hans]
      have HA := Lib.hid hans
      clear hans
      unfold cutsV at CA PT
      go_enter Try.func27, Try.ntmps27
      go_wp2_with fail
      refine (CA.out _).mono ?_
      rintro e w1 ⟨rfl, hb1⟩
      have B1 := Lib.hid hb1
      clear hb1 CA
      go_upto_region 2 with fail
      generalize hW : World.alloc w1 _ = w2
      have P2 := Lib.hid (show C7 w2 w1.heap.size s q.length (endN q 0) (endN q 1) (endN q 2) (endN q 3) (endN q 4) by rw [← hW]; exact C7.boxed w1 s q)
      have B2 := Lib.hid (show Below w.heap.size w w2 by rw [← hW]; exact B1.out.alloc B1.out.size _)
      clear hW
      have c1 := P2.out.cells.2.1
      go_wp2_with fail
      clear c1
      go_loopw [0, 28] (fun x i wr => ∃ (k : Nat) (X : ByteArray), i = .int .i64 k ∧ x = .string X ∧ k ≤ q.length ∧ X.size ≤ p.size ∧ Hid (pw X.data.toList (q.drop k) = ans) ∧ Hid (C7 wr w1.heap.size s q.length (endN q 0) (endN q 1) (endN q 2) (endN q 3) (endN q 4)) ∧ Hid (Below w.heap.size w wr)) (fun _ i _ => q.length - (intOf i).toNat)
      case atStart => exact ⟨0, p, rfl, rfl, Nat.zero_le _, Nat.le_refl _, HA, P2, B2⟩
      case round =>
        obtain ⟨k, X, rfl, rfl, hk, hX, ha, hc, hb⟩ := hrel
        by_cases hlt : k < q.length
        · have FI := Lib.hid (fun w => first_any X (by omega) w)
          have PK := Lib.hid (fun w => PT.out k hlt w)
          have hd : q.drop k = q[k] :: q.drop (k + 1) := List.drop_eq_getElem_cons hlt
          have hg := GD.out k hlt
          have hrl := rest_len X.data.toList
          rw [hd, pw_cons] at ha
          obtain ⟨a, hA⟩ : ∃ a, headL X.data.toList = a := ⟨_, rfl⟩
          obtain ⟨r, hR⟩ : ∃ r, restL X.data.toList = r := ⟨_, rfl⟩
          obtain ⟨z, hz⟩ : ∃ z, q[k] = z := ⟨_, rfl⟩
          rw [hA, hR] at FI ha
          rw [hR] at hrl
          rw [hz] at PK ha hg
          clear hA hR hz hd
          obtain ⟨T, hT⟩ : ∃ T : ByteArray, ⟨a.toArray⟩ = T := ⟨_, rfl⟩
          obtain ⟨Y, hY⟩ : ∃ T : ByteArray, ⟨r.toArray⟩ = T := ⟨_, rfl⟩
          obtain ⟨Z, hZ⟩ : ∃ T : ByteArray, ⟨z.toArray⟩ = T := ⟨_, rfl⟩
          have hTl : T.toList = a := by rw [← hT, tv_text]
          have hYl : Y.toList = r := by rw [← hY, tv_text]
          have hZl : Z.toList = z := by rw [← hZ, tv_text]
          have hYd : Y.data.toList = r := by rw [← hY]
          have hYs : Y.size ≤ p.size := by
            have h1 : Y.data.toList.length = Y.size := by simp
            have h2 : X.data.toList.length = X.size := by simp
            rw [hYd] at h1; omega
          unfold tv at FI PK
          rw [hT, hY] at FI
          rw [hZ] at PK
          clear hT hY hZ hrl
          obtain ⟨c0, c1, c2, c3, c4, c5, c6⟩ := hc.out.cells
          have ha := ha.out
          by_cases h1 : a = [42, 42] ∧ r = []
          · rw [if_pos h1] at ha
            have e1 : (T.toList == [42, 42]) = true := beq_iff_eq.2 (by rw [hTl]; exact h1.1)
            have e2 : (Y.toList == []) = true := beq_iff_eq.2 (by rw [hYl]; exact h1.2)
            clear h1 hg hTl hYl hZl hYd PK
            subst ha
            go_wp2_with fail
            refine (FI.out _).mono ?_
            rintro e w4 ⟨rfl, hb4⟩
            have B4 := Lib.hid (hb.out.trans (hb4.mono hb.out.size))
            clear hb4
            go_wp2_with fail
            go_ret
            exact ⟨rfl, B4.out⟩
          · rw [if_neg h1] at ha
            by_cases h2 : ¬ a = [42] ∧ ¬ a = z
            · rw [if_pos h2] at ha
              have e3 : (T.toList == [42]) = false := beq_eq_false_iff_ne.2 (by rw [hTl]; exact h2.1)
              have e4 : (T.toList == Z.toList) = false := beq_eq_false_iff_ne.2 (by rw [hTl, hZl]; exact h2.2)
              subst ha
              by_cases h3 : a = [42, 42]
              · have e1 : (T.toList == [42, 42]) = true := beq_iff_eq.2 (by rw [hTl]; exact h3)
                have e2 : (Y.toList == []) = false := beq_eq_false_iff_ne.2 (by rw [hYl]; exact fun h => h1 ⟨h3, h⟩)
                clear h1 h2 h3 hg hTl hYl hZl hYd
                go_wp2_with fail
                refine (FI.out _).mono ?_
                rintro e w4 ⟨rfl, hb4⟩
                have C4 := Lib.hid (hc.out.kept hb4)
                have B4 := Lib.hid (hb.out.trans (hb4.mono hb.out.size))
                clear hb4 c0 c1 c2 c3 c4 c5 c6
                obtain ⟨c0, c1, c2, c3, c4, c5, c6⟩ := C4.out.cells
                go_wp2_with fail
                refine (PK.out _).mono ?_
                rintro e w5 ⟨rfl, hb5⟩
                have B5 := Lib.hid (B4.out.trans (hb5.mono B4.out.size))
                clear hb5
                go_wp2_with fail
                go_ret
                exact ⟨rfl, B5.out⟩
              · have e1 : (T.toList == [42, 42]) = false := beq_eq_false_iff_ne.2 (by rw [hTl]; exact h3)
                clear h1 h2 h3 hg hTl hYl hZl hYd
                go_wp2_with fail
                refine (FI.out _).mono ?_
                rintro e w4 ⟨rfl, hb4⟩
                have C4 := Lib.hid (hc.out.kept hb4)
                have B4 := Lib.hid (hb.out.trans (hb4.mono hb.out.size))
                clear hb4 c0 c1 c2 c3 c4 c5 c6
                obtain ⟨c0, c1, c2, c3, c4, c5, c6⟩ := C4.out.cells
                go_wp2_with fail
                refine (PK.out _).mono ?_
                rintro e w5 ⟨rfl, hb5⟩
                have B5 := Lib.hid (B4.out.trans (hb5.mono B4.out.size))
                clear hb5
                go_wp2_with fail
                go_ret
                exact ⟨rfl, B5.out⟩
            · rw [if_neg h2] at ha
              have H1 := Lib.hid (show pw Y.data.toList (q.drop (k + 1)) = ans by rw [hYd]; exact ha)
              have h3 : ¬ a = [42, 42] := by
                rintro rfl
                apply h2
                refine ⟨by decide, ?_⟩
                rintro rfl
                revert hg; decide
              have e1 : (T.toList == [42, 42]) = false := beq_eq_false_iff_ne.2 (by rw [hTl]; exact h3)
              by_cases h4 : a = [42]
              · have e3 : (T.toList == [42]) = true := beq_iff_eq.2 (by rw [hTl]; exact h4)
                clear h1 h2 h3 h4 hg hTl hYl hZl hYd ha PK
                go_wp2_with fail
                refine (FI.out _).mono ?_
                rintro e w4 ⟨rfl, hb4⟩
                have C4 := Lib.hid (hc.out.kept hb4)
                have B4 := Lib.hid (hb.out.trans (hb4.mono hb.out.size))
                clear hb4
                go_wp2_with fail
                go_roundw
                case rel => exact ⟨k + 1, Y, by go_num, rfl, by omega, hYs, H1, C4, B4⟩
                case measure => simp [intOf]; omega
              · have h5 : a = z := Classical.byContradiction fun h => h2 ⟨h4, h⟩
                have e3 : (T.toList == [42]) = false := beq_eq_false_iff_ne.2 (by rw [hTl]; exact h4)
                have e4 : (T.toList == Z.toList) = true := beq_iff_eq.2 (by rw [hTl, hZl]; exact h5)
                clear h1 h2 h3 h4 h5 hg hTl hYl hZl hYd ha
                go_wp2_with fail
                refine (FI.out _).mono ?_
                rintro e w4 ⟨rfl, hb4⟩
                have C4 := Lib.hid (hc.out.kept hb4)
                have B4 := Lib.hid (hb.out.trans (hb4.mono hb.out.size))
                clear hb4 c0 c1 c2 c3 c4 c5 c6
                obtain ⟨c0, c1, c2, c3, c4, c5, c6⟩ := C4.out.cells
                go_wp2_with fail
                refine (PK.out _).mono ?_
                rintro e w5 ⟨rfl, hb5⟩
                have C5 := Lib.hid (C4.out.kept hb5)
                have B5 := Lib.hid (B4.out.trans (hb5.mono B4.out.size))
                clear hb5
                go_wp2_with fail
                go_roundw
                case rel => exact ⟨k + 1, Y, by go_num, rfl, by omega, hYs, H1, C5, B5⟩
                case measure => simp [intOf]; omega
        · obtain rfl : k = q.length := by omega
          have ha := ha.out
          rw [List.drop_length, pw_nil] at ha
          have f1 : (X.toList == []) = (X.data.toList == []) := by rw [Lib.toList_data]
          have f2 : (X.toList == [47, 42, 42]) = (X.data.toList == [47, 42, 42]) := by rw [Lib.toList_data]
          obtain ⟨b1, h1⟩ : ∃ b, (X.data.toList == []) = b := ⟨_, rfl⟩
          obtain ⟨b2, h2⟩ : ∃ b, (X.data.toList == [47, 42, 42]) = b := ⟨_, rfl⟩
          rw [h1] at f1 ha
          rw [h2] at f2 ha
          subst ha
          clear h1 h2
          cases b1 <;> cases b2 <;> (go_wp2_with fail; go_ret; exact ⟨rfl, hb.out⟩)
  · have e0 : (errP s.data.toList == 0) = false := beq_eq_false_iff_ne.2 h0
    rw [cutV_bad h0] at CA
    rw [show matchB p.data.toList s.data.toList = false from if_neg h0]
    obtain ⟨x, hx⟩ : ∃ x, errP s.data.toList = x := ⟨_, rfl⟩
    rw [hx] at CA e0
    clear hx h0
    unfold noCuts at CA
    go_enter Try.func27, Try.ntmps27
    go_wp2_with fail
    refine (CA.out _).mono ?_
    rintro e w1 ⟨rfl, hb1⟩
    have B1 := Lib.hid hb1
    clear hb1 CA
    go_wp2_with fail
    go_ret
    exact ⟨rfl, B1.out.alloc B1.out.size _⟩

end Go.Proofs.Ytlgkffcomnclnaa
