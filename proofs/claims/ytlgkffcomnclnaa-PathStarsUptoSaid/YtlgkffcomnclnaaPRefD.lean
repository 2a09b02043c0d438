/-
  No statement: the contracts of the document's Pattern, Match.
-/
import Derived.Test.YtlgkffcomnclnaaPRefC
namespace Go.Proofs.Ytlgkffcomnclnaa
open Go.RowKit

/-- Are these parts a pattern's? -/
def patL : List (List UInt8) → Bool
  | [] => true
  | a :: r => decide (goodB a = true ∨ a = [42] ∨ a = [42, 42] ∧ r = []) && patL r

theorem patL_cons (a : List UInt8) (r : List (List UInt8)) : patL (a :: r) = (decide (goodB a = true ∨ a = [42] ∨ a = [42, 42] ∧ r = []) && patL r) := rfl

/-- Is a text a pattern? -/
def patB (l : List UInt8) : Bool := match cutL l with
  | none => false
  | some L => patL L

/-- Do the parts of a pattern, one by one, take those of a path's begin? -/
def eqs : List (List UInt8) → List (List UInt8) → Bool
  | [], _ => true
  | a :: q, x :: l => decide (a = [42] ∨ a = x) && eqs q l
  | _ :: _, [] => false

theorem eqs_cons (a x : List UInt8) (q l : List (List UInt8)) : eqs (a :: q) (x :: l) = (decide (a = [42] ∨ a = x) && eqs q l) := rfl
theorem eqs_nil (l : List (List UInt8)) : eqs [] l = true := by cases l <;> rfl

theorem wm_pat : ∀ (l L : List (List UInt8)), l.all goodB = true → wm L l = true → patL L = true
  | [], L, _, h => by
    rw [wm_nil, Bool.or_eq_true, beq_iff_eq, beq_iff_eq] at h
    rcases h with rfl | rfl <;> rfl
  | x :: l, [], _, h => by cases h
  | x :: l, a :: q, hl, h => by
    rw [List.all_cons, Bool.and_eq_true] at hl
    rw [wm_cons] at h
    by_cases c : a = [42, 42] ∧ q = []
    · rw [c.1, c.2]; rfl
    · rw [if_neg c] at h
      by_cases d : ¬ a = [42] ∧ ¬ a = x
      · rw [if_pos d] at h; cases h
      · rw [if_neg d] at h
        rw [patL_cons, wm_pat l q hl.2 h, Bool.and_true]
        apply decide_eq_true
        by_cases e : a = [42]
        · exact .inr (.inl e)
        · have : a = x := Classical.byContradiction fun f => d ⟨e, f⟩
          exact .inl (by rw [this]; exact hl.1)

theorem good_star : goodB [42] = false := by decide
theorem good_stars : goodB [42, 42] = false := by decide

theorem wm_step {a x : List UInt8} {q l : List (List UInt8)} (c : ¬ (a = [42, 42] ∧ q = [])) : wm (a :: q) (x :: l) = (decide (a = [42] ∨ a = x) && wm q l) := by
  rw [wm_cons, if_neg c]
  by_cases d : ¬ a = [42] ∧ ¬ a = x
  · rw [if_pos d, decide_eq_false (fun h => h.elim d.1 d.2)]; rfl
  · rw [if_neg d, decide_eq_true, Bool.true_and]
    by_cases e : a = [42]
    · exact .inl e
    · exact .inr (Classical.byContradiction fun f => d ⟨e, f⟩)

theorem wm_plain : ∀ (L l : List (List UInt8)), ¬ L.getLast? = some [42, 42] → wm L l = (decide (L.length = l.length) && eqs L l)
  | [], [], _ => rfl
  | [], x :: l, _ => by rw [decide_eq_false (by simp)]; rfl
  | a :: q, [], h => by
    rw [wm_nil, beq_decQ, beq_decQ, decide_eq_false (p := a :: q = []) (by simp), decide_eq_false (fun e => h (by rw [e]; rfl)), decide_eq_false (by simp)]
    rfl
  | a :: q, x :: l, h => by
    have c : ¬ (a = [42, 42] ∧ q = []) := fun e => h (by rw [e.1, e.2]; rfl)
    have hq : ¬ q.getLast? = some [42, 42] := by
      intro e
      apply h
      cases q with
      | nil => cases e
      | cons b r => rw [List.getLast?_cons_cons]; exact e
    rw [wm_step c, wm_plain q l hq, eqs_cons]
    have : decide ((a :: q).length = (x :: l).length) = decide (q.length = l.length) := decide_eq_decide.2 (by simp)
    rw [this]
    cases decide (a = [42] ∨ a = x) <;> cases decide (q.length = l.length) <;> simp

theorem wm_rest : ∀ (Q l : List (List UInt8)), wm (Q ++ [[42, 42]]) l = (decide (Q.length ≤ l.length) && eqs Q l)
  | [], [] => rfl
  | [], x :: l => by
    rw [List.nil_append, wm_cons, if_pos ⟨rfl, rfl⟩, decide_eq_true (by simp), eqs_nil]; rfl
  | a :: Q, [] => by
    rw [wm_nil, beq_decQ, beq_decQ, decide_eq_false (p := (a :: Q) ++ [[42, 42]] = []) (by simp), decide_eq_false, decide_eq_false (by simp)]
    · rfl
    · intro e
      have := congrArg List.length e
      simp at this
  | a :: Q, x :: l => by
    have c : ¬ (a = [42, 42] ∧ Q ++ [[42, 42]] = []) := fun e => by simp at e
    rw [List.cons_append, wm_step c, wm_rest Q l, eqs_cons]
    have : decide ((a :: Q).length ≤ (x :: l).length) = decide (Q.length ≤ l.length) := decide_eq_decide.2 (by simp)
    rw [this]
    cases decide (a = [42] ∨ a = x) <;> cases decide (Q.length ≤ l.length) <;> simp

theorem eqs_drop : ∀ (Q l : List (List UInt8)) (k : Nat) (hk : k < Q.length) (hl : k < l.length), eqs (Q.drop k) (l.drop k) = (decide (Q[k] = [42] ∨ Q[k] = l[k]) && eqs (Q.drop (k + 1)) (l.drop (k + 1))) := by
  intro Q l k hk hl
  rw [List.drop_eq_getElem_cons hk, List.drop_eq_getElem_cons hl, eqs_cons]

theorem match_not {p s : List UInt8} (h : patB p = false) : matchB p s = false := by
  unfold matchB
  by_cases h0 : errP s = 0
  · rw [if_pos h0]
    unfold patB at h
    cases hc : cutL p with
    | none => rfl
    | some L =>
      rw [hc] at h
      show wm L (partsP s) = false
      cases hw : wm L (partsP s) with
      | false => rfl
      | true =>
        have := wm_pat (partsP s) L (parts_ok h0).1 hw
        exact absurd (this.symm.trans h) (by decide)
  · exact if_neg h0

set_option maxRecDepth 100000 in
set_option maxHeartbeats 4000000 in
theorem rPattern_any (s : ByteArray) (hm : s.size ≤ 1000) (w : World) : Calls Try.prog 40 #[.string s] w fun e w' => e = .returned (.bool (patB s.data.toList)) ∧ Below w.heap.size w w' := by
  have C := Lib.hid (fun w => rCutP s hm w)
  unfold hasCut at C
  unfold patB
  cases hc : cutL s.data.toList with
  | none =>
    rw [hc] at C
    show Calls _ _ _ _ fun e w' => e = .returned (.bool false) ∧ Below w.heap.size w w'
    rw [show (none : Option (List (List UInt8))).isSome = false from rfl] at C
    go_enter Try.func40, Try.ntmps40
    go_wp2_with fail
    refine (C.out _).mono ?_
    rintro e w1 ⟨⟨v, rfl, ho⟩, hb⟩
    have B1 := Lib.hid hb
    clear ho hb C
    go_wp2_with fail
    go_ret
    exact ⟨rfl, B1.out⟩
  | some q =>
    rw [hc] at C
    show Calls _ _ _ _ fun e w' => e = .returned (.bool (patL q)) ∧ Below w.heap.size w w'
    rw [show (some q).isSome = true from rfl, show (some q).getD [] = q from rfl] at C
    have hp := cut_parts hm hc
    have hfew := hp.1
    have HE := Lib.hid hp.2
    have NM := Lib.hid (fun (T : ByteArray) (h : T.size ≤ 281474976710656) w => rName_any T h w)
    clear hc hp
    obtain ⟨ans, hans⟩ : ∃ x, patL q = x := ⟨_, rfl⟩
    have H := Lib.hid hans
    rw [hans]
    clear hans
    go_enter Try.func40, Try.ntmps40
    go_wp2_with fail
    refine (C.out _).mono ?_
    rintro e w1 ⟨⟨v, rfl, ho⟩, hb⟩
    have B1 := Lib.hid hb
    obtain ⟨a, cap, rfl, hcap, hmx, hr⟩ := ho.reads
    have R := Lib.hid hr
    clear ho hb C hr hmx
    go_wp2_with fail
    go_loop [5] (fun i => ∃ k : Nat, k ≤ q.length ∧ i = .int .i64 k ∧ Hid (patL (q.drop k) = ans)) (fun i => q.length - (intOf i).toNat)
    case atStart => exact ⟨0, Nat.zero_le _, rfl, H⟩
    case round =>
      obtain ⟨k, hk, rfl, hok⟩ := hrel
      by_cases hlt : k < q.length
      · obtain ⟨g, rfl, c0⟩ := R.out.at hlt
        have hx := HE.out q[k] (List.getElem_mem hlt)
        have hd := hok.out
        rw [List.drop_eq_getElem_cons hlt, patL_cons] at hd
        have hn : q.drop (k + 1) = [] ↔ k + 1 = q.length := by rw [List.drop_eq_nil_iff]; omega
        obtain ⟨x, hxx⟩ : ∃ x, q[k] = x := ⟨_, rfl⟩
        rw [hxx] at c0 hx hd
        obtain ⟨T, hT⟩ : ∃ T : ByteArray, ⟨x.toArray⟩ = T := ⟨_, rfl⟩
        have hTx : T.data.toList = x := by rw [← hT]
        have hTt : T.toList = x := by rw [← hT, tv_text]
        have hTs : T.size ≤ 1000 := by rw [← hT]; show x.toArray.size ≤ 1000; simpa using hx
        have N := fun w => NM.out T (by omega) w
        rw [hTx] at N
        unfold tv at c0
        rw [hT] at c0
        have n1 : (k : Int) < (q.length : Int) := by omega
        have n0 : IntKind.i64.wrap ((q.length : Int) - 1) = (q.length : Int) - 1 := IntWalk.i64_in _ (by omega)
        clear hT hTx hxx hx
        cases hg : goodB x with
        | true =>
          rw [hg] at N
          have N := Lib.hid N
          rw [decide_eq_true (.inl hg), Bool.true_and] at hd
          have hok1 := Lib.hid hd
          clear hg hd hn hTt
          go_wp2_with fail
          refine (N.out _).mono ?_
          rintro e w2 ⟨rfl, rfl⟩
          go_wp2_with fail
          go_round
          case rel => exact ⟨k + 1, by omega, by go_num, hok1⟩
          case measure => simp [intOf]; omega
        | false =>
          rw [hg] at N
          have N := Lib.hid N
          by_cases s1 : x = [42]
          · have e1 : (T.toList == [42]) = true := beq_iff_eq.2 (by rw [hTt, s1])
            rw [decide_eq_true (.inr (.inl s1)), Bool.true_and] at hd
            have hok1 := Lib.hid hd
            clear hg hd hn hTt s1
            go_wp2_with fail
            refine (N.out _).mono ?_
            rintro e w2 ⟨rfl, rfl⟩
            go_wp2_with fail
            go_round
            case rel => exact ⟨k + 1, by omega, by go_num, hok1⟩
            case measure => simp [intOf]; omega
          · have e1 : (T.toList == [42]) = false := beq_eq_false_iff_ne.2 (by rw [hTt]; exact s1)
            by_cases s2 : x = [42, 42]
            · have e2 : (T.toList == [42, 42]) = true := beq_iff_eq.2 (by rw [hTt, s2])
              by_cases s3 : k + 1 = q.length
              · rw [decide_eq_true (.inr (.inr ⟨s2, hn.2 s3⟩)), Bool.true_and] at hd
                have hok1 := Lib.hid hd
                have e3 : ¬ (k : Int) < (q.length : Int) - 1 := by omega
                clear hg hd hn hTt s1 s2
                go_wp2_with fail
                refine (N.out _).mono ?_
                rintro e w2 ⟨rfl, rfl⟩
                go_wp2_with fail
                go_round
                case rel => exact ⟨k + 1, by omega, by go_num, hok1⟩
                case measure => simp [intOf]; omega
              · rw [decide_eq_false (fun h => by
                  rcases h with h | h | h
                  · rw [hg] at h; cases h
                  · exact s1 h
                  · exact s3 (hn.1 h.2)), Bool.false_and] at hd
                have e3 : (k : Int) < (q.length : Int) - 1 := by omega
                subst hd
                clear hg hn hTt s1 s2
                go_wp2_with fail
                refine (N.out _).mono ?_
                rintro e w2 ⟨rfl, rfl⟩
                go_wp2_with fail
                go_ret
                exact ⟨rfl, B1.out⟩
            · have e2 : (T.toList == [42, 42]) = false := beq_eq_false_iff_ne.2 (by rw [hTt]; exact s2)
              rw [decide_eq_false (fun h => by
                rcases h with h | h | h
                · rw [hg] at h; cases h
                · exact s1 h
                · exact s2 h.1), Bool.false_and] at hd
              subst hd
              clear hg hn hTt s1 s2
              go_wp2_with fail
              refine (N.out _).mono ?_
              rintro e w2 ⟨rfl, rfl⟩
              go_wp2_with fail
              go_ret
              exact ⟨rfl, B1.out⟩
      · obtain rfl : k = q.length := by omega
        have hd := hok.out
        rw [List.drop_length] at hd
        subst hd
        go_wp2_with fail
        go_ret
        exact ⟨rfl, B1.out⟩

end Go.Proofs.Ytlgkffcomnclnaa
