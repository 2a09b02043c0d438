/-
  No statement: what these walks need, of earlier texts: GName, LBack, EBack, EDeep, GFac, GSum, EFac, LRTokA, EOf.
-/
import Derived.Test.YtcmcnmmhkpolcaaGreatDoorHZ4
import Derived.WalkKit
import Derived.WalkSpells
import Derived.Lib.Hide
import Derived.Deep.Draws
import Derived.Sort.Walk0
import Derived.Lib.ParseIntB
import Derived.Lib.AtoiErrMem
import Derived.Lib.AppendIntMem
import Derived.Test.YtcmcnmmhkpolcaaGreatDoorShelf
import Derived.Test.YtcmcnmmhkpolcaaGreatDoorProg
import Derived.IntWalk
import Derived.LoopTactic
import Derived.StillTailTactics
import Derived.Deep.QuietTactic
import Derived.BigQuiet
import Derived.Lib.ParseIntBTie
import Derived.RangeFuncRecord
import Derived.ArgAppend
import Derived.OwnWalk
import Derived.BigRegion
import Derived.Deep.Cut
import Derived.Deep.RegionLaw
import Derived.Deep.RegionHeld3
import Derived.Shelf.Spec.SearchS
import Derived.Laws.IdiomStrings
import Derived.Lib.AppendZerosOnto
import Derived.Lib.SliceRun
import Derived.Lib.OwnBridge
import Derived.Lib.SlicesCompact
import Derived.Sort.OwnSorted
import Derived.RangeFuncBox
namespace Go.Proofs.YtcmcnmmhkpolcaaGreatDoor
section
open Go.RowKit

set_option maxHeartbeats 1000000 in
theorem wSmall_any (c : UInt8) (w : World) : Calls Tryz.prog 52 #[.int .u8 c.toNat] w fun e w' => e = .returned (.bool (smallB c)) ∧ w = w' := by
  obtain ⟨x, hx⟩ : ∃ x : Int, (c.toNat : Int) = x := ⟨_, rfl⟩
  unfold smallB
  rw [hx]
  by_cases h : 97 ≤ x
  · go_enter Tryz.func52, Tryz.ntmps52
    go_wp2
    go_ret
    exact ⟨ret_b (a := decide (x ≤ 122)) (by rw [decide_eq_true h]; rfl), rfl⟩
  · go_enter Tryz.func52, Tryz.ntmps52
    go_wp2
    go_ret
    exact ⟨ret_b (a := false) (by rw [decide_eq_false (by omega)]; rfl), rfl⟩

set_option maxHeartbeats 1000000 in
theorem wDigit_any (c : UInt8) (w : World) : Calls Tryz.prog 53 #[.int .u8 c.toNat] w fun e w' => e = .returned (.bool (digitB c)) ∧ w = w' := by
  obtain ⟨x, hx⟩ : ∃ x : Int, (c.toNat : Int) = x := ⟨_, rfl⟩
  unfold digitB
  rw [hx]
  by_cases h : 48 ≤ x
  · go_enter Tryz.func53, Tryz.ntmps53
    go_wp2
    go_ret
    exact ⟨ret_b (a := decide (x ≤ 57)) (by rw [decide_eq_true h]; rfl), rfl⟩
  · go_enter Tryz.func53, Tryz.ntmps53
    go_wp2
    go_ret
    exact ⟨ret_b (a := false) (by rw [decide_eq_false (by omega)]; rfl), rfl⟩

set_option maxHeartbeats 2000000 in
theorem wName_any (s : ByteArray) (hm : s.size ≤ 281474976710656) (w : World) : Calls Tryz.prog 41 #[.string s] w fun e w' => e = .returned (.bool (goodB s.data.toList)) ∧ w = w' := by
  have hne : 1 ≤ s.size → (s.toList == []) = false := fun h => by
    rw [beq_eq_false_iff_ne, Lib.toList_data]
    intro e
    have hl : s.data.toList.length = s.size := by simp
    rw [e] at hl; simp at hl; omega
  by_cases h1 : s.size < 1
  · have R := Lib.hid (good_no (.inl h1))
    obtain rfl : s = ⟨#[]⟩ := (by simpa using h1 : s = ByteArray.empty)
    clear hne h1 hm
    go_enter Tryz.func41, Tryz.ntmps41
    go_wp2_with fail
    go_ret
    exact ⟨ret_b (a := false) R.out.symm, rfl⟩
  have h2 : 1 ≤ s.size := by omega
  have he := hne h2
  clear hne h1
  by_cases h8 : 8 < s.size
  · have R := Lib.hid (good_no (.inr h8))
    go_enter Tryz.func41, Tryz.ntmps41
    go_wp2_with fail
    go_ret
    exact ⟨ret_b (a := false) R.out.symm, rfl⟩
  have h3 : s.size ≤ 8 := by omega
  have R := Lib.hid (good_at h2 h3)
  have hs0 : 0 < s.size := by omega
  cases hc : smallB s[0] with
  | false =>
    have R2 := Lib.hid (R.out.trans (by rw [hc]; rfl : _ = false))
    have C := Lib.hid (p := ∀ w, Calls Tryz.prog 52 #[.int .u8 s[0].toNat] w fun e w' => e = .returned (.bool false) ∧ w = w') (fun w => by have := wSmall_any s[0] w; rwa [hc] at this)
    clear R hc h3
    go_enter Tryz.func41, Tryz.ntmps41
    go_wp2_with (go_at_call 52; refine (C.out _).mono ?_; rintro e w' ⟨rfl, rfl⟩)
    go_ret
    exact ⟨ret_b (a := false) R2.out.symm, rfl⟩
  | true =>
    have R2 := Lib.hid (R.out.trans (by rw [hc]; rfl : _ = s.data.toList.all alnumB))
    have C := Lib.hid (p := ∀ w, Calls Tryz.prog 52 #[.int .u8 s[0].toNat] w fun e w' => e = .returned (.bool true) ∧ w = w') (fun w => by have := wSmall_any s[0] w; rwa [hc] at this)
    have h0 := Lib.hid (show alnumB s[0] = true by unfold alnumB; rw [hc]; rfl)
    clear R hc
    go_enter Tryz.func41, Tryz.ntmps41
    go_wp2_with (go_at_call 52; refine (C.out _).mono ?_; rintro e w' ⟨rfl, rfl⟩)
    go_loop [3] (fun i => ∃ k : Nat, 1 ≤ k ∧ k ≤ s.size ∧ i = .int .i64 k ∧ Hid (∀ j (hj : j < s.size), j < k → alnumB s[j] = true)) (fun i => s.size - (intOf i).toNat)
    case atStart => exact ⟨1, Nat.le_refl _, h2, rfl, Lib.hid (fun j _ h => by
      obtain rfl : j = 0 := (by omega)
      exact h0.out)⟩
    case round =>
      obtain ⟨k, hk1, hk, rfl, hok⟩ := hrel
      by_cases hlt : k < s.size
      · cases ha : smallB s[k] with
        | true =>
          have hok1 := Lib.hid (show ∀ j (hj : j < s.size), j < k + 1 → alnumB s[j] = true from fun j hj hjk => by
              by_cases e : j = k
              · subst e; unfold alnumB; rw [ha]; rfl
              · exact hok.out j hj (by omega))
          have D := Lib.hid (p := ∀ w, Calls Tryz.prog 52 #[.int .u8 s[k].toNat] w fun e w' => e = .returned (.bool true) ∧ w = w') (fun w => by have := wSmall_any s[k] w; rwa [ha] at this)
          clear ha C
          go_wp2_with (go_at_call 52; refine (D.out _).mono ?_; rintro e w' ⟨rfl, rfl⟩)
          go_round
          case rel => exact ⟨k + 1, by omega, by omega, by go_num, hok1⟩
          case measure => simp [intOf]; omega
        | false =>
          have D := Lib.hid (p := ∀ w, Calls Tryz.prog 52 #[.int .u8 s[k].toNat] w fun e w' => e = .returned (.bool false) ∧ w = w') (fun w => by have := wSmall_any s[k] w; rwa [ha] at this)
          cases hd : digitB s[k] with
          | true =>
            have hok1 := Lib.hid (show ∀ j (hj : j < s.size), j < k + 1 → alnumB s[j] = true from fun j hj hjk => by
                by_cases e : j = k
                · subst e; unfold alnumB; rw [ha, hd]; rfl
                · exact hok.out j hj (by omega))
            have E := Lib.hid (p := ∀ w, Calls Tryz.prog 53 #[.int .u8 s[k].toNat] w fun e w' => e = .returned (.bool true) ∧ w = w') (fun w => by have := wDigit_any s[k] w; rwa [hd] at this)
            clear ha hd C
            go_wp2_with (first | (go_at_call 52; refine (D.out _).mono ?_; rintro e w' ⟨rfl, rfl⟩) | (go_at_call 53; refine (E.out _).mono ?_; rintro e w' ⟨rfl, rfl⟩))
            go_round
            case rel => exact ⟨k + 1, by omega, by omega, by go_num, hok1⟩
            case measure => simp [intOf]; omega
          | false =>
            have E := Lib.hid (p := ∀ w, Calls Tryz.prog 53 #[.int .u8 s[k].toNat] w fun e w' => e = .returned (.bool false) ∧ w = w') (fun w => by have := wDigit_any s[k] w; rwa [hd] at this)
            have R3 := Lib.hid (R2.out.trans (all_no hlt (by unfold alnumB; rw [ha, hd]; rfl)))
            clear ha hd C
            go_wp2_with (first | (go_at_call 52; refine (D.out _).mono ?_; rintro e w' ⟨rfl, rfl⟩) | (go_at_call 53; refine (E.out _).mono ?_; rintro e w' ⟨rfl, rfl⟩))
            go_ret
            exact ⟨ret_b (a := false) R3.out.symm, rfl⟩
      · have R3 := Lib.hid (R2.out.trans (all_yes fun j hj => hok.out j hj (by omega)))
        go_wp2_with fail
        go_ret
        exact ⟨ret_b (a := true) R3.out.symm, rfl⟩

end

section
open Go.RowKit

theorem run_app {q : UInt8 → Bool} : ∀ (x r : List UInt8), (∀ c ∈ x, q c = true) → (∀ c t, r = c :: t → q c = false) → runL q (x ++ r) = x.length
  | [], r, _, h => by
    cases r with
    | nil => rfl
    | cons c t =>
      unfold runL
      rw [List.nil_append, List.takeWhile_cons_of_neg (by rw [h c t rfl]; decide)]
  | c :: x, r, h, h2 => by
    have ih := run_app x r (fun d hd => h d (by simp [hd])) h2
    unfold runL at ih ⊢
    rw [List.cons_append, List.takeWhile_cons_of_pos (h c (by simp)), List.length_cons, ih, List.length_cons]

/-- A token, but for its place. -/
def coreT (t : Tk) : Int × List UInt8 × Int := (t.kind, t.text, t.num)

theorem lex_bad_ne (l : List UInt8) (p : Nat) : ∀ q e, lexL l p = .bad q e → e = 1 ∨ e = 2 ∨ e = 5 := by
  refine lex_induct (C := fun l p => ∀ q e, lexL l p = .bad q e → e = 1 ∨ e = 2 ∨ e = 5) ?_ ?_ ?_ ?_ l.length l p (Nat.le_refl _)
  · intro p q e h
    rw [lex_nil] at h; cases h
  · intro r p ih q e h
    rw [lex_blank] at h
    exact ih q e h
  · intro l p e h1 h0 hf q e2 h
    rw [lex_bad h0 h1 hf] at h; cases h
    exact first_bad hf
  · intro l p k n v h1 h0 hf hn hl ih q e h
    rw [lex_tok h1 hn hf] at h
    cases hx : lexL (l.drop n) (p + n) with
    | ok ts => rw [hx] at h; cases h
    | bad q' e' => rw [hx] at h; cases h; exact ih _ _ hx

theorem lexT_bad_ne {l : List UInt8} {p : Nat} {e : Int} (h : lexT l = .bad p e) : (e == 0) = false ∧ (e != 0) = true := by
  have : e = 4 ∨ e = 1 ∨ e = 2 ∨ e = 5 := by
    unfold lexT at h
    split at h
    · cases h; exact .inl rfl
    · exact .inr (lex_bad_ne _ _ _ _ h)
  rcases this with h | h | h | h <;> rw [h] <;> exact ⟨by decide, by decide⟩

end

section
open Go.RowKit

/-- What follows a word or a number ends it. -/
def StopB (r : List UInt8) : Prop := ∀ c t, r = c :: t → alnumB c = false

theorem stop_nil : StopB [] := fun c t h => by cases h

theorem stop_blank (r : List UInt8) : StopB (32 :: r) := fun c t h => by cases h; decide

theorem stop_shut (r : List UInt8) : StopB (41 :: r) := fun c t h => by cases h; decide

theorem alnum_parts {c : UInt8} (h : alnumB c = false) : smallB c = false ∧ digitB c = false := by
  unfold alnumB at h
  simpa using h

theorem lex_name {x r : List UInt8} (hx : goodB x = true) (hr : StopB r) (p : Nat) : lexL (x ++ r) p = (lexL r (p + x.length)).after [⟨1, x, 0, p⟩] := by
  cases x with
  | nil => cases hx
  | cons c t =>
    rw [good_cons] at hx
    simp only [Bool.and_eq_true, decide_eq_true_eq, List.all_eq_true] at hx
    obtain ⟨⟨h1, h2⟩, h3⟩ := hx
    have hall : ∀ d ∈ c :: t, alnumB d = true := fun d hd => by
      rcases List.mem_cons.1 hd with rfl | hd
      · unfold alnumB; rw [h1]; rfl
      · exact h3 d hd
    have hrun := run_app (c :: t) r hall hr
    have hf : firstF (c :: t ++ r) = .tok 1 (c :: t).length 0 := by
      rw [List.cons_append]
      simp only [firstF]
      rw [if_pos h1, ← List.cons_append]
      unfold nameF
      rw [hrun, if_neg (by simp; omega)]
    have h32 : ¬ (c :: t ++ r).head? = some 32 := by
      intro e
      have : c = 32 := by simpa using e
      rw [this] at h1
      cases h1
    rw [lex_tok h32 (by simp) hf, List.drop_left, List.take_left]

theorem itoa_dec {n : Int} (h : 0 ≤ n) : Lib.itoa n = Lib.decDigits n.toNat := by unfold Lib.itoa; rw [if_neg (by omega)]

theorem lex_num {n : Int} {r : List UInt8} (h0 : 0 ≤ n) (h1 : n ≤ 9223372036854775807) (hr : StopB r) (p : Nat) : lexL (Lib.itoa n ++ r) p = (lexL r (p + (Lib.itoa n).length)).after [⟨2, Lib.itoa n, n, p⟩] := by
  rw [itoa_dec h0]
  obtain ⟨c, t, hc, hd⟩ := dec_cons n.toNat
  have hall : ∀ d ∈ Lib.decDigits n.toNat, digitB d = true := fun d hd => (digit_iff d).2 (dec_digits _ d hd)
  have hrun := run_app (Lib.decDigits n.toNat) r hall (fun c t e => (alnum_parts (hr c t e)).2)
  have hval := dec_val n.toNat
  have hz : ∀ q, Lib.decDigits n.toNat = 48 :: q → q = [] := fun q hq => by
    rcases Nat.eq_zero_or_pos n.toNat with h | h
    · rw [h, dec_zero] at hq; simpa using hq.symm
    · exact absurd hq (dec_head _ h q)
  obtain ⟨D, hD⟩ : ∃ D, Lib.decDigits n.toNat = D := ⟨_, rfl⟩
  rw [hD] at hc hall hrun hval hz ⊢
  have hcd : digitB c = true := hall c (by rw [hc]; simp)
  have hcs : smallB c = false := by
    unfold smallB
    rw [decide_eq_false (by have := (digit_iff c).1 hcd; unfold isD at this; omega)]
    rfl
  have hf : firstF (D ++ r) = .tok 2 D.length n := by
    have e : firstF (D ++ r) = numF (D ++ r) := by
      rw [hc, List.cons_append]
      simp only [firstF]
      rw [if_neg (by rw [hcs]; decide), if_pos hcd]
    rw [e]
    unfold numF
    rw [hrun, List.take_left, List.drop_left, hval, if_neg, if_neg (by omega)]
    · rw [show ((n.toNat : Nat) : Int) = n by omega]
    · rintro (⟨a, b⟩ | ⟨d, a, b⟩)
      · rw [hc, List.cons_append] at b
        have hc48 : c = 48 := by simpa using b
        have := hz t (by rw [hc, hc48])
        rw [hc, this] at a
        simp at a
      · cases r with
        | nil => cases a
        | cons c' t' =>
          have hd' : c' = d := by simpa using a
          rw [← hd', (alnum_parts (hr c' t' rfl)).1] at b
          cases b
  have h32 : ¬ (D ++ r).head? = some 32 := by
    intro e
    rw [hc] at e
    have : c = 32 := by simpa using e
    rw [this] at hcd
    cases hcd
  rw [lex_tok h32 (by rw [hc]; simp) hf, List.drop_left, List.take_left]

/-- The signs of one byte that begin no longer one. -/
def plainSign (c : UInt8) : Prop := c = 40 ∨ c = 41 ∨ c = 43 ∨ c = 45 ∨ c = 42 ∨ c = 47 ∨ c = 37

theorem lex_sign {c : UInt8} (hc : plainSign c) (r : List UInt8) (p : Nat) : lexL (c :: r) p = (lexL r (p + 1)).after [⟨3, [c], 0, p⟩] := by
  have h1 : smallB c = false ∧ digitB c = false ∧ oneSign c = true ∧ (∀ d, twoSign c d = false) ∧ ¬ c = 32 := by
    rcases hc with rfl | rfl | rfl | rfl | rfl | rfl | rfl <;> refine ⟨by decide, by decide, by decide, fun d => ?_, by decide⟩ <;> (unfold twoSign; rw [Bool.and_eq_false_iff]; right; decide)
  obtain ⟨s1, s2, s3, s4, s5⟩ := h1
  have hs : signL (c :: r) = 1 := by
    cases r with
    | nil =>
      show (if oneSign c = true then 1 else 0) = 1
      rw [if_pos s3]
    | cons d t =>
      show (if twoSign c d = true then 2 else if oneSign c = true then 1 else 0) = 1
      rw [if_neg (by rw [s4 d]; decide), if_pos s3]
  have hf : firstF (c :: r) = .tok 3 1 0 := by
    simp only [firstF]
    rw [if_neg (by rw [s1]; decide), if_neg (by rw [s2]; decide)]
    unfold signF
    rw [hs]
    rfl
  rw [lex_tok (by simpa using s5) (Nat.le_refl _) hf]
  rfl

/-- The tokens of a node, its kids' tokens given. -/
def tokN (o m : ByteArray) (n : Int) (ts : List (List (Int × List UInt8 × Int))) : List (Int × List UInt8 × Int) :=
  if isNum o = true then [(2, Lib.itoa n, n)] else if isName o = true then [(1, m.data.toList, 0)]
  else if isNeg o = true then (3, [45], 0) :: ts.headD [] else (3, [40], 0) :: (ts.headD [] ++ (3, o.data.toList, 0) :: (ts.tail.headD [] ++ [(3, [41], 0)]))

def tokF : F → List (List (Int × List UInt8 × Int))
  | .nil => []
  | .cons o m n ks r => tokN o m n (tokF ks) :: tokF r

def tokE (t : TN) : List (Int × List UInt8 × Int) := tokN t.op t.nm t.n (tokF t.ks)

/-- The tree, but for what its words don't say. -/
def canF : F → F
  | .nil => .nil
  | .cons o m n ks r => .cons o (if isName o = true then m else ⟨#[]⟩) (if isNum o = true then n else 0) (canF ks) (canF r)

def canT (t : TN) : TN := ⟨t.op, if isName t.op = true then t.nm else ⟨#[]⟩, if isNum t.op = true then t.n else 0, canF t.ks⟩

theorem can_f (t : TN) : (canT t).f = canF t.f := rfl

theorem can_len : ∀ f : F, (canF f).len = f.len
  | .nil => rfl
  | .cons o m n ks r => by rw [canF, F.len, F.len, can_len r]

theorem same_can : ∀ f : F, sameF (canF f) f = true
  | .nil => rfl
  | .cons o m n ks r => by
    rw [canF, sameF, can_len, same_can ks, same_can r]
    cases h1 : isNum o <;> cases h2 : isName o <;> simp

/-- The four sorts of nodes. -/
theorem node_cases {o m : ByteArray} {n : Int} {ks : F} (h : errN o m n ks.len = 0) :
    (isNum o = true ∧ ks = .nil ∧ 0 ≤ n) ∨ (isNum o = false ∧ isName o = true ∧ ks = .nil ∧ goodB m.data.toList = true) ∨
    (isNum o = false ∧ isName o = false ∧ isNeg o = true ∧ ∃ a : TN, ks = a.f) ∨
    (isNum o = false ∧ isName o = false ∧ isNeg o = false ∧ isTwo o = true ∧ ∃ a b : TN, ks = .cons a.op a.nm a.n a.ks b.f) := by
  unfold errN at h
  split at h
  · cases h
  · rename_i h1
    split at h
    · cases h
    · rename_i h2
      split at h
      · cases h
      · rename_i h3
        have ha : arity o = (ks.len : Int) := by simpa using h1
        unfold arity at ha
        cases e1 : isNum o with
        | true =>
          rw [e1, Bool.true_or, if_pos rfl] at ha
          rw [e1] at h3
          refine .inl ⟨rfl, ?_, by simpa using h3⟩
          cases ks with
          | nil => rfl
          | cons _ _ _ _ _ => rw [F.len] at ha; omega
        | false =>
          cases e2 : isName o with
          | true =>
            rw [e1, e2, Bool.or_true, if_pos rfl] at ha
            rw [e2] at h2
            refine .inr (.inl ⟨rfl, rfl, ?_, by simpa using h2⟩)
            cases ks with
            | nil => rfl
            | cons _ _ _ _ _ => rw [F.len] at ha; omega
          | false =>
            rw [e1, e2, Bool.or_false, if_neg (by decide)] at ha
            cases e3 : isNeg o with
            | true =>
              rw [e3, if_pos rfl] at ha
              refine .inr (.inr (.inl ⟨rfl, rfl, rfl, ?_⟩))
              cases ks with
              | nil => rw [F.len] at ha; omega
              | cons o' m' n' k' r' =>
                cases r' with
                | nil => exact ⟨⟨o', m', n', k'⟩, rfl⟩
                | cons _ _ _ _ _ => rw [F.len, F.len] at ha; omega
            | false =>
              rw [e3, if_neg (by decide)] at ha
              cases e4 : isTwo o with
              | true =>
                rw [e4, if_pos rfl] at ha
                refine .inr (.inr (.inr ⟨rfl, rfl, rfl, rfl, ?_⟩))
                cases ks with
                | nil => rw [F.len] at ha; omega
                | cons o' m' n' k' r' =>
                  cases r' with
                  | nil => rw [F.len, F.len] at ha; omega
                  | cons o2 m2 n2 k2 r2 =>
                    cases r2 with
                    | nil => exact ⟨⟨o', m', n', k'⟩, ⟨o2, m2, n2, k2⟩, rfl⟩
                    | cons _ _ _ _ _ => rw [F.len, F.len, F.len] at ha; omega
              | false =>
                rw [e4, if_neg (by decide)] at ha
                omega

theorem two_sign {o : ByteArray} (h : isTwo o = true) : signO o.data.toList ∧ ∃ c, o.data.toList = [c] ∧ plainSign c := by
  unfold isTwo at h
  simp only [Bool.or_eq_true, beq_iff_eq] at h
  rcases h with (((h | h) | h) | h) | h
  · exact ⟨.inl h, 43, h, .inr (.inr (.inl rfl))⟩
  · exact ⟨.inr (.inl h), 45, h, .inr (.inr (.inr (.inl rfl)))⟩
  · exact ⟨.inr (.inr (.inl h)), 42, h, .inr (.inr (.inr (.inr (.inl rfl))))⟩
  · exact ⟨.inr (.inr (.inr (.inl h))), 47, h, .inr (.inr (.inr (.inr (.inr (.inl rfl)))))⟩
  · exact ⟨.inr (.inr (.inr (.inr h))), 37, h, .inr (.inr (.inr (.inr (.inr (.inr rfl)))))⟩

/-- Numbers that a text may tell. -/
def NumsF : F → Prop
  | .nil => True
  | .cons _ _ n ks r => n ≤ 9223372036854775807 ∧ NumsF ks ∧ NumsF r

/-- Each tree of a row is such. -/
def EachF (P : TN → Prop) : F → Prop
  | .nil => True
  | .cons o m n ks r => P ⟨o, m, n, ks⟩ ∧ EachF P r

/-- An induction over trees that may be: each sort of node. -/
theorem tree_induct {P : TN → Prop} (hnum : ∀ o m n, isNum o = true → 0 ≤ n → n ≤ 9223372036854775807 → P ⟨o, m, n, .nil⟩)
    (hname : ∀ o m n, isNum o = false → isName o = true → goodB m.data.toList = true → P ⟨o, m, n, .nil⟩)
    (hneg : ∀ o m n (a : TN), isNum o = false → isName o = false → isNeg o = true → P a → P ⟨o, m, n, a.f⟩)
    (htwo : ∀ o m n (a b : TN), isNum o = false → isName o = false → isNeg o = false → isTwo o = true → P a → P b → P ⟨o, m, n, .cons a.op a.nm a.n a.ks b.f⟩) :
    ∀ f : F, chkF f = 0 → NumsF f → EachF P f
  | .nil, _, _ => trivial
  | .cons o m n ks r, h, hn => by
    rw [chkF] at h
    by_cases h1 : errN o m n ks.len = 0
    · rw [if_pos h1] at h
      by_cases h2 : chkF ks = 0
      · rw [if_pos h2] at h
        have ik := tree_induct hnum hname hneg htwo ks h2 hn.2.1
        refine ⟨?_, tree_induct hnum hname hneg htwo r h hn.2.2⟩
        rcases node_cases h1 with ⟨a, rfl, b⟩ | ⟨a, b, rfl, c⟩ | ⟨a, b, c, k, rfl⟩ | ⟨a, b, c, d, k, l, rfl⟩
        · exact hnum o m n a b hn.1
        · exact hname o m n a b c
        · exact hneg o m n k a b c ik.1
        · exact htwo o m n k l a b c d ik.1 ik.2.1
      · rw [if_neg h2] at h; exact absurd h h2
    · rw [if_neg h1] at h; exact absurd h h1

theorem tree_induct1 {P : TN → Prop} (hnum : ∀ o m n, isNum o = true → 0 ≤ n → n ≤ 9223372036854775807 → P ⟨o, m, n, .nil⟩)
    (hname : ∀ o m n, isNum o = false → isName o = true → goodB m.data.toList = true → P ⟨o, m, n, .nil⟩)
    (hneg : ∀ o m n (a : TN), isNum o = false → isName o = false → isNeg o = true → P a → P ⟨o, m, n, a.f⟩)
    (htwo : ∀ o m n (a b : TN), isNum o = false → isName o = false → isNeg o = false → isTwo o = true → P a → P b → P ⟨o, m, n, .cons a.op a.nm a.n a.ks b.f⟩)
    (t : TN) (h : OkT t) (hn : NumsF t.f) : P t := (tree_induct hnum hname hneg htwo t.f h hn).1

theorem text_num {o m : ByteArray} {n : Int} {ks : F} (h : isNum o = true) : textE ⟨o, m, n, ks⟩ = Lib.itoa n ∧ tokE ⟨o, m, n, ks⟩ = [(2, Lib.itoa n, n)] := by
  unfold textE tokE txtN tokN; rw [if_pos h, if_pos h]; exact ⟨rfl, rfl⟩

theorem text_name {o m : ByteArray} {n : Int} {ks : F} (h : isNum o = false) (h2 : isName o = true) : textE ⟨o, m, n, ks⟩ = m.data.toList ∧ tokE ⟨o, m, n, ks⟩ = [(1, m.data.toList, 0)] := by
  unfold textE tokE txtN tokN
  simp only
  rw [if_neg (by rw [h]; decide), if_pos h2, if_neg (by rw [h]; decide), if_pos h2]; exact ⟨rfl, rfl⟩

theorem text_neg {o m : ByteArray} {n : Int} (a : TN) (h : isNum o = false) (h2 : isName o = false) (h3 : isNeg o = true) : textE ⟨o, m, n, a.f⟩ = 45 :: textE a ∧ tokE ⟨o, m, n, a.f⟩ = (3, [45], 0) :: tokE a := by
  show txtN o m n (txtF a.f) = _ ∧ tokN o m n (tokF a.f) = _
  rw [txtN, tokN, if_neg (by rw [h]; decide), if_neg (by rw [h2]; decide), if_pos h3, if_neg (by rw [h]; decide), if_neg (by rw [h2]; decide), if_pos h3]; exact ⟨rfl, rfl⟩

theorem text_two {o m : ByteArray} {n : Int} (a b : TN) (h : isNum o = false) (h2 : isName o = false) (h3 : isNeg o = false) :
    textE ⟨o, m, n, .cons a.op a.nm a.n a.ks b.f⟩ = 40 :: (textE a ++ 32 :: (o.data.toList ++ 32 :: (textE b ++ [41]))) ∧
    tokE ⟨o, m, n, .cons a.op a.nm a.n a.ks b.f⟩ = (3, [40], 0) :: (tokE a ++ (3, o.data.toList, 0) :: (tokE b ++ [(3, [41], 0)])) := by
  show txtN o m n (txtF (.cons a.op a.nm a.n a.ks b.f)) = _ ∧ tokN o m n (tokF (.cons a.op a.nm a.n a.ks b.f)) = _
  rw [txtN, tokN, if_neg (by rw [h]; decide), if_neg (by rw [h2]; decide), if_neg (by rw [h3]; decide), if_neg (by rw [h]; decide), if_neg (by rw [h2]; decide), if_neg (by rw [h3]; decide)]; exact ⟨rfl, rfl⟩

/-- The words of a tree are its tokens. -/
def LexOK (t : TN) : Prop := ∀ r, StopB r → ∀ p, ∃ ts, ts.map coreT = tokE t ∧ lexL (textE t ++ r) p = (lexL r (p + (textE t).length)).after ts

theorem lex_tree (t : TN) (h : OkT t) (hn : NumsF t.f) : LexOK t := by
  refine tree_induct1 (P := LexOK) ?_ ?_ ?_ ?_ t h hn
  · intro o m n h1 h2 h3 r hr p
    rw [(text_num h1).1, (text_num h1).2]
    exact ⟨[⟨2, Lib.itoa n, n, p⟩], rfl, lex_num h2 h3 hr p⟩
  · intro o m n h1 h2 h3 r hr p
    rw [(text_name h1 h2).1, (text_name h1 h2).2]
    exact ⟨[⟨1, m.data.toList, 0, p⟩], rfl, lex_name h3 hr p⟩
  · intro o m n a h1 h2 h3 ih r hr p
    rw [(text_neg a h1 h2 h3).1, (text_neg a h1 h2 h3).2]
    obtain ⟨ts, e1, e2⟩ := ih r hr (p + 1)
    refine ⟨⟨3, [45], 0, p⟩ :: ts, by rw [List.map_cons, e1]; rfl, ?_⟩
    rw [List.cons_append, lex_sign (.inr (.inr (.inr (.inl rfl)))), e2, after_after, List.length_cons, show p + ((textE a).length + 1) = p + 1 + (textE a).length by omega]
    rfl
  · intro o m n a b h1 h2 h3 h4 ia ib r hr p
    rw [(text_two a b h1 h2 h3).1, (text_two a b h1 h2 h3).2]
    obtain ⟨_, c, hc, hp⟩ := two_sign h4
    rw [hc]
    obtain ⟨ta, a1, a2⟩ := ia (32 :: ([c] ++ 32 :: (textE b ++ [41]) ++ r)) (stop_blank _) (p + 1)
    obtain ⟨tb, b1, b2⟩ := ib (41 :: r) (stop_shut r) (p + 1 + (textE a).length + 1 + 1 + 1)
    refine ⟨⟨3, [40], 0, p⟩ :: (ta ++ ⟨3, [c], 0, p + 1 + (textE a).length + 1⟩ :: (tb ++ [⟨3, [41], 0, p + 1 + (textE a).length + 1 + 1 + 1 + (textE b).length⟩])), ?_, ?_⟩
    · simp only [List.map_cons, List.map_append, a1, b1]
      rfl
    · have e0 : 40 :: (textE a ++ 32 :: ([c] ++ 32 :: (textE b ++ [41]))) ++ r = 40 :: (textE a ++ 32 :: ([c] ++ 32 :: (textE b ++ [41]) ++ r)) := by simp
      rw [e0, lex_sign (.inl rfl), a2, lex_blank]
      have e1 : [c] ++ 32 :: (textE b ++ [41]) ++ r = c :: 32 :: (textE b ++ 41 :: r) := by simp
      rw [e1, lex_sign hp, lex_blank, b2, lex_sign (.inr (.inl rfl))]
      simp only [after_after, List.length_cons, List.length_append, List.length_nil]
      have e2 : p + 1 + (textE a).length + 1 + 1 + 1 + (textE b).length + 1 = p + ((textE a).length + (0 + 1 + ((textE b).length + (0 + 1) + 1) + 1) + 1) := by omega
      rw [e2]
      congr 1

theorem at_core {L : List Tk} {pre post : List (Int × List UInt8 × Int)} {c : Int × List UInt8 × Int} (h : L.map coreT = pre ++ c :: post) : ∃ t, L[pre.length]? = some t ∧ t.kind = c.1 ∧ t.text = c.2.1 ∧ t.num = c.2.2 := by
  have e : (L.map coreT)[pre.length]? = some c := by rw [h]; simp
  rw [List.getElem?_map] at e
  cases hx : L[pre.length]? with
  | none => rw [hx] at e; cases e
  | some t =>
    rw [hx] at e
    have e' := Option.some.inj e
    unfold coreT at e'
    exact ⟨t, rfl, by rw [← e'], by rw [← e'], by rw [← e']⟩

theorem isS_core {L : List Tk} {pre post : List (Int × List UInt8 × Int)} {x y : List UInt8} {v : Int} (h : L.map coreT = pre ++ (3, x, v) :: post) {p : Nat} (hp : p = pre.length) : isS L y p = (x == y) ∧ opAt L p = x := by
  obtain ⟨t, h1, h2, h3, _⟩ := at_core h
  subst hp
  unfold isS opAt
  rw [h1]
  simp only
  rw [h2, h3]
  exact ⟨by simp, rfl⟩

theorem tick_ok {s : RS} (hb : s.bad = 0) (h : s.cnt + 1 ≤ 32) : tickR s = ⟨s.pos + 1, s.cnt + 1, 0, s.whr⟩ := by
  unfold tickR; rw [if_pos hb, if_neg (by omega)]

theorem ba_toList (o : ByteArray) : (⟨o.data.toList.toArray⟩ : ByteArray) = o := text_eq (by simp)

/-- The tokens of a tree are read as that tree. -/
def ReadOK (t : TN) : Prop := ∀ (L : List Tk) (pre post : List (Int × List UInt8 × Int)), L.map coreT = pre ++ (tokE t ++ post) → ∀ s : RS, s.pos = pre.length → s.bad = 0 → s.cnt + sizeT t ≤ 32 →
  pE L .fac s = (canT t, ⟨s.pos + (tokE t).length, s.cnt + sizeT t, 0, s.whr⟩)

theorem num_op {o : ByteArray} (h : isNum o = true) : o = ⟨#[110, 117, 109]⟩ := by
  unfold isNum bNum at h
  exact text_eq (by rw [beq_iff_eq.1 h])

theorem name_op {o : ByteArray} (h : isName o = true) : o = ⟨#[110, 97, 109, 101]⟩ := by
  unfold isName bName at h
  exact text_eq (by rw [beq_iff_eq.1 h])

theorem neg_op {o : ByteArray} (h : isNeg o = true) : o = ⟨#[110, 101, 103]⟩ := by
  unfold isNeg bNeg at h
  exact text_eq (by rw [beq_iff_eq.1 h])

theorem read_tree (t : TN) (h : OkT t) (hn : NumsF t.f) : ReadOK t := by
  refine tree_induct1 (P := ReadOK) ?_ ?_ ?_ ?_ t h hn
  · intro o m n h1 h2 h3 L pre post hL s hp hb hc
    have hs : sizeT ⟨o, m, n, .nil⟩ = 1 := rfl
    rw [hs] at hc ⊢
    rw [(text_num h1).2] at hL ⊢
    obtain ⟨tk, k1, k2, k3, k4⟩ := at_core (c := (2, Lib.itoa n, n)) hL
    rw [pE_fac, if_pos hb, hp, k1]
    simp only
    rw [if_pos k2, tick_ok hb hc, k4]
    have : canT ⟨o, m, n, .nil⟩ = numT n := by
      unfold canT
      simp only
      rw [if_pos h1, num_op h1]
      rfl
    rw [this, hp]
    rfl
  · intro o m n h1 h2 h3 L pre post hL s hp hb hc
    have hs : sizeT ⟨o, m, n, .nil⟩ = 1 := rfl
    rw [hs] at hc ⊢
    rw [(text_name h1 h2).2] at hL ⊢
    obtain ⟨tk, k1, k2, k3, k4⟩ := at_core (c := (1, m.data.toList, 0)) hL
    have k2 : tk.kind = 1 := k2
    rw [pE_fac, if_pos hb, hp, k1]
    simp only
    rw [if_neg (by rw [k2]; decide), if_pos k2, tick_ok hb hc, k3]
    have : canT ⟨o, m, n, .nil⟩ = nameT m.data.toList := by
      unfold canT nameT
      simp only
      rw [if_pos h2, if_neg (by rw [h1]; decide), ba_toList, name_op h2]
      rfl
    rw [this, hp]
    rfl
  · intro o m n a h1 h2 h3 ih L pre post hL s hp hb hc
    have hs : sizeT ⟨o, m, n, a.f⟩ = 1 + sizeT a := by unfold sizeT; rw [show (⟨o, m, n, a.f⟩ : TN).ks = a.f from rfl, sizeF_tree]; rfl
    rw [hs] at hc ⊢
    rw [(text_neg a h1 h2 h3).2] at hL ⊢
    obtain ⟨tk, k1, k2, k3, k4⟩ := at_core (pre := pre) (c := (3, [45], 0)) (post := tokE a ++ post) (by rw [hL]; rfl)
    rw [pE_fac, if_pos hb, hp, k1]
    simp only
    rw [if_neg (by rw [k2]; decide), if_neg (by rw [k2]; decide), if_pos k3, tick_ok hb (by omega)]
    have e := ih L (pre ++ [(3, [45], 0)]) post (by rw [hL]; simp) ⟨s.pos + 1, s.cnt + 1, 0, s.whr⟩ (by rw [List.length_append]; show s.pos + 1 = _; rw [hp]; rfl) rfl (by show s.cnt + 1 + _ ≤ 32; omega)
    rw [e]
    have : canT ⟨o, m, n, a.f⟩ = negT (canT a) := by
      unfold canT negT
      simp only
      rw [if_neg (by rw [h2]; decide), if_neg (by rw [h1]; decide), neg_op h3]
      rfl
    rw [this]
    show (_, (⟨s.pos + 1 + (tokE a).length, s.cnt + 1 + sizeT a, 0, s.whr⟩ : RS)) = (_, ⟨pre.length + ((tokE a).length + 1), s.cnt + (1 + sizeT a), 0, s.whr⟩)
    rw [hp, show pre.length + 1 + (tokE a).length = pre.length + ((tokE a).length + 1) by omega, show s.cnt + 1 + sizeT a = s.cnt + (1 + sizeT a) by omega]
  · intro o m n a b h1 h2 h3 h4 ia ib L pre post hL s hp hb hc
    have hs : sizeT ⟨o, m, n, .cons a.op a.nm a.n a.ks b.f⟩ = 1 + sizeT a + sizeT b := by unfold sizeT; simp only; rw [sizeF, sizeF_tree]; unfold sizeT; omega
    rw [hs] at hc ⊢
    rw [(text_two a b h1 h2 h3).2] at hL ⊢
    obtain ⟨tk, k1, k2, k3, k4⟩ := at_core (pre := pre) (c := (3, [40], 0)) (post := tokE a ++ (3, o.data.toList, 0) :: (tokE b ++ (3, [41], 0) :: post)) (by rw [hL]; simp)
    rw [pE_fac, if_pos hb, hp, k1]
    simp only
    rw [if_neg (by rw [k2]; decide), if_neg (by rw [k2]; decide), if_neg (by rw [k3]; decide), if_pos k3]
    have hstep : stepR s = ⟨s.pos + 1, s.cnt, 0, s.whr⟩ := by unfold stepR; rw [hb]
    rw [hstep, pE_sum, pE_prod]
    have ea := ia L (pre ++ [(3, [40], 0)]) ((3, o.data.toList, 0) :: (tokE b ++ (3, [41], 0) :: post)) (by rw [hL]; simp) ⟨s.pos + 1, s.cnt, 0, s.whr⟩ (by rw [List.length_append]; show s.pos + 1 = _; rw [hp]; rfl) rfl (by show s.cnt + _ ≤ 32; omega)
    rw [ea]
    simp only
    have hL2 : L.map coreT = (pre ++ (3, [40], 0) :: tokE a) ++ (3, o.data.toList, 0) :: (tokE b ++ (3, [41], 0) :: post) := by rw [hL]; simp
    have hL3 : L.map coreT = (pre ++ (3, [40], 0) :: (tokE a ++ (3, o.data.toList, 0) :: tokE b)) ++ (3, [41], 0) :: post := by rw [hL]; simp
    have p2 : s.pos + 1 + (tokE a).length = (pre ++ (3, [40], 0) :: tokE a).length := by rw [hp]; simp; omega
    have p3 : s.pos + 1 + (tokE a).length + 1 + (tokE b).length = (pre ++ (3, [40], 0) :: (tokE a ++ (3, o.data.toList, 0) :: tokE b)).length := by rw [hp]; simp; omega
    have eb := ib L ((pre ++ (3, [40], 0) :: tokE a) ++ [(3, o.data.toList, 0)]) ((3, [41], 0) :: post) (by rw [hL]; simp) ⟨s.pos + 1 + (tokE a).length + 1, s.cnt + sizeT a + 1, 0, s.whr⟩ (by rw [List.length_append, ← p2]; rfl) rfl (by show s.cnt + sizeT a + 1 + _ ≤ 32; omega)
    have ht := tick_ok (s := ⟨s.pos + 1 + (tokE a).length, s.cnt + sizeT a, 0, s.whr⟩) rfl (by show s.cnt + sizeT a + 1 ≤ 32; omega)
    simp only at ht
    have opE := (isS_core (y := []) hL2 p2).2
    have shutM : isM L (s.pos + 1 + (tokE a).length + 1 + (tokE b).length) = false := by
      unfold isM
      rw [(isS_core (y := [42]) hL3 p3).1, (isS_core (y := [47]) hL3 p3).1, (isS_core (y := [37]) hL3 p3).1]
      rfl
    have shutA : isA L (s.pos + 1 + (tokE a).length + 1 + (tokE b).length) = false := by
      unfold isA
      rw [(isS_core (y := [43]) hL3 p3).1, (isS_core (y := [45]) hL3 p3).1]
      rfl
    have shutS : isS L [41] (s.pos + 1 + (tokE a).length + 1 + (tokE b).length) = true := by
      rw [(isS_core (y := [41]) hL3 p3).1]; rfl
    have hM : isM L (s.pos + 1 + (tokE a).length) = isMul o := by
      unfold isM isMul
      rw [(isS_core (y := [42]) hL2 p2).1, (isS_core (y := [47]) hL2 p2).1, (isS_core (y := [37]) hL2 p2).1]
    have hA : isA L (s.pos + 1 + (tokE a).length) = isAdd o := by
      unfold isA isAdd
      rw [(isS_core (y := [43]) hL2 p2).1, (isS_core (y := [45]) hL2 p2).1]
    have hcan : canT ⟨o, m, n, .cons a.op a.nm a.n a.ks b.f⟩ = twoT o.data.toList (canT a) (canT b) := by
      unfold canT twoT
      simp only
      rw [if_neg (by rw [h2]; decide), if_neg (by rw [h1]; decide), ba_toList]
      rfl
    have fin : ∀ X : TN, closeR L ⟨s.pos + 1 + (tokE a).length + 1 + (tokE b).length, s.cnt + sizeT a + 1 + sizeT b, 0, s.whr⟩ = ⟨pre.length + ((tokE a).length + ((tokE b).length + (0 + 1) + 1) + 1), s.cnt + (1 + sizeT a + sizeT b), 0, s.whr⟩ := fun _ => by
      unfold closeR
      simp only
      rw [shutS, if_neg (by decide)]
      unfold stepR
      simp only
      rw [hp, show pre.length + 1 + (tokE a).length + 1 + (tokE b).length + 1 = pre.length + ((tokE a).length + ((tokE b).length + (0 + 1) + 1) + 1) by omega, show s.cnt + sizeT a + 1 + sizeT b = s.cnt + (1 + sizeT a + sizeT b) by omega]
    rw [hcan]
    simp only [List.length_cons, List.length_append, List.length_nil]
    have hor : isMul o = true ∨ (isMul o = false ∧ isAdd o = true) := by
      have h4' := h4
      unfold isTwo at h4'
      cases hx : isMul o with
      | true => exact .inl rfl
      | false =>
        right
        unfold isMul at hx
        unfold isAdd
        refine ⟨rfl, ?_⟩
        simp only [Bool.or_eq_false_iff] at hx
        simp only [Bool.or_eq_true] at h4' ⊢
        rcases h4' with (((h | h) | h) | h) | h
        · exact .inl h
        · exact .inr h
        · rw [hx.1.1] at h; cases h
        · rw [hx.1.2] at h; cases h
        · rw [hx.2] at h; cases h
    rcases hor with hm | ⟨hm, hadd⟩
    · rw [pE_prodL]
      simp only
      rw [if_pos (by rw [hM, hm]; rfl), ht, eb]
      simp only
      rw [pE_prodL]
      simp only
      rw [if_neg (by rw [shutM]; decide), pE_sumL]
      simp only
      rw [if_neg (by rw [shutA]; decide), opE, fin zeroT]
    · rw [pE_prodL]
      simp only
      rw [if_neg (by rw [hM, hm]; decide), pE_sumL]
      simp only
      rw [if_pos (by rw [hA, hadd]; rfl), ht, pE_prod, eb]
      simp only
      rw [pE_prodL]
      simp only
      rw [if_neg (by rw [shutM]; decide), pE_sumL]
      simp only
      rw [if_neg (by rw [shutA]; decide), opE, fin zeroT]

end

section
open Go.RowKit

theorem itoa_len {n : Int} (h0 : 0 ≤ n) (h1 : n ≤ 9223372036854775807) : (Lib.itoa n).length ≤ 19 := by
  rw [itoa_dec h0]
  exact dec_len 18 _ (by omega)

theorem good_len {x : List UInt8} (h : goodB x = true) : x.length ≤ 8 := by
  cases x with
  | nil => simp
  | cons c r =>
    rw [good_cons] at h
    simp only [Bool.and_eq_true, decide_eq_true_eq] at h
    have := h.1.2
    simp; omega

theorem text_len (t : TN) (h : OkT t) (hn : NumsF t.f) : (textE t).length ≤ 19 * sizeT t := by
  refine tree_induct1 (P := fun t => (textE t).length ≤ 19 * sizeT t) ?_ ?_ ?_ ?_ t h hn
  · intro o m n h1 h2 h3
    rw [(text_num h1).1]
    have := itoa_len h2 h3
    have hs : sizeT ⟨o, m, n, .nil⟩ = 1 := rfl
    omega
  · intro o m n h1 h2 h3
    rw [(text_name h1 h2).1]
    have := good_len h3
    have hs : sizeT ⟨o, m, n, .nil⟩ = 1 := rfl
    omega
  · intro o m n a h1 h2 h3 ih
    rw [(text_neg a h1 h2 h3).1]
    have hs : sizeT ⟨o, m, n, a.f⟩ = 1 + sizeT a := by unfold sizeT; rw [show (⟨o, m, n, a.f⟩ : TN).ks = a.f from rfl, sizeF_tree]; rfl
    rw [hs, List.length_cons]
    omega
  · intro o m n a b h1 h2 h3 h4 ia ib
    rw [(text_two a b h1 h2 h3).1]
    obtain ⟨_, c, hc, _⟩ := two_sign h4
    have hs : sizeT ⟨o, m, n, .cons a.op a.nm a.n a.ks b.f⟩ = 1 + sizeT a + sizeT b := by unfold sizeT; simp only; rw [sizeF, sizeF_tree]; unfold sizeT; omega
    rw [hs, hc]
    simp only [List.length_cons, List.length_append, List.length_nil]
    omega

/-- A factor that ends where the tokens end is all of it. -/
theorem of_fac {L : List Tk} {t : TN} {c w : Nat} (h : pE L .fac ⟨0, 0, 0, 0⟩ = (t, ⟨L.length, c, 0, w⟩)) : ofL L 0 = .ok t L.length := by
  have e : pE L .sum ⟨0, 0, 0, 0⟩ = (t, ⟨L.length, c, 0, w⟩) := by
    rw [pE_sum, pE_prod, h]
    simp only
    rw [pE_prodL]
    simp only
    rw [if_neg (by rw [isM_end (Nat.le_refl _)]; decide), pE_sumL]
    simp only
    rw [if_neg (by rw [isA_end (Nat.le_refl _)]; decide)]
  unfold ofL
  rw [e]
  rfl

/-- The words of a tree that may be are read as that tree. -/
theorem parse_text (t : TN) (h : OkT t) (hn : NumsF t.f) (hs : sizeT t ≤ 32) : parseX (textE t) = .ok (canT t) := by
  have hlen := text_len t h hn
  obtain ⟨ts, e1, e2⟩ := lex_tree t h hn [] stop_nil 0
  rw [List.append_nil, lex_nil] at e2
  have eT : lexT (textE t) = .ok ts := by
    unfold lexT
    rw [if_neg (by omega), e2]
    simp [LexEnd.after]
  have hl : ts.length = (tokE t).length := by rw [← e1, List.length_map]
  have hr := read_tree t h hn ts [] [] (by rw [e1]; simp) ⟨0, 0, 0, 0⟩ rfl rfl (by show 0 + _ ≤ 32; omega)
  simp only [Nat.zero_add] at hr
  rw [← hl] at hr
  unfold parseX
  rw [eT]
  simp only
  rw [of_fac hr]
  simp only
  rw [if_neg (Nat.lt_irrefl _)]

end

section
open Go.RowKit

theorem runE_fac2 {L : List Tk} {p o n : Nat} {sg : List (List UInt8 × Nat)} {dn : List TN} (hp : p ≤ L.length) : runE L true ⟨p, o, n, sg, dn⟩ =
    if isS L [40] p = true then runE L true ⟨p + 1, o + 1, n, sg, dn⟩
    else if isS L [45] p = true then (if n = 32 then .bad p 4 else runE L true ⟨p + 1, o, n + 1, (bNeg, 3 + o * 3) :: sg, dn⟩)
    else if (tkAt L p).kind = 2 ∧ 0 ≤ (tkAt L p).num then (if n = 32 then .bad p 4 else runE L false ⟨p + 1, o, n + 1, sg, numT (tkAt L p).num :: dn⟩)
    else if (tkAt L p).kind = 1 ∧ goodB (tkAt L p).text = true then (if n = 32 then .bad p 4 else runE L false ⟨p + 1, o, n + 1, sg, nameT (tkAt L p).text :: dn⟩)
    else .bad p 2 := by
  have h := runE_fac (L := L) (s := ⟨p, o, n, sg, dn⟩) hp
  simp only at h
  rw [h]
  unfold tkAt
  cases e : L[p]? with
  | none =>
    have hz : ¬ (zTk.kind = 2 ∧ 0 ≤ zTk.num) := by decide
    have hz1 : ¬ (zTk.kind = 1 ∧ goodB zTk.text = true) := by decide
    simp only [if_neg hz, if_neg hz1]
  | some t => rfl

/-- What factor answers: an error and its place, or the run behind the factor. -/
def FacR (ts : List Tk) (rb : Nat) (a : Option Addr) (c p0 : Nat) (r0 : RunEnd) (w0 : World) (e : Ending) (w' : World) : Prop :=
  KeptR rb w0 w' ∧ ∃ (er : Int) (p o n : Nat) (sg : List (List UInt8 × Nat)) (dn : List TN) (sv dv : Value) (q : List (Option Addr × Nat)), e = .returned (.int .i64 er) ∧ RG ts rb a c p o n sg dn sv dv q w' ∧
    ((er = 0 ∧ r0 = runE ts false ⟨p, o, n, sg, dn⟩ ∧ SgOk sg ∧ dn.length = bins sg + 1 ∧ p0 < p ∧ o ≤ p) ∨ (er ≠ 0 ∧ r0 = .bad p er))

theorem good_at_tk {ts : List Tk} (hL : ∀ t ∈ ts, GoodTk t) (p : Nat) : tkAt ts p = zTk ∨ GoodTk (tkAt ts p) ∧ p < ts.length := by
  by_cases h : p < ts.length
  · right; rw [tkAt_get h]; exact ⟨hL _ (List.getElem_mem h), h⟩
  · left; exact tkAt_end (Nat.le_of_not_lt h)

set_option maxHeartbeats 8000000 in
set_option maxRecDepth 100000 in
theorem factor_any (ts : List Tk) (hL : ∀ t ∈ ts, GoodTk t) (rb : Nat) (a : Option Addr) (c p0 o0 n0 : Nat) (sg0 : List (List UInt8 × Nat)) (dn : List TN) (sv0 dv : Value) (q : List (Option Addr × Nat)) (w : World) (H : RG ts rb a c p0 o0 n0 sg0 dn sv0 dv q w) (hs : SgOk sg0) (hd : dn.length = bins sg0) (ho : o0 ≤ p0) :
    Calls Tryz.prog 61 #[.pointer (some ⟨rb, 0, none⟩)] w (FacR ts rb a c p0 (runE ts true ⟨p0, o0, n0, sg0, dn⟩) w) := by
  obtain ⟨r0, hr0⟩ : ∃ r, runE ts true ⟨p0, o0, n0, sg0, dn⟩ = r := ⟨_, rfl⟩
  rw [hr0]
  have K0 := Lib.hid (KeptR.refl rb w)
  have HR := Lib.hid H
  have HS := Lib.hid hs
  have HD := Lib.hid hd
  have HE := Lib.hid hr0
  have HL := Lib.hid hL
  have hn : ts.length ≤ 100000 := H.g.hl
  have hp0 := H.g.hp
  clear hs hd hr0 H hL
  go_enter Tryz.func61, Tryz.ntmps61
  go_wp2_with fail
  go_loopg [] ts.length (fun g wr => ∃ (p o n : Nat) (sg : List (List UInt8 × Nat)) (sv : Value), p0 ≤ p ∧ o ≤ p ∧ p ≤ ts.length ∧ ts.length - p ≤ g ∧ Hid (RG ts rb a c p o n sg dn sv dv q wr) ∧ Hid (SgOk sg) ∧ Hid (dn.length = bins sg) ∧ Hid (runE ts true ⟨p, o, n, sg, dn⟩ = r0) ∧ Hid (KeptR rb w wr))
  case atStart => exact ⟨p0, o0, n0, sg0, sv0, Nat.le_refl _, ho, hp0, Nat.sub_le _ _, HR, HS, HD, HE, K0⟩
  case round =>
    obtain ⟨p, o, n, sg, sv, hp, hop, hpl, hg, hR, hS, hD, hE, hK⟩ := hrel
    have CN := Lib.hid (next_any ts rb a c p o n sv dv wr hR.out.g)
    have RF := Lib.hid (hE.out.symm.trans (runE_fac2 (o := o) (n := n) (sg := sg) (dn := dn) hpl))
    have hgt := Lib.hid (good_at_tk HL.out p)
    have D := Lib.hid (fun x w => isS_any ts x p w)
    obtain ⟨tk, htk⟩ : ∃ t, tkAt ts p = t := ⟨_, rfl⟩
    have LT : Hid (¬ tk = zTk → p < ts.length) := Lib.hid (fun hne => by
      rcases hgt.out with h1 | h1
      · exact absurd (htk.symm.trans h1) hne
      · exact h1.2)
    rw [htk] at CN RF hgt D
    have HTK := Lib.hid htk
    clear htk
    obtain ⟨X, hX⟩ : ∃ X : ByteArray, ⟨tk.text.toArray⟩ = X := ⟨_, rfl⟩
    have hag : tkG tk = .agg #[.int .i64 tk.kind, .string X, .int .i64 tk.num, .int .i64 tk.place] := by rw [← hX]; rfl
    rw [hag] at CN D
    have HX := Lib.hid hX
    clear hag hX
    have hob : o ≤ 100000 := by omega
    go_wp2_with fail
    refine CN.out.mono ?_
    rintro e w1 ⟨rfl, hb1⟩
    have hrw := hR.out.lt
    have hsz := hb1.size
    have R1 := hR.out.below hb1
    have K1 := hK.out.trans (KeptR.below hb1)
    have BA := (Below.refl w1.heap.size w1).alloc (Nat.le_refl _) (.cells #[.int .i64 tk.kind, .string X, .int .i64 tk.num, .int .i64 tk.place] 75)
    have NA := heap_alloc_new w1 (.cells #[.int .i64 tk.kind, .string X, .int .i64 tk.num, .int .i64 tk.place] 75)
    have R2 := R1.below BA
    have K2 := K1.trans (KeptR.below BA)
    obtain ⟨tb, htb⟩ : ∃ b, w1.heap.size = b := ⟨_, rfl⟩
    go_upto_region 3 with fail
    generalize hW : w1.alloc (.cells #[.int .i64 tk.kind, .string X, .int .i64 tk.num, .int .i64 tk.place] 75) = W at R2 K2 NA
    try rw [hW]
    rw [htb] at NA
    try rw [htb]
    have HR2 := Lib.hid R2
    have HK2 := Lib.hid K2
    have HNA := Lib.hid NA
    obtain ⟨⟨x0, x1, x2, x3⟩, -⟩ := four NA
    clear hb1 R1 K1 BA R2 K2 NA hW htb CN
    go_wp2_with fail
    refine (D.out ⟨#[40]⟩ W).mono ?_
    rintro e w2 ⟨rfl, hb2⟩
    have hE40 : isS ts (⟨#[40]⟩ : ByteArray).data.toList p = isS ts [40] p := rfl
    rw [hE40]
    have R3 := HR2.out.below hb2
    have K3 := HK2.out.trans (KeptR.below hb2)
    have N3 := (hb2.block _ (Array.getElem?_eq_some_iff.1 HNA.out).1).trans HNA.out
    have HR3 := Lib.hid R3
    have HK3 := Lib.hid K3
    have HN3 := Lib.hid N3
    clear x0 x1 x2 x3 hb2 hE40 R3 K3 N3 HR2 HK2 HNA
    by_cases h40 : isS ts [40] p = true
    · have hlt := isS_lt h40
      have E2 := Lib.hid (show runE ts true ⟨p + 1, o + 1, n, sg, dn⟩ = r0 by have := RF.out; rw [if_pos h40] at this; exact this.symm)
      obtain ⟨⟨c0, c1, c2, c3, c4, c5⟩, f1, f2, f3, f4, f5⟩ := HR3.out.g.r.cells
      have H1 := HR3.out.set (p' := p) (o' := o + 1) (n' := n) (y := 2) (v := .int .i64 ((o : Int) + 1)) hpl (by omega) HR3.out.g.hn (Nat.le_refl _) rfl
      have H2 := Lib.hid (H1.set (p' := p + 1) (o' := o + 1) (n' := n) (y := 1) (v := .int .i64 ((p : Int) + 1)) (by omega) (by omega) HR3.out.g.hn (Nat.le_refl _) rfl)
      have K4 := Lib.hid ((HK3.out.set 2 (.int .i64 ((o : Int) + 1))).set 1 (.int .i64 ((p : Int) + 1)))
      rw [h40]
      clear H1 h40 D RF
      go_wp2_with fail
      go_roundg (ts.length - (p + 1))
      case measure => omega
      case rel => exact ⟨p + 1, o + 1, n, sg, sv, by omega, by omega, by omega, Nat.le_refl _, H2, hS, hD, E2, K4⟩
    · rw [if_neg h40] at RF
      have h40' : isS ts [40] p = false := by simpa using h40
      rw [h40']
      have H40 := Lib.hid h40'
      obtain ⟨⟨x0, x1, x2, x3⟩, -⟩ := four HN3.out
      clear h40 h40'
      go_wp2_with fail
      refine (D.out ⟨#[45]⟩ w2).mono ?_
      rintro e w3 ⟨rfl, hb3⟩
      have HR4 := Lib.hid (HR3.out.below hb3)
      have HK4 := Lib.hid (HK3.out.trans (KeptR.below hb3))
      have HN4 := Lib.hid ((hb3.block _ (Array.getElem?_eq_some_iff.1 HN3.out).1).trans HN3.out)
      clear x0 x1 x2 x3 hb3 HR3 HK3 HN3 D
      obtain ⟨⟨x0, x1, x2, x3⟩, -⟩ := four HN4.out
      obtain ⟨⟨c0, c1, c2, c3, c4, c5⟩, f1, f2, f3, f4, f5⟩ := HR4.out.g.r.cells
      by_cases h45 : isS ts [45] p = true
      · have hlt := isS_lt h45
        have CW := wait_any ts rb a c p o n sg dn sv dv q (bNeg, 3 + o * 3) w3 HR4.out hlt
        rw [show (((bNeg, 3 + o * 3) : List UInt8 × Nat).2 : Int) = 3 + (o : Int) * 3 by simp] at CW
        have HCW := Lib.hid CW
        rw [if_pos h45] at RF
        rw [h45]
        clear h45 CW
        by_cases h32 : n = 32
        · rw [if_pos h32] at RF
          have G32 := Lib.hid h32
          clear h32
          go_wp2_with fail
          refine HCW.out.mono ?_
          rintro e w4 ⟨k4, hA, -⟩
          obtain ⟨rfl, r4⟩ := hA G32.out
          have P := Lib.hid (show FacR ts rb a c p0 r0 w (.returned (.int .i64 4)) w4 from ⟨HK4.out.trans k4, 4, p, o, n, sg, dn, sv, dv, q, rfl, r4, .inr ⟨by decide, RF.out⟩⟩)
          clear c0 c1 c2 c3 c4 c5 f1 f2 f3 f4 f5 x0 x1 x2 x3
          go_wp2_with fail
          go_ret
          exact P.out
        · rw [if_neg h32] at RF
          have G32 := Lib.hid h32
          clear h32
          go_wp2_with fail
          refine HCW.out.mono ?_
          rintro e w4 ⟨k4, -, hB⟩
          obtain ⟨rfl, sv', r4⟩ := hB G32.out
          have R5 := Lib.hid r4
          have K5 := Lib.hid (HK4.out.trans k4)
          have S5 := Lib.hid (show SgOk ((bNeg, 3 + o * 3) :: sg) from fun x hx => (List.mem_cons.1 hx).elim (fun e => .inl (by rw [e])) (hS.out x))
          have D5 := Lib.hid (show dn.length = bins ((bNeg, 3 + o * 3) :: sg) by rw [bins, if_pos rfl]; exact hD.out)
          have E5 := Lib.hid RF.out.symm
          clear c0 c1 c2 c3 c4 c5 f1 f2 f3 f4 f5 x0 x1 x2 x3 hB
          go_wp2_with fail
          go_roundg (ts.length - (p + 1))
          case measure => omega
          case rel => exact ⟨p + 1, o, n + 1, _, sv', by omega, by omega, by omega, Nat.le_refl _, R5, S5, D5, E5, K5⟩
      · rw [if_neg h45] at RF
        have h45' : isS ts [45] p = false := by simpa using h45
        rw [h45']
        clear h45 h45' H40
        by_cases hk2 : tk.kind = 2
        · obtain ⟨hm, hlt⟩ : 0 ≤ tk.num ∧ p < ts.length := by
            rcases hgt.out with h1 | ⟨h1, h2⟩
            · rw [h1] at hk2; exact absurd hk2 (by decide)
            · rcases h1 with ⟨h3, _⟩ | ⟨_, h3, _⟩ | h3
              · rw [h3] at hk2; exact absurd hk2 (by decide)
              · exact ⟨h3, h2⟩
              · rw [h3] at hk2; exact absurd hk2 (by decide)
          rw [if_pos ⟨hk2, hm⟩] at RF
          have CL := Lib.hid (leaf_any ts rb a c p o n sg dn sv dv q (numT tk.num) rfl w3 HR4.out hlt)
          have b1 : (tk.kind == 2) = true := by rw [hk2]; rfl
          have HK := Lib.hid hk2
          clear hk2
          by_cases h32 : n = 32
          · rw [if_pos h32] at RF
            have G32 := Lib.hid h32
            clear h32
            go_wp2_with fail
            refine CL.out.mono ?_
            rintro e w4 ⟨k4, hA, -⟩
            obtain ⟨rfl, r4⟩ := hA G32.out
            have P := Lib.hid (show FacR ts rb a c p0 r0 w (.returned (.int .i64 4)) w4 from ⟨HK4.out.trans k4, 4, p, o, n, sg, dn, sv, dv, q, rfl, r4, .inr ⟨by decide, RF.out⟩⟩)
            clear c0 c1 c2 c3 c4 c5 f1 f2 f3 f4 f5 x0 x1 x2 x3
            go_wp2_with fail
            go_ret
            exact P.out
          · rw [if_neg h32] at RF
            have G32 := Lib.hid h32
            clear h32
            go_wp2_with fail
            refine CL.out.mono ?_
            rintro e w4 ⟨k4, -, hB⟩
            obtain ⟨rfl, dv', q', r4⟩ := hB G32.out
            have P := Lib.hid (show FacR ts rb a c p0 r0 w (.returned (.int .i64 0)) w4 from ⟨HK4.out.trans k4, 0, p + 1, o, n + 1, sg, _, sv, dv', q', rfl, r4, .inl ⟨rfl, RF.out, hS.out, by rw [List.length_cons, hD.out], by omega, by omega⟩⟩)
            clear c0 c1 c2 c3 c4 c5 f1 f2 f3 f4 f5 x0 x1 x2 x3 hB
            go_wp2_with fail
            go_ret
            exact P.out
        · rw [if_neg (fun h => hk2 h.1)] at RF
          have b1 : (tk.kind == 2) = false := by simpa using hk2
          by_cases hk1 : tk.kind = 1
          · obtain ⟨hm, hlt⟩ : goodB tk.text = true ∧ p < ts.length := by
              rcases hgt.out with h1 | ⟨h1, h2⟩
              · rw [h1] at hk1; exact absurd hk1 (by decide)
              · rcases h1 with ⟨_, h3⟩ | ⟨h3, _⟩ | h3
                · exact ⟨h3, h2⟩
                · rw [h3] at hk1; exact absurd hk1 (by decide)
                · rw [h3] at hk1; exact absurd hk1 (by decide)
            rw [if_pos ⟨hk1, hm⟩] at RF
            have b2 : (tk.kind == 1) = true := by rw [hk1]; rfl
            have CL := fun w4 (h : RG ts rb a c p o n sg dn sv dv q w4) => leaf_any ts rb a c p o n sg dn sv dv q (nameT tk.text) rfl w4 h hlt
            have CX : (nameT tk.text).nm = X := HX.out
            rw [CX] at CL
            have HCL := Lib.hid CL
            have NM := Lib.hid (fun w => wName_any X (by rw [← HX.out]; have := good_len hm; show tk.text.toArray.size ≤ _; rw [List.size_toArray]; omega) w)
            have NM2 : goodB X.data.toList = true := by rw [← HX.out]; simpa using hm
            rw [NM2] at NM
            clear hk1 hk2 CL CX NM2 hm
            have PB := Lib.hid (p := ∀ w4, KeptR rb w3 w4 → RG ts rb a c p o n sg dn sv dv q w4 → n = 32 → FacR ts rb a c p0 r0 w (.returned (.int .i64 4)) w4) (fun w4 k4 r4 h32 => ⟨HK4.out.trans k4, 4, p, o, n, sg, dn, sv, dv, q, rfl, r4, .inr ⟨by decide, by rw [RF.out, if_pos h32]⟩⟩)
            have PG := Lib.hid (p := ∀ w4 dv' q', KeptR rb w3 w4 → ¬ n = 32 → RG ts rb a c (p + 1) o (n + 1) sg (nameT tk.text :: dn) sv dv' q' w4 → FacR ts rb a c p0 r0 w (.returned (.int .i64 0)) w4) (fun w4 dv' q' k4 h32 r4 => ⟨HK4.out.trans k4, 0, p + 1, o, n + 1, sg, _, sv, dv', q', rfl, r4, .inl ⟨rfl, by rw [RF.out, if_neg h32], hS.out, by rw [List.length_cons, hD.out], by omega, by omega⟩⟩)
            go_wp2_with fail
            refine (NM.out _).mono ?_
            rintro e w4 ⟨rfl, rfl⟩
            go_wp2_with fail
            refine (HCL.out _ HR4.out).mono ?_
            rintro e w4 ⟨k4, hA, hB⟩
            by_cases h32 : n = 32
            · obtain ⟨rfl, r4⟩ := hA h32
              have P := Lib.hid (PB.out w4 k4 r4 h32)
              clear c0 c1 c2 c3 c4 c5 f1 f2 f3 f4 f5 x0 x1 x2 x3 hA hB h32
              go_wp2_with fail
              go_ret
              exact P.out
            · obtain ⟨rfl, dv', q', r4⟩ := hB h32
              have P := Lib.hid (PG.out w4 dv' q' k4 h32 r4)
              clear c0 c1 c2 c3 c4 c5 f1 f2 f3 f4 f5 x0 x1 x2 x3 hA hB h32
              go_wp2_with fail
              go_ret
              exact P.out
          · rw [if_neg (fun h => hk1 h.1)] at RF
            have b2 : (tk.kind == 1) = false := by simpa using hk1
            have P := Lib.hid (show FacR ts rb a c p0 r0 w (.returned (.int .i64 2)) w3 from ⟨HK4.out, 2, p, o, n, sg, dn, sv, dv, q, rfl, HR4.out, .inr ⟨by decide, RF.out⟩⟩)
            clear hk1 hk2
            go_wp2_with fail
            go_ret
            exact P.out

end

section
open Go.RowKit

def SumR (ts : List Tk) (rb : Nat) (a : Option Addr) (c : Nat) (r0 : RunEnd) (w0 : World) (e : Ending) (w' : World) : Prop :=
  KeptR rb w0 w' ∧ ∃ (er : Int) (p o n : Nat) (sg : List (List UInt8 × Nat)) (dn : List TN) (sv dv : Value) (q : List (Option Addr × Nat)), e = .returned (.int .i64 er) ∧ RG ts rb a c p o n sg dn sv dv q w' ∧
    ((er = 0 ∧ r0 = .ok ⟨p, o, n, sg, dn⟩ ∧ SgOk sg ∧ dn.length = bins sg + 1) ∨ (er ≠ 0 ∧ r0 = .bad p er))

theorem bet_any (ts : List Tk) (p : Nat) (w : World) : Calls Tryz.prog 63 #[tkG (tkAt ts p)] w fun e w' => e = .returned (.int .i64 (holdsAt ts p : Nat)) ∧ Below w.heap.size w w' := by
  have h := between_any (tkAt ts p).kind ⟨(tkAt ts p).text.toArray⟩ (tkAt ts p).num (tkAt ts p).place w
  have e : betB (tkAt ts p).kind (⟨(tkAt ts p).text.toArray⟩ : ByteArray).data.toList = holdsAt ts p := tkAt_bet ts p
  rw [e] at h
  exact h

theorem holds_sign {ts : List Tk} {p : Nat} (h : ¬ holdsAt ts p = 0) : signO (opAt ts p) ∧ p < ts.length ∧ holdsAt ts p ≤ 2 := by
  unfold holdsAt at h ⊢
  by_cases hA : isA ts p = true
  · rw [if_pos hA]; exact ⟨opA hA, isA_lt hA, by omega⟩
  · rw [if_neg hA] at h ⊢
    by_cases hM : isM ts p = true
    · rw [if_pos hM]; exact ⟨opM hM, isM_lt hM, by omega⟩
    · rw [if_neg hM] at h; exact absurd rfl h

theorem field_text (k m pl : Int) (X : ByteArray) (w : World) : (Instr.field 75 (.agg #[.int .i64 k, .string X, .int .i64 m, .int .i64 pl]) 1).run Tryz.prog w = .ok (.string X) w := by
  simp [Instr.field, go_sem, asAgg]

set_option maxHeartbeats 8000000 in
set_option maxRecDepth 100000 in
theorem sum_any' (ts : List Tk) (hL : ∀ t ∈ ts, GoodTk t) (rb : Nat) (a : Option Addr) (c p0 o0 n0 : Nat) (sg0 : List (List UInt8 × Nat)) (dn0 : List TN) (sv0 dv0 : Value) (q0 : List (Option Addr × Nat)) (w : World) (H : RG ts rb a c p0 o0 n0 sg0 dn0 sv0 dv0 q0 w) (hs : SgOk sg0) (hd : dn0.length = bins sg0) (ho : o0 ≤ p0) :
    Calls Tryz.prog 46 #[.pointer (some ⟨rb, 0, none⟩)] w (SumR ts rb a c (runE ts true ⟨p0, o0, n0, sg0, dn0⟩) w) := by
  obtain ⟨r0, hr0⟩ : ∃ r, runE ts true ⟨p0, o0, n0, sg0, dn0⟩ = r := ⟨_, rfl⟩
  rw [hr0]
  have K0 := Lib.hid (KeptR.refl rb w)
  have HR := Lib.hid H
  have HS := Lib.hid hs
  have HD := Lib.hid hd
  have HE := Lib.hid hr0
  have HL := Lib.hid hL
  have hn : ts.length ≤ 100000 := H.g.hl
  have hp0 := H.g.hp
  clear hs hd hr0 H hL
  go_enter Tryz.func46, Tryz.ntmps46
  go_wp2_with fail
  go_loopg [] ts.length (fun g wr => ∃ (p o n : Nat) (sg : List (List UInt8 × Nat)) (dn : List TN) (sv dv : Value) (q : List (Option Addr × Nat)), o ≤ p ∧ p ≤ ts.length ∧ ts.length - p ≤ g ∧ Hid (RG ts rb a c p o n sg dn sv dv q wr) ∧ Hid (SgOk sg) ∧ Hid (dn.length = bins sg) ∧ Hid (runE ts true ⟨p, o, n, sg, dn⟩ = r0) ∧ Hid (KeptR rb w wr))
  case atStart => exact ⟨p0, o0, n0, sg0, dn0, sv0, dv0, q0, ho, hp0, Nat.sub_le _ _, HR, HS, HD, HE, K0⟩
  case round =>
    obtain ⟨p, o, n, sg, dn, sv, dv, q, hop, hpl, hg, hR, hS, hD, hE, hK⟩ := hrel
    have CF := Lib.hid (factor_any ts HL.out rb a c p o n sg dn sv dv q wr hR.out hS.out hD.out hop)
    rw [hE.out] at CF
    clear hR hS hD hE
    go_wp2_with fail
    refine CF.out.mono ?_
    rintro e w1 ⟨k1, er, p1, o1, n1, sg1, dn1, sv1, dv1, q1, rfl, R1, h⟩
    rcases h with ⟨rfl, hE1, S1, D1, hp1, ho1⟩ | ⟨hne, hE1⟩
    · have HR1 := Lib.hid R1
      have HE1 := Lib.hid hE1
      have HS1 := Lib.hid S1
      have HD1 := Lib.hid D1
      have HK1 := Lib.hid (hK.out.trans k1)
      clear R1 hE1 S1 D1 k1 hK CF
      go_wp2_with fail
      refine (shut_any ts rb a c p1 o1 n1 sg1 dn1 sv1 dv1 q1 w1 HR1.out).mono ?_
      rintro e w2 ⟨rfl, k2, p2, o2, R2, hp2, ho2, hE2, hno⟩
      have hpl2 : p2 ≤ ts.length := R2.g.hp
      have RF := runE_beh (L := ts) (s := ⟨p2, o2, n1, sg1, dn1⟩) hpl2
      simp only at RF
      rw [if_neg (fun hh => by rw [hno hh.1] at hh; exact absurd hh.2 (by decide)), hE2, ← HE1.out] at RF
      have HRF := Lib.hid RF
      have HR2 := Lib.hid R2
      have HK2 := Lib.hid (HK1.out.trans k2)
      have CN := Lib.hid (fun w (h : RG ts rb a c p2 o2 n1 sg1 dn1 sv1 dv1 q1 w) => next_any ts rb a c p2 o2 n1 sv1 dv1 w h.g)
      have CB := Lib.hid (fun w => bet_any ts p2 w)
      obtain ⟨hh, hhh⟩ : ∃ x, holdsAt ts p2 = x := ⟨_, rfl⟩
      have hsg := @holds_sign ts p2
      rw [hhh] at HRF CB hsg
      have HSG := Lib.hid hsg
      clear R2 k2 RF hE2 hno HE1 HR1 HK1 hsg hhh
      go_wp2_with fail
      refine (CN.out w2 HR2.out).mono ?_
      rintro e w3 ⟨rfl, b3⟩
      have HR3 := Lib.hid (HR2.out.below b3)
      have HK3 := Lib.hid (HK2.out.trans (KeptR.below b3))
      clear b3 HR2 HK2
      go_wp2_with fail
      refine (CB.out w3).mono ?_
      rintro e w4 ⟨rfl, b4⟩
      have HR4 := Lib.hid (HR3.out.below b4)
      have HK4 := Lib.hid (HK3.out.trans (KeptR.below b4))
      clear b4 HR3 HK3 CB
      by_cases h0 : hh = 0
      · rw [if_pos h0] at HRF
        have a1 : ((hh : Int) == 0) = true := by rw [h0]; rfl
        have CE := Lib.hid (end_any ts rb a c p2 o2 n1 sv1 dv1 w4 HR4.out.g)
        have P := Lib.hid (p := ∀ x : Int, x = (if 0 < o2 then 2 else 0) → SumR ts rb a c r0 w (.returned (.int .i64 x)) w4) (fun x hx => ⟨HK4.out, x, p2, o2, n1, sg1, dn1, sv1, dv1, q1, rfl, HR4.out, by
          by_cases h2 : 0 < o2
          · rw [if_pos h2] at hx
            refine .inr ⟨by rw [hx]; decide, ?_⟩
            rw [HRF.out, if_pos h2, hx]
          · rw [if_neg h2] at hx
            refine .inl ⟨hx, ?_, HS1.out, HD1.out⟩
            rw [HRF.out, if_neg h2]⟩)
        clear h0 CN
        go_wp2_with fail
        refine CE.out.mono ?_
        rintro e w5 ⟨rfl, rfl⟩
        generalize hx : (if 0 < o2 then (2 : Int) else 0) = x at P ⊢
        have P2 := Lib.hid (P.out x rfl)
        clear P hx
        go_wp2_with fail
        go_ret
        exact P2.out
      · rw [if_neg h0] at HRF
        obtain ⟨hso, hlt, h2⟩ := HSG.out h0
        have HSO := Lib.hid hso
        have a1 : ((hh : Int) == 0) = false := by rw [beq_eq_false_iff_ne]; omega
        have ho100 : o2 ≤ 100000 := by omega
        have CJ := Lib.hid (join_any ts rb a c p2 o2 n1 (hh + o2 * 3) sg1 dn1 sv1 dv1 q1 w4 HR4.out HS1.out HD1.out)
        rw [show ((hh + o2 * 3 : Nat) : Int) = (hh : Int) + (o2 : Int) * 3 by simp] at CJ
        have JB := Lib.hid (join_bal (h := hh + o2 * 3) HS1.out HD1.out)
        obtain ⟨⟨J1, J2⟩, hJ⟩ : ∃ r, joinS (hh + o2 * 3) sg1 dn1 = r := ⟨_, rfl⟩
        rw [hJ] at CJ JB HRF
        simp only at JB HRF
        obtain ⟨⟨c0, c1, c2, c3, c4, c5⟩, f1, f2, f3, f4, f5⟩ := HR4.out.g.r.cells
        clear h0 hJ hso HSG
        go_wp2_with fail
        refine CJ.out.mono ?_
        rintro e w5 ⟨rfl, k5, sv5, dv5, q5, R5⟩
        have HR5 := Lib.hid R5
        have HK5 := Lib.hid (HK4.out.trans k5)
        have CN2 := Lib.hid (next_any ts rb a c p2 o2 n1 sv5 dv5 w5 R5.g)
        obtain ⟨tk, htk⟩ : ∃ t, tkAt ts p2 = t := ⟨_, rfl⟩
        have hop2 := tkAt_op ts p2
        rw [htk] at CN2 hop2
        obtain ⟨X, hX⟩ : ∃ X : ByteArray, ⟨tk.text.toArray⟩ = X := ⟨_, rfl⟩
        have hag : tkG tk = .agg #[.int .i64 tk.kind, .string X, .int .i64 tk.num, .int .i64 tk.place] := by rw [← hX]; rfl
        rw [hag] at CN2
        have CW := fun w (h : RG ts rb a c p2 o2 n1 J1 J2 sv5 dv5 q5 w) => wait_any ts rb a c p2 o2 n1 J1 J2 sv5 dv5 q5 (opAt ts p2, hh + o2 * 3) w h hlt
        have e1 : (⟨(opAt ts p2).toArray⟩ : ByteArray) = X := by rw [← hop2]; exact hX
        have e2 : (((opAt ts p2, hh + o2 * 3) : List UInt8 × Nat).2 : Int) = (hh : Int) + (o2 : Int) * 3 := by simp
        simp only [e1, e2] at CW
        have HCW := Lib.hid CW
        clear R5 k5 CJ c0 c1 c2 c3 c4 c5 f1 f2 f3 f4 f5 HR4 HK4 htk hX hop2 hag e1 e2 CW CN
        go_wp2_with fail
        refine CN2.out.mono ?_
        rintro e w6 ⟨rfl, b6⟩
        have HR6 := Lib.hid (HR5.out.below b6)
        have HK6 := Lib.hid (HK5.out.trans (KeptR.below b6))
        clear b6 HR5 HK5 CN2
        go_wp2_with fail
        rw [field_text]
        simp only [Result.andThen]
        rw [Oper.upon_value]
        go_wp2_with fail
        refine (HCW.out w6 HR6.out).mono ?_
        rintro e w7 ⟨k7, hA, hB⟩
        by_cases h32 : n1 = 32
        · obtain ⟨rfl, r7⟩ := hA h32
          have P := Lib.hid (show SumR ts rb a c r0 w (.returned (.int .i64 4)) w7 from ⟨HK6.out.trans k7, 4, p2, o2, n1, J1, J2, sv5, dv5, q5, rfl, r7, .inr ⟨by decide, by rw [HRF.out, if_pos h32]⟩⟩)
          clear hA hB h32
          go_wp2_with fail
          go_ret
          exact P.out
        · obtain ⟨rfl, sv', r7⟩ := hB h32
          have R8 := Lib.hid r7
          have K8 := Lib.hid (HK6.out.trans k7)
          have S8 := Lib.hid (show SgOk ((opAt ts p2, hh + o2 * 3) :: J1) from fun x hx => (List.mem_cons.1 hx).elim (fun e => .inr (by rw [e]; exact HSO.out)) (JB.out.1 x))
          have D8 := Lib.hid (show J2.length = bins ((opAt ts p2, hh + o2 * 3) :: J1) by rw [bins, if_neg (arity_sign HSO.out).2]; exact JB.out.2)
          have E8 := Lib.hid (show runE ts true ⟨p2 + 1, o2, n1 + 1, (opAt ts p2, hh + o2 * 3) :: J1, J2⟩ = r0 by rw [HRF.out, if_neg h32])
          clear hA hB h32
          go_wp2_with fail
          go_roundg (ts.length - (p2 + 1))
          case measure => omega
          case rel => exact ⟨p2 + 1, o2, n1 + 1, _, J2, sv', dv5, q5, by omega, by omega, Nat.le_refl _, R8, S8, D8, E8, K8⟩
    · have b1 : ((er : Int) != 0) = true := by simpa using hne
      have P := Lib.hid (show SumR ts rb a c r0 w (.returned (.int .i64 er)) w1 from ⟨hK.out.trans k1, er, p1, o1, n1, sg1, dn1, sv1, dv1, q1, rfl, R1, .inr ⟨hne, hE1⟩⟩)
      clear hne hE1 R1 k1
      go_wp2_with fail
      go_ret
      exact P.out

end

section
open Go.RowKit

abbrev ndO (o m : ByteArray) (n : Int) (a : Option Addr) (l c : Nat) : Obj := .cells #[.string o, .string m, .int .i64 n, .slice a l c] 30

/-- The four stores of a node into a block. -/
abbrev put4 (w : World) (B : Nat) (o m : ByteArray) (n : Int) (a : Option Addr) (l c : Nat) : World :=
  (((w.setCell ⟨B, 0, none⟩ (.string o)).setCell ⟨B, 1, none⟩ (.string m)).setCell ⟨B, 2, none⟩ (.int .i64 n)).setCell ⟨B, 3, none⟩ (.slice a l c)

theorem kept_put4 (w : World) (B : Nat) (o m : ByteArray) (n : Int) (a : Option Addr) (l c : Nat) : Kept (· = B) w (put4 w B o m n a l c) :=
  ((((Kept.refl (· = B) w).setCell (p := ⟨B, 0, none⟩) (.inl rfl) _).setCell (p := ⟨B, 1, none⟩) (.inl rfl) _).setCell (p := ⟨B, 2, none⟩) (.inl rfl) _).setCell (p := ⟨B, 3, none⟩) (.inl rfl) _

end

section
open Go.RowKit

theorem drop_at (s : ByteArray) {k : Nat} (h : k < s.size) : s.data.toList.drop k = s[k] :: s.data.toList.drop (k + 1) := List.drop_eq_getElem_cons (by simpa using h)

section

variable {s : ByteArray} {k m : Nat}

end

end

section
open Go.RowKit

/-- What Of answers, of the program and of the document. -/
def OfPost (q : OfEnd) (w : World) (e : Ending) (w' : World) : Prop := Below w.heap.size w w' ∧
  match q with
  | .bad p er => e = .returned (.tuple #[nodeV ⟨#[]⟩ ⟨#[]⟩ 0 none 0 0, .int .i64 (p : Nat), .int .i64 er])
  | .ok t p => ∃ a c, e = .returned (.tuple #[nodeV t.op t.nm t.n a t.ks.len c, .int .i64 (p : Nat), .int .i64 0]) ∧ ReadsK w.heap.size w' a t.ks

end

end Go.Proofs.YtcmcnmmhkpolcaaGreatDoor
