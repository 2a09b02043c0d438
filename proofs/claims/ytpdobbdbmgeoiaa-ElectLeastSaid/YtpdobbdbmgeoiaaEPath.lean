/-
  No statement: a path's parts; how deep it is.
-/
import Derived.Test.YtpdobbdbmgeoiaaTbRef
import Derived.Test.YtpdobbdbmgeoiaaSParts
import Derived.Test.YtpdobbdbmgeoiaaWName
import Derived.Test.YtpdobbdbmgeoiaaShelf
import Derived.StillTailTactics
import Derived.LoopTactic
import Derived.Deep.Cut
import Derived.Laws.ResultCell
import Derived.Laws.Rows
import Derived.Deep.RegionHeld3
import Derived.Maps.OwnIn
import Derived.Laws.OwnMore
set_option linter.unusedVariables false
set_option linter.unusedSimpArgs false

namespace Go.Proofs.Ytpdobbdbmgeoiaa
open Go.RowKit

/-- The parts of a text that begins with a stroke. -/
def cutL : List UInt8 → Option (List (List UInt8))
  | [] => none
  | c :: r => if c = 47 then (if r = [] then some [] else some (segs r)) else none
/-- What is wrong with parts; 0: nothing. -/
def errQ (q : List (List UInt8)) : Int := if q.all goodB = true then if q.length ≤ 4 then 0 else 4 else 2
def errP (l : List UInt8) : Int := match cutL l with
  | none => 2
  | some q => errQ q
def partsP (l : List UInt8) : List (List UInt8) := match cutL l with
  | none => []
  | some q => if errQ q = 0 then q else []
def joinT (q : List (List UInt8)) : List UInt8 := q.flatMap (fun a => 47 :: a)
def textP (q : List (List UInt8)) : List UInt8 := if q = [] then [47] else joinT q

theorem joinT_nil : joinT [] = [] := rfl
theorem joinT_cons (a : List UInt8) (q : List (List UInt8)) : joinT (a :: q) = 47 :: (a ++ joinT q) := by simp [joinT]
theorem joinT_app (p q : List (List UInt8)) : joinT (p ++ q) = joinT p ++ joinT q := by simp [joinT]
theorem joinT_one (a : List UInt8) : joinT [a] = 47 :: a := by simp [joinT]
theorem joinT_empty {q : List (List UInt8)} (h : joinT q = []) : q = [] := by
  cases q with
  | nil => rfl
  | cons a q => rw [joinT_cons] at h; cases h

theorem joinT_segs : ∀ r : List UInt8, joinT (segs r) = 47 :: r
  | [] => by simp [segs, joinT]
  | c :: r => by
    have ih := joinT_segs r
    by_cases h : c = 47
    · subst h; rw [segs_stroke, joinT_cons, ih]; rfl
    · obtain ⟨a, b, e⟩ := segs_eq r
      rw [segs_sign h r e, joinT_cons]
      rw [e, joinT_cons] at ih
      simp at ih
      simp [ih]

/-- No stroke within. -/
def Free (q : List (List UInt8)) : Prop := ∀ a ∈ q, ∀ c ∈ a, ¬ c = 47

theorem segs_joinT : ∀ (q : List (List UInt8)) (a : List UInt8), Free (a :: q) → segs (a ++ joinT q) = a :: q
  | [], a, h => by rw [joinT_nil, List.append_nil]; exact segs_name (h a (by simp))
  | b :: q, a, h => by
    rw [joinT_cons, segs_more (h a (by simp)), segs_joinT q b (fun x hx => h x (by simp only [List.mem_cons] at hx ⊢; exact .inr hx))]

theorem segs_free : ∀ r : List UInt8, Free (segs r)
  | [] => by intro a ha; simp [segs] at ha; subst ha; simp
  | c :: r => by
    have ih := segs_free r
    by_cases h : c = 47
    · subst h
      rw [segs_stroke]
      intro a ha
      rcases List.mem_cons.1 ha with rfl | ha
      · simp
      · exact ih a ha
    · obtain ⟨a, b, e⟩ := segs_eq r
      rw [segs_sign h r e]
      rw [e] at ih
      intro x hx
      rcases List.mem_cons.1 hx with rfl | hx
      · intro d hd
        rcases List.mem_cons.1 hd with rfl | hd
        · exact h
        · exact ih a (by simp) d hd
      · exact ih x (by simp [hx])

theorem good_free {n : List UInt8} (h : goodB n = true) : ∀ c ∈ n, ¬ c = 47 := by
  cases n with
  | nil => simp
  | cons c r =>
    rw [good_cons, Bool.and_eq_true, Bool.and_eq_true] at h
    intro x hx
    rcases List.mem_cons.1 hx with rfl | hx
    · exact small_ne h.1.1
    · exact alnum_ne (List.all_eq_true.1 h.2 x hx)

theorem good_ne {n : List UInt8} (h : goodB n = true) : n ≠ [] := by rintro rfl; cases h
theorem good_len {n : List UInt8} (h : goodB n = true) : 1 ≤ n.length ∧ n.length ≤ 8 := by
  cases n with
  | nil => cases h
  | cons c r =>
    rw [good_cons, Bool.and_eq_true, Bool.and_eq_true] at h
    have := of_decide_eq_true h.1.2
    simp; omega

theorem all_free {q : List (List UInt8)} (h : q.all goodB = true) : Free q := fun a ha => good_free (List.all_eq_true.1 h a ha)

theorem errQ_zero {q : List (List UInt8)} : errQ q = 0 ↔ q.all goodB = true ∧ q.length ≤ 4 := by
  unfold errQ
  by_cases h : q.all goodB = true
  · rw [if_pos h]
    by_cases h4 : q.length ≤ 4
    · rw [if_pos h4]; exact ⟨fun _ => ⟨h, h4⟩, fun _ => rfl⟩
    · rw [if_neg h4]; exact ⟨fun e => absurd e (by decide), fun e => absurd e.2 h4⟩
  · rw [if_neg h]; exact ⟨fun e => absurd e (by decide), fun e => absurd e.1 h⟩

theorem errQ_cases (q : List (List UInt8)) : errQ q = 0 ∨ errQ q = 2 ∨ errQ q = 4 := by
  unfold errQ; split
  · split
    · exact .inl rfl
    · exact .inr (.inr rfl)
  · exact .inr (.inl rfl)

theorem errP_cases (l : List UInt8) : errP l = 0 ∨ errP l = 2 ∨ errP l = 4 := by
  unfold errP; split
  · exact .inr (.inl rfl)
  · exact errQ_cases _

theorem parts_bad {l : List UInt8} (h : ¬ errP l = 0) : partsP l = [] := by
  unfold errP at h; unfold partsP
  split
  · rfl
  · next q e => rw [e] at h; exact if_neg h

theorem cutL_stroke (r : List UInt8) : cutL (47 :: r) = if r = [] then some [] else some (segs r) := rfl
theorem cutL_not {c : UInt8} (h : ¬ c = 47) (r : List UInt8) : cutL (c :: r) = none := if_neg h

theorem cut_join {q : List (List UInt8)} (hne : ¬ q = []) (h1 : ¬ q = [[]]) (hf : Free q) : cutL (joinT q) = some q := by
  cases q with
  | nil => exact absurd rfl hne
  | cons a q =>
    rw [joinT_cons, cutL_stroke, if_neg, segs_joinT q a hf]
    intro e
    have h2 := List.append_eq_nil_iff.1 e
    have h3 := joinT_empty h2.2
    rw [h2.1, h3] at h1
    exact h1 rfl

theorem cut_some {l : List UInt8} {q : List (List UInt8)} (h : cutL l = some q) : l = textP q ∧ Free q ∧ ¬ q = [[]] := by
  cases l with
  | nil => cases h
  | cons c r =>
    by_cases hc : c = 47
    · subst hc
      rw [cutL_stroke] at h
      by_cases hr : r = []
      · subst hr; rw [if_pos rfl] at h; cases h; exact ⟨rfl, fun _ h => by simp at h, by simp⟩
      · rw [if_neg hr] at h; cases h
        refine ⟨?_, segs_free r, ?_⟩
        · rw [textP, if_neg (segs_ne r), joinT_segs]
        · intro e
          have := joinT_segs r
          rw [e, joinT_one] at this
          simp at this
          exact hr this
    · rw [cutL_not hc] at h; cases h

theorem cut_text {q : List (List UInt8)} (hf : Free q) (h1 : ¬ q = [[]]) : cutL (textP q) = some q := by
  unfold textP
  by_cases h : q = []
  · subst h; rfl
  · rw [if_neg h]; exact cut_join h h1 hf

theorem good_not1 {q : List (List UInt8)} (h : q.all goodB = true) : ¬ q = [[]] := by
  rintro rfl; revert h; decide

theorem parts_ok {l : List UInt8} (h : errP l = 0) : (partsP l).all goodB = true ∧ (partsP l).length ≤ 4 ∧ textP (partsP l) = l ∧ cutL l = some (partsP l) := by
  unfold errP at h
  split at h
  · exact absurd h (by decide)
  · next q e =>
    have hq : partsP l = q := by unfold partsP; rw [e]; exact if_pos h
    rw [hq]
    have := errQ_zero.1 h
    exact ⟨this.1, this.2, (cut_some e).1.symm, e⟩

theorem text_parts {q : List (List UInt8)} (h : q.all goodB = true) (h4 : q.length ≤ 4) : errP (textP q) = 0 ∧ partsP (textP q) = q := by
  have e := cut_text (all_free h) (good_not1 h)
  unfold errP partsP
  rw [e]
  have := errQ_zero.2 ⟨h, h4⟩
  exact ⟨this, if_pos this⟩

theorem all_take {q : List (List UInt8)} (h : q.all goodB = true) (n : Nat) : (q.take n).all goodB = true := by
  rw [List.all_eq_true] at h ⊢
  exact fun x hx => h x (List.mem_of_mem_take hx)

/-- How many parts, from the first on, are the same ones. -/
def comN : List (List UInt8) → List (List UInt8) → Nat
  | a :: p, b :: q => if a = b then comN p q + 1 else 0
  | _, _ => 0

theorem com_eq : ∀ (p q : List (List UInt8)) (n : Nat), n ≤ p.length → n ≤ q.length → (∀ j, j < n → p[j]? = q[j]?) → (n = p.length ∨ n = q.length ∨ ¬ p[n]? = q[n]?) → comN p q = n
  | [], q, n, h1, _, _, _ => by simp at h1; subst h1; cases q <;> rfl
  | a :: p, [], n, _, h2, _, _ => by simp at h2; subst h2; rfl
  | a :: p, b :: q, n, h1, h2, h3, h4 => by
    unfold comN
    cases n with
    | zero =>
      rcases h4 with h | h | h
      · simp at h
      · simp at h
      · rw [if_neg]; intro e; subst e; exact h rfl
    | succ n =>
      have : a = b := by simpa using h3 0 (by omega)
      rw [if_pos this, com_eq p q n (by simpa using h1) (by simpa using h2) (fun j hj => by simpa using h3 (j + 1) (by omega)) (by simpa using h4)]

theorem com_le : ∀ (p q : List (List UInt8)), comN p q ≤ p.length ∧ comN p q ≤ q.length
  | [], q => by cases q <;> simp [comN]
  | a :: p, [] => by simp [comN]
  | a :: p, b :: q => by
    have := com_le p q
    unfold comN
    split <;> simp; exact this

theorem com_take : ∀ (p q : List (List UInt8)), p.take (comN p q) = q.take (comN p q)
  | [], q => by cases q <;> simp [comN]
  | a :: p, [] => by simp [comN]
  | a :: p, b :: q => by
    unfold comN
    split
    · next h => subst h; simp [com_take p q]
    · simp

theorem com_self : ∀ p : List (List UInt8), comN p p = p.length
  | [] => rfl
  | a :: p => by unfold comN; rw [if_pos rfl, com_self p]; rfl

theorem com_comm : ∀ (p q : List (List UInt8)), comN p q = comN q p
  | [], [] => rfl
  | [], _ :: _ => rfl
  | _ :: _, [] => rfl
  | a :: p, b :: q => by
    unfold comN
    by_cases h : a = b
    · subst h; rw [if_pos rfl, if_pos rfl, com_comm p q]
    · rw [if_neg h, if_neg (fun e => h e.symm)]

/-- How far two go together tells where one is the other's begin. -/
theorem com_prefix : ∀ (p q : List (List UInt8)), comN p q = q.length ↔ p.take q.length = q
  | [], [] => by simp [comN]
  | [], b :: q => by simp [comN]
  | a :: p, [] => by simp [comN]
  | a :: p, b :: q => by
    have ih := com_prefix p q
    unfold comN
    by_cases h : a = b
    · subst h; simp [ih]
    · rw [if_neg h]; simp [h]

theorem com_take_le : ∀ (p q : List (List UInt8)) (i : Nat), i ≤ q.length → (comN p (q.take i) = i ↔ i ≤ comN p q)
  | [], q, i, h => by
    rw [show comN [] (q.take i) = 0 by cases q.take i <;> rfl, show comN [] q = 0 by cases q <;> rfl]; omega
  | a :: p, [], i, h => by simp at h; subst h; simp [comN]
  | a :: p, b :: q, 0, h => by simp [comN]
  | a :: p, b :: q, i + 1, h => by
    have ih := com_take_le p q i (by simpa using h)
    rw [List.take_succ_cons]
    unfold comN
    by_cases e : a = b
    · rw [if_pos e, if_pos e]; omega
    · rw [if_neg e, if_neg e]; omega

/-- What Under, Common, Zones, Match answer. -/
def underB (a z : List UInt8) : Bool := decide (errP a = 0 ∧ errP z = 0 ∧ comN (partsP a) (partsP z) = (partsP z).length)
def commonP (a b : List UInt8) : List UInt8 := if errP a = 0 ∧ errP b = 0 then textP ((partsP a).take (comN (partsP a) (partsP b))) else []
def zonesP (s : List UInt8) : List (List UInt8) := (List.range (partsP s).length).map fun i => textP ((partsP s).take i)
def depthP (s : List UInt8) : Int := if errP s = 0 then ((partsP s).length : Int) else -1
def parentP (s : List UInt8) : List UInt8 := if partsP s = [] then [] else textP ((partsP s).take ((partsP s).length - 1))
def lastP (s : List UInt8) : List UInt8 := (partsP s).getLast?.getD []
def joinE (s p : List UInt8) : Int := if errP s = 0 then if goodB p = true then if (partsP s).length = 4 then 4 else 0 else 5 else 2
def joinP (s p : List UInt8) : List UInt8 := if joinE s p = 0 then textP (partsP s ++ [p]) else []
/-- Do these parts of a pattern take those of a path? -/
def wm : List (List UInt8) → List (List UInt8) → Bool
  | q, [] => q == [] || q == [[42, 42]]
  | [], _ :: _ => false
  | a :: q, x :: l => if a = [42, 42] ∧ q = [] then true else if ¬ a = [42] ∧ ¬ a = x then false else wm q l
def matchB (p s : List UInt8) : Bool := if errP s = 0 then (match cutL p with
  | none => false
  | some q => wm q (partsP s)) else false

theorem wm_nil (q : List (List UInt8)) : wm q [] = (q == [] || q == [[42, 42]]) := by cases q <;> rfl

/-- The first part of a text, and what is behind it. -/
def headL : List UInt8 → List UInt8
  | [] => []
  | c :: r => if c = 47 then r.takeWhile (fun d => !(d == 47)) else []
def restL : List UInt8 → List UInt8
  | [] => []
  | c :: r => if c = 47 then r.dropWhile (fun d => !(d == 47)) else []

theorem take_stop : ∀ (n q : List UInt8), (∀ c ∈ n, ¬ c = 47) → (∀ d r, q = d :: r → d = 47) → (n ++ q).takeWhile (fun d => !(d == 47)) = n ∧ (n ++ q).dropWhile (fun d => !(d == 47)) = q
  | [], q, _, h => by
    cases q with
    | nil => exact ⟨rfl, rfl⟩
    | cons d r => have := h d r rfl; subst this; exact ⟨by simp, by simp⟩
  | c :: n, q, hn, h => by
    have := take_stop n q (fun x hx => hn x (by simp [hx])) h
    have hc : (!(c == 47)) = true := by simp [hn c (by simp)]
    have e1 := List.takeWhile_cons_of_pos (p := fun d : UInt8 => !(d == 47)) (l := n ++ q) hc
    have e2 := List.dropWhile_cons_of_pos (p := fun d : UInt8 => !(d == 47)) (l := n ++ q) hc
    rw [this.1] at e1; rw [this.2] at e2
    exact ⟨e1, e2⟩

theorem join_head (q : List (List UInt8)) : ∀ d r, joinT q = d :: r → d = 47 := by
  intro d r h
  cases q with
  | nil => cases h
  | cons a q => rw [joinT_cons] at h; cases h; rfl

theorem head_join {a : List UInt8} {q : List (List UInt8)} (h : ∀ c ∈ a, ¬ c = 47) : headL (joinT (a :: q)) = a ∧ restL (joinT (a :: q)) = joinT q := by
  rw [joinT_cons]
  exact take_stop a (joinT q) h (join_head q)

end Go.Proofs.Ytpdobbdbmgeoiaa

namespace Go.Proofs.Ytpdobbdbmgeoiaa
open Go.RowKit

theorem below_drewN {B : Nat} {a w : World} (h : Below B a w) (n : Nat) : Below B a (w.drewN n) := ⟨h.os, h.tape, h.output, h.size, h.block⟩

theorem list_extract (s : ByteArray) (a b : Nat) : (s.extract a b).data.toList = (s.data.toList.drop a).take (b - a) := by
  rw [ByteArray.data_extract, Array.toList_extract]

theorem head_at {s : ByteArray} {n : Nat} (h1 : 1 ≤ n) (hn : n ≤ s.size) (h0 : s[0]'(by omega) = 47) (hall : ∀ j (hj : j < s.size), 1 ≤ j → j < n → ¬ s[j] = 47) (stop : ∀ h : n < s.size, s[n] = 47) :
    (.string (s.extract 1 n) : Value) = tv (headL s.data.toList) ∧ (.string (s.extract n s.size) : Value) = tv (restL s.data.toList) := by
  have hl : s.data.toList.length = s.size := by simp
  have e : s.data.toList = 47 :: ((s.data.toList.drop 1).take (n - 1) ++ s.data.toList.drop n) := by
    have e1 : s.data.toList.drop n = (s.data.toList.drop 1).drop (n - 1) := by rw [List.drop_drop, show 1 + (n - 1) = n by omega]
    rw [e1, List.take_append_drop]
    have := List.drop_eq_getElem_cons (l := s.data.toList) (i := 0) (by omega)
    rw [List.drop_zero] at this
    rw [this]
    congr 1
  have t := take_stop ((s.data.toList.drop 1).take (n - 1)) (s.data.toList.drop n) (by
    intro c hc
    obtain ⟨j, hj, rfl⟩ := List.mem_iff_getElem.1 hc
    simp at hj
    have := hall (1 + j) (by omega) (by omega) (by omega)
    rw [List.getElem_take, List.getElem_drop]
    exact this) (by
    intro d r hd
    by_cases h : n < s.size
    · have := List.drop_eq_getElem_cons (l := s.data.toList) (i := n) (by omega)
      rw [hd] at this
      have hh := (List.cons.inj this).1
      rw [hh]
      exact stop h
    · rw [List.drop_of_length_le (by omega)] at hd; cases hd)
  constructor
  · unfold tv
    congr 1
    apply text_eq
    rw [list_extract]
    show _ = headL s.data.toList
    rw [e]
    show _ = ((s.data.toList.drop 1).take (n - 1) ++ s.data.toList.drop n).takeWhile _
    rw [t.1, ← e]
  · unfold tv
    congr 1
    apply text_eq
    rw [list_extract]
    show _ = restL s.data.toList
    rw [e]
    show _ = ((s.data.toList.drop 1).take (n - 1) ++ s.data.toList.drop n).dropWhile _
    rw [t.2, ← e]
    exact List.take_of_length_le (by simp)

theorem prefix_one (s : ByteArray) : Lib.hasPrefix s.data.toList (⟨#[47]⟩ : ByteArray).data.toList = decide (∃ h : 0 < s.size, s[0] = 47) := by
  have hl : s.data.toList.length = s.size := by simp
  cases e : s.data.toList with
  | nil =>
    rw [e] at hl
    rw [decide_eq_false]
    · rfl
    · rintro ⟨h, _⟩; simp at hl; omega
  | cons c r =>
    have h0 : 0 < s.size := by rw [e] at hl; simp at hl; omega
    have h00 : s.data.toList[0]? = some s[0] := List.getElem?_eq_getElem (by omega)
    rw [e] at h00
    have hc : c = s[0] := by simpa using h00
    by_cases h : c = 47
    · rw [decide_eq_true ⟨h0, hc ▸ h⟩]; subst h; rfl
    · rw [decide_eq_false (fun ⟨_, h'⟩ => h (hc.trans h'))]
      have hb : (c == 47) = false := beq_eq_false_iff_ne.2 h
      have hb' : ((47 : UInt8) == c) = false := beq_eq_false_iff_ne.2 (fun e => h e.symm)
      show [47].isPrefixOf (c :: r) = false
      rw [List.isPrefixOf, hb']; rfl

theorem head_not {s : ByteArray} (h : ¬ ∃ h : 0 < s.size, s[0] = 47) : headL s.data.toList = [] ∧ restL s.data.toList = [] := by
  have hl : s.data.toList.length = s.size := by simp
  cases e : s.data.toList with
  | nil => exact ⟨rfl, rfl⟩
  | cons c r =>
    have h0 : 0 < s.size := by rw [e] at hl; simp at hl; omega
    have h00 : s.data.toList[0]? = some s[0] := List.getElem?_eq_getElem (by omega)
    rw [e] at h00
    have hc : c = s[0] := by simpa using h00
    have : ¬ c = 47 := fun h' => h ⟨h0, hc ▸ h'⟩
    exact ⟨if_neg this, if_neg this⟩

set_option maxHeartbeats 2000000 in
theorem first_any (s : ByteArray) (hm : s.size ≤ 281474976710656) (w : World) : Calls Try.prog 68 #[.string s] w fun e w' => e = .returned (.tuple #[tv (headL s.data.toList), tv (restL s.data.toList)]) ∧ Below w.heap.size w w' := by
  have P := Try.strings_HasPrefix s ⟨#[47]⟩
  by_cases h : ∃ h : 0 < s.size, s[0] = 47
  · rw [prefix_one, decide_eq_true h] at P
    obtain ⟨hs, h0⟩ := h
    have C := Lib.hid P
    have H0 := Lib.hid h0
    clear P h0
    go_enter Try.func68, Try.ntmps68
    go_wp2_with fail
    refine (C.out _).mono ?_
    rintro e w1 ⟨rfl, rfl⟩
    go_wp2_with fail
    go_loop [4] (fun i => ∃ k : Nat, 1 ≤ k ∧ k ≤ s.size ∧ i = .int .i64 k ∧ Hid (∀ j (hj : j < s.size), 1 ≤ j → j < k → ¬ s[j] = 47)) (fun i => s.size - (intOf i).toNat)
    case atStart => exact ⟨1, Nat.le_refl _, by omega, rfl, Lib.hid (fun j _ h h' => by omega)⟩
    case round =>
      obtain ⟨k, hk1, hk, rfl, hok⟩ := hrel
      by_cases hlt : k < s.size
      · by_cases hc : s[k] = 47
        · have T := Lib.hid (head_at hk1 hk H0.out (fun j hj a b => hok.out j hj a b) (fun _ => hc))
          have q : ((s[k].toNat : Int) != 47) = false := by rw [hc]; decide
          have a1 : (1 : Int) ≤ (k : Int) := by omega
          have a2 : (k : Int) ≤ (s.size : Int) := by omega
          have a3 : (0 : Int) ≤ (k : Int) := by omega
          have a4 : ((k : Int)).toNat = k := by omega
          clear hc
          go_wp2_with (go_quiet (fail))
          go_ret2
          rw [T.out.1, T.out.2]
          exact ⟨rfl, below_drewN (Below.refl _ _) _⟩
        · have q : ((s[k].toNat : Int) != 47) = true := by
            rw [bne_iff_ne]; intro e; apply hc
            apply UInt8.toNat_inj.1
            have : s[k].toNat = 47 := by omega
            rw [this]; rfl
          have hok1 := Lib.hid (show ∀ j (hj : j < s.size), 1 ≤ j → j < k + 1 → ¬ s[j] = 47 from fun j hj h2 hjk => by
            by_cases e : j = k
            · subst e; exact hc
            · exact hok.out j hj h2 (by omega))
          clear hc
          go_wp2_with fail
          go_round
          case rel => exact ⟨k + 1, by omega, by omega, by go_num, hok1⟩
          case measure => simp [intOf]; omega
      · obtain rfl : k = s.size := by omega
        have T := Lib.hid (head_at hk1 hk H0.out (fun j hj a b => hok.out j hj a b) (fun h => absurd h hlt))
        have E := Lib.hid (show (.string ByteArray.empty : Value) = .string (s.extract s.size s.size) by congr 1; apply text_eq; rw [list_extract]; simp)
        have a1 : (1 : Int) ≤ (s.size : Int) := by omega
        have a3 : (0 : Int) ≤ (s.size : Int) := by omega
        have a4 : ((s.size : Int)).toNat = s.size := by omega
        go_wp2_with (go_quiet (fail))
        go_ret2
        rw [T.out.1, show (.string ByteArray.empty : Value) = tv (restL s.data.toList) from T.out.2 ▸ E.out]
        exact ⟨rfl, below_drewN (Below.refl _ _) _⟩
  · rw [prefix_one, decide_eq_false h] at P
    have T := Lib.hid (head_not h)
    have C := Lib.hid P
    clear P h
    go_enter Try.func68, Try.ntmps68
    go_wp2_with fail
    refine (C.out _).mono ?_
    rintro e w1 ⟨rfl, rfl⟩
    go_wp2_with fail
    go_ret2
    rw [T.out.1, T.out.2]
    exact ⟨rfl, Below.refl _ _⟩

end Go.Proofs.Ytpdobbdbmgeoiaa

namespace Go.Proofs.Ytpdobbdbmgeoiaa
open Go.RowKit

/-- Where the first i parts end; 0: there are fewer. -/
def endN (q : List (List UInt8)) (i : Nat) : Nat := if i ≤ q.length then (joinT (q.take i)).length else 0
/-- A path and where it is cut, as a value. -/
abbrev cellsC (s : ByteArray) (d e0 e1 e2 e3 e4 : Nat) : Array Value := #[.string s, .int .i64 d, .int .i64 e0, .int .i64 e1, .int .i64 e2, .int .i64 e3, .int .i64 e4]
def cutsV (s : ByteArray) (q : List (List UInt8)) : Value := .agg (cellsC s q.length (endN q 0) (endN q 1) (endN q 2) (endN q 3) (endN q 4))
def noCuts : Value := .agg (cellsC ⟨#[]⟩ 0 0 0 0 0 0)
def cutV (s : ByteArray) : Value := if errP s.data.toList = 0 then cutsV s (partsP s.data.toList) else noCuts

/-- The seven cells of a block of cuts. -/
def C7 (w : World) (b : Nat) (s : ByteArray) (d e0 e1 e2 e3 e4 : Nat) : Prop := w.heap[b]? = some (.cells (cellsC s d e0 e1 e2 e3 e4) 97 (0, 0))

theorem C7.kept {w w' : World} {b : Nat} {s : ByteArray} {d e0 e1 e2 e3 e4 : Nat} (h : C7 w b s d e0 e1 e2 e3 e4) (hb : Below w.heap.size w w') : C7 w' b s d e0 e1 e2 e3 e4 := (hb.block _ (lt_of_block h)).trans h

theorem C7.cells {w : World} {b : Nat} {s : ByteArray} {d e0 e1 e2 e3 e4 : Nat} (h : C7 w b s d e0 e1 e2 e3 e4) :
    w.cell? ⟨b, 0, none⟩ = some (.string s) ∧ w.cell? ⟨b, 1, none⟩ = some (.int .i64 d) ∧ w.cell? ⟨b, 2, none⟩ = some (.int .i64 e0) ∧ w.cell? ⟨b, 3, none⟩ = some (.int .i64 e1) ∧ w.cell? ⟨b, 4, none⟩ = some (.int .i64 e2) ∧ w.cell? ⟨b, 5, none⟩ = some (.int .i64 e3) ∧ w.cell? ⟨b, 6, none⟩ = some (.int .i64 e4) := by
  refine ⟨?_, ?_, ?_, ?_, ?_, ?_, ?_⟩ <;> · rw [cell_of_row w b _ _ _ (0, 0) h]; rfl

theorem C7.free {w : World} {b : Nat} {s : ByteArray} {d e0 e1 e2 e3 e4 : Nat} (h : C7 w b s d e0 e1 e2 e3 e4) (j : Nat) : w.frozen? ⟨b, j, none⟩ = false := frozen_of_row w b _ _ _ h

/-- How far the parts are known, k of them being told. -/
def endK (L : List (List UInt8)) (k i : Nat) : Nat := if i ≤ k then (joinT (L.take i)).length else 0

theorem endK_end (L : List (List UInt8)) (i : Nat) : endK L L.length i = endN L i := rfl
theorem endK_zero (L : List (List UInt8)) (i : Nat) : endK L 0 i = 0 := by
  unfold endK
  split
  · next h =>
    have h0 : i = 0 := by omega
    rw [h0]; rfl
  · rfl
theorem endK_at (L : List (List UInt8)) (k i : Nat) (h : i = k + 1) : endK L (k + 1) i = (joinT (L.take i)).length := if_pos (by omega)
theorem endK_next (L : List (List UInt8)) (k i : Nat) (h : ¬ i = k + 1) : endK L (k + 1) i = endK L k i := by
  unfold endK
  by_cases h1 : i ≤ k
  · rw [if_pos h1, if_pos (by omega)]
  · rw [if_neg h1, if_neg (by omega)]

/-- What cut's walk keeps. -/
structure CM (w wr : World) (s : ByteArray) (L : List (List UInt8)) (k : Nat) : Prop where
  res : C7 wr w.heap.size ⟨#[]⟩ 0 0 0 0 0 0
  cut : C7 wr (w.heap.size + 1) s k (endK L k 0) (endK L k 1) (endK L k 2) (endK L k 3) (endK L k 4)
  bel : Below w.heap.size w wr

theorem CM.kept {w wr w' : World} {s : ByteArray} {L : List (List UInt8)} {k : Nat} (h : CM w wr s L k) (hb : Below wr.heap.size wr w') : CM w w' s L k :=
  ⟨h.res.kept hb, h.cut.kept hb, h.bel.trans (hb.mono h.bel.size)⟩

theorem CM.start (w : World) (s : ByteArray) (L : List (List UInt8)) : CM w ((w.alloc (.cells (cellsC ⟨#[]⟩ 0 0 0 0 0 0) 97)).alloc (.cells (cellsC s 0 0 0 0 0 0) 97)) s L 0 := by
  refine ⟨?_, ?_, ((Below.refl _ _).alloc (Nat.le_refl _) _).alloc (by simp) _⟩
  · exact (Below.heap_alloc _ _ _ (by simp)).trans (heap_alloc_new w _)
  · unfold C7
    rw [endK_zero, endK_zero, endK_zero, endK_zero, endK_zero]
    have := heap_alloc_new (w.alloc (.cells (cellsC ⟨#[]⟩ 0 0 0 0 0 0) 97)) (.cells (cellsC s 0 0 0 0 0 0) 97)
    rw [World.size_alloc] at this
    exact this

/-- A part more is counted. -/
theorem C7.count {w : World} {b : Nat} {s : ByteArray} {d e0 e1 e2 e3 e4 : Nat} (h : C7 w b s d e0 e1 e2 e3 e4) (d' : Nat) : C7 (w.setCell ⟨b, 1, none⟩ (.int .i64 d')) b s d' e0 e1 e2 e3 e4 := by
  have := heap_setCell_same w b 1 _ _ (.int .i64 d') h
  unfold C7
  simpa using this

theorem C7.other {w : World} {b c j : Nat} {s : ByteArray} {d e0 e1 e2 e3 e4 : Nat} (h : C7 w b s d e0 e1 e2 e3 e4) (hne : ¬ b = c) (u : Value) : C7 (w.setCell ⟨c, j, none⟩ u) b s d e0 e1 e2 e3 e4 :=
  (Below.heap_setCell w ⟨c, j, none⟩ u b hne).trans h

theorem CM.count {w wr : World} {s : ByteArray} {L : List (List UInt8)} {k : Nat} (h : CM w wr s L k) (hk : 4 ≤ k) : CM w (wr.setCell ⟨w.heap.size + 1, 1, none⟩ (.int .i64 ((k + 1 : Nat) : Int))) s L (k + 1) := by
  refine ⟨h.res.other (by omega) _, ?_, h.bel.setCell (p := ⟨w.heap.size + 1, 1, none⟩) (by show w.heap.size ≤ w.heap.size + 1; omega) _⟩
  rw [endK_next _ _ 0 (by omega), endK_next _ _ 1 (by omega), endK_next _ _ 2 (by omega), endK_next _ _ 3 (by omega), endK_next _ _ 4 (by omega)]
  exact h.cut.count _

theorem CM.more {w wr : World} {s : ByteArray} {L : List (List UInt8)} {k : Nat} (h : CM w wr s L k) (hk : k < 4) :
    CM w ((wr.setCell ⟨w.heap.size + 1, 1, none⟩ (.int .i64 ((k + 1 : Nat) : Int))).setCell ⟨w.heap.size + 1, 2 + (k + 1), none⟩ (.int .i64 (((joinT (L.take (k + 1))).length : Nat) : Int))) s L (k + 1) := by
  refine ⟨(h.res.other (by omega) _).other (by omega) _, ?_, (h.bel.setCell (p := ⟨w.heap.size + 1, 1, none⟩) (by show w.heap.size ≤ w.heap.size + 1; omega) _).setCell (p := ⟨w.heap.size + 1, 2 + (k + 1), none⟩) (by show w.heap.size ≤ w.heap.size + 1; omega) _⟩
  have h1 := h.cut.count (k + 1)
  have h2 := heap_setCell_same _ (w.heap.size + 1) (2 + (k + 1)) _ _ (.int .i64 (((joinT (L.take (k + 1))).length : Nat) : Int)) h1
  unfold C7
  obtain rfl | rfl | rfl | rfl : k = 0 ∨ k = 1 ∨ k = 2 ∨ k = 3 := by omega
  · rw [endK_next L 0 0 (by omega), endK_at L 0 1 rfl, endK_next L 0 2 (by omega), endK_next L 0 3 (by omega), endK_next L 0 4 (by omega)]
    simpa [cellsC] using h2
  · rw [endK_next L 1 0 (by omega), endK_next L 1 1 (by omega), endK_at L 1 2 rfl, endK_next L 1 3 (by omega), endK_next L 1 4 (by omega)]
    simpa [cellsC] using h2
  · rw [endK_next L 2 0 (by omega), endK_next L 2 1 (by omega), endK_next L 2 2 (by omega), endK_at L 2 3 rfl, endK_next L 2 4 (by omega)]
    simpa [cellsC] using h2
  · rw [endK_next L 3 0 (by omega), endK_next L 3 1 (by omega), endK_next L 3 2 (by omega), endK_next L 3 3 (by omega), endK_at L 3 4 rfl]
    simpa [cellsC] using h2

/-- The cells of a block, stored one behind the other. -/
theorem C7.set {w : World} {b : Nat} {s : ByteArray} {d e0 e1 e2 e3 e4 : Nat} (h : C7 w b s d e0 e1 e2 e3 e4) (s' : ByteArray) (d' f0 f1 f2 f3 f4 : Nat) :
    C7 (((((((w.setCell ⟨b, 0, none⟩ (.string s')).setCell ⟨b, 1, none⟩ (.int .i64 d')).setCell ⟨b, 2, none⟩ (.int .i64 f0)).setCell ⟨b, 3, none⟩ (.int .i64 f1)).setCell ⟨b, 4, none⟩ (.int .i64 f2)).setCell ⟨b, 5, none⟩ (.int .i64 f3)).setCell ⟨b, 6, none⟩ (.int .i64 f4)) b s' d' f0 f1 f2 f3 f4 := by
  have := heap_setCell_same _ b 6 _ _ (.int .i64 f4) (heap_setCell_same _ b 5 _ _ (.int .i64 f3) (heap_setCell_same _ b 4 _ _ (.int .i64 f2) (heap_setCell_same _ b 3 _ _ (.int .i64 f1) (heap_setCell_same _ b 2 _ _ (.int .i64 f0) (heap_setCell_same _ b 1 _ _ (.int .i64 d') (heap_setCell_same w b 0 _ _ (.string s') h))))))
  unfold C7
  simpa using this

theorem seven_below {B : Nat} {a w : World} {b : Nat} (h : Below B a w) (hb : B ≤ b) (v0 v1 v2 v3 v4 v5 v6 : Value) :
    Below B a (((((((w.setCell ⟨b, 0, none⟩ v0).setCell ⟨b, 1, none⟩ v1).setCell ⟨b, 2, none⟩ v2).setCell ⟨b, 3, none⟩ v3).setCell ⟨b, 4, none⟩ v4).setCell ⟨b, 5, none⟩ v5).setCell ⟨b, 6, none⟩ v6) :=
  ((((((h.setCell (p := ⟨b, 0, none⟩) hb v0).setCell (p := ⟨b, 1, none⟩) hb v1).setCell (p := ⟨b, 2, none⟩) hb v2).setCell (p := ⟨b, 3, none⟩) hb v3).setCell (p := ⟨b, 4, none⟩) hb v4).setCell (p := ⟨b, 5, none⟩) hb v5).setCell (p := ⟨b, 6, none⟩) hb v6

theorem results_row_tmp {P : Program} {fn : Func} {p u : Tmp} {ty : TypeId} (h : fn.results = #[.cell p ty, .tmp u]) (tmps : Array Value) (w : World) (g : Nat) (t : TypeId) (cs : Array Value) (fr : Nat × Nat) (d : TypeDesc)
    (hp : tmps.getD p undef = .pointer (some ⟨g, 0, none⟩)) (hg : w.heap[g]? = some (.cells cs t fr))
    (hu : P.underlying ty = some d) (hd : (match d with | .struct _ | .array _ _ => true | _ => false) = true) (hi : (P.info? ty).map (·.size) = some cs.size) :
    (results fn tmps).run P w = .ok (.tuple #[.agg cs, tmps.getD u undef]) w := by
  rw [results_cell_tmp h, hp]
  simp [asAddr, Result.andThen, run_loadVar_row w g t ty cs fr d hg hu hd hi]

theorem joinT_take_drop (L : List (List UInt8)) (k : Nat) : joinT L = joinT (L.take k) ++ joinT (L.drop k) := by
  rw [← joinT_app, List.take_append_drop]

theorem err_bad {q : List (List UInt8)} {a : List UInt8} (h : a ∈ q) (hb : goodB a = false) : errQ q = 2 := by
  unfold errQ
  rw [if_neg]
  intro e
  have := List.all_eq_true.1 e a h
  rw [hb] at this; cases this

theorem cutV_bad {s : ByteArray} (h : ¬ errP s.data.toList = 0) : cutV s = noCuts := if_neg h
theorem cutV_ok {s : ByteArray} (h : errP s.data.toList = 0) : cutV s = cutsV s (partsP s.data.toList) := if_pos h

theorem parts_many : ∀ L : List (List UInt8), L.length ≤ (joinT L).length
  | [] => Nat.le_refl _
  | a :: L => by
    have := parts_many L
    rw [joinT_cons]; simp; omega

set_option maxRecDepth 100000 in
set_option maxHeartbeats 4000000 in
theorem cut_good (s : ByteArray) (L : List (List UInt8)) (hL : s.data.toList = joinT L) (hf : Free L) (hne : ¬ L = []) (h1 : ¬ L = [[]]) (hm : s.size ≤ 281474976710656) (w : World) : Calls Try.prog 51 #[.string s] w fun e w' => e = .returned (.tuple #[cutV s, .int .i64 (errP s.data.toList)]) ∧ Below w.heap.size w w' := by
  have hl : s.data.toList.length = s.size := by simp
  have hcut : cutL s.data.toList = some L := by rw [hL]; exact cut_join hne h1 hf
  have E := Lib.hid (show errP s.data.toList = errQ L by unfold errP; rw [hcut])
  have PA := Lib.hid (show errQ L = 0 → partsP s.data.toList = L from fun h => by unfold partsP; rw [hcut]; exact if_pos h)
  have hs : 2 ≤ s.size := by
    rw [← hl, hL]
    match L, hne, h1 with
    | (c :: a) :: q, _, _ => rw [joinT_cons]; simp
    | [] :: b :: q, _, _ => rw [joinT_cons, joinT_cons]; simp
  have q0 : (s.toList == []) = false := by
    rw [beq_eq_false_iff_ne, Lib.toList_data]
    intro e
    rw [e] at hl; simp at hl; omega
  have q1 := not_one hs 47
  have HL := Lib.hid hL
  have HF := Lib.hid hf
  have ST := Lib.hid (CM.start w s L)
  clear hcut hL hf hne h1
  go_enter Try.func51, Try.ntmps51
  go_wp2_with fail
  go_loopw [5] (fun v wr => ∃ k : Nat, k ≤ L.length ∧ v = tv (joinT (L.drop k)) ∧ Hid ((L.take k).all goodB = true) ∧ Hid (CM w wr s L k)) (fun v _ => match v with | .string x => x.size | _ => 0)
  case atStart =>
    refine ⟨0, Nat.zero_le _, ?_, Lib.hid (by rfl), ST⟩
    rw [List.drop_zero, ← HL.out]
  case round =>
    obtain ⟨k, hk, rfl, hall, hcm⟩ := hrel
    by_cases hlt : k < L.length
    · obtain ⟨a, R, hdr⟩ : ∃ a R, L.drop k = a :: R := ⟨_, _, List.drop_eq_getElem_cons hlt⟩
      have hR : L.drop (k + 1) = R := by rw [← List.drop_drop, hdr]; rfl
      have ham : a ∈ L := List.mem_of_mem_drop (by rw [hdr]; simp)
      have hafree : ∀ c ∈ a, ¬ c = 47 := HF.out a ham
      have hhj := head_join (q := R) hafree
      have htk : L.take (k + 1) = L.take k ++ [a] := by
        have := List.drop_eq_getElem_cons hlt
        rw [hdr] at this
        rw [List.take_succ_eq_append_getElem hlt, (List.cons.inj this).1]
      have hlen : (joinT (L.drop k)).length ≤ s.size := by
        have := congrArg List.length (joinT_take_drop L k)
        rw [← HL.out, List.length_append] at this
        omega
      have hlenY : (joinT R).length + (joinT (L.take (k + 1))).length = s.size := by
        have := congrArg List.length (joinT_take_drop L (k + 1))
        rw [← HL.out, List.length_append, hR] at this
        omega
      have hsm : (joinT R).length < (joinT (L.drop k)).length := by rw [hdr, joinT_cons]; simp; omega
      have hal : a.length ≤ s.size := by
        have : a.length ≤ (joinT (L.drop k)).length := by rw [hdr, joinT_cons]; simp; omega
        omega
      have hjne : joinT (L.drop k) ≠ [] := by rw [hdr, joinT_cons]; simp
      obtain ⟨X, hX⟩ : ∃ X : ByteArray, ⟨(joinT (L.drop k)).toArray⟩ = X := ⟨_, rfl⟩
      obtain ⟨T, hT⟩ : ∃ X : ByteArray, ⟨a.toArray⟩ = X := ⟨_, rfl⟩
      obtain ⟨Y, hY⟩ : ∃ X : ByteArray, ⟨(joinT R).toArray⟩ = X := ⟨_, rfl⟩
      have hXl : X.data.toList = joinT (L.drop k) := by rw [← hX]
      have hTl : T.data.toList = a := by rw [← hT]
      have hYl : Y.data.toList = joinT R := by rw [← hY]
      have hXs : X.size = (joinT (L.drop k)).length := by rw [← hXl]; simp
      have hTs : T.size = a.length := by rw [← hTl]; simp
      have hYs : Y.size = (joinT R).length := by rw [← hYl]; simp
      have qx : (X.toList == []) = false := by rw [beq_eq_false_iff_ne, Lib.toList_data, hXl]; exact hjne
      have FC := Lib.hid (show ∀ w, Calls Try.prog 68 #[.string X] w fun e w' => e = .returned (.tuple #[.string T, .string Y]) ∧ Below w.heap.size w w' from fun w => by
        have h := first_any X (by omega) w
        rw [hXl, hdr, hhj.1, hhj.2] at h
        unfold tv at h
        rw [hT, hY] at h
        exact h)
      have NC := Lib.hid (show ∀ w, Calls Try.prog 69 #[.string T] w fun e w' => e = .returned (.bool (goodB a)) ∧ w = w' from fun w => by
        have h := wName_any T (by omega) w
        rw [hTl] at h
        exact h)
      have HY := Lib.hid (show tv (joinT (L.drop (k + 1))) = .string Y by rw [hR]; unfold tv; rw [hY])
      unfold tv
      rw [hX]
      have hYle : Y.size ≤ 281474976710656 := by omega
      have hYX : Y.size < X.size := by omega
      cases hg : goodB a with
      | false =>
        have E2 := Lib.hid (show errP s.data.toList = 2 by rw [E.out]; exact err_bad ham hg)
        rw [hg] at NC
        clear hg htk hlen hlenY hsm hal hjne hX hT hY hXl hTl hYl hXs hTs hYs hdr hR hhj hafree
        go_wp2_with fail
        refine (FC.out _).mono ?_
        rintro e w2 ⟨rfl, hb2⟩
        have H2 := Lib.hid (hcm.out.kept hb2)
        clear hb2 hcm
        go_wp2_with fail
        refine (NC.out _).mono ?_
        rintro e w3 ⟨rfl, rfl⟩
        obtain ⟨r0, r1, r2, r3, r4, r5, r6⟩ := H2.out.res.cells
        have f := H2.out.res.free
        have f0 := f 0
        have f1 := f 1
        have f2 := f 2
        have f3 := f 3
        have f4 := f 4
        have f5 := f 5
        have f6 := f 6
        clear f
        go_wp2_with fail
        refine bodyPost_ret (results_row_tmp rfl _ _ w.heap.size 97 (cellsC ⟨#[]⟩ 0 0 0 0 0 0) (0, 0) _ rfl (H2.out.res.set ⟨#[]⟩ 0 0 0 0 0 0) Try.underlying97 rfl (by kernel_rfl)) rfl ?_
        rw [cutV_bad (by rw [E2.out]; decide), E2.out]
        exact ⟨rfl, seven_below H2.out.bel (Nat.le_refl _) _ _ _ _ _ _ _⟩
      | true =>
        rw [hg] at NC
        have hall1 := Lib.hid (show (L.take (k + 1)).all goodB = true by rw [htk, List.all_append, hall.out]; simp [hg])
        have hln := parts_many L
        have hend : (s.size : Int) - (Y.size : Int) = (((joinT (L.take (k + 1))).length : Nat) : Int) := by omega
        have hsk : k < 281474976710656 := by
          have := congrArg List.length HL.out
          omega
        clear hg htk hlen hlenY hsm hal hjne hX hT hY hXl hTl hYl hXs hTs hYs hdr hR hhj hafree hall hln
        have j1 : IntKind.i64.wrap ((k : Int) + 1) = (k : Int) + 1 := IntWalk.i64_in _ (by omega)
        go_upto_region 11 with (first | (go_at_call 68; refine (FC.out _).mono ?_; rintro e w2 ⟨rfl, hb2⟩; have H2 := Lib.hid (hcm.out.kept hb2); clear hb2) | (go_at_call 69; refine (NC.out _).mono ?_; rintro e w3 ⟨rfl, rfl⟩))
        clear hcm FC NC
        obtain ⟨r0, r1, r2, r3, r4, r5, r6⟩ := H2.out.cut.cells
        have f1 := H2.out.cut.free 1
        clear r0 r2 r3 r4 r5 r6
        go_upto_region 12 with fail
        generalize hW : World.setCell w2 _ _ = w3
        have h3 : C7 w3 (w.heap.size + 1) s (k + 1) (endK L k 0) (endK L k 1) (endK L k 2) (endK L k 3) (endK L k 4) := by rw [← hW]; exact H2.out.cut.count (k + 1)
        have j2 : w3.cell? ⟨w.heap.size + 1, 1, none⟩ = some (.int .i64 ((k : Int) + 1)) := h3.cells.2.1
        clear f1 r1
        by_cases h4 : k < 4
        · have M := Lib.hid (H2.out.more h4)
          have M := Lib.hid (show CM w (w3.setCell ⟨w.heap.size + 1, 2 + (k + 1), none⟩ (.int .i64 (((joinT (L.take (k + 1))).length : Nat) : Int))) s L (k + 1) by rw [← hW]; exact M.out)
          have f3 := h3.free (2 + (k + 1))
          have c3 : ∃ u, w3.cell? ⟨w.heap.size + 1, 2 + (k + 1), none⟩ = some u := by
            rw [cell_of_row w3 _ _ _ _ (0, 0) h3]
            exact ⟨_, Array.getElem?_eq_getElem (by show 2 + (k + 1) < 7; omega)⟩
          obtain ⟨u, c3⟩ := c3
          have a1 : (0 : Int) ≤ (k : Int) + 1 := by omega
          have a2 : (k : Int) + 1 < 5 := by omega
          have a3 : ((k : Int) + 1).toNat = k + 1 := by omega
          have a4 : (k : Int) + 1 ≤ 4 := by omega
          clear hW h3 H2
          go_wp2_with fail
          exact ⟨⟨k + 1, by omega, HY.out.symm, hall1, M⟩, hYX⟩
        · have M := Lib.hid (H2.out.count (by omega))
          have M := Lib.hid (show CM w w3 s L (k + 1) by rw [← hW]; exact M.out)
          have a4 : (4 : Int) < (k : Int) + 1 := by omega
          clear hW h3 H2
          go_wp2_with fail
          exact ⟨⟨k + 1, by omega, HY.out.symm, hall1, M⟩, hYX⟩
    · obtain rfl : k = L.length := by omega
      have hg : L.all goodB = true := by have := hall.out; rwa [List.take_length] at this
      rw [List.drop_length, joinT_nil]
      obtain ⟨r0, r1, r2, r3, r4, r5, r6⟩ := hcm.out.res.cells
      obtain ⟨c0, c1, c2, c3, c4, c5, c6⟩ := hcm.out.cut.cells
      have f := hcm.out.res.free
      have f0 := f 0
      have f1 := f 1
      have f2 := f 2
      have f3 := f 3
      have f4 := f 4
      have f5 := f 5
      have f6 := f 6
      clear f
      unfold tv
      by_cases h4 : L.length ≤ 4
      · have E2 := Lib.hid (show errP s.data.toList = 0 by rw [E.out]; exact errQ_zero.2 ⟨hg, h4⟩)
        have E3 := Lib.hid (show cutV s = cutsV s L by rw [cutV_ok E2.out, PA.out (errQ_zero.2 ⟨hg, h4⟩)])
        have a4 : (L.length : Int) ≤ 4 := by omega
        clear hg
        go_wp2_with fail
        refine bodyPost_ret (results_row_tmp rfl _ _ w.heap.size 97 _ (0, 0) _ rfl (hcm.out.res.set s L.length (endN L 0) (endN L 1) (endN L 2) (endN L 3) (endN L 4)) Try.underlying97 rfl (by kernel_rfl)) rfl ?_
        rw [E3.out, E2.out]
        exact ⟨rfl, seven_below hcm.out.bel (Nat.le_refl _) _ _ _ _ _ _ _⟩
      · have E2 := Lib.hid (show errP s.data.toList = 4 by rw [E.out]; unfold errQ; rw [if_pos hg, if_neg h4])
        have a4 : (4 : Int) < (L.length : Int) := by omega
        clear hg
        go_wp2_with fail
        refine bodyPost_ret (results_row_tmp rfl _ _ w.heap.size 97 (cellsC ⟨#[]⟩ 0 0 0 0 0 0) (0, 0) _ rfl (hcm.out.res.set ⟨#[]⟩ 0 0 0 0 0 0) Try.underlying97 rfl (by kernel_rfl)) rfl ?_
        rw [cutV_bad (by rw [E2.out]; decide), E2.out]
        exact ⟨rfl, seven_below hcm.out.bel (Nat.le_refl _) _ _ _ _ _ _ _⟩

theorem C7.new (w : World) (s : ByteArray) (d e0 e1 e2 e3 e4 : Nat) : C7 (w.alloc (.cells (cellsC s d e0 e1 e2 e3 e4) 97)) w.heap.size s d e0 e1 e2 e3 e4 := heap_alloc_new w _

theorem errP_empty : errP [] = 2 := rfl
theorem errP_root : errP [47] = 0 := rfl

set_option maxRecDepth 100000 in
set_option maxHeartbeats 4000000 in
theorem cut_any (s : ByteArray) (hm : s.size ≤ 281474976710656) (w : World) : Calls Try.prog 51 #[.string s] w fun e w' => e = .returned (.tuple #[cutV s, .int .i64 (errP s.data.toList)]) ∧ Below w.heap.size w w' := by
  have hl : s.data.toList.length = s.size := by simp
  by_cases h0 : s.data.toList = []
  · have E2 := Lib.hid (show errP s.data.toList = 2 by rw [h0]; rfl)
    obtain rfl : s = ⟨#[]⟩ := text_eq h0
    clear h0 hl
    go_enter Try.func51, Try.ntmps51
    go_upto_region 1 with fail
    generalize hW : World.alloc w _ = w1
    have N := Lib.hid (show C7 w1 w.heap.size ⟨#[]⟩ 0 0 0 0 0 0 by rw [← hW]; exact C7.new w ⟨#[]⟩ 0 0 0 0 0 0)
    have bel := Lib.hid (show Below w.heap.size w w1 by rw [← hW]; exact (Below.refl w.heap.size w).alloc (Nat.le_refl _) _)
    obtain ⟨r0, r1, r2, r3, r4, r5, r6⟩ := N.out.cells
    have f := N.out.free
    have f0 := f 0
    have f1 := f 1
    have f2 := f 2
    have f3 := f 3
    have f4 := f 4
    have f5 := f 5
    have f6 := f 6
    clear f hW
    go_wp2_with fail
    refine bodyPost_ret (results_row_tmp rfl _ _ w.heap.size 97 (cellsC ⟨#[]⟩ 0 0 0 0 0 0) (0, 0) _ rfl (N.out.set ⟨#[]⟩ 0 0 0 0 0 0) Try.underlying97 rfl (by kernel_rfl)) rfl ?_
    rw [cutV_bad (by rw [E2.out]; decide), E2.out]
    exact ⟨rfl, seven_below bel.out (Nat.le_refl _) _ _ _ _ _ _ _⟩
  by_cases h1 : s.data.toList = [47]
  · have E2 := Lib.hid (show errP s.data.toList = 0 by rw [h1]; rfl)
    have E3 := Lib.hid (show cutV s = cutsV s [] by rw [cutV_ok E2.out, h1]; rfl)
    obtain rfl : s = ⟨#[47]⟩ := text_eq h1
    clear h0 h1 hl
    go_enter Try.func51, Try.ntmps51
    go_upto_region 1 with fail
    generalize hW : World.alloc w _ = w1
    have N := Lib.hid (show C7 w1 w.heap.size ⟨#[]⟩ 0 0 0 0 0 0 by rw [← hW]; exact C7.new w ⟨#[]⟩ 0 0 0 0 0 0)
    have bel := Lib.hid (show Below w.heap.size w w1 by rw [← hW]; exact (Below.refl w.heap.size w).alloc (Nat.le_refl _) _)
    obtain ⟨r0, r1, r2, r3, r4, r5, r6⟩ := N.out.cells
    have f := N.out.free
    have f0 := f 0
    have f1 := f 1
    have f2 := f 2
    have f3 := f 3
    have f4 := f 4
    have f5 := f 5
    have f6 := f 6
    clear f hW
    go_wp2_with fail
    refine bodyPost_ret (results_row_tmp rfl _ _ w.heap.size 97 (cellsC ⟨#[47]⟩ 0 0 0 0 0 0) (0, 0) _ rfl (N.out.set ⟨#[47]⟩ 0 0 0 0 0 0) Try.underlying97 rfl (by kernel_rfl)) rfl ?_
    rw [E3.out, E2.out]
    exact ⟨rfl, seven_below bel.out (Nat.le_refl _) _ _ _ _ _ _ _⟩
  cases e : s.data.toList with
  | nil => exact absurd e h0
  | cons c r =>
    by_cases hc : c = 47
    · subst hc
      have hr : ¬ r = [] := by rintro rfl; exact h1 e
      rw [← e]
      refine cut_good s (segs r) (by rw [e, joinT_segs]) (segs_free r) (segs_ne r) ?_ hm w
      intro h
      have := joinT_segs r
      rw [h, joinT_one] at this
      exact hr (List.cons.inj this).2.symm
    · have E2 := Lib.hid (show errP s.data.toList = 2 by rw [e]; unfold errP; rw [cutL_not hc])
      have hsz : 1 ≤ s.size := by rw [e] at hl; simp at hl; omega
      have q0 : (s.toList == []) = false := by rw [beq_eq_false_iff_ne, Lib.toList_data]; exact h0
      have q1 : (s.toList == [47]) = false := by rw [beq_eq_false_iff_ne, Lib.toList_data]; exact h1
      have hnot : ¬ ∃ h : 0 < s.size, s[0] = 47 := by
        rintro ⟨h, h'⟩
        have h00 : s.data.toList[0]? = some s[0] := List.getElem?_eq_getElem (by omega)
        rw [e] at h00
        have : c = s[0] := by simpa using h00
        exact hc (this.trans h')
      have FC := Lib.hid (show ∀ w, Calls Try.prog 68 #[.string s] w fun e w' => e = .returned (.tuple #[.string ⟨#[]⟩, .string ⟨#[]⟩]) ∧ Below w.heap.size w w' from fun w => by
        have h := first_any s hm w
        rw [(head_not hnot).1, (head_not hnot).2] at h
        exact h)
      have NC := Lib.hid (show ∀ w, Calls Try.prog 69 #[.string ⟨#[]⟩] w fun e w' => e = .returned (.bool false) ∧ w = w' from fun w => wName_any ⟨#[]⟩ (by decide) w)
      rw [← e]
      have N2 := Lib.hid (show C7 ((w.alloc (.cells (cellsC ⟨#[]⟩ 0 0 0 0 0 0) 97)).alloc (.cells (cellsC s 0 0 0 0 0 0) 97)) w.heap.size ⟨#[]⟩ 0 0 0 0 0 0 from (Below.heap_alloc _ _ _ (by simp)).trans (C7.new w ⟨#[]⟩ 0 0 0 0 0 0))
      have bel2 := Lib.hid (((Below.refl w.heap.size w).alloc (Nat.le_refl _) (.cells (cellsC ⟨#[]⟩ 0 0 0 0 0 0) 97)).alloc (by simp) (.cells (cellsC s 0 0 0 0 0 0) 97))
      clear hnot hc e h0 h1
      go_enter Try.func51, Try.ntmps51
      go_wp2_with fail
      go_loopw [5] (fun v wr => v = .string s ∧ Hid (C7 wr w.heap.size ⟨#[]⟩ 0 0 0 0 0 0) ∧ Hid (Below w.heap.size w wr)) (fun _ _ => 0)
      case atStart => exact ⟨rfl, N2, bel2⟩
      case round =>
        obtain ⟨rfl, hN, hb⟩ := hrel
        go_wp2_with fail
        refine (FC.out _).mono ?_
        rintro e w2 ⟨rfl, hb2⟩
        have N3 := Lib.hid (hN.out.kept hb2)
        have bel3 := Lib.hid (hb.out.trans (hb2.mono hb.out.size))
        clear hb2 hN hb
        go_wp2_with fail
        refine (NC.out _).mono ?_
        rintro e w3 ⟨rfl, rfl⟩
        obtain ⟨r0, r1, r2, r3, r4, r5, r6⟩ := N3.out.cells
        have f := N3.out.free
        have f0 := f 0
        have f1 := f 1
        have f2 := f 2
        have f3 := f 3
        have f4 := f 4
        have f5 := f 5
        have f6 := f 6
        clear f
        go_wp2_with fail
        refine bodyPost_ret (results_row_tmp rfl _ _ w.heap.size 97 (cellsC ⟨#[]⟩ 0 0 0 0 0 0) (0, 0) _ rfl (N3.out.set ⟨#[]⟩ 0 0 0 0 0 0) Try.underlying97 rfl (by kernel_rfl)) rfl ?_
        rw [cutV_bad (by rw [E2.out]; decide), E2.out]
        exact ⟨rfl, seven_below bel3.out (Nat.le_refl _) _ _ _ _ _ _ _⟩

end Go.Proofs.Ytpdobbdbmgeoiaa

namespace Go.Proofs.Ytpdobbdbmgeoiaa
open Go.RowKit

/-- s is cut into these parts. -/
structure IsC (s : ByteArray) (q : List (List UInt8)) : Prop where
  few : q.length ≤ 4
  txt : ¬ q = [] → s.data.toList = joinT q
  sz : s.size ≤ 281474976710656

theorem IsC.of {s : ByteArray} (h : errP s.data.toList = 0) (hm : s.size ≤ 281474976710656) : IsC s (partsP s.data.toList) := by
  have k := parts_ok h
  refine ⟨k.2.1, fun hn => ?_, hm⟩
  have := k.2.2.1
  rw [textP, if_neg hn] at this
  exact this.symm

theorem endN_at (q : List (List UInt8)) (i : Nat) (h : i ≤ q.length) : endN q i = (joinT (q.take i)).length := if_pos h

theorem join_at (q : List (List UInt8)) (i : Nat) (h : i < q.length) : joinT q = joinT (q.take i) ++ (47 :: (q[i] ++ joinT (q.drop (i + 1)))) := by
  have e := joinT_take_drop q i
  rw [List.drop_eq_getElem_cons h, joinT_cons] at e
  exact e

theorem end_next (q : List (List UInt8)) (i : Nat) (h : i < q.length) : endN q (i + 1) = endN q i + 1 + q[i].length := by
  rw [endN_at q (i + 1) h, endN_at q i (by omega), List.take_succ_eq_append_getElem h, joinT_app, joinT_one, List.length_append, List.length_cons]
  omega

theorem end_le {s : ByteArray} {q : List (List UInt8)} (h : IsC s q) (i : Nat) (h0 : 0 < i) (hi : i ≤ q.length) : endN q i ≤ s.size := by
  have hl : s.data.toList.length = s.size := by simp
  rw [endN_at q i hi, ← hl, h.txt (by intro e; rw [e] at hi; simp at hi; omega), joinT_take_drop q i, List.length_append]
  omega

theorem part_text {s : ByteArray} {q : List (List UInt8)} (h : IsC s q) (i : Nat) (hi : i < q.length) : (.string (s.extract (endN q i + 1) (endN q (i + 1))) : Value) = tv q[i] := by
  unfold tv
  congr 1
  apply text_eq
  rw [list_extract, h.txt (by intro e; rw [e] at hi; simp at hi), end_next q i hi, endN_at q i (by omega)]
  have e := join_at q i hi
  rw [e]
  have e1 : (joinT (q.take i) ++ (47 :: (q[i] ++ joinT (q.drop (i + 1))))).drop ((joinT (q.take i)).length + 1) = q[i] ++ joinT (q.drop (i + 1)) := by
    rw [List.drop_append]
    simp
  rw [e1, show (joinT (q.take i)).length + 1 + q[i].length - ((joinT (q.take i)).length + 1) = q[i].length by omega]
  simp

theorem front_text {s : ByteArray} {q : List (List UInt8)} (h : IsC s q) (n : Nat) (h0 : 0 < n) (hn : n ≤ q.length) : (.string (s.extract 0 (endN q n)) : Value) = tv (textP (q.take n)) := by
  unfold tv
  congr 1
  apply text_eq
  rw [list_extract, h.txt (by intro e; rw [e] at hn; simp at hn; omega), endN_at q n hn, joinT_take_drop q n]
  have hne : ¬ q.take n = [] := by
    intro e
    have := congrArg List.length e
    rw [List.length_take, List.length_nil] at this
    omega
  rw [textP, if_neg hne]
  simp

theorem C7.at {w : World} {b : Nat} {s : ByteArray} {q : List (List UInt8)} (h : C7 w b s q.length (endN q 0) (endN q 1) (endN q 2) (endN q 3) (endN q 4)) (i : Nat) (hi : i ≤ 4) : w.cell? ⟨b, 2 + i, none⟩ = some (.int .i64 (endN q i : Nat)) := by
  obtain ⟨_, _, c0, c1, c2, c3, c4⟩ := h.cells
  obtain rfl | rfl | rfl | rfl | rfl : i = 0 ∨ i = 1 ∨ i = 2 ∨ i = 3 ∨ i = 4 := by omega
  · exact c0
  · exact c1
  · exact c2
  · exact c3
  · exact c4

theorem C7.boxed (w : World) (s : ByteArray) (q : List (List UInt8)) : C7 (w.alloc (.cells (cutsV s q).cells 97)) w.heap.size s q.length (endN q 0) (endN q 1) (endN q 2) (endN q 3) (endN q 4) := heap_alloc_new w _

end Go.Proofs.Ytpdobbdbmgeoiaa

namespace Go.Proofs.Ytpdobbdbmgeoiaa
open Go.RowKit

theorem IsC.none {s : ByteArray} (hm : s.size ≤ 281474976710656) : IsC s [] := ⟨Nat.zero_le _, fun h => absurd rfl h, hm⟩

/-- What cut answers, whatever it is: a text that is cut into parts. -/
theorem cutV_is (s : ByteArray) (hm : s.size ≤ 281474976710656) : ∃ t, cutV s = cutsV t (partsP s.data.toList) ∧ IsC t (partsP s.data.toList) := by
  by_cases h : errP s.data.toList = 0
  · exact ⟨s, cutV_ok h, IsC.of h hm⟩
  · rw [cutV_bad h, parts_bad h]
    exact ⟨⟨#[]⟩, rfl, IsC.none (by decide)⟩

end Go.Proofs.Ytpdobbdbmgeoiaa

namespace Go.Proofs.Ytpdobbdbmgeoiaa
open Go.RowKit

set_option maxRecDepth 100000 in
set_option maxHeartbeats 2000000 in
theorem depth_any (s : ByteArray) (hm : s.size ≤ 281474976710656) (w : World) : Calls Try.prog 35 #[.string s] w fun e w' => e = .returned (.int .i64 (depthP s.data.toList)) ∧ Below w.heap.size w w' := by
  have CU := Lib.hid (fun w => cut_any s hm w)
  obtain ⟨t, ht, I⟩ := cutV_is s hm
  rw [ht] at CU
  clear ht I
  unfold depthP
  obtain ⟨q, hq⟩ : ∃ q, partsP s.data.toList = q := ⟨_, rfl⟩
  obtain ⟨x, hx⟩ : ∃ x, errP s.data.toList = x := ⟨_, rfl⟩
  rw [hq, hx] at CU ⊢
  clear hq hx
  unfold cutsV at CU
  by_cases h0 : x = 0
  · subst h0
    rw [if_pos rfl]
    go_enter Try.func35, Try.ntmps35
    go_wp2_with fail
    refine (CU.out _).mono ?_
    rintro e w1 ⟨rfl, hb1⟩
    have B1 := Lib.hid hb1
    clear hb1 CU
    go_upto_region 2 with fail
    generalize hW : World.alloc w1 _ = w2
    have C2 := Lib.hid (show C7 w2 w1.heap.size t q.length (endN q 0) (endN q 1) (endN q 2) (endN q 3) (endN q 4) by rw [← hW]; exact C7.boxed w1 t q)
    have B2 := Lib.hid (show Below w.heap.size w w2 by rw [← hW]; exact B1.out.alloc B1.out.size _)
    clear hW
    obtain ⟨c0, c1, c2, c3, c4, c5, c6⟩ := C2.out.cells
    go_wp2_with fail
    go_ret
    exact ⟨rfl, B2.out⟩
  · have e0 : (x == 0) = false := beq_eq_false_iff_ne.2 h0
    rw [if_neg h0]
    go_enter Try.func35, Try.ntmps35
    go_wp2_with fail
    refine (CU.out _).mono ?_
    rintro e w1 ⟨rfl, hb1⟩
    have B1 := Lib.hid hb1
    clear hb1 CU
    go_upto_region 2 with fail
    generalize hW : World.alloc w1 _ = w2
    have C2 := Lib.hid (show C7 w2 w1.heap.size t q.length (endN q 0) (endN q 1) (endN q 2) (endN q 3) (endN q 4) by rw [← hW]; exact C7.boxed w1 t q)
    have B2 := Lib.hid (show Below w.heap.size w w2 by rw [← hW]; exact B1.out.alloc B1.out.size _)
    clear hW
    obtain ⟨c0, c1, c2, c3, c4, c5, c6⟩ := C2.out.cells
    go_wp2_with fail
    go_ret
    exact ⟨rfl, B2.out⟩

end Go.Proofs.Ytpdobbdbmgeoiaa
