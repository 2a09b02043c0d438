/-
  No statement: paths and patterns as plain facts on lists of bytes.
-/
import Derived.Test.YtlgkffcomnclnaaSParts
namespace Go.Proofs.Ytlgkffcomnclnaa
open Go.RowKit

/-- The parts of a text that begins with a stroke. -/
def cutL : List UInt8 → Option (List (List UInt8))
  | [] => none
  | c :: r => if c = 47 then (if r = [] then some [] else some (segs r)) else none
/-- What is wrong with parts; 0: nothing. -/
def errQ (q : List (List UInt8)) : Int := if q.all goodB = true then if q.length ≤ 4 then 0 else 4 else 2
def errP (l : List UInt8) : Int := match cutL l with
  | none => 2
  | some q => errQ q
def partsP (l : List UInt8) : List (List UInt8) := match cutL l with
  | none => []
  | some q => if errQ q = 0 then q else []
def joinT (q : List (List UInt8)) : List UInt8 := q.flatMap (fun a => 47 :: a)
def textP (q : List (List UInt8)) : List UInt8 := if q = [] then [47] else joinT q

theorem joinT_nil : joinT [] = [] := rfl
theorem joinT_cons (a : List UInt8) (q : List (List UInt8)) : joinT (a :: q) = 47 :: (a ++ joinT q) := by simp [joinT]
theorem joinT_app (p q : List (List UInt8)) : joinT (p ++ q) = joinT p ++ joinT q := by simp [joinT]
theorem joinT_one (a : List UInt8) : joinT [a] = 47 :: a := by simp [joinT]
theorem joinT_empty {q : List (List UInt8)} (h : joinT q = []) : q = [] := by
  cases q with
  | nil => rfl
  | cons a q => rw [joinT_cons] at h; cases h

theorem joinT_segs : ∀ r : List UInt8, joinT (segs r) = 47 :: r
  | [] => by simp [segs, joinT]
  | c :: r => by
    have ih := joinT_segs r
    by_cases h : c = 47
    · subst h; rw [segs_stroke, joinT_cons, ih]; rfl
    · obtain ⟨a, b, e⟩ := segs_eq r
      rw [segs_sign h r e, joinT_cons]
      rw [e, joinT_cons] at ih
      simp at ih
      simp [ih]

/-- No stroke within. -/
def Free (q : List (List UInt8)) : Prop := ∀ a ∈ q, ∀ c ∈ a, ¬ c = 47

theorem segs_joinT : ∀ (q : List (List UInt8)) (a : List UInt8), Free (a :: q) → segs (a ++ joinT q) = a :: q
  | [], a, h => by rw [joinT_nil, List.append_nil]; exact segs_name (h a (by simp))
  | b :: q, a, h => by
    rw [joinT_cons, segs_more (h a (by simp)), segs_joinT q b (fun x hx => h x (by simp only [List.mem_cons] at hx ⊢; exact .inr hx))]

theorem segs_free : ∀ r : List UInt8, Free (segs r)
  | [] => by intro a ha; simp [segs] at ha; subst ha; simp
  | c :: r => by
    have ih := segs_free r
    by_cases h : c = 47
    · subst h
      rw [segs_stroke]
      intro a ha
      rcases List.mem_cons.1 ha with rfl | ha
      · simp
      · exact ih a ha
    · obtain ⟨a, b, e⟩ := segs_eq r
      rw [segs_sign h r e]
      rw [e] at ih
      intro x hx
      rcases List.mem_cons.1 hx with rfl | hx
      · intro d hd
        rcases List.mem_cons.1 hd with rfl | hd
        · exact h
        · exact ih a (by simp) d hd
      · exact ih x (by simp [hx])

theorem good_free {n : List UInt8} (h : goodB n = true) : ∀ c ∈ n, ¬ c = 47 := by
  cases n with
  | nil => simp
  | cons c r =>
    rw [good_cons, Bool.and_eq_true, Bool.and_eq_true] at h
    intro x hx
    rcases List.mem_cons.1 hx with rfl | hx
    · exact small_ne h.1.1
    · exact alnum_ne (List.all_eq_true.1 h.2 x hx)

theorem good_ne {n : List UInt8} (h : goodB n = true) : n ≠ [] := by rintro rfl; cases h
theorem good_len {n : List UInt8} (h : goodB n = true) : 1 ≤ n.length ∧ n.length ≤ 8 := by
  cases n with
  | nil => cases h
  | cons c r =>
    rw [good_cons, Bool.and_eq_true, Bool.and_eq_true] at h
    have := of_decide_eq_true h.1.2
    simp; omega

theorem all_free {q : List (List UInt8)} (h : q.all goodB = true) : Free q := fun a ha => good_free (List.all_eq_true.1 h a ha)

theorem errQ_zero {q : List (List UInt8)} : errQ q = 0 ↔ q.all goodB = true ∧ q.length ≤ 4 := by
  unfold errQ
  by_cases h : q.all goodB = true
  · rw [if_pos h]
    by_cases h4 : q.length ≤ 4
    · rw [if_pos h4]; exact ⟨fun _ => ⟨h, h4⟩, fun _ => rfl⟩
    · rw [if_neg h4]; exact ⟨fun e => absurd e (by decide), fun e => absurd e.2 h4⟩
  · rw [if_neg h]; exact ⟨fun e => absurd e (by decide), fun e => absurd e.1 h⟩

theorem errQ_cases (q : List (List UInt8)) : errQ q = 0 ∨ errQ q = 2 ∨ errQ q = 4 := by
  unfold errQ; split
  · split
    · exact .inl rfl
    · exact .inr (.inr rfl)
  · exact .inr (.inl rfl)

theorem errP_cases (l : List UInt8) : errP l = 0 ∨ errP l = 2 ∨ errP l = 4 := by
  unfold errP; split
  · exact .inr (.inl rfl)
  · exact errQ_cases _

theorem parts_bad {l : List UInt8} (h : ¬ errP l = 0) : partsP l = [] := by
  unfold errP at h; unfold partsP
  split
  · rfl
  · next q e => rw [e] at h; exact if_neg h

theorem cutL_stroke (r : List UInt8) : cutL (47 :: r) = if r = [] then some [] else some (segs r) := rfl
theorem cutL_not {c : UInt8} (h : ¬ c = 47) (r : List UInt8) : cutL (c :: r) = none := if_neg h

theorem cut_join {q : List (List UInt8)} (hne : ¬ q = []) (h1 : ¬ q = [[]]) (hf : Free q) : cutL (joinT q) = some q := by
  cases q with
  | nil => exact absurd rfl hne
  | cons a q =>
    rw [joinT_cons, cutL_stroke, if_neg, segs_joinT q a hf]
    intro e
    have h2 := List.append_eq_nil_iff.1 e
    have h3 := joinT_empty h2.2
    rw [h2.1, h3] at h1
    exact h1 rfl

theorem cut_some {l : List UInt8} {q : List (List UInt8)} (h : cutL l = some q) : l = textP q ∧ Free q ∧ ¬ q = [[]] := by
  cases l with
  | nil => cases h
  | cons c r =>
    by_cases hc : c = 47
    · subst hc
      rw [cutL_stroke] at h
      by_cases hr : r = []
      · subst hr; rw [if_pos rfl] at h; cases h; exact ⟨rfl, fun _ h => by simp at h, by simp⟩
      · rw [if_neg hr] at h; cases h
        refine ⟨?_, segs_free r, ?_⟩
        · rw [textP, if_neg (segs_ne r), joinT_segs]
        · intro e
          have := joinT_segs r
          rw [e, joinT_one] at this
          simp at this
          exact hr this
    · rw [cutL_not hc] at h; cases h

theorem cut_text {q : List (List UInt8)} (hf : Free q) (h1 : ¬ q = [[]]) : cutL (textP q) = some q := by
  unfold textP
  by_cases h : q = []
  · subst h; rfl
  · rw [if_neg h]; exact cut_join h h1 hf

theorem good_not1 {q : List (List UInt8)} (h : q.all goodB = true) : ¬ q = [[]] := by
  rintro rfl; revert h; decide

theorem parts_ok {l : List UInt8} (h : errP l = 0) : (partsP l).all goodB = true ∧ (partsP l).length ≤ 4 ∧ textP (partsP l) = l ∧ cutL l = some (partsP l) := by
  unfold errP at h
  split at h
  · exact absurd h (by decide)
  · next q e =>
    have hq : partsP l = q := by unfold partsP; rw [e]; exact if_pos h
    rw [hq]
    have := errQ_zero.1 h
    exact ⟨this.1, this.2, (cut_some e).1.symm, e⟩

theorem text_parts {q : List (List UInt8)} (h : q.all goodB = true) (h4 : q.length ≤ 4) : errP (textP q) = 0 ∧ partsP (textP q) = q := by
  have e := cut_text (all_free h) (good_not1 h)
  unfold errP partsP
  rw [e]
  have := errQ_zero.2 ⟨h, h4⟩
  exact ⟨this, if_pos this⟩

theorem all_take {q : List (List UInt8)} (h : q.all goodB = true) (n : Nat) : (q.take n).all goodB = true := by
  rw [List.all_eq_true] at h ⊢
  exact fun x hx => h x (List.mem_of_mem_take hx)

/-- How many parts, from the first on, are the same ones. -/
def comN : List (List UInt8) → List (List UInt8) → Nat
  | a :: p, b :: q => if a = b then comN p q + 1 else 0
  | _, _ => 0

theorem com_eq : ∀ (p q : List (List UInt8)) (n : Nat), n ≤ p.length → n ≤ q.length → (∀ j, j < n → p[j]? = q[j]?) → (n = p.length ∨ n = q.length ∨ ¬ p[n]? = q[n]?) → comN p q = n
  | [], q, n, h1, _, _, _ => by simp at h1; subst h1; cases q <;> rfl
  | a :: p, [], n, _, h2, _, _ => by simp at h2; subst h2; rfl
  | a :: p, b :: q, n, h1, h2, h3, h4 => by
    unfold comN
    cases n with
    | zero =>
      rcases h4 with h | h | h
      · simp at h
      · simp at h
      · rw [if_neg]; intro e; subst e; exact h rfl
    | succ n =>
      have : a = b := by simpa using h3 0 (by omega)
      rw [if_pos this, com_eq p q n (by simpa using h1) (by simpa using h2) (fun j hj => by simpa using h3 (j + 1) (by omega)) (by simpa using h4)]

theorem com_le : ∀ (p q : List (List UInt8)), comN p q ≤ p.length ∧ comN p q ≤ q.length
  | [], q => by cases q <;> simp [comN]
  | a :: p, [] => by simp [comN]
  | a :: p, b :: q => by
    have := com_le p q
    unfold comN
    split <;> simp; exact this

theorem com_take : ∀ (p q : List (List UInt8)), p.take (comN p q) = q.take (comN p q)
  | [], q => by cases q <;> simp [comN]
  | a :: p, [] => by simp [comN]
  | a :: p, b :: q => by
    unfold comN
    split
    · next h => subst h; simp [com_take p q]
    · simp

theorem com_self : ∀ p : List (List UInt8), comN p p = p.length
  | [] => rfl
  | a :: p => by unfold comN; rw [if_pos rfl, com_self p]; rfl

theorem com_comm : ∀ (p q : List (List UInt8)), comN p q = comN q p
  | [], [] => rfl
  | [], _ :: _ => rfl
  | _ :: _, [] => rfl
  | a :: p, b :: q => by
    unfold comN
    by_cases h : a = b
    · subst h; rw [if_pos rfl, if_pos rfl, com_comm p q]
    · rw [if_neg h, if_neg (fun e => h e.symm)]

/-- How far two go together tells where one is the other's begin. -/
theorem com_prefix : ∀ (p q : List (List UInt8)), comN p q = q.length ↔ p.take q.length = q
  | [], [] => by simp [comN]
  | [], b :: q => by simp [comN]
  | a :: p, [] => by simp [comN]
  | a :: p, b :: q => by
    have ih := com_prefix p q
    unfold comN
    by_cases h : a = b
    · subst h; simp [ih]
    · rw [if_neg h]; simp [h]

theorem com_take_le : ∀ (p q : List (List UInt8)) (i : Nat), i ≤ q.length → (comN p (q.take i) = i ↔ i ≤ comN p q)
  | [], q, i, h => by
    rw [show comN [] (q.take i) = 0 by cases q.take i <;> rfl, show comN [] q = 0 by cases q <;> rfl]; omega
  | a :: p, [], i, h => by simp at h; subst h; simp [comN]
  | a :: p, b :: q, 0, h => by simp [comN]
  | a :: p, b :: q, i + 1, h => by
    have ih := com_take_le p q i (by simpa using h)
    rw [List.take_succ_cons]
    unfold comN
    by_cases e : a = b
    · rw [if_pos e, if_pos e]; omega
    · rw [if_neg e, if_neg e]; omega

/-- What Under, Common, Zones, Match answer. -/
def underB (a z : List UInt8) : Bool := decide (errP a = 0 ∧ errP z = 0 ∧ comN (partsP a) (partsP z) = (partsP z).length)
def commonP (a b : List UInt8) : List UInt8 := if errP a = 0 ∧ errP b = 0 then textP ((partsP a).take (comN (partsP a) (partsP b))) else []
def zonesP (s : List UInt8) : List (List UInt8) := (List.range (partsP s).length).map fun i => textP ((partsP s).take i)
def depthP (s : List UInt8) : Int := if errP s = 0 then ((partsP s).length : Int) else -1
def parentP (s : List UInt8) : List UInt8 := if partsP s = [] then [] else textP ((partsP s).take ((partsP s).length - 1))
def lastP (s : List UInt8) : List UInt8 := (partsP s).getLast?.getD []
def joinE (s p : List UInt8) : Int := if errP s = 0 then if goodB p = true then if (partsP s).length = 4 then 4 else 0 else 5 else 2
def joinP (s p : List UInt8) : List UInt8 := if joinE s p = 0 then textP (partsP s ++ [p]) else []
/-- Do these parts of a pattern take those of a path? -/
def wm : List (List UInt8) → List (List UInt8) → Bool
  | q, [] => q == [] || q == [[42, 42]]
  | [], _ :: _ => false
  | a :: q, x :: l => if a = [42, 42] ∧ q = [] then true else if ¬ a = [42] ∧ ¬ a = x then false else wm q l
def matchB (p s : List UInt8) : Bool := if errP s = 0 then (match cutL p with
  | none => false
  | some q => wm q (partsP s)) else false

theorem wm_nil (q : List (List UInt8)) : wm q [] = (q == [] || q == [[42, 42]]) := by cases q <;> rfl

/-- The first part of a text, and what is behind it. -/
def headL : List UInt8 → List UInt8
  | [] => []
  | c :: r => if c = 47 then r.takeWhile (fun d => !(d == 47)) else []
def restL : List UInt8 → List UInt8
  | [] => []
  | c :: r => if c = 47 then r.dropWhile (fun d => !(d == 47)) else []

theorem take_stop : ∀ (n q : List UInt8), (∀ c ∈ n, ¬ c = 47) → (∀ d r, q = d :: r → d = 47) → (n ++ q).takeWhile (fun d => !(d == 47)) = n ∧ (n ++ q).dropWhile (fun d => !(d == 47)) = q
  | [], q, _, h => by
    cases q with
    | nil => exact ⟨rfl, rfl⟩
    | cons d r => have := h d r rfl; subst this; exact ⟨by simp, by simp⟩
  | c :: n, q, hn, h => by
    have := take_stop n q (fun x hx => hn x (by simp [hx])) h
    have hc : (!(c == 47)) = true := by simp [hn c (by simp)]
    have e1 := List.takeWhile_cons_of_pos (p := fun d : UInt8 => !(d == 47)) (l := n ++ q) hc
    have e2 := List.dropWhile_cons_of_pos (p := fun d : UInt8 => !(d == 47)) (l := n ++ q) hc
    rw [this.1] at e1; rw [this.2] at e2
    exact ⟨e1, e2⟩

theorem join_head (q : List (List UInt8)) : ∀ d r, joinT q = d :: r → d = 47 := by
  intro d r h
  cases q with
  | nil => cases h
  | cons a q => rw [joinT_cons] at h; cases h; rfl

theorem head_join {a : List UInt8} {q : List (List UInt8)} (h : ∀ c ∈ a, ¬ c = 47) : headL (joinT (a :: q)) = a ∧ restL (joinT (a :: q)) = joinT q := by
  rw [joinT_cons]
  exact take_stop a (joinT q) h (join_head q)

end Go.Proofs.Ytlgkffcomnclnaa
