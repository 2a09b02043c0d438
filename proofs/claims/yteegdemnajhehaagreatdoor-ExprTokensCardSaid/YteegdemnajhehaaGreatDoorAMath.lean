/-
  No statement: plain facts of numbers, words, tokens, trees.
-/
import Derived.Test.YteegdemnajhehaaGreatDoorBase
import Derived.Lib.ParseIntB
import Derived.Lib.AtoiErrMem
import Derived.Lib.AppendIntMem
namespace Go.Proofs.YteegdemnajhehaaGreatDoor
open Go.RowKit

/-- Within 64 bits. -/
def In64 (a : Int) : Prop := -9223372036854775808 ≤ a ∧ a ≤ 9223372036854775807

/-- The number that l tells, told just so. -/
def numOf (l : List UInt8) : Option Int :=
  match Lib.parseIntB 64 l with
  | .ok v => if Lib.itoa v = l then some v else none
  | _ => none

theorem parse_in {l : List UInt8} {v : Int} (h : Lib.parseIntB 64 l = .ok v) : In64 v := by
  cases l with
  | nil => simp [Lib.parseIntB] at h
  | cons c r =>
    simp only [Lib.parseIntB] at h
    split at h
    · cases h
    · cases h
    · rename_i u hu
      split at h
      · cases h
      · split at h
        · cases h
        · simp only [Lib.NumEnd.ok.injEq] at h
          unfold In64
          split at h <;> omega

theorem parse_snoc (M : Nat) (c : UInt8) (hc : 48 ≤ c.toNat ∧ c.toNat ≤ 57) : ∀ (l : List UInt8) (acc v : Nat), Lib.parseUintM M acc l = .ok v → v < 1844674407370955162 → v * 10 + (c.toNat - 48) ≤ M → Lib.parseUintM M acc (l ++ [c]) = .ok (v * 10 + (c.toNat - 48))
  | [], acc, v, h, hv, hM => by
    simp only [Lib.parseUintM, Lib.NumEnd.ok.injEq] at h
    subst h
    rw [List.nil_append, Lib.parseUintM, if_pos hc, if_neg (by omega), if_neg (by omega), Lib.parseUintM]
  | d :: r, acc, v, h, hv, hM => by
    rw [Lib.parseUintM] at h
    rw [List.cons_append, Lib.parseUintM]
    by_cases h1 : 48 ≤ d.toNat ∧ d.toNat ≤ 57
    · rw [if_pos h1] at h ⊢
      by_cases h2 : 1844674407370955162 ≤ acc
      · rw [if_pos h2] at h; cases h
      · rw [if_neg h2] at h ⊢
        by_cases h3 : M < acc * 10 + (d.toNat - 48)
        · rw [if_pos h3] at h; cases h
        · rw [if_neg h3] at h ⊢
          exact parse_snoc M c hc r _ v h hv hM
    · rw [if_neg h1] at h; cases h

theorem digit_of (m : Nat) (h : m < 10) : (UInt8.ofNat (48 + m)).toNat = 48 + m := by rw [UInt8.toNat_ofNat']; omega

theorem parse_dec (u : Nat) (hu : u ≤ 9223372036854775808) : Lib.parseUintM (2 ^ 64 - 1) 0 (Lib.decDigits u) = .ok u := by
  induction u using Nat.strongRecOn with
  | _ u ih =>
    rw [Lib.decDigits]
    by_cases h : u < 10
    · rw [dif_pos h]
      have := parse_snoc (2 ^ 64 - 1) (UInt8.ofNat (48 + u)) (by rw [digit_of u h]; omega) [] 0 0 rfl (by omega) (by rw [digit_of u h]; omega)
      rw [digit_of u h] at this
      simpa using this
    · rw [dif_neg h]
      have h2 : u % 10 < 10 := Nat.mod_lt _ (by omega)
      have := parse_snoc (2 ^ 64 - 1) (UInt8.ofNat (48 + u % 10)) (by rw [digit_of _ h2]; omega) _ 0 (u / 10) (ih (u / 10) (by omega) (by omega)) (by omega) (by rw [digit_of _ h2]; omega)
      rw [digit_of _ h2] at this
      rw [this]
      congr 1
      omega

theorem dec_digits (u : Nat) : ∀ c ∈ Lib.decDigits u, 48 ≤ c.toNat ∧ c.toNat ≤ 57 := by
  induction u using Nat.strongRecOn with
  | _ u ih =>
    rw [Lib.decDigits]
    by_cases h : u < 10
    · rw [dif_pos h]
      intro c hc
      obtain rfl := List.mem_singleton.1 hc
      rw [digit_of u h]; omega
    · rw [dif_neg h]
      have h2 : u % 10 < 10 := Nat.mod_lt _ (by omega)
      intro c hc
      rcases List.mem_append.1 hc with hc | hc
      · exact ih (u / 10) (by omega) c hc
      · obtain rfl := List.mem_singleton.1 hc
        rw [digit_of _ h2]; omega

theorem dec_cons (u : Nat) : ∃ c r, Lib.decDigits u = c :: r ∧ 48 ≤ c.toNat ∧ c.toNat ≤ 57 := by
  cases h : Lib.decDigits u with
  | nil =>
    rw [Lib.decDigits] at h
    split at h <;> simp at h
  | cons c r => exact ⟨c, r, rfl, dec_digits u c (by rw [h]; simp)⟩

theorem num_itoa {n : Int} (hn : In64 n) : numOf (Lib.itoa n) = some n := by
  obtain ⟨h1, h2⟩ := hn
  have hp : Lib.parseIntB 64 (Lib.itoa n) = .ok n := by
    unfold Lib.itoa
    by_cases h0 : n < 0
    · rw [if_pos h0]
      obtain ⟨c, r, hc, _⟩ := dec_cons n.natAbs
      have e1 : Lib.parseUintB 64 (Lib.decDigits n.natAbs) = .ok n.natAbs := by rw [Lib.parseUintB, if_neg (by rw [hc]; simp), parse_dec _ (by omega)]
      have e2 : ¬ 9223372036854775808 < n.natAbs := by omega
      have e3 : -(n.natAbs : Int) = n := by omega
      simp [Lib.parseIntB, e1, e2]
      omega
    · rw [if_neg h0]
      obtain ⟨c, r, hc, hd⟩ := dec_cons n.toNat
      have e1 : Lib.parseUintB 64 (Lib.decDigits n.toNat) = .ok n.toNat := by rw [Lib.parseUintB, if_neg (by rw [hc]; simp), parse_dec _ (by omega)]
      have e2 : ¬ 9223372036854775808 ≤ n.toNat := by omega
      have e4 : ¬ c.toNat = 43 := by omega
      have e5 : ¬ c.toNat = 45 := by omega
      rw [hc] at e1 ⊢
      simp [Lib.parseIntB, e1, e2, e4, e5]
      omega
  unfold numOf
  rw [hp]
  simp

def isD (c : UInt8) : Prop := 48 ≤ c.toNat ∧ c.toNat ≤ 57

/-- What digits tell. -/
def valD (d : List UInt8) : Nat := d.foldl (fun u c => 10 * u + (c.toNat - 48)) 0

theorem valD_snoc (d : List UInt8) (c : UInt8) : valD (d ++ [c]) = 10 * valD d + (c.toNat - 48) := by unfold valD; rw [List.foldl_append]; rfl

theorem dec_val (u : Nat) : valD (Lib.decDigits u) = u := by
  induction u using Nat.strongRecOn with
  | _ u ih =>
    rw [Lib.decDigits]
    by_cases h : u < 10
    · rw [dif_pos h]
      show 10 * 0 + ((UInt8.ofNat (48 + u)).toNat - 48) = u
      rw [digit_of u h]; omega
    · rw [dif_neg h, valD_snoc, ih (u / 10) (by omega), digit_of _ (Nat.mod_lt _ (by omega))]
      omega

theorem dec_len : ∀ (k u : Nat), u < 10 ^ (k + 1) → (Lib.decDigits u).length ≤ k + 1
  | 0, u, h => by rw [Lib.decDigits, dif_pos (by omega)]; simp
  | k + 1, u, h => by
    rw [Lib.decDigits]
    by_cases h10 : u < 10
    · rw [dif_pos h10]; simp
    · rw [dif_neg h10, List.length_append]
      have := dec_len k (u / 10) (by rw [Nat.div_lt_iff_lt_mul (by omega)]; rw [Nat.pow_succ] at h; exact h)
      simp; omega

theorem dec_head (u : Nat) : 0 < u → ∀ r, ¬ Lib.decDigits u = 48 :: r := by
  induction u using Nat.strongRecOn with
  | _ u ih =>
    intro hu r e
    rw [Lib.decDigits] at e
    by_cases h : u < 10
    · rw [dif_pos h] at e
      have e1 : UInt8.ofNat (48 + u) = 48 := (List.cons.inj e).1
      have := digit_of u h
      rw [e1] at this
      have : (48 : UInt8).toNat = 48 := rfl
      omega
    · rw [dif_neg h] at e
      obtain ⟨c, q, hc, _⟩ := dec_cons (u / 10)
      rw [hc, List.cons_append] at e
      have e1 := (List.cons.inj e).1
      subst e1
      exact ih (u / 10) (by omega) (by omega) q hc

theorem dec_zero : Lib.decDigits 0 = [48] := by rw [Lib.decDigits, dif_pos (by omega)]; rfl

theorem u8_back {c : UInt8} (h : isD c) : UInt8.ofNat (48 + (c.toNat - 48)) = c := by
  rw [show 48 + (c.toNat - 48) = c.toNat by have := h.1; omega]
  exact UInt8.ofNat_toNat

theorem val_dec : ∀ (n : Nat) (d : List UInt8), d.length = n → ¬ d = [] → (∀ c ∈ d, isD c) → (∀ r, d = 48 :: r → r = []) → Lib.decDigits (valD d) = d := by
  intro n
  induction n with
  | zero => intro d hl hn _ _; exact absurd (List.length_eq_zero_iff.1 hl) hn
  | succ n ih =>
    intro d hl hn hd h0
    rcases List.eq_nil_or_concat d with e | ⟨e, c, rfl⟩
    · exact absurd e hn
    · rw [List.concat_eq_append] at *
      have hc : isD c := hd c (by simp)
      rw [valD_snoc]
      by_cases he : e = []
      · subst he
        rw [show valD [] = 0 from rfl, Nat.mul_zero, Nat.zero_add, Lib.decDigits, dif_pos (by have := hc.2; omega), u8_back hc]
        rfl
      · have ih2 := ih e (by simp at hl; exact hl) he (fun x hx => hd x (by simp [hx])) (fun r hr => by
          have := h0 (r ++ [c]) (by rw [hr]; rfl)
          simp at this)
        have hpos : 0 < valD e := by
          rcases Nat.eq_zero_or_pos (valD e) with h | h
          · rw [h, dec_zero] at ih2
            have := h0 [c] (by rw [← ih2]; rfl)
            cases this
          · exact h
        have hx : c.toNat - 48 < 10 := by have := hc.2; omega
        rw [Lib.decDigits, dif_neg (by omega), show (10 * valD e + (c.toNat - 48)) / 10 = valD e by omega, show (10 * valD e + (c.toNat - 48)) % 10 = c.toNat - 48 by omega, ih2, u8_back hc]

theorem val_lt : ∀ (n : Nat) (d : List UInt8), d.length = n → (∀ c ∈ d, isD c) → valD d < 10 ^ n := by
  intro n
  induction n with
  | zero => intro d hl _; rw [List.length_eq_zero_iff.1 hl]; decide
  | succ n ih =>
    intro d hl hd
    rcases List.eq_nil_or_concat d with rfl | ⟨e, c, rfl⟩
    · simp at hl
    · rw [List.concat_eq_append] at *
      have hc : isD c := hd c (by simp)
      have := ih e (by simp at hl; exact hl) (fun x hx => hd x (by simp [hx]))
      have h2 := hc.2
      rw [valD_snoc, Nat.pow_succ]; omega

/-- May these be the digits behind the sign? -/
def okD (neg : Bool) (d : List UInt8) : Prop := ¬ d = [] ∧ d.length ≤ 19 ∧ (∀ c ∈ d, isD c) ∧ (∀ r, d = 48 :: r → r = [] ∧ neg = false)

/-- A number's own text is told by digits that may be. -/
theorem num_some {l : List UInt8} {v : Int} (h : numOf l = some v) :
    (v < 0 ∧ ∃ d, l = 45 :: d ∧ okD true d ∧ valD d = v.natAbs) ∨ (0 ≤ v ∧ okD false l ∧ valD l = v.toNat) := by
  have hl : Lib.itoa v = l ∧ In64 v := by
    unfold numOf at h
    split at h
    · rename_i x hx
      split at h
      · rename_i he
        cases h
        exact ⟨he, parse_in hx⟩
      · cases h
    · cases h
  obtain ⟨hl, h1, h2⟩ := hl
  have ok : ∀ (u : Nat) (neg : Bool), u ≤ 9223372036854775808 → (neg = true → 0 < u) → okD neg (Lib.decDigits u) := fun u neg hu hn => by
    refine ⟨?_, dec_len 18 u (by omega), dec_digits u, fun r e => ?_⟩
    · obtain ⟨c, r, hc, _⟩ := dec_cons u; rw [hc]; simp
    · rcases Nat.eq_zero_or_pos u with h | h
      · subst h
        rw [dec_zero] at e
        refine ⟨by simpa using e.symm, ?_⟩
        cases neg with
        | false => rfl
        | true => exact absurd (hn rfl) (by omega)
      · exact absurd e (dec_head u h r)
  unfold Lib.itoa at hl
  by_cases h0 : v < 0
  · rw [if_pos h0] at hl
    exact .inl ⟨h0, _, hl.symm, ok _ _ (by omega) (fun _ => by omega), dec_val _⟩
  · rw [if_neg h0] at hl
    subst hl
    exact .inr ⟨by omega, ok _ _ (by omega) (fun h => by cases h), dec_val _⟩

theorem num_neg {d : List UInt8} (h : okD true d) (hv : valD d ≤ 9223372036854775808) : numOf (45 :: d) = some (-(valD d : Int)) := by
  obtain ⟨h1, h2, h3, h4⟩ := h
  have hd := val_dec _ d rfl h1 h3 (fun r hr => (h4 r hr).1)
  have hpos : 0 < valD d := by
    rcases Nat.eq_zero_or_pos (valD d) with h | h
    · rw [h, dec_zero] at hd
      have := (h4 [] hd.symm).2
      cases this
    · exact h
  have hn : In64 (-(valD d : Int)) := by unfold In64; omega
  have := num_itoa hn
  rwa [Lib.itoa, if_pos (by omega), show (-(valD d : Int)).natAbs = valD d by omega, hd] at this

theorem num_pos {d : List UInt8} (h : okD false d) (hv : valD d ≤ 9223372036854775807) : numOf d = some (valD d : Int) := by
  obtain ⟨h1, h2, h3, h4⟩ := h
  have hd := val_dec _ d rfl h1 h3 (fun r hr => (h4 r hr).1)
  have hn : In64 (valD d : Int) := by unfold In64; omega
  have := num_itoa hn
  rwa [Lib.itoa, if_neg (by omega), show ((valD d : Int)).toNat = valD d by omega, hd] at this

theorem num_in {l : List UInt8} {v : Int} (h : numOf l = some v) : In64 v := by
  unfold numOf at h
  split at h
  · rename_i x hx
    split at h
    · cases h; exact parse_in hx
    · cases h
  · cases h

theorem none_neg {d : List UInt8} (h : ¬ (okD true d ∧ valD d ≤ 9223372036854775808)) : numOf (45 :: d) = none := by
  cases e : numOf (45 :: d) with
  | none => rfl
  | some v =>
    have hi := num_in e
    unfold In64 at hi
    rcases num_some e with ⟨h0, d', hd, ho, hv⟩ | ⟨h0, ho, hv⟩
    · cases hd
      exact absurd ⟨ho, by omega⟩ h
    · have := ho.2.2.1 45 (by simp)
      exact absurd this.1 (by decide)

theorem none_pos {d : List UInt8} (h0 : ∀ r, ¬ d = 45 :: r) (h : ¬ (okD false d ∧ valD d ≤ 9223372036854775807)) : numOf d = none := by
  cases e : numOf d with
  | none => rfl
  | some v =>
    have hi := num_in e
    unfold In64 at hi
    rcases num_some e with ⟨_, d', hd, _⟩ | ⟨h1, ho, hv⟩
    · exact absurd hd (h0 d')
    · exact absurd ⟨ho, by omega⟩ h

theorem parseM_digits : ∀ (d : List UInt8) (acc v : Nat), Lib.parseUintM (2 ^ 64 - 1) acc d = .ok v → (∀ c ∈ d, isD c) → v = d.foldl (fun u c => 10 * u + (c.toNat - 48)) acc
  | [], acc, v, h, _ => by simp only [Lib.parseUintM, Lib.NumEnd.ok.injEq] at h; exact h.symm
  | c :: r, acc, v, h, hd => by
    have hc : 48 ≤ c.toNat ∧ c.toNat ≤ 57 := hd c (by simp)
    rw [Lib.parseUintM, if_pos hc] at h
    by_cases h1 : 1844674407370955162 ≤ acc
    · rw [if_pos h1] at h; cases h
    · rw [if_neg h1] at h
      by_cases h2 : 2 ^ 64 - 1 < acc * 10 + (c.toNat - 48)
      · rw [if_pos h2] at h; cases h
      · rw [if_neg h2] at h
        have := parseM_digits r _ v h (fun x hx => hd x (by simp [hx]))
        rw [this, List.foldl_cons, Nat.mul_comm acc 10]

/-- Digits without a leading nought, and no more than may be, are read as what they tell. -/
theorem parse_digits {d : List UInt8} (h1 : ¬ d = []) (hd : ∀ c ∈ d, isD c) (h0 : ∀ r, d = 48 :: r → r = []) (hv : valD d ≤ 9223372036854775807) : Lib.parseIntB 64 d = .ok (valD d : Int) := by
  have hl : d.length ≤ 19 := by
    have := dec_len 18 (valD d) (by omega)
    rwa [val_dec _ d rfl h1 hd h0] at this
  have h := num_pos (d := d) ⟨h1, hl, hd, fun r hr => ⟨h0 r hr, rfl⟩⟩ hv
  unfold numOf at h
  split at h
  · rename_i v hv'
    split at h
    · cases h; exact hv'
    · cases h
  · cases h

theorem parse_over {d : List UInt8} (hd : ∀ c ∈ d, isD c) (hv : 9223372036854775807 < valD d) (v : Int) : ¬ Lib.parseIntB 64 d = .ok v := by
  intro h
  cases d with
  | nil => simp [Lib.parseIntB] at h
  | cons c r =>
    have hc := hd c (by simp)
    have n1 : ¬ (c.toNat = 43 ∨ c.toNat = 45) := by have := hc.1; omega
    simp only [Lib.parseIntB, if_neg n1] at h
    cases hp : Lib.parseUintB 64 (c :: r) with
    | ok u =>
      rw [hp] at h
      rw [Lib.parseUintB, if_neg (by simp)] at hp
      have hu : u = valD (c :: r) := parseM_digits _ _ _ hp hd
      have n2 : ¬ c.toNat = 45 := by omega
      simp only at h
      rw [if_pos ⟨n2, by rw [hu]; omega⟩] at h
      cases h
    | _ => rw [hp] at h; cases h

theorem num_over {d : List UInt8} (hd : ∀ c ∈ d, isD c) (hv : 9223372036854775807 < valD d) : numOf d = none := by
  unfold numOf
  split
  · rename_i v h; exact absurd h (parse_over hd hv v)
  · rfl

theorem num_digits {d : List UInt8} (h1 : ¬ d = []) (hd : ∀ c ∈ d, isD c) (h0 : ∀ r, d = 48 :: r → r = []) (hv : valD d ≤ 9223372036854775807) : numOf d = some (valD d : Int) := by
  have hl : d.length ≤ 19 := by
    have := dec_len 18 (valD d) (by omega)
    rwa [val_dec _ d rfl h1 hd h0] at this
  exact num_pos ⟨h1, hl, hd, fun r hr => ⟨h0 r hr, rfl⟩⟩ hv

end Go.Proofs.YteegdemnajhehaaGreatDoor

namespace Go.Proofs.YteegdemnajhehaaGreatDoor
open Go.RowKit

def smallB (c : UInt8) : Bool := decide (97 ≤ (c.toNat : Int)) && decide ((c.toNat : Int) ≤ 122)
def digitB (c : UInt8) : Bool := decide (48 ≤ (c.toNat : Int)) && decide ((c.toNat : Int) ≤ 57)
def alnumB (c : UInt8) : Bool := smallB c || digitB c
/-- A name: small letters and digits, the first a letter, eight at most. -/
def goodB : List UInt8 → Bool
  | [] => false
  | c :: r => smallB c && decide (r.length ≤ 7) && r.all alnumB
/-- The parts of a text, a stroke between two. -/
def segs : List UInt8 → List (List UInt8)
  | [] => [[]]
  | c :: r => if c = 47 then [] :: segs r else ((c :: (segs r).head!) :: (segs r).tail)
/-- Is what is left a path's, p parts being told? -/
def nodeFrom (l : List UInt8) (p : Nat) : Bool :=
  match l with
  | [] => decide (0 < p)
  | c :: r => decide (c = 47) && (segs r).all goodB && decide ((segs r).length + p ≤ 4)
/-- A path, and not the root. -/
def nodeB (l : List UInt8) : Bool := nodeFrom l 0

theorem good_cons (c : UInt8) (r : List UInt8) : goodB (c :: r) = (smallB c && decide (r.length ≤ 7) && r.all alnumB) := rfl
theorem node_nil (p : Nat) : nodeFrom [] p = decide (0 < p) := rfl
theorem node_cons (c : UInt8) (r : List UInt8) (p : Nat) : nodeFrom (c :: r) p = (decide (c = 47) && (segs r).all goodB && decide ((segs r).length + p ≤ 4)) := rfl

theorem segs_ne (l : List UInt8) : segs l ≠ [] := by
  cases l with
  | nil => simp [segs]
  | cons c r => unfold segs; split <;> simp

theorem segs_eq (l : List UInt8) : ∃ a q, segs l = a :: q := by
  cases h : segs l with
  | nil => exact absurd h (segs_ne l)
  | cons a q => exact ⟨a, q, rfl⟩

theorem segs_stroke (q : List UInt8) : segs (47 :: q) = [] :: segs q := by simp [segs]
theorem segs_sign {c : UInt8} (h : ¬ c = 47) (q : List UInt8) {a : List UInt8} {b : List (List UInt8)} (e : segs q = a :: b) : segs (c :: q) = (c :: a) :: b := by
  rw [segs, if_neg h, e]; rfl

theorem segs_app : ∀ (n q : List UInt8), (∀ c ∈ n, ¬ c = 47) → ∀ {a : List UInt8} {b : List (List UInt8)}, segs q = a :: b → segs (n ++ q) = (n ++ a) :: b
  | [], _, _, _, _, e => e
  | c :: n, q, h, _, _, e => segs_sign (h c (by simp)) _ (segs_app n q (fun x hx => h x (by simp [hx])) e)

theorem segs_name {n : List UInt8} (h : ∀ c ∈ n, ¬ c = 47) : segs n = [n] := by
  have := segs_app n [] h (a := []) (b := []) rfl
  simpa using this

theorem segs_more {n : List UInt8} (h : ∀ c ∈ n, ¬ c = 47) (q : List UInt8) : segs (n ++ 47 :: q) = n :: segs q := by
  have := segs_app n (47 :: q) h (segs_stroke q)
  simpa using this

theorem segs_long {n : List UInt8} (h : ∀ c ∈ n, ¬ c = 47) {d : UInt8} (hd : ¬ d = 47) (q : List UInt8) : ∃ a b, segs (n ++ d :: q) = (n ++ d :: a) :: b := by
  obtain ⟨a, b, e⟩ := segs_eq q
  exact ⟨a, b, segs_app n (d :: q) h (segs_sign hd q e)⟩

theorem small_ne {c : UInt8} (h : smallB c = true) : ¬ c = 47 := by
  rintro rfl; revert h; decide
theorem alnum_ne {c : UInt8} (h : alnumB c = true) : ¬ c = 47 := by
  rintro rfl; revert h; decide

/-- A name is taken off; what is left is a path's just where the whole was. -/
theorem node_step {c : UInt8} {r rest : List UInt8} (hc : smallB c = true) (hr : r.all alnumB = true) (hl : r.length ≤ 7)
    (stop : rest = [] ∨ r.length = 7 ∨ ∃ d q, rest = d :: q ∧ alnumB d = false) (p : Nat) :
    nodeFrom (47 :: (c :: r ++ rest)) p = (decide (p < 4) && nodeFrom rest (p + 1)) := by
  have hn : ∀ x ∈ c :: r, ¬ x = 47 := by
    intro x hx
    rcases List.mem_cons.1 hx with rfl | hx
    · exact small_ne hc
    · exact alnum_ne (List.all_eq_true.1 hr x hx)
  have hg : goodB (c :: r) = true := by rw [good_cons, hc, hr, decide_eq_true hl]; rfl
  cases rest with
  | nil =>
    rw [List.append_nil]
    rw [node_cons, node_nil, segs_name hn]
    simp [hg]
    omega
  | cons d q =>
    by_cases hd : d = 47
    · subst hd
      rw [node_cons, node_cons, segs_more hn]
      simp only [List.all_cons, hg, List.length_cons, decide_true, Bool.true_and]
      by_cases hp : p < 4
      · rw [decide_eq_true hp, Bool.true_and]
        congr 1
        apply decide_eq_decide.2
        omega
      · rw [decide_eq_false hp, Bool.false_and, decide_eq_false (by omega), Bool.and_false]
    · have e2 : nodeFrom (d :: q) (p + 1) = false := by rw [node_cons, decide_eq_false hd]; rfl
      rw [e2, Bool.and_false]
      obtain ⟨a, b, e⟩ := segs_long hn hd q
      have hb : goodB (c :: r ++ d :: a) = false := by
        rw [List.cons_append, good_cons]
        rcases stop with h | h | ⟨d', q', h, h'⟩
        · cases h
        · rw [decide_eq_false (by simp; omega)]; simp
        · cases h
          rw [List.all_append, List.all_cons, h']; simp
      rw [node_cons, e, List.all_cons, hb]
      simp

/-- What begins with no name is none. -/
theorem node_none {l : List UInt8} (h0 : ¬ l = []) (h : ∀ c r, l = 47 :: c :: r → smallB c = false) (p : Nat) : nodeFrom l p = false := by
  match l, h0, h with
  | [47], _, _ => rfl
  | c :: r, _, h =>
    by_cases hc : c = 47
    · subst hc
      cases r with
      | nil => rfl
      | cons d q =>
        have hs := h d q rfl
        rw [node_cons]
        by_cases hd : d = 47
        · subst hd
          rw [segs_stroke, List.all_cons]; simp [goodB]
        · obtain ⟨a, b, e⟩ := segs_eq q
          rw [segs_sign hd q e, List.all_cons]; simp [good_cons, hs]
    · rw [node_cons, decide_eq_false hc]; rfl

/-- How many bytes the stroke and the name have with which s begins; 0: it does not begin so. -/
def PartIs (s : ByteArray) (n : Nat) : Prop :=
  (n = 0 ∧ ∀ c r, s.data.toList = 47 :: c :: r → smallB c = false) ∨
  (2 ≤ n ∧ n ≤ s.size ∧ n ≤ 9 ∧ ∃ c r rest, s.data.toList = 47 :: (c :: r ++ rest) ∧ n = r.length + 2 ∧ smallB c = true ∧ r.all alnumB = true ∧ (rest = [] ∨ r.length = 7 ∨ ∃ d q, rest = d :: q ∧ alnumB d = false))

theorem toList_extract (s : ByteArray) (n : Nat) : (s.extract n s.size).data.toList = s.data.toList.drop n := by
  simp only [ByteArray.data_extract, Array.toList_extract, List.extract]
  exact List.take_of_length_le (by simp)

theorem part_none {s : ByteArray} (h : PartIs s 0) (h0 : ¬ s.size = 0) (p : Nat) : nodeFrom s.data.toList p = false := by
  rcases h with ⟨_, h⟩ | ⟨h, _⟩
  · exact node_none (fun e => h0 (by have := congrArg List.length e; simpa using this)) h p
  · omega

theorem part_some {s : ByteArray} {n : Nat} (h : PartIs s n) (h0 : ¬ n = 0) (p : Nat) : nodeFrom s.data.toList p = (decide (p < 4) && nodeFrom (s.extract n s.size).data.toList (p + 1)) := by
  rcases h with ⟨h, _⟩ | ⟨_, _, _, c, r, rest, e, hn, hc, hr, stop⟩
  · exact absurd h h0
  · rw [toList_extract, e, node_step hc hr (by omega) stop]
    congr 2
    subst hn
    simp

/-- What the walk of part knows when it stops at n. -/
theorem part_of {s : ByteArray} {n : Nat} (h2 : 2 ≤ n) (hn : n ≤ s.size) (h9 : n ≤ 9) (a0 : s[0] = 47) (a1 : smallB s[1] = true) (am : ∀ j (hj : j < s.size), 2 ≤ j → j < n → alnumB s[j] = true)
    (stop : n = s.size ∨ n = 9 ∨ ∃ h : n < s.size, alnumB s[n] = false) : PartIs s n := by
  right
  refine ⟨h2, hn, h9, s[1], (s.data.toList.drop 2).take (n - 2), s.data.toList.drop n, ?_, ?_, a1, ?_, ?_⟩
  · apply List.ext_getElem
    · simp; omega
    · intro i hi hi'
      have hs : i < s.size := by simpa using hi
      match i with
      | 0 => exact a0
      | 1 => simp; rfl
      | i + 2 =>
        simp only [List.cons_append, List.getElem_cons_succ]
        by_cases hin : i < n - 2
        · rw [List.getElem_append_left (by simp; omega)]
          simp only [List.getElem_take, List.getElem_drop]
          congr 1
          omega
        · rw [List.getElem_append_right (by simp; omega)]
          simp only [List.getElem_drop, List.length_take, List.length_drop]
          congr 1
          simp; omega
  · simp; omega
  · rw [List.all_eq_true]
    intro x hx
    obtain ⟨j, hj, rfl⟩ := List.mem_iff_getElem.1 hx
    simp at hj
    have := am (2 + j) (by omega) (by omega) (by omega)
    rw [List.getElem_take, List.getElem_drop]
    exact this
  · rcases stop with h | h | ⟨hh, h⟩
    · left; simp; omega
    · right; left; simp; omega
    · right; right
      refine ⟨s[n], s.data.toList.drop (n + 1), ?_, h⟩
      exact List.drop_eq_getElem_cons (l := s.data.toList) (i := n) (by simpa using hh)

end Go.Proofs.YteegdemnajhehaaGreatDoor

namespace Go.Proofs.YteegdemnajhehaaGreatDoor
open Go.RowKit

/-- How many bytes at the head pass a test. -/
def runL (p : UInt8 → Bool) (l : List UInt8) : Nat := (l.takeWhile p).length

def oneSign (c : UInt8) : Bool := c == 40 || c == 41 || c == 44 || c == 61 || c == 60 || c == 62 || c == 43 || c == 45 || c == 42 || c == 47 || c == 37
def twoSign (c d : UInt8) : Bool := d == 61 && (c == 33 || c == 60 || c == 62)

/-- How long the sign is that a text begins with. -/
def signL : List UInt8 → Nat
  | [] => 0
  | [c] => if oneSign c then 1 else 0
  | c :: d :: _ => if twoSign c d then 2 else if oneSign c then 1 else 0

/-- The first token: its Kind, its length, what it counts; or why there is none. -/
inductive Fst | bad (e : Int) | tok (k : Int) (n : Nat) (v : Int)

def nameF (l : List UInt8) : Fst := if 8 < runL alnumB l then .bad 5 else .tok 1 (runL alnumB l) 0
def numF (l : List UInt8) : Fst :=
  if (1 < runL digitB l ∧ l.head? = some 48) ∨ (∃ d, (l.drop (runL digitB l)).head? = some d ∧ smallB d = true) then .bad 2
  else if 9223372036854775807 < valD (l.take (runL digitB l)) then .bad 1 else .tok 2 (runL digitB l) (valD (l.take (runL digitB l)))
def signF (l : List UInt8) : Fst := if signL l = 0 then .bad 2 else .tok 3 (signL l) 0

def firstF : List UInt8 → Fst
  | [] => .bad 2
  | c :: r => if smallB c then nameF (c :: r) else if digitB c then numF (c :: r) else signF (c :: r)

/-- A token as plain data. -/
structure Tk where
  kind : Int
  text : List UInt8
  num : Int
  place : Nat

instance : Inhabited Tk := ⟨⟨0, [], 0, 0⟩⟩

/-- What the lexer ends with. -/
inductive LexEnd | bad (p : Nat) (e : Int) | ok (ts : List Tk)

def LexEnd.after (acc : List Tk) : LexEnd → LexEnd
  | .bad p e => .bad p e
  | .ok ts => .ok (acc ++ ts)

theorem after_nil (E : LexEnd) : E.after [] = E := by cases E <;> rfl
theorem after_after (a b : List Tk) (E : LexEnd) : (E.after b).after a = E.after (a ++ b) := by cases E <;> simp [LexEnd.after]

def lexL : List UInt8 → Nat → LexEnd
  | [], _ => .ok []
  | c :: r, p =>
    if c = 32 then lexL r (p + 1)
    else match firstF (c :: r) with
      | .bad e => .bad p e
      | .tok k n v => (lexL (r.drop (n - 1)) (p + n)).after [⟨k, (c :: r).take n, v, p⟩]
termination_by l => l.length
decreasing_by
  all_goals simp
  omega

theorem lex_nil (p : Nat) : lexL [] p = .ok [] := by rw [lexL]
theorem lex_blank (r : List UInt8) (p : Nat) : lexL (32 :: r) p = lexL r (p + 1) := by rw [lexL, if_pos rfl]
theorem lex_bad {l : List UInt8} {p : Nat} {e : Int} (h0 : ¬ l = []) (h1 : ¬ l.head? = some 32) (h : firstF l = .bad e) : lexL l p = .bad p e := by
  cases l with
  | nil => exact absurd rfl h0
  | cons c r =>
    rw [lexL, if_neg (by simpa using h1), h]
theorem lex_tok {l : List UInt8} {p n : Nat} {k v : Int} (h1 : ¬ l.head? = some 32) (hn : 1 ≤ n) (h : firstF l = .tok k n v) : lexL l p = (lexL (l.drop n) (p + n)).after [⟨k, l.take n, v, p⟩] := by
  cases l with
  | nil => cases h
  | cons c r =>
    rw [lexL, if_neg (by simpa using h1), h]
    simp only
    obtain ⟨m, rfl⟩ : ∃ m, n = m + 1 := ⟨n - 1, by omega⟩
    rfl

theorem lex_blanks : ∀ (b : Nat) (r : List UInt8) (p : Nat), lexL (List.replicate b 32 ++ r) p = lexL r (p + b)
  | 0, _, _ => rfl
  | b + 1, r, p => by
    rw [List.replicate_succ, List.cons_append, lex_blank, lex_blanks b r (p + 1), Nat.add_assoc, Nat.add_comm 1 b]

theorem run_le (q : UInt8 → Bool) (l : List UInt8) : runL q l ≤ l.length := by
  unfold runL
  have := congrArg List.length (List.takeWhile_append_dropWhile (p := q) (l := l))
  rw [List.length_append] at this
  omega

theorem take_len {a b l : List UInt8} (h : a ++ b = l) : l.take a.length = a ∧ l.drop a.length = b := by
  subst h; simp

theorem take_run (q : UInt8 → Bool) (l : List UInt8) : l.take (runL q l) = l.takeWhile q := by
  exact (take_len (List.takeWhile_append_dropWhile (p := q) (l := l))).1

theorem drop_run (q : UInt8 → Bool) (l : List UInt8) : l.drop (runL q l) = l.dropWhile q := by
  exact (take_len (List.takeWhile_append_dropWhile (p := q) (l := l))).2

/-- The run is n bytes when n bytes pass and the next one does not. -/
theorem run_is {q : UInt8 → Bool} : ∀ {l : List UInt8} {n : Nat}, n ≤ l.length → (∀ j (h : j < l.length), j < n → q l[j] = true) → (∀ h : n < l.length, q l[n] = false) → runL q l = n
  | [], n, h, _, _ => by simp at h; subst h; rfl
  | c :: r, 0, _, _, h2 => by
    have := h2 (by simp)
    unfold runL
    rw [List.takeWhile_cons_of_neg (by simpa using this)]; rfl
  | c :: r, n + 1, h, h1, h2 => by
    have hc := h1 0 (by simp) (by omega)
    have ih := run_is (q := q) (l := r) (n := n) (by simpa using h) (fun j hj hn => by have := h1 (j + 1) (by simpa using hj) (by omega); simpa using this) (fun hn => by have := h2 (by simpa using hn); simpa using this)
    unfold runL at ih ⊢
    rw [List.takeWhile_cons_of_pos (by simpa using hc)]
    simp [ih]

theorem digit_iff (c : UInt8) : digitB c = true ↔ isD c := by
  unfold digitB isD
  simp
  omega

theorem run_pos {q : UInt8 → Bool} {c : UInt8} {r : List UInt8} (h : q c = true) : 1 ≤ runL q (c :: r) := by
  unfold runL
  rw [List.takeWhile_cons_of_pos h]; simp

theorem sign_le (l : List UInt8) : signL l ≤ l.length := by
  match l with
  | [] => simp [signL]
  | [c] =>
    show (if oneSign c then 1 else 0) ≤ 1
    split <;> omega
  | c :: d :: r =>
    show (if twoSign c d then 2 else if oneSign c then 1 else 0) ≤ r.length + 1 + 1
    split
    · omega
    · split <;> omega

theorem first_len {l : List UInt8} {k v : Int} {n : Nat} (h : firstF l = .tok k n v) : 1 ≤ n ∧ n ≤ l.length := by
  cases l with
  | nil => cases h
  | cons c r =>
    simp only [firstF] at h
    split at h
    · rename_i hs
      unfold nameF at h
      split at h
      · cases h
      · cases h
        exact ⟨run_pos (by unfold alnumB; simp [hs]), run_le _ _⟩
    · split at h
      · rename_i hd
        unfold numF at h
        split at h
        · cases h
        · split at h
          · cases h
          · cases h
            exact ⟨run_pos hd, run_le _ _⟩
      · unfold signF at h
        split at h
        · cases h
        · cases h
          exact ⟨by omega, sign_le _⟩

/-- What counts nothing but a Num. -/
theorem first_num {l : List UInt8} {k v : Int} {n : Nat} (h : firstF l = .tok k n v) : (k = 1 ∨ k = 2 ∨ k = 3) ∧ (¬ k = 2 → v = 0) ∧ 0 ≤ v ∧ v ≤ 9223372036854775807 := by
  cases l with
  | nil => cases h
  | cons c r =>
    simp only [firstF] at h
    split at h
    · unfold nameF at h
      split at h
      · cases h
      · cases h; exact ⟨.inl rfl, fun _ => rfl, by omega, by omega⟩
    · split at h
      · unfold numF at h
        split at h
        · cases h
        · split at h
          · cases h
          · cases h; exact ⟨.inr (.inl rfl), fun h => absurd rfl h, by omega, by omega⟩
      · unfold signF at h
        split at h
        · cases h
        · cases h; exact ⟨.inr (.inr rfl), fun _ => rfl, by omega, by omega⟩

theorem lex_skip (l : List UInt8) (p : Nat) : lexL l p = lexL (l.drop (runL (· == 32) l)) (p + runL (· == 32) l) := by
  induction l generalizing p with
  | nil => rfl
  | cons c r ih =>
    by_cases h : c = 32
    · subst h
      rw [lex_blank, ih (p + 1)]
      have : runL (· == 32) (32 :: r) = runL (· == 32) r + 1 := by unfold runL; rw [List.takeWhile_cons_of_pos (by decide)]; rfl
      rw [this, List.drop_succ_cons]
      congr 1
      omega
    · have : runL (· == 32) (c :: r) = 0 := by unfold runL; rw [List.takeWhile_cons_of_neg (by simpa using h)]; rfl
      rw [this]; rfl

theorem skip_head (l : List UInt8) : ¬ (l.drop (runL (· == 32) l)).head? = some 32 := by
  rw [drop_run]
  intro h
  have := List.head?_dropWhile_not (p := fun c : UInt8 => c == 32) (l := l)
  rw [h] at this
  simp at this

/-- All cases of a text's first token. -/
theorem lex_cases (l : List UInt8) (p : Nat) (h1 : ¬ l.head? = some 32) : (l = [] ∧ lexL l p = .ok []) ∨ (∃ e, ¬ l = [] ∧ firstF l = .bad e ∧ lexL l p = .bad p e) ∨
    ∃ k n v, ¬ l = [] ∧ firstF l = .tok k n v ∧ 1 ≤ n ∧ n ≤ l.length ∧ lexL l p = (lexL (l.drop n) (p + n)).after [⟨k, l.take n, v, p⟩] := by
  by_cases h0 : l = []
  · subst h0; exact .inl ⟨rfl, lex_nil p⟩
  · right
    cases h : firstF l with
    | bad e => exact .inl ⟨e, h0, rfl, lex_bad h0 h1 h⟩
    | tok k n v =>
      obtain ⟨a, b⟩ := first_len h
      exact .inr ⟨k, n, v, h0, rfl, a, b, lex_tok h1 a h⟩

/-- An induction that goes as the lexer does. -/
theorem lex_induct {C : List UInt8 → Nat → Prop} (hnil : ∀ p, C [] p) (hblank : ∀ r p, C r (p + 1) → C (32 :: r) p) (hbad : ∀ l p e, ¬ l.head? = some 32 → ¬ l = [] → firstF l = .bad e → C l p)
    (htok : ∀ l p k n v, ¬ l.head? = some 32 → ¬ l = [] → firstF l = .tok k n v → 1 ≤ n → n ≤ l.length → C (l.drop n) (p + n) → C l p) : ∀ (m : Nat) (l : List UInt8) (p : Nat), l.length ≤ m → C l p := by
  intro m
  induction m with
  | zero =>
    intro l p h
    obtain rfl : l = [] := List.length_eq_zero_iff.1 (by omega)
    exact hnil p
  | succ m ih =>
    intro l p h
    by_cases h32 : l.head? = some 32
    · cases l with
      | nil => cases h32
      | cons c r =>
        obtain rfl : c = 32 := by simpa using h32
        exact hblank r p (ih r (p + 1) (by simpa using h))
    · rcases lex_cases l p h32 with ⟨rfl, _⟩ | ⟨e, h0, hf, _⟩ | ⟨k, n, v, h0, hf, h1, h2, _⟩
      · exact hnil p
      · exact hbad l p e h32 h0 hf
      · exact htok l p k n v h32 h0 hf h1 h2 (ih _ _ (by simp; omega))

theorem after_ok {E : LexEnd} {a ts : List Tk} (h : E.after a = .ok ts) : ∃ ts', E = .ok ts' ∧ ts = a ++ ts' := by
  cases E with
  | bad p e => cases h
  | ok x => cases h; exact ⟨x, rfl, rfl⟩

/-- Each word stands where it says. -/
def Stands : List UInt8 → Nat → List Tk → Prop
  | l, _, [] => ∀ c ∈ l, c = 32
  | l, p, t :: ts => ∃ b r, l = List.replicate b 32 ++ (t.text ++ r) ∧ t.place = p + b ∧ ¬ t.text = [] ∧ (¬ t.kind = 2 → t.num = 0) ∧ Stands r (t.place + t.text.length) ts

theorem stands_blank {r : List UInt8} {p : Nat} {ts : List Tk} (h : Stands r (p + 1) ts) : Stands (32 :: r) p ts := by
  cases ts with
  | nil =>
    intro c hc
    rcases List.mem_cons.1 hc with rfl | hc
    · rfl
    · exact h c hc
  | cons t ts =>
    obtain ⟨b, q, rfl, h1, h2⟩ := h
    exact ⟨b + 1, q, rfl, by omega, h2⟩

theorem lex_stands (l : List UInt8) (p : Nat) : ∀ ts, lexL l p = .ok ts → Stands l p ts := by
  refine lex_induct (C := fun l p => ∀ ts, lexL l p = .ok ts → Stands l p ts) ?_ ?_ ?_ ?_ l.length l p (Nat.le_refl _)
  · intro p ts h
    rw [lex_nil] at h; cases h
    intro c hc; cases hc
  · intro r p ih ts h
    rw [lex_blank] at h
    exact stands_blank (ih ts h)
  · intro l p e h1 h0 hf ts h
    rw [lex_bad h0 h1 hf] at h; cases h
  · intro l p k n v h1 h0 hf hn hl ih ts h
    rw [lex_tok h1 hn hf] at h
    obtain ⟨ts', h', rfl⟩ := after_ok h
    refine ⟨0, l.drop n, by simp, rfl, ?_, (first_num hf).2.1, ?_⟩
    · intro e
      have := congrArg List.length e
      rw [List.length_take, List.length_nil] at this
      omega
    · have := ih ts' h'
      rwa [show (l.take n).length = n by simp; omega]

/-- The texts, a blank between. -/
def joinB : List (List UInt8) → List UInt8
  | [] => []
  | [x] => x
  | x :: y :: r => x ++ 32 :: joinB (y :: r)

def textsT (ts : List Tk) : List UInt8 := joinB (ts.map (·.text))

theorem join_snoc : ∀ (xs : List (List UInt8)) (x : List UInt8), joinB (xs ++ [x]) = if xs = [] then x else joinB xs ++ 32 :: x
  | [], x => rfl
  | [y], x => rfl
  | y :: z :: r, x => by
    rw [if_neg (by simp)]
    have ih := join_snoc (z :: r) x
    rw [if_neg (by simp)] at ih
    show y ++ 32 :: joinB ((z :: r) ++ [x]) = (y ++ 32 :: joinB (z :: r)) ++ 32 :: x
    rw [ih]; simp

theorem join_len : ∀ (xs : List (List UInt8)), (joinB xs).length ≤ (xs.map List.length).sum + xs.length
  | [] => by simp [joinB]
  | [x] => by simp [joinB]
  | x :: y :: r => by
    have := join_len (y :: r)
    show (x ++ 32 :: joinB (y :: r)).length ≤ _
    simp only [List.length_append, List.length_cons, List.map_cons, List.sum_cons] at this ⊢
    omega

theorem lex_sizes (l : List UInt8) (p : Nat) : ∀ ts, lexL l p = .ok ts → (ts.map fun t => t.text.length).sum ≤ l.length ∧ ts.length ≤ l.length ∧ (∀ t ∈ ts, t.text.length ≤ l.length ∧ t.place ≤ p + l.length ∧ (t.kind = 1 ∨ t.kind = 2 ∨ t.kind = 3) ∧ 0 ≤ t.num ∧ t.num ≤ 9223372036854775807) := by
  refine lex_induct (C := fun l p => ∀ ts, lexL l p = .ok ts → (ts.map fun t => t.text.length).sum ≤ l.length ∧ ts.length ≤ l.length ∧ (∀ t ∈ ts, t.text.length ≤ l.length ∧ t.place ≤ p + l.length ∧ (t.kind = 1 ∨ t.kind = 2 ∨ t.kind = 3) ∧ 0 ≤ t.num ∧ t.num ≤ 9223372036854775807)) ?_ ?_ ?_ ?_ l.length l p (Nat.le_refl _)
  · intro p ts h
    rw [lex_nil] at h; cases h
    exact ⟨by simp, by simp, fun t ht => by cases ht⟩
  · intro r p ih ts h
    rw [lex_blank] at h
    obtain ⟨a, b, c⟩ := ih ts h
    exact ⟨by simp; omega, by simp; omega, fun t ht => by have := c t ht; simp; exact ⟨by omega, by omega, this.2.2⟩⟩
  · intro l p e h1 h0 hf ts h
    rw [lex_bad h0 h1 hf] at h; cases h
  · intro l p k n v h1 h0 hf hn hl ih ts h
    rw [lex_tok h1 hn hf] at h
    obtain ⟨ts', h', rfl⟩ := after_ok h
    obtain ⟨a, b, c⟩ := ih ts' h'
    have hf2 := first_num hf
    simp only [List.length_drop] at a b c
    refine ⟨by simp; omega, by simp; omega, fun t ht => ?_⟩
    rcases List.mem_cons.1 ht with rfl | ht
    · exact ⟨by simp; omega, by simp, hf2.1, hf2.2.2⟩
    · have := c t ht
      exact ⟨by omega, by omega, this.2.2⟩

theorem texts_len {l : List UInt8} {p : Nat} {ts : List Tk} (h : lexL l p = .ok ts) : (textsT ts).length ≤ 2 * l.length := by
  obtain ⟨a, b, _⟩ := lex_sizes l p ts h
  have := join_len (ts.map (·.text))
  rw [List.map_map, List.length_map] at this
  unfold textsT
  have e : (List.length ∘ fun t : Tk => t.text) = fun t : Tk => t.text.length := rfl
  rw [e] at this
  omega

end Go.Proofs.YteegdemnajhehaaGreatDoor

namespace Go.Proofs.YteegdemnajhehaaGreatDoor
open Go.RowKit

/-- A row of trees: the first one's Op, Name, N and kids, and the rest. -/
inductive F where
  | nil : F
  | cons (op nm : ByteArray) (n : Int) (ks rest : F) : F

def F.len : F → Nat
  | .nil => 0
  | .cons _ _ _ _ r => r.len + 1

def F.app : F → F → F
  | .nil, g => g
  | .cons o m n k r, g => .cons o m n k (r.app g)

theorem F.app_nil : ∀ f : F, f.app .nil = f
  | .nil => rfl
  | .cons o m n k r => by rw [F.app, F.app_nil r]
theorem F.app_app : ∀ f g h : F, (f.app g).app h = f.app (g.app h)
  | .nil, _, _ => rfl
  | .cons o m n k r, g, h => by rw [F.app, F.app, F.app, F.app_app r g h]
theorem F.app_len : ∀ f g : F, (f.app g).len = f.len + g.len
  | .nil, _ => by simp [F.app, F.len]
  | .cons o m n k r, g => by rw [F.app, F.len, F.len, F.app_len r g]; omega

/-- A tree. -/
structure TN where
  op : ByteArray
  nm : ByteArray
  n : Int
  ks : F

def TN.f (t : TN) : F := .cons t.op t.nm t.n t.ks .nil

/-- The tree at a place of a row. -/
def F.at : F → Nat → Option TN
  | .nil, _ => none
  | .cons o m n k _, 0 => some ⟨o, m, n, k⟩
  | .cons _ _ _ _ r, j + 1 => r.at j

/-- The row from a place on. -/
def F.drop : F → Nat → F
  | f, 0 => f
  | .nil, _ + 1 => .nil
  | .cons _ _ _ _ r, j + 1 => r.drop j

theorem F.drop_zero (f : F) : f.drop 0 = f := by cases f <;> rfl

theorem F.drop_at : ∀ (f : F) (j : Nat), j < f.len → ∃ t, f.at j = some t ∧ f.drop j = .cons t.op t.nm t.n t.ks (f.drop (j + 1))
  | .nil, _, h => by simp [F.len] at h
  | .cons o m n k r, 0, _ => ⟨⟨o, m, n, k⟩, rfl, by rw [F.drop_zero, F.drop, F.drop_zero]⟩
  | .cons o m n k r, j + 1, h => by
    obtain ⟨t, h1, h2⟩ := F.drop_at r j (by simp [F.len] at h; omega)
    exact ⟨t, h1, h2⟩

theorem F.drop_len : ∀ (f : F) (j : Nat), f.len ≤ j → f.drop j = .nil
  | .nil, 0, _ => rfl
  | .nil, _ + 1, _ => rfl
  | .cons o m n k r, 0, h => by simp [F.len] at h
  | .cons o m n k r, j + 1, h => F.drop_len r j (by simp [F.len] at h; omega)

def bNum : List UInt8 := [110, 117, 109]
def bName : List UInt8 := [110, 97, 109, 101]
def bNeg : List UInt8 := [110, 101, 103]

def isNum (o : ByteArray) : Bool := o.data.toList == bNum
def isName (o : ByteArray) : Bool := o.data.toList == bName
def isNeg (o : ByteArray) : Bool := o.data.toList == bNeg
def isMul (o : ByteArray) : Bool := o.data.toList == [42] || o.data.toList == [47] || o.data.toList == [37]
def isAdd (o : ByteArray) : Bool := o.data.toList == [43] || o.data.toList == [45]
def isTwo (o : ByteArray) : Bool := o.data.toList == [43] || o.data.toList == [45] || o.data.toList == [42] || o.data.toList == [47] || o.data.toList == [37]

/-- How many kids an Op has. -/
def arity (o : ByteArray) : Int := if isNum o || isName o then 0 else if isNeg o then 1 else if isTwo o then 2 else -1

/-- The count of nodes that are left over behind a row. -/
def cntF : F → Int → Int
  | .nil, l => l
  | .cons _ _ _ ks r, l => if l < 0 then l else cntF r (cntF ks (l - 1))

/-- What is wrong with a node itself. -/
def errN (o m : ByteArray) (n : Int) (k : Nat) : Int :=
  if (arity o != (k : Int)) = true then 2 else if (isName o && !goodB m.data.toList) = true then 5 else if (isNum o && decide (n < 0)) = true then 1 else 0

def chkF : F → Int
  | .nil => 0
  | .cons o m n ks r => if errN o m n ks.len = 0 then (if chkF ks = 0 then chkF r else chkF ks) else errN o m n ks.len

/-- What is wrong with a tree; 0: nothing. -/
def checkT (t : TN) : Int := if cntF t.ks 31 < 0 then 4 else chkF t.f

theorem chk_tree (t : TN) : chkF t.f = if errN t.op t.nm t.n t.ks.len = 0 then chkF t.ks else errN t.op t.nm t.n t.ks.len := by
  unfold TN.f
  rw [chkF]
  by_cases h : chkF t.ks = 0
  · rw [if_pos h, h]; rfl
  · rw [if_neg h]

/-- The words of a node, its kids' words given. -/
def txtN (o m : ByteArray) (n : Int) (ts : List (List UInt8)) : List UInt8 :=
  if isNum o = true then Lib.itoa n else if isName o = true then m.data.toList
  else if isNeg o = true then 45 :: ts.headD [] else 40 :: (ts.headD [] ++ 32 :: (o.data.toList ++ 32 :: (ts.tail.headD [] ++ [41])))

def txtF : F → List (List UInt8)
  | .nil => []
  | .cons o m n ks r => txtN o m n (txtF ks) :: txtF r

def textE (t : TN) : List UInt8 := txtN t.op t.nm t.n (txtF t.ks)

/-- Are rows of trees the same? -/
def sameF : F → F → Bool
  | .nil, .nil => true
  | .cons o m n ks r, .cons o' m' n' ks' r' => (o.data.toList == o'.data.toList) && (ks.len == ks'.len) && !(isNum o && n != n') && !(isName o && m.data.toList != m'.data.toList) && sameF ks ks' && sameF r r'
  | _, _ => false

def sameT (a b : TN) : Bool := sameF a.f b.f

end Go.Proofs.YteegdemnajhehaaGreatDoor
