/-
  No statement: numbers as plain facts: what digits tell, and what the library reads of them.
-/
import Derived.Test.YtjkjjpoeegpkaaaDoorBase
import Derived.Lib.ParseIntB
import Derived.Lib.AtoiErrMem
import Derived.Lib.AppendIntMem
namespace Go.Proofs.YtjkjjpoeegpkaaaDoor
open Go.RowKit

/-- Within 64 bits. -/
def In64 (a : Int) : Prop := -9223372036854775808 ≤ a ∧ a ≤ 9223372036854775807

/-- The number that l tells, told just so. -/
def numOf (l : List UInt8) : Option Int :=
  match Lib.parseIntB 64 l with
  | .ok v => if Lib.itoa v = l then some v else none
  | _ => none

theorem parse_in {l : List UInt8} {v : Int} (h : Lib.parseIntB 64 l = .ok v) : In64 v := by
  cases l with
  | nil => simp [Lib.parseIntB] at h
  | cons c r =>
    simp only [Lib.parseIntB] at h
    split at h
    · cases h
    · cases h
    · rename_i u hu
      split at h
      · cases h
      · split at h
        · cases h
        · simp only [Lib.NumEnd.ok.injEq] at h
          unfold In64
          split at h <;> omega

theorem parse_snoc (M : Nat) (c : UInt8) (hc : 48 ≤ c.toNat ∧ c.toNat ≤ 57) : ∀ (l : List UInt8) (acc v : Nat), Lib.parseUintM M acc l = .ok v → v < 1844674407370955162 → v * 10 + (c.toNat - 48) ≤ M → Lib.parseUintM M acc (l ++ [c]) = .ok (v * 10 + (c.toNat - 48))
  | [], acc, v, h, hv, hM => by
    simp only [Lib.parseUintM, Lib.NumEnd.ok.injEq] at h
    subst h
    rw [List.nil_append, Lib.parseUintM, if_pos hc, if_neg (by omega), if_neg (by omega), Lib.parseUintM]
  | d :: r, acc, v, h, hv, hM => by
    rw [Lib.parseUintM] at h
    rw [List.cons_append, Lib.parseUintM]
    by_cases h1 : 48 ≤ d.toNat ∧ d.toNat ≤ 57
    · rw [if_pos h1] at h ⊢
      by_cases h2 : 1844674407370955162 ≤ acc
      · rw [if_pos h2] at h; cases h
      · rw [if_neg h2] at h ⊢
        by_cases h3 : M < acc * 10 + (d.toNat - 48)
        · rw [if_pos h3] at h; cases h
        · rw [if_neg h3] at h ⊢
          exact parse_snoc M c hc r _ v h hv hM
    · rw [if_neg h1] at h; cases h

theorem digit_of (m : Nat) (h : m < 10) : (UInt8.ofNat (48 + m)).toNat = 48 + m := by rw [UInt8.toNat_ofNat']; omega

theorem parse_dec (u : Nat) (hu : u ≤ 9223372036854775808) : Lib.parseUintM (2 ^ 64 - 1) 0 (Lib.decDigits u) = .ok u := by
  induction u using Nat.strongRecOn with
  | _ u ih =>
    rw [Lib.decDigits]
    by_cases h : u < 10
    · rw [dif_pos h]
      have := parse_snoc (2 ^ 64 - 1) (UInt8.ofNat (48 + u)) (by rw [digit_of u h]; omega) [] 0 0 rfl (by omega) (by rw [digit_of u h]; omega)
      rw [digit_of u h] at this
      simpa using this
    · rw [dif_neg h]
      have h2 : u % 10 < 10 := Nat.mod_lt _ (by omega)
      have := parse_snoc (2 ^ 64 - 1) (UInt8.ofNat (48 + u % 10)) (by rw [digit_of _ h2]; omega) _ 0 (u / 10) (ih (u / 10) (by omega) (by omega)) (by omega) (by rw [digit_of _ h2]; omega)
      rw [digit_of _ h2] at this
      rw [this]
      congr 1
      omega

theorem dec_digits (u : Nat) : ∀ c ∈ Lib.decDigits u, 48 ≤ c.toNat ∧ c.toNat ≤ 57 := by
  induction u using Nat.strongRecOn with
  | _ u ih =>
    rw [Lib.decDigits]
    by_cases h : u < 10
    · rw [dif_pos h]
      intro c hc
      obtain rfl := List.mem_singleton.1 hc
      rw [digit_of u h]; omega
    · rw [dif_neg h]
      have h2 : u % 10 < 10 := Nat.mod_lt _ (by omega)
      intro c hc
      rcases List.mem_append.1 hc with hc | hc
      · exact ih (u / 10) (by omega) c hc
      · obtain rfl := List.mem_singleton.1 hc
        rw [digit_of _ h2]; omega

theorem dec_cons (u : Nat) : ∃ c r, Lib.decDigits u = c :: r ∧ 48 ≤ c.toNat ∧ c.toNat ≤ 57 := by
  cases h : Lib.decDigits u with
  | nil =>
    rw [Lib.decDigits] at h
    split at h <;> simp at h
  | cons c r => exact ⟨c, r, rfl, dec_digits u c (by rw [h]; simp)⟩

theorem num_itoa {n : Int} (hn : In64 n) : numOf (Lib.itoa n) = some n := by
  obtain ⟨h1, h2⟩ := hn
  have hp : Lib.parseIntB 64 (Lib.itoa n) = .ok n := by
    unfold Lib.itoa
    by_cases h0 : n < 0
    · rw [if_pos h0]
      obtain ⟨c, r, hc, _⟩ := dec_cons n.natAbs
      have e1 : Lib.parseUintB 64 (Lib.decDigits n.natAbs) = .ok n.natAbs := by rw [Lib.parseUintB, if_neg (by rw [hc]; simp), parse_dec _ (by omega)]
      have e2 : ¬ 9223372036854775808 < n.natAbs := by omega
      have e3 : -(n.natAbs : Int) = n := by omega
      simp [Lib.parseIntB, e1, e2]
      omega
    · rw [if_neg h0]
      obtain ⟨c, r, hc, hd⟩ := dec_cons n.toNat
      have e1 : Lib.parseUintB 64 (Lib.decDigits n.toNat) = .ok n.toNat := by rw [Lib.parseUintB, if_neg (by rw [hc]; simp), parse_dec _ (by omega)]
      have e2 : ¬ 9223372036854775808 ≤ n.toNat := by omega
      have e4 : ¬ c.toNat = 43 := by omega
      have e5 : ¬ c.toNat = 45 := by omega
      rw [hc] at e1 ⊢
      simp [Lib.parseIntB, e1, e2, e4, e5]
      omega
  unfold numOf
  rw [hp]
  simp

def isD (c : UInt8) : Prop := 48 ≤ c.toNat ∧ c.toNat ≤ 57

/-- What digits tell. -/
def valD (d : List UInt8) : Nat := d.foldl (fun u c => 10 * u + (c.toNat - 48)) 0

theorem valD_snoc (d : List UInt8) (c : UInt8) : valD (d ++ [c]) = 10 * valD d + (c.toNat - 48) := by unfold valD; rw [List.foldl_append]; rfl

theorem dec_val (u : Nat) : valD (Lib.decDigits u) = u := by
  induction u using Nat.strongRecOn with
  | _ u ih =>
    rw [Lib.decDigits]
    by_cases h : u < 10
    · rw [dif_pos h]
      show 10 * 0 + ((UInt8.ofNat (48 + u)).toNat - 48) = u
      rw [digit_of u h]; omega
    · rw [dif_neg h, valD_snoc, ih (u / 10) (by omega), digit_of _ (Nat.mod_lt _ (by omega))]
      omega

theorem dec_len : ∀ (k u : Nat), u < 10 ^ (k + 1) → (Lib.decDigits u).length ≤ k + 1
  | 0, u, h => by rw [Lib.decDigits, dif_pos (by omega)]; simp
  | k + 1, u, h => by
    rw [Lib.decDigits]
    by_cases h10 : u < 10
    · rw [dif_pos h10]; simp
    · rw [dif_neg h10, List.length_append]
      have := dec_len k (u / 10) (by rw [Nat.div_lt_iff_lt_mul (by omega)]; rw [Nat.pow_succ] at h; exact h)
      simp; omega

theorem dec_head (u : Nat) : 0 < u → ∀ r, ¬ Lib.decDigits u = 48 :: r := by
  induction u using Nat.strongRecOn with
  | _ u ih =>
    intro hu r e
    rw [Lib.decDigits] at e
    by_cases h : u < 10
    · rw [dif_pos h] at e
      have e1 : UInt8.ofNat (48 + u) = 48 := (List.cons.inj e).1
      have := digit_of u h
      rw [e1] at this
      have : (48 : UInt8).toNat = 48 := rfl
      omega
    · rw [dif_neg h] at e
      obtain ⟨c, q, hc, _⟩ := dec_cons (u / 10)
      rw [hc, List.cons_append] at e
      have e1 := (List.cons.inj e).1
      subst e1
      exact ih (u / 10) (by omega) (by omega) q hc

theorem dec_zero : Lib.decDigits 0 = [48] := by rw [Lib.decDigits, dif_pos (by omega)]; rfl

theorem u8_back {c : UInt8} (h : isD c) : UInt8.ofNat (48 + (c.toNat - 48)) = c := by
  rw [show 48 + (c.toNat - 48) = c.toNat by have := h.1; omega]
  exact UInt8.ofNat_toNat

theorem val_dec : ∀ (n : Nat) (d : List UInt8), d.length = n → ¬ d = [] → (∀ c ∈ d, isD c) → (∀ r, d = 48 :: r → r = []) → Lib.decDigits (valD d) = d := by
  intro n
  induction n with
  | zero => intro d hl hn _ _; exact absurd (List.length_eq_zero_iff.1 hl) hn
  | succ n ih =>
    intro d hl hn hd h0
    rcases List.eq_nil_or_concat d with e | ⟨e, c, rfl⟩
    · exact absurd e hn
    · rw [List.concat_eq_append] at *
      have hc : isD c := hd c (by simp)
      rw [valD_snoc]
      by_cases he : e = []
      · subst he
        rw [show valD [] = 0 from rfl, Nat.mul_zero, Nat.zero_add, Lib.decDigits, dif_pos (by have := hc.2; omega), u8_back hc]
        rfl
      · have ih2 := ih e (by simp at hl; exact hl) he (fun x hx => hd x (by simp [hx])) (fun r hr => by
          have := h0 (r ++ [c]) (by rw [hr]; rfl)
          simp at this)
        have hpos : 0 < valD e := by
          rcases Nat.eq_zero_or_pos (valD e) with h | h
          · rw [h, dec_zero] at ih2
            have := h0 [c] (by rw [← ih2]; rfl)
            cases this
          · exact h
        have hx : c.toNat - 48 < 10 := by have := hc.2; omega
        rw [Lib.decDigits, dif_neg (by omega), show (10 * valD e + (c.toNat - 48)) / 10 = valD e by omega, show (10 * valD e + (c.toNat - 48)) % 10 = c.toNat - 48 by omega, ih2, u8_back hc]

theorem val_lt : ∀ (n : Nat) (d : List UInt8), d.length = n → (∀ c ∈ d, isD c) → valD d < 10 ^ n := by
  intro n
  induction n with
  | zero => intro d hl _; rw [List.length_eq_zero_iff.1 hl]; decide
  | succ n ih =>
    intro d hl hd
    rcases List.eq_nil_or_concat d with rfl | ⟨e, c, rfl⟩
    · simp at hl
    · rw [List.concat_eq_append] at *
      have hc : isD c := hd c (by simp)
      have := ih e (by simp at hl; exact hl) (fun x hx => hd x (by simp [hx]))
      have h2 := hc.2
      rw [valD_snoc, Nat.pow_succ]; omega

/-- May these be the digits behind the sign? -/
def okD (neg : Bool) (d : List UInt8) : Prop := ¬ d = [] ∧ d.length ≤ 19 ∧ (∀ c ∈ d, isD c) ∧ (∀ r, d = 48 :: r → r = [] ∧ neg = false)

/-- A number's own text is told by digits that may be. -/
theorem num_some {l : List UInt8} {v : Int} (h : numOf l = some v) :
    (v < 0 ∧ ∃ d, l = 45 :: d ∧ okD true d ∧ valD d = v.natAbs) ∨ (0 ≤ v ∧ okD false l ∧ valD l = v.toNat) := by
  have hl : Lib.itoa v = l ∧ In64 v := by
    unfold numOf at h
    split at h
    · rename_i x hx
      split at h
      · rename_i he
        cases h
        exact ⟨he, parse_in hx⟩
      · cases h
    · cases h
  obtain ⟨hl, h1, h2⟩ := hl
  have ok : ∀ (u : Nat) (neg : Bool), u ≤ 9223372036854775808 → (neg = true → 0 < u) → okD neg (Lib.decDigits u) := fun u neg hu hn => by
    refine ⟨?_, dec_len 18 u (by omega), dec_digits u, fun r e => ?_⟩
    · obtain ⟨c, r, hc, _⟩ := dec_cons u; rw [hc]; simp
    · rcases Nat.eq_zero_or_pos u with h | h
      · subst h
        rw [dec_zero] at e
        refine ⟨by simpa using e.symm, ?_⟩
        cases neg with
        | false => rfl
        | true => exact absurd (hn rfl) (by omega)
      · exact absurd e (dec_head u h r)
  unfold Lib.itoa at hl
  by_cases h0 : v < 0
  · rw [if_pos h0] at hl
    exact .inl ⟨h0, _, hl.symm, ok _ _ (by omega) (fun _ => by omega), dec_val _⟩
  · rw [if_neg h0] at hl
    subst hl
    exact .inr ⟨by omega, ok _ _ (by omega) (fun h => by cases h), dec_val _⟩

theorem num_neg {d : List UInt8} (h : okD true d) (hv : valD d ≤ 9223372036854775808) : numOf (45 :: d) = some (-(valD d : Int)) := by
  obtain ⟨h1, h2, h3, h4⟩ := h
  have hd := val_dec _ d rfl h1 h3 (fun r hr => (h4 r hr).1)
  have hpos : 0 < valD d := by
    rcases Nat.eq_zero_or_pos (valD d) with h | h
    · rw [h, dec_zero] at hd
      have := (h4 [] hd.symm).2
      cases this
    · exact h
  have hn : In64 (-(valD d : Int)) := by unfold In64; omega
  have := num_itoa hn
  rwa [Lib.itoa, if_pos (by omega), show (-(valD d : Int)).natAbs = valD d by omega, hd] at this

theorem num_pos {d : List UInt8} (h : okD false d) (hv : valD d ≤ 9223372036854775807) : numOf d = some (valD d : Int) := by
  obtain ⟨h1, h2, h3, h4⟩ := h
  have hd := val_dec _ d rfl h1 h3 (fun r hr => (h4 r hr).1)
  have hn : In64 (valD d : Int) := by unfold In64; omega
  have := num_itoa hn
  rwa [Lib.itoa, if_neg (by omega), show ((valD d : Int)).toNat = valD d by omega, hd] at this

theorem num_in {l : List UInt8} {v : Int} (h : numOf l = some v) : In64 v := by
  unfold numOf at h
  split at h
  · rename_i x hx
    split at h
    · cases h; exact parse_in hx
    · cases h
  · cases h

theorem none_neg {d : List UInt8} (h : ¬ (okD true d ∧ valD d ≤ 9223372036854775808)) : numOf (45 :: d) = none := by
  cases e : numOf (45 :: d) with
  | none => rfl
  | some v =>
    have hi := num_in e
    unfold In64 at hi
    rcases num_some e with ⟨h0, d', hd, ho, hv⟩ | ⟨h0, ho, hv⟩
    · cases hd
      exact absurd ⟨ho, by omega⟩ h
    · have := ho.2.2.1 45 (by simp)
      exact absurd this.1 (by decide)

theorem none_pos {d : List UInt8} (h0 : ∀ r, ¬ d = 45 :: r) (h : ¬ (okD false d ∧ valD d ≤ 9223372036854775807)) : numOf d = none := by
  cases e : numOf d with
  | none => rfl
  | some v =>
    have hi := num_in e
    unfold In64 at hi
    rcases num_some e with ⟨_, d', hd, _⟩ | ⟨h1, ho, hv⟩
    · exact absurd hd (h0 d')
    · exact absurd ⟨ho, by omega⟩ h

theorem parseM_digits : ∀ (d : List UInt8) (acc v : Nat), Lib.parseUintM (2 ^ 64 - 1) acc d = .ok v → (∀ c ∈ d, isD c) → v = d.foldl (fun u c => 10 * u + (c.toNat - 48)) acc
  | [], acc, v, h, _ => by simp only [Lib.parseUintM, Lib.NumEnd.ok.injEq] at h; exact h.symm
  | c :: r, acc, v, h, hd => by
    have hc : 48 ≤ c.toNat ∧ c.toNat ≤ 57 := hd c (by simp)
    rw [Lib.parseUintM, if_pos hc] at h
    by_cases h1 : 1844674407370955162 ≤ acc
    · rw [if_pos h1] at h; cases h
    · rw [if_neg h1] at h
      by_cases h2 : 2 ^ 64 - 1 < acc * 10 + (c.toNat - 48)
      · rw [if_pos h2] at h; cases h
      · rw [if_neg h2] at h
        have := parseM_digits r _ v h (fun x hx => hd x (by simp [hx]))
        rw [this, List.foldl_cons, Nat.mul_comm acc 10]

/-- Digits without a leading nought, and no more than may be, are read as what they tell. -/
theorem parse_digits {d : List UInt8} (h1 : ¬ d = []) (hd : ∀ c ∈ d, isD c) (h0 : ∀ r, d = 48 :: r → r = []) (hv : valD d ≤ 9223372036854775807) : Lib.parseIntB 64 d = .ok (valD d : Int) := by
  have hl : d.length ≤ 19 := by
    have := dec_len 18 (valD d) (by omega)
    rwa [val_dec _ d rfl h1 hd h0] at this
  have h := num_pos (d := d) ⟨h1, hl, hd, fun r hr => ⟨h0 r hr, rfl⟩⟩ hv
  unfold numOf at h
  split at h
  · rename_i v hv'
    split at h
    · cases h; exact hv'
    · cases h
  · cases h

theorem parse_over {d : List UInt8} (hd : ∀ c ∈ d, isD c) (hv : 9223372036854775807 < valD d) (v : Int) : ¬ Lib.parseIntB 64 d = .ok v := by
  intro h
  cases d with
  | nil => simp [Lib.parseIntB] at h
  | cons c r =>
    have hc := hd c (by simp)
    have n1 : ¬ (c.toNat = 43 ∨ c.toNat = 45) := by have := hc.1; omega
    simp only [Lib.parseIntB, if_neg n1] at h
    cases hp : Lib.parseUintB 64 (c :: r) with
    | ok u =>
      rw [hp] at h
      rw [Lib.parseUintB, if_neg (by simp)] at hp
      have hu : u = valD (c :: r) := parseM_digits _ _ _ hp hd
      have n2 : ¬ c.toNat = 45 := by omega
      simp only at h
      rw [if_pos ⟨n2, by rw [hu]; omega⟩] at h
      cases h
    | _ => rw [hp] at h; cases h

theorem num_over {d : List UInt8} (hd : ∀ c ∈ d, isD c) (hv : 9223372036854775807 < valD d) : numOf d = none := by
  unfold numOf
  split
  · rename_i v h; exact absurd h (parse_over hd hv v)
  · rfl

theorem num_digits {d : List UInt8} (h1 : ¬ d = []) (hd : ∀ c ∈ d, isD c) (h0 : ∀ r, d = 48 :: r → r = []) (hv : valD d ≤ 9223372036854775807) : numOf d = some (valD d : Int) := by
  have hl : d.length ≤ 19 := by
    have := dec_len 18 (valD d) (by omega)
    rwa [val_dec _ d rfl h1 hd h0] at this
  exact num_pos ⟨h1, hl, hd, fun r hr => ⟨h0 r hr, rfl⟩⟩ hv

end Go.Proofs.YtjkjjpoeegpkaaaDoor
