/-
  No statement: what the document's Number reads, told of lists of bytes.
-/
import Derived.Test.YtdghknmlleffbaaDoorVBack
namespace Go.Proofs.YtdghknmlleffbaaDoor
open Go.RowKit

def isD (c : UInt8) : Prop := 48 ≤ c.toNat ∧ c.toNat ≤ 57
/-- What digits tell. -/
def valD (d : List UInt8) : Nat := d.foldl (fun u c => 10 * u + (c.toNat - 48)) 0

theorem valD_snoc (d : List UInt8) (c : UInt8) : valD (d ++ [c]) = 10 * valD d + (c.toNat - 48) := by unfold valD; rw [List.foldl_append]; rfl

theorem dec_val (u : Nat) : valD (Lib.decDigits u) = u := by
  induction u using Nat.strongRecOn with
  | _ u ih =>
    rw [Lib.decDigits]
    by_cases h : u < 10
    · rw [dif_pos h]
      show 10 * 0 + ((UInt8.ofNat (48 + u)).toNat - 48) = u
      rw [digit_of u h]; omega
    · rw [dif_neg h, valD_snoc, ih (u / 10) (by omega), digit_of _ (Nat.mod_lt _ (by omega))]
      omega

theorem dec_len : ∀ (k u : Nat), u < 10 ^ (k + 1) → (Lib.decDigits u).length ≤ k + 1
  | 0, u, h => by rw [Lib.decDigits, dif_pos (by omega)]; simp
  | k + 1, u, h => by
    rw [Lib.decDigits]
    by_cases h10 : u < 10
    · rw [dif_pos h10]; simp
    · rw [dif_neg h10, List.length_append]
      have := dec_len k (u / 10) (by rw [Nat.div_lt_iff_lt_mul (by omega)]; rw [Nat.pow_succ] at h; exact h)
      simp; omega

theorem dec_head (u : Nat) : 0 < u → ∀ r, ¬ Lib.decDigits u = 48 :: r := by
  induction u using Nat.strongRecOn with
  | _ u ih =>
    intro hu r e
    rw [Lib.decDigits] at e
    by_cases h : u < 10
    · rw [dif_pos h] at e
      have e1 : UInt8.ofNat (48 + u) = 48 := (List.cons.inj e).1
      have := digit_of u h
      rw [e1] at this
      have : (48 : UInt8).toNat = 48 := rfl
      omega
    · rw [dif_neg h] at e
      obtain ⟨c, q, hc, _⟩ := dec_cons (u / 10)
      rw [hc, List.cons_append] at e
      have e1 := (List.cons.inj e).1
      subst e1
      exact ih (u / 10) (by omega) (by omega) q hc

theorem dec_zero : Lib.decDigits 0 = [48] := by rw [Lib.decDigits, dif_pos (by omega)]; rfl

theorem u8_back {c : UInt8} (h : isD c) : UInt8.ofNat (48 + (c.toNat - 48)) = c := by
  rw [show 48 + (c.toNat - 48) = c.toNat by have := h.1; omega]
  exact UInt8.ofNat_toNat

theorem val_dec : ∀ (n : Nat) (d : List UInt8), d.length = n → ¬ d = [] → (∀ c ∈ d, isD c) → (∀ r, d = 48 :: r → r = []) → Lib.decDigits (valD d) = d := by
  intro n
  induction n with
  | zero => intro d hl hn _ _; exact absurd (List.length_eq_zero_iff.1 hl) hn
  | succ n ih =>
    intro d hl hn hd h0
    rcases List.eq_nil_or_concat d with e | ⟨e, c, rfl⟩
    · exact absurd e hn
    · rw [List.concat_eq_append] at *
      have hc : isD c := hd c (by simp)
      rw [valD_snoc]
      by_cases he : e = []
      · subst he
        rw [show valD [] = 0 from rfl, Nat.mul_zero, Nat.zero_add, Lib.decDigits, dif_pos (by have := hc.2; omega), u8_back hc]
        rfl
      · have ih2 := ih e (by simp at hl; exact hl) he (fun x hx => hd x (by simp [hx])) (fun r hr => by
          have := h0 (r ++ [c]) (by rw [hr]; rfl)
          simp at this)
        have hpos : 0 < valD e := by
          rcases Nat.eq_zero_or_pos (valD e) with h | h
          · rw [h, dec_zero] at ih2
            have := h0 [c] (by rw [← ih2]; rfl)
            cases this
          · exact h
        have hx : c.toNat - 48 < 10 := by have := hc.2; omega
        rw [Lib.decDigits, dif_neg (by omega), show (10 * valD e + (c.toNat - 48)) / 10 = valD e by omega, show (10 * valD e + (c.toNat - 48)) % 10 = c.toNat - 48 by omega, ih2, u8_back hc]

theorem val_lt : ∀ (n : Nat) (d : List UInt8), d.length = n → (∀ c ∈ d, isD c) → valD d < 10 ^ n := by
  intro n
  induction n with
  | zero => intro d hl _; rw [List.length_eq_zero_iff.1 hl]; decide
  | succ n ih =>
    intro d hl hd
    rcases List.eq_nil_or_concat d with rfl | ⟨e, c, rfl⟩
    · simp at hl
    · rw [List.concat_eq_append] at *
      have hc : isD c := hd c (by simp)
      have := ih e (by simp at hl; exact hl) (fun x hx => hd x (by simp [hx]))
      have h2 := hc.2
      rw [valD_snoc, Nat.pow_succ]; omega

/-- May these be the digits behind the sign? -/
def okD (neg : Bool) (d : List UInt8) : Prop := ¬ d = [] ∧ d.length ≤ 19 ∧ (∀ c ∈ d, isD c) ∧ (∀ r, d = 48 :: r → r = [] ∧ neg = false)

/-- A number's own text is told by digits that may be. -/
theorem num_some {l : List UInt8} {v : Int} (h : numOf l = some v) :
    (v < 0 ∧ ∃ d, l = 45 :: d ∧ okD true d ∧ valD d = v.natAbs) ∨ (0 ≤ v ∧ okD false l ∧ valD l = v.toNat) := by
  have hl : Lib.itoa v = l ∧ In64 v := by
    unfold numOf at h
    split at h
    · rename_i x hx
      split at h
      · rename_i he
        cases h
        exact ⟨he, parse_in hx⟩
      · cases h
    · cases h
  obtain ⟨hl, h1, h2⟩ := hl
  have ok : ∀ (u : Nat) (neg : Bool), u ≤ 9223372036854775808 → (neg = true → 0 < u) → okD neg (Lib.decDigits u) := fun u neg hu hn => by
    refine ⟨?_, dec_len 18 u (by omega), dec_digits u, fun r e => ?_⟩
    · obtain ⟨c, r, hc, _⟩ := dec_cons u; rw [hc]; simp
    · rcases Nat.eq_zero_or_pos u with h | h
      · subst h
        rw [dec_zero] at e
        refine ⟨by simpa using e.symm, ?_⟩
        cases neg with
        | false => rfl
        | true => exact absurd (hn rfl) (by omega)
      · exact absurd e (dec_head u h r)
  unfold Lib.itoa at hl
  by_cases h0 : v < 0
  · rw [if_pos h0] at hl
    exact .inl ⟨h0, _, hl.symm, ok _ _ (by omega) (fun _ => by omega), dec_val _⟩
  · rw [if_neg h0] at hl
    subst hl
    exact .inr ⟨by omega, ok _ _ (by omega) (fun h => by cases h), dec_val _⟩

theorem num_neg {d : List UInt8} (h : okD true d) (hv : valD d ≤ 9223372036854775808) : numOf (45 :: d) = some (-(valD d : Int)) := by
  obtain ⟨h1, h2, h3, h4⟩ := h
  have hd := val_dec _ d rfl h1 h3 (fun r hr => (h4 r hr).1)
  have hpos : 0 < valD d := by
    rcases Nat.eq_zero_or_pos (valD d) with h | h
    · rw [h, dec_zero] at hd
      have := (h4 [] hd.symm).2
      cases this
    · exact h
  have hn : In64 (-(valD d : Int)) := by unfold In64; omega
  have := num_itoa hn
  rwa [Lib.itoa, if_pos (by omega), show (-(valD d : Int)).natAbs = valD d by omega, hd] at this

theorem num_pos {d : List UInt8} (h : okD false d) (hv : valD d ≤ 9223372036854775807) : numOf d = some (valD d : Int) := by
  obtain ⟨h1, h2, h3, h4⟩ := h
  have hd := val_dec _ d rfl h1 h3 (fun r hr => (h4 r hr).1)
  have hn : In64 (valD d : Int) := by unfold In64; omega
  have := num_itoa hn
  rwa [Lib.itoa, if_neg (by omega), show ((valD d : Int)).toNat = valD d by omega, hd] at this

theorem num_in {l : List UInt8} {v : Int} (h : numOf l = some v) : In64 v := by
  unfold numOf at h
  split at h
  · rename_i x hx
    split at h
    · cases h; exact parse_in hx
    · cases h
  · cases h

theorem none_neg {d : List UInt8} (h : ¬ (okD true d ∧ valD d ≤ 9223372036854775808)) : numOf (45 :: d) = none := by
  cases e : numOf (45 :: d) with
  | none => rfl
  | some v =>
    have hi := num_in e
    unfold In64 at hi
    rcases num_some e with ⟨h0, d', hd, ho, hv⟩ | ⟨h0, ho, hv⟩
    · cases hd
      exact absurd ⟨ho, by omega⟩ h
    · have := ho.2.2.1 45 (by simp)
      exact absurd this.1 (by decide)

theorem none_pos {d : List UInt8} (h0 : ∀ r, ¬ d = 45 :: r) (h : ¬ (okD false d ∧ valD d ≤ 9223372036854775807)) : numOf d = none := by
  cases e : numOf d with
  | none => rfl
  | some v =>
    have hi := num_in e
    unfold In64 at hi
    rcases num_some e with ⟨_, d', hd, _⟩ | ⟨h1, ho, hv⟩
    · exact absurd hd (h0 d')
    · exact absurd ⟨ho, by omega⟩ h

end Go.Proofs.YtdghknmlleffbaaDoor
