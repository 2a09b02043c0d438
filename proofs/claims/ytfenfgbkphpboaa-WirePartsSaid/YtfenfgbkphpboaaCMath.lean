/-
  No statement: plain facts on numbers and texts in bytes.
-/
import Derived.Lib.Varint
import Derived.Lib.Zigzag
import Derived.Lib.VarintMem
import Derived.Lib.VarintDec
namespace Go.Proofs.Ytfenfgbkphpboaa

/-- A number in bytes; a text in bytes. -/
def encI (n : Int) : List UInt8 := Lib.uvarint (Lib.zigzag n)
def encT (s : List UInt8) : List UInt8 := encI (s.length : Nat) ++ s

/-- The number with which bytes begin, still folded, how many bytes it has, and the error: i bytes were read, acc is what they are. -/
def fstF : Nat → Nat → List UInt8 → Nat × Nat × Int
  | _, _, [] => (0, 0, 3)
  | i, acc, c :: r => if i = 9 ∧ 1 < c.toNat then (0, 0, 2) else if 128 ≤ c.toNat then fstF (i + 1) (acc + c.toNat % 128 * 2 ^ (7 * i)) r
      else if c.toNat = 0 ∧ 0 < i then (0, 0, 2) else (acc + c.toNat * 2 ^ (7 * i), i + 1, 0)

theorem pow7 (i : Nat) : 2 ^ (7 * (i + 1)) = 128 * 2 ^ (7 * i) := by
  rw [show 7 * (i + 1) = 7 * i + 7 by omega, Nat.pow_add, Nat.mul_comm]

theorem two_of_pow {i x : Nat} (h9 : i = 9) (h : x * 2 ^ (7 * i) < 18446744073709551616) : x < 2 := by
  subst h9
  rw [show 2 ^ (7 * 9) = 9223372036854775808 by rfl] at h
  omega

theorem fstF_enc : ∀ (n x i acc : Nat) (r : List UInt8), x < n → i ≤ 9 → x * 2 ^ (7 * i) < 18446744073709551616 → (0 < i → 0 < x) → fstF i acc (Lib.uvarint x ++ r) = (acc + x * 2 ^ (7 * i), i + (Lib.uvarint x).length, 0)
  | 0, x, _, _, _, hn, _, _, _ => by omega
  | n + 1, x, i, acc, r, hn, hi, hx, h0 => by
    by_cases hs : x < 128
    · rw [Lib.uvarint_small hs]
      have e : (x.toUInt8).toNat = x := Lib.toUInt8_toNat (by omega)
      show fstF i acc (x.toUInt8 :: r) = _
      unfold fstF
      rw [e, if_neg, if_neg (by omega), if_neg (by omega)]
      · rfl
      · rintro ⟨h9, h1⟩
        have := two_of_pow h9 hx
        omega
    · rw [Lib.uvarint_big (by omega)]
      have e : ((x % 128 + 128).toUInt8).toNat = x % 128 + 128 := Lib.toUInt8_toNat (by omega)
      have hi8 : i ≠ 9 := fun h9 => by
        have := two_of_pow h9 hx
        omega
      show fstF i acc ((x % 128 + 128).toUInt8 :: (Lib.uvarint (x / 128) ++ r)) = _
      rw [fstF, e, if_neg (fun h => hi8 h.1), if_pos (by omega)]
      have hd : x = x / 128 * 128 + x % 128 := by omega
      have hq : x / 128 * 2 ^ (7 * (i + 1)) + x % 128 * 2 ^ (7 * i) = x * 2 ^ (7 * i) := by
        rw [pow7, ← Nat.mul_assoc, ← Nat.add_mul, ← hd]
      rw [fstF_enc n (x / 128) (i + 1) _ r (by omega) (by omega) (by omega) (fun _ => by omega)]
      rw [List.length_cons, show (x % 128 + 128) % 128 = x % 128 by omega]
      congr 1
      · omega
      · congr 1; omega

theorem zig_lt {x : Int} (h0 : -9223372036854775808 ≤ x) (h1 : x ≤ 9223372036854775807) : Lib.zigzag x < 18446744073709551616 := Lib.zigzag_lt h0 h1

theorem fst_enc {n : Int} (h0 : -9223372036854775808 ≤ n) (h1 : n ≤ 9223372036854775807) (r : List UInt8) : fstF 0 0 (encI n ++ r) = (Lib.zigzag n, (encI n).length, 0) := by
  unfold encI
  rw [fstF_enc _ _ 0 0 r (Nat.lt_succ_self _) (by omega) (by rw [Nat.mul_zero, Nat.pow_zero, Nat.mul_one]; exact zig_lt h0 h1) (fun h => by omega)]
  rw [Nat.mul_zero, Nat.pow_zero, Nat.mul_one, Nat.zero_add, Nat.zero_add]

/-- What is cut ends too early. -/
theorem fstF_cut : ∀ (n x i acc k : Nat), x < n → i ≤ 9 → x * 2 ^ (7 * i) < 18446744073709551616 → k < (Lib.uvarint x).length → fstF i acc ((Lib.uvarint x).take k) = (0, 0, 3)
  | 0, x, _, _, _, hn, _, _, _ => by omega
  | n + 1, x, i, acc, 0, hn, hi, hx, hk => rfl
  | n + 1, x, i, acc, k + 1, hn, hi, hx, hk => by
    by_cases hs : x < 128
    · rw [Lib.uvarint_small hs] at hk
      simp at hk
    · rw [Lib.uvarint_big (by omega)] at hk ⊢
      have e : ((x % 128 + 128).toUInt8).toNat = x % 128 + 128 := Lib.toUInt8_toNat (by omega)
      have hi8 : i ≠ 9 := fun h9 => by
        have := two_of_pow h9 hx
        omega
      rw [List.take_succ_cons, fstF, e, if_neg (fun h => hi8 h.1), if_pos (by omega)]
      have hd : x = x / 128 * 128 + x % 128 := by omega
      have hq : x / 128 * 2 ^ (7 * (i + 1)) + x % 128 * 2 ^ (7 * i) = x * 2 ^ (7 * i) := by
        rw [pow7, ← Nat.mul_assoc, ← Nat.add_mul, ← hd]
      exact fstF_cut n (x / 128) (i + 1) _ k (by omega) (by omega) (by omega) (by simpa using hk)

theorem fst_cut {n : Int} (h0 : -9223372036854775808 ≤ n) (h1 : n ≤ 9223372036854775807) {k : Nat} (hk : k < (encI n).length) : fstF 0 0 ((encI n).take k) = (0, 0, 3) :=
  fstF_cut _ _ 0 0 k (Nat.lt_succ_self _) (by omega) (by rw [Nat.mul_zero, Nat.pow_zero, Nat.mul_one]; exact zig_lt h0 h1) hk

/-- A byte more than is needed. -/
theorem fstF_more : ∀ (n x i acc : Nat) (c : UInt8), x < n → i ≤ 9 → x * 2 ^ (7 * i) < 18446744073709551616 → 128 ≤ c.toNat → fstF i acc ((Lib.uvarint x).dropLast ++ [c, 0]) = (0, 0, 2)
  | 0, x, _, _, _, hn, _, _, _ => by omega
  | n + 1, x, i, acc, c, hn, hi, hx, hc => by
    by_cases hs : x < 128
    · rw [Lib.uvarint_small hs]
      show fstF i acc [c, 0] = _
      unfold fstF
      by_cases h9 : i = 9
      · rw [if_pos ⟨h9, by omega⟩]
      · rw [if_neg (fun h => h9 h.1), if_pos hc]
        unfold fstF
        rw [if_neg (fun h => by simp at h), if_neg (by simp), if_pos ⟨by simp, by omega⟩]
    · rw [Lib.uvarint_big (by omega)]
      have e : ((x % 128 + 128).toUInt8).toNat = x % 128 + 128 := Lib.toUInt8_toNat (by omega)
      have hi8 : i ≠ 9 := fun h9 => by
        have := two_of_pow h9 hx
        omega
      have hne : Lib.uvarint (x / 128) ≠ [] := fun h => by have := Lib.uvarint_pos (x / 128); rw [h] at this; simp at this
      rw [List.dropLast_cons_of_ne_nil hne, List.cons_append, fstF, e, if_neg (fun h => hi8 h.1), if_pos (by omega)]
      have hd : x = x / 128 * 128 + x % 128 := by omega
      have hq : x / 128 * 2 ^ (7 * (i + 1)) + x % 128 * 2 ^ (7 * i) = x * 2 ^ (7 * i) := by
        rw [pow7, ← Nat.mul_assoc, ← Nat.add_mul, ← hd]
      exact fstF_more n (x / 128) (i + 1) _ c (by omega) (by omega) (by omega) hc

theorem fst_more {n : Int} (h0 : -9223372036854775808 ≤ n) (h1 : n ≤ 9223372036854775807) {c : UInt8} (hc : 128 ≤ c.toNat) : fstF 0 0 ((encI n).dropLast ++ [c, 0]) = (0, 0, 2) :=
  fstF_more _ _ 0 0 c (Nat.lt_succ_self _) (by omega) (by rw [Nat.mul_zero, Nat.pow_zero, Nat.mul_one]; exact zig_lt h0 h1) hc

theorem pow_le9 {i : Nat} (hi : i ≤ 9) : 2 ^ (7 * i) ≤ 9223372036854775808 := by
  rw [show (9223372036854775808 : Nat) = 2 ^ (7 * 9) by rfl]
  exact Nat.pow_le_pow_right (by decide) (by omega)

theorem pow_le8 {i : Nat} (hi : i ≤ 8) : 128 * 2 ^ (7 * i) ≤ 9223372036854775808 := by
  rw [← pow7]
  exact pow_le9 (by omega)

/-- What is read is a number of 64 bits, of as many bytes as are there. -/
theorem fstF_ok : ∀ (l : List UInt8) (i acc : Nat), i ≤ 9 → acc < 2 ^ (7 * i) → (fstF i acc l).1 < 18446744073709551616 ∧ ((fstF i acc l).2.2 = 0 ∨ (fstF i acc l).2.2 = 2 ∨ (fstF i acc l).2.2 = 3) ∧ ((fstF i acc l).2.2 = 0 → i < (fstF i acc l).2.1 ∧ (fstF i acc l).2.1 ≤ i + l.length)
  | [], _, _, _, _ => ⟨by simp [fstF], by simp [fstF], by simp [fstF]⟩
  | c :: r, i, acc, hi, ha => by
    have hc := c.toNat_lt
    unfold fstF
    by_cases h1 : i = 9 ∧ 1 < c.toNat
    · rw [if_pos h1]; simp
    rw [if_neg h1]
    have hp := pow_le9 hi
    by_cases h2 : 128 ≤ c.toNat
    · rw [if_pos h2]
      have h8 : i ≠ 9 := fun h => h1 ⟨h, by omega⟩
      have ha2 : acc + c.toNat % 128 * 2 ^ (7 * i) < 2 ^ (7 * (i + 1)) := by
        rw [pow7]
        have : c.toNat % 128 * 2 ^ (7 * i) ≤ 127 * 2 ^ (7 * i) := Nat.mul_le_mul_right _ (by omega)
        omega
      obtain ⟨k1, k2, k3⟩ := fstF_ok r (i + 1) _ (by omega) ha2
      refine ⟨k1, k2, fun h => ?_⟩
      have := k3 h
      rw [List.length_cons]
      omega
    rw [if_neg h2]
    by_cases h3 : c.toNat = 0 ∧ 0 < i
    · rw [if_pos h3]; simp
    rw [if_neg h3]
    refine ⟨?_, Or.inl rfl, fun _ => ⟨by simp, by simp⟩⟩
    show acc + c.toNat * 2 ^ (7 * i) < _
    by_cases h9 : i = 9
    · subst h9
      rw [show 2 ^ (7 * 9) = 9223372036854775808 by rfl] at *
      have : c.toNat ≤ 1 := by omega
      omega
    · have hp8 := pow_le8 (show i ≤ 8 by omega)
      have : c.toNat * 2 ^ (7 * i) ≤ 127 * 2 ^ (7 * i) := Nat.mul_le_mul_right _ (by omega)
      omega

theorem fst_ok (l : List UInt8) : (fstF 0 0 l).1 < 18446744073709551616 ∧ ((fstF 0 0 l).2.2 = 0 ∨ (fstF 0 0 l).2.2 = 2 ∨ (fstF 0 0 l).2.2 = 3) ∧ ((fstF 0 0 l).2.2 = 0 → 0 < (fstF 0 0 l).2.1 ∧ (fstF 0 0 l).2.1 ≤ l.length) := by
  have := fstF_ok l 0 0 (by omega) (by decide)
  simpa using this

/-- Folded, and back. -/
theorem unz_zig {x : Int} : Lib.unzigzag (Lib.zigzag x) = x := by
  unfold Lib.zigzag Lib.unzigzag
  split <;> split <;> omega

theorem unz_in {u : Nat} (h : u < 18446744073709551616) : -9223372036854775808 ≤ Lib.unzigzag u ∧ Lib.unzigzag u ≤ 9223372036854775807 := by
  unfold Lib.unzigzag
  split <;> omega

/-- What is left to be read, and the first error. -/
abbrev DS := List UInt8 × Int

def failD (d : DS) (e : Int) : DS := if d.2 = 0 then ([], e) else d

/-- A number of lo to hi read. -/
def dNum (lo hi : Int) (d : DS) : Int × DS :=
  if (fstF 0 0 d.1).2.2 = 0 then (if lo ≤ Lib.unzigzag (fstF 0 0 d.1).1 ∧ Lib.unzigzag (fstF 0 0 d.1).1 ≤ hi then (Lib.unzigzag (fstF 0 0 d.1).1, d.1.drop (fstF 0 0 d.1).2.1, d.2) else (0, failD d 2))
  else (0, failD d (fstF 0 0 d.1).2.2)

def dInt (d : DS) : Int × DS := dNum (-9223372036854775808) 9223372036854775807 d

/-- A text read. -/
def dText (d : DS) : List UInt8 × DS :=
  if ((dNum 0 9223372036854775807 d).2.1.length : Int) < (dNum 0 9223372036854775807 d).1 then ([], failD (dNum 0 9223372036854775807 d).2 3)
  else ((dNum 0 9223372036854775807 d).2.1.take (dNum 0 9223372036854775807 d).1.toNat, (dNum 0 9223372036854775807 d).2.1.drop (dNum 0 9223372036854775807 d).1.toNat, (dNum 0 9223372036854775807 d).2.2)

theorem dNum_enc {lo hi n : Int} (h0 : -9223372036854775808 ≤ n) (h1 : n ≤ 9223372036854775807) (hl : lo ≤ n) (hh : n ≤ hi) (r : List UInt8) (e : Int) : dNum lo hi (encI n ++ r, e) = (n, r, e) := by
  unfold dNum
  rw [show ((encI n ++ r, e) : DS).1 = encI n ++ r from rfl, fst_enc h0 h1 r]
  simp only [if_true]
  rw [unz_zig, if_pos ⟨hl, hh⟩, List.drop_left]

theorem dInt_enc {n : Int} (h0 : -9223372036854775808 ≤ n) (h1 : n ≤ 9223372036854775807) (r : List UInt8) (e : Int) : dInt (encI n ++ r, e) = (n, r, e) := dNum_enc h0 h1 h0 h1 r e

theorem dText_enc {s : List UInt8} (h : s.length ≤ 9223372036854775807) (r : List UInt8) (e : Int) : dText (encT s ++ r, e) = (s, r, e) := by
  unfold dText encT
  rw [List.append_assoc, dNum_enc (by omega) (by omega) (by omega) (by omega)]
  simp only
  rw [if_neg (by rw [List.length_append]; omega), Int.toNat_natCast, List.take_left, List.drop_left]

theorem dNum_bound (lo hi : Int) (d : DS) : 0 ≤ (dNum lo hi d).1 ∨ lo ≤ (dNum lo hi d).1 := by
  unfold dNum
  split
  · split
    · rename_i h; exact .inr h.1
    · exact .inl (Int.le_refl _)
  · exact .inl (Int.le_refl _)

/-- From the first error on there is nothing left. -/
def OkD (d : DS) : Prop := d.2 = 0 ∨ d.1 = []

theorem failD_ok {d : DS} (h : OkD d) {e : Int} : OkD (failD d e) := by
  unfold failD
  split
  · exact .inr rfl
  · exact h

theorem dNum_ok {lo hi : Int} {d : DS} (h : OkD d) : OkD (dNum lo hi d).2 := by
  unfold dNum
  split
  · split
    · rcases h with h | h
      · exact .inl h
      · right; show List.drop _ d.1 = []; rw [h]; simp
    · exact failD_ok h
  · exact failD_ok h

theorem dText_ok {d : DS} (h : OkD d) : OkD (dText d).2 := by
  unfold dText
  split
  · exact failD_ok (dNum_ok h)
  · rcases dNum_ok (lo := 0) (hi := 9223372036854775807) h with h | h
    · exact .inl h
    · right; show List.drop _ _ = []; rw [h]; simp

/-- What is left is an end of what was. -/
theorem dNum_left (lo hi : Int) (d : DS) : ∃ k, (dNum lo hi d).2.1 = d.1.drop k := by
  have hf : ∀ e, ∃ k, (failD d e).1 = d.1.drop k := fun e => by
    unfold failD
    split
    · exact ⟨d.1.length, by simp⟩
    · exact ⟨0, rfl⟩
  unfold dNum
  split
  · split
    · exact ⟨_, rfl⟩
    · exact hf _
  · exact hf _

end Go.Proofs.Ytfenfgbkphpboaa
