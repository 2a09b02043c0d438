/-
  No statement: what Text answers of a value is read again as that value.
-/
import Derived.Test.YtdghknmlleffbaaDoorVParseAll
import Derived.Test.YtdghknmlleffbaaDoorVText
namespace Go.Proofs.YtdghknmlleffbaaDoor
open Go.RowKit

theorem parse_snoc (M : Nat) (c : UInt8) (hc : 48 ≤ c.toNat ∧ c.toNat ≤ 57) : ∀ (l : List UInt8) (acc v : Nat), Lib.parseUintM M acc l = .ok v → v < 1844674407370955162 → v * 10 + (c.toNat - 48) ≤ M → Lib.parseUintM M acc (l ++ [c]) = .ok (v * 10 + (c.toNat - 48))
  | [], acc, v, h, hv, hM => by
    simp only [Lib.parseUintM, Lib.NumEnd.ok.injEq] at h
    subst h
    rw [List.nil_append, Lib.parseUintM, if_pos hc, if_neg (by omega), if_neg (by omega), Lib.parseUintM]
  | d :: r, acc, v, h, hv, hM => by
    rw [Lib.parseUintM] at h
    rw [List.cons_append, Lib.parseUintM]
    by_cases h1 : 48 ≤ d.toNat ∧ d.toNat ≤ 57
    · rw [if_pos h1] at h ⊢
      by_cases h2 : 1844674407370955162 ≤ acc
      · rw [if_pos h2] at h; cases h
      · rw [if_neg h2] at h ⊢
        by_cases h3 : M < acc * 10 + (d.toNat - 48)
        · rw [if_pos h3] at h; cases h
        · rw [if_neg h3] at h ⊢
          exact parse_snoc M c hc r _ v h hv hM
    · rw [if_neg h1] at h; cases h

theorem digit_of (m : Nat) (h : m < 10) : (UInt8.ofNat (48 + m)).toNat = 48 + m := by rw [UInt8.toNat_ofNat']; omega

theorem parse_dec (u : Nat) (hu : u ≤ 9223372036854775808) : Lib.parseUintM (2 ^ 64 - 1) 0 (Lib.decDigits u) = .ok u := by
  induction u using Nat.strongRecOn with
  | _ u ih =>
    rw [Lib.decDigits]
    by_cases h : u < 10
    · rw [dif_pos h]
      have := parse_snoc (2 ^ 64 - 1) (UInt8.ofNat (48 + u)) (by rw [digit_of u h]; omega) [] 0 0 rfl (by omega) (by rw [digit_of u h]; omega)
      rw [digit_of u h] at this
      simpa using this
    · rw [dif_neg h]
      have h2 : u % 10 < 10 := Nat.mod_lt _ (by omega)
      have := parse_snoc (2 ^ 64 - 1) (UInt8.ofNat (48 + u % 10)) (by rw [digit_of _ h2]; omega) _ 0 (u / 10) (ih (u / 10) (by omega) (by omega)) (by omega) (by rw [digit_of _ h2]; omega)
      rw [digit_of _ h2] at this
      rw [this]
      congr 1
      omega

theorem dec_digits (u : Nat) : ∀ c ∈ Lib.decDigits u, 48 ≤ c.toNat ∧ c.toNat ≤ 57 := by
  induction u using Nat.strongRecOn with
  | _ u ih =>
    rw [Lib.decDigits]
    by_cases h : u < 10
    · rw [dif_pos h]
      intro c hc
      obtain rfl := List.mem_singleton.1 hc
      rw [digit_of u h]; omega
    · rw [dif_neg h]
      have h2 : u % 10 < 10 := Nat.mod_lt _ (by omega)
      intro c hc
      rcases List.mem_append.1 hc with hc | hc
      · exact ih (u / 10) (by omega) c hc
      · obtain rfl := List.mem_singleton.1 hc
        rw [digit_of _ h2]; omega

theorem dec_cons (u : Nat) : ∃ c r, Lib.decDigits u = c :: r ∧ 48 ≤ c.toNat ∧ c.toNat ≤ 57 := by
  cases h : Lib.decDigits u with
  | nil =>
    rw [Lib.decDigits] at h
    split at h <;> simp at h
  | cons c r => exact ⟨c, r, rfl, dec_digits u c (by rw [h]; simp)⟩

theorem num_itoa {n : Int} (hn : In64 n) : numOf (Lib.itoa n) = some n := by
  obtain ⟨h1, h2⟩ := hn
  have hp : Lib.parseIntB 64 (Lib.itoa n) = .ok n := by
    unfold Lib.itoa
    by_cases h0 : n < 0
    · rw [if_pos h0]
      obtain ⟨c, r, hc, _⟩ := dec_cons n.natAbs
      have e1 : Lib.parseUintB 64 (Lib.decDigits n.natAbs) = .ok n.natAbs := by rw [Lib.parseUintB, if_neg (by rw [hc]; simp), parse_dec _ (by omega)]
      have e2 : ¬ 9223372036854775808 < n.natAbs := by omega
      have e3 : -(n.natAbs : Int) = n := by omega
      simp [Lib.parseIntB, e1, e2]
      omega
    · rw [if_neg h0]
      obtain ⟨c, r, hc, hd⟩ := dec_cons n.toNat
      have e1 : Lib.parseUintB 64 (Lib.decDigits n.toNat) = .ok n.toNat := by rw [Lib.parseUintB, if_neg (by rw [hc]; simp), parse_dec _ (by omega)]
      have e2 : ¬ 9223372036854775808 ≤ n.toNat := by omega
      have e4 : ¬ c.toNat = 43 := by omega
      have e5 : ¬ c.toNat = 45 := by omega
      rw [hc] at e1 ⊢
      simp [Lib.parseIntB, e1, e2, e4, e5]
      omega
  unfold numOf
  rw [hp]
  simp

theorem itoa_cons (n : Int) : ∃ c r, Lib.itoa n = c :: r ∧ ¬ c = 34 ∧ ¬ c = 91 := by
  unfold Lib.itoa
  split
  · exact ⟨45, _, rfl, by decide, by decide⟩
  · obtain ⟨c, r, hc, hd⟩ := dec_cons n.toNat
    refine ⟨c, r, hc, fun e => ?_, fun e => ?_⟩ <;> (subst e; simp at hd)

theorem itoa_no32 (n : Int) : ∀ c ∈ Lib.itoa n, ¬ c = 32 := by
  unfold Lib.itoa
  split
  · intro c hc e
    subst e
    rcases List.mem_cons.1 hc with h | h
    · exact absurd h (by decide)
    · have := dec_digits _ _ h; simp at this
  · intro c hc e
    subst e
    have := dec_digits _ _ hc; simp at this

theorem splitL_one {x : List UInt8} (h : ∀ c ∈ x, ¬ c = 32) : splitL x = [x] :=
  splitL_last x fun _ hk => h 32 (List.mem_of_getElem? hk) rfl

theorem splitL_snoc {x : List UInt8} (h : ∀ c ∈ x, ¬ c = 32) : ∀ y, splitL (y ++ 32 :: x) = splitL y ++ [x]
  | [] => by simp [splitL, splitL_one h]
  | c :: r => by
    have ih := splitL_snoc h r
    rw [List.cons_append, splitL, splitL]
    by_cases hc : c = 32
    · rw [if_pos hc, if_pos hc, ih]; rfl
    · rw [if_neg hc, if_neg hc, ih]
      cases hs : splitL r with
      | nil => exact absurd hs (splitL_ne r)
      | cons y0 ys => rfl

theorem numsOf_snoc {x : List UInt8} {n : Int} (hx : numOf x = some n) : ∀ {l : List (List UInt8)} {ns : List Int}, numsOf l = some ns → numsOf (l ++ [x]) = some (ns ++ [n])
  | [], ns, h => by cases h; simp [numsOf, hx]
  | y :: l, ns, h => by
    rw [numsOf] at h
    split at h
    · rename_i m ms e1 e2
      cases h
      rw [List.cons_append, numsOf, e1, numsOf_snoc hx e2]; rfl
    · cases h

theorem upTo_succ (z : Nat → Int) (k : Nat) : upTo z (k + 1) = upTo z k ++ [z k] := by simp [upTo, List.range_succ]

/-- What stands behind the first bracket. -/
theorem body_of (z : Nat → Int) (hz : ∀ j, In64 (z j)) : ∀ k, ∃ b, listPre z (k + 1) = 91 :: b ∧ ¬ b = [] ∧ numsOf (splitL b) = some (upTo z (k + 1))
  | 0 => by
    obtain ⟨c, r, hc, _⟩ := itoa_cons (z 0)
    refine ⟨Lib.itoa (z 0), by simp [listPre], by rw [hc]; simp, ?_⟩
    rw [splitL_one (itoa_no32 _)]
    simp [numsOf, num_itoa (hz 0), upTo]
  | k + 1 => by
    obtain ⟨b, h1, h2, h3⟩ := body_of z hz k
    refine ⟨b ++ 32 :: Lib.itoa (z (k + 1)), ?_, by simp, ?_⟩
    · rw [listPre, if_neg (by omega), h1]; simp
    · rw [splitL_snoc (itoa_no32 _), numsOf_snoc (num_itoa (hz _)) h3, ← upTo_succ]

theorem inner_mid (a e : UInt8) (l : List UInt8) : inner (a :: (l ++ [e])) e = some l := by
  unfold inner
  rw [if_pos ⟨by simp, by rw [← List.cons_append]; exact List.getLast?_concat⟩]
  simp

theorem raw_text (t : List UInt8) : raw (34 :: (t ++ [34])) = some (.text t) := by
  rw [raw, if_pos rfl, inner_mid]; rfl

theorem raw_list (z : Nat → Int) (hz : ∀ j, In64 (z j)) (n : Nat) : raw (listT z n) = some (.list (upTo z n)) := by
  cases n with
  | zero => rfl
  | succ n =>
    obtain ⟨b, h1, h2, h3⟩ := body_of z hz n
    rw [listT, h1, List.cons_append, raw, if_neg (by decide), if_pos rfl, inner_mid]
    simp only [Option.bind_some]
    rw [if_neg h2, h3]; rfl

theorem raw_num {n : Int} (hn : In64 n) : raw (Lib.itoa n) = some (.num n) := by
  have h := num_itoa hn
  obtain ⟨c, r, hc, h34, h91⟩ := itoa_cons n
  rw [hc] at h ⊢
  rw [raw, if_neg h34, if_neg h91, h]; rfl

end Go.Proofs.YtdghknmlleffbaaDoor
