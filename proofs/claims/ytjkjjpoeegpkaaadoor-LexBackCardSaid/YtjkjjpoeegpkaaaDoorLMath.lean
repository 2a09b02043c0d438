/-
  No statement: words of the language as plain facts on lists of bytes.
-/
import Derived.Test.YtjkjjpoeegpkaaaDoorLNum
import Derived.Test.YtjkjjpoeegpkaaaDoorSParts
namespace Go.Proofs.YtjkjjpoeegpkaaaDoor
open Go.RowKit

/-- How many bytes at the head pass a test. -/
def runL (p : UInt8 → Bool) (l : List UInt8) : Nat := (l.takeWhile p).length

def oneSign (c : UInt8) : Bool := c == 40 || c == 41 || c == 44 || c == 61 || c == 60 || c == 62 || c == 43 || c == 45 || c == 42 || c == 47 || c == 37
def twoSign (c d : UInt8) : Bool := d == 61 && (c == 33 || c == 60 || c == 62)

/-- How long the sign is that a text begins with. -/
def signL : List UInt8 → Nat
  | [] => 0
  | [c] => if oneSign c then 1 else 0
  | c :: d :: _ => if twoSign c d then 2 else if oneSign c then 1 else 0

/-- The first token: its Kind, its length, what it counts; or why there is none. -/
inductive Fst | bad (e : Int) | tok (k : Int) (n : Nat) (v : Int)

def nameF (l : List UInt8) : Fst := if 8 < runL alnumB l then .bad 5 else .tok 1 (runL alnumB l) 0
def numF (l : List UInt8) : Fst :=
  if (1 < runL digitB l ∧ l.head? = some 48) ∨ (∃ d, (l.drop (runL digitB l)).head? = some d ∧ smallB d = true) then .bad 2
  else if 9223372036854775807 < valD (l.take (runL digitB l)) then .bad 1 else .tok 2 (runL digitB l) (valD (l.take (runL digitB l)))
def signF (l : List UInt8) : Fst := if signL l = 0 then .bad 2 else .tok 3 (signL l) 0

def firstF : List UInt8 → Fst
  | [] => .bad 2
  | c :: r => if smallB c then nameF (c :: r) else if digitB c then numF (c :: r) else signF (c :: r)

/-- A token as plain data. -/
structure Tk where
  kind : Int
  text : List UInt8
  num : Int
  place : Nat

instance : Inhabited Tk := ⟨⟨0, [], 0, 0⟩⟩

/-- What the lexer ends with. -/
inductive LexEnd | bad (p : Nat) (e : Int) | ok (ts : List Tk)

def LexEnd.after (acc : List Tk) : LexEnd → LexEnd
  | .bad p e => .bad p e
  | .ok ts => .ok (acc ++ ts)

theorem after_nil (E : LexEnd) : E.after [] = E := by cases E <;> rfl
theorem after_after (a b : List Tk) (E : LexEnd) : (E.after b).after a = E.after (a ++ b) := by cases E <;> simp [LexEnd.after]

def lexL : List UInt8 → Nat → LexEnd
  | [], _ => .ok []
  | c :: r, p =>
    if c = 32 then lexL r (p + 1)
    else match firstF (c :: r) with
      | .bad e => .bad p e
      | .tok k n v => (lexL (r.drop (n - 1)) (p + n)).after [⟨k, (c :: r).take n, v, p⟩]
termination_by l => l.length
decreasing_by
  all_goals simp
  omega

theorem lex_nil (p : Nat) : lexL [] p = .ok [] := by rw [lexL]
theorem lex_blank (r : List UInt8) (p : Nat) : lexL (32 :: r) p = lexL r (p + 1) := by rw [lexL, if_pos rfl]
theorem lex_bad {l : List UInt8} {p : Nat} {e : Int} (h0 : ¬ l = []) (h1 : ¬ l.head? = some 32) (h : firstF l = .bad e) : lexL l p = .bad p e := by
  cases l with
  | nil => exact absurd rfl h0
  | cons c r =>
    rw [lexL, if_neg (by simpa using h1), h]
theorem lex_tok {l : List UInt8} {p n : Nat} {k v : Int} (h1 : ¬ l.head? = some 32) (hn : 1 ≤ n) (h : firstF l = .tok k n v) : lexL l p = (lexL (l.drop n) (p + n)).after [⟨k, l.take n, v, p⟩] := by
  cases l with
  | nil => cases h
  | cons c r =>
    rw [lexL, if_neg (by simpa using h1), h]
    simp only
    obtain ⟨m, rfl⟩ : ∃ m, n = m + 1 := ⟨n - 1, by omega⟩
    rfl

theorem lex_blanks : ∀ (b : Nat) (r : List UInt8) (p : Nat), lexL (List.replicate b 32 ++ r) p = lexL r (p + b)
  | 0, _, _ => rfl
  | b + 1, r, p => by
    rw [List.replicate_succ, List.cons_append, lex_blank, lex_blanks b r (p + 1), Nat.add_assoc, Nat.add_comm 1 b]

theorem run_le (q : UInt8 → Bool) (l : List UInt8) : runL q l ≤ l.length := by
  unfold runL
  have := congrArg List.length (List.takeWhile_append_dropWhile (p := q) (l := l))
  rw [List.length_append] at this
  omega

theorem take_len {a b l : List UInt8} (h : a ++ b = l) : l.take a.length = a ∧ l.drop a.length = b := by
  subst h; simp

theorem take_run (q : UInt8 → Bool) (l : List UInt8) : l.take (runL q l) = l.takeWhile q := by
  exact (take_len (List.takeWhile_append_dropWhile (p := q) (l := l))).1

theorem drop_run (q : UInt8 → Bool) (l : List UInt8) : l.drop (runL q l) = l.dropWhile q := by
  exact (take_len (List.takeWhile_append_dropWhile (p := q) (l := l))).2

/-- The run is n bytes when n bytes pass and the next one does not. -/
theorem run_is {q : UInt8 → Bool} : ∀ {l : List UInt8} {n : Nat}, n ≤ l.length → (∀ j (h : j < l.length), j < n → q l[j] = true) → (∀ h : n < l.length, q l[n] = false) → runL q l = n
  | [], n, h, _, _ => by simp at h; subst h; rfl
  | c :: r, 0, _, _, h2 => by
    have := h2 (by simp)
    unfold runL
    rw [List.takeWhile_cons_of_neg (by simpa using this)]; rfl
  | c :: r, n + 1, h, h1, h2 => by
    have hc := h1 0 (by simp) (by omega)
    have ih := run_is (q := q) (l := r) (n := n) (by simpa using h) (fun j hj hn => by have := h1 (j + 1) (by simpa using hj) (by omega); simpa using this) (fun hn => by have := h2 (by simpa using hn); simpa using this)
    unfold runL at ih ⊢
    rw [List.takeWhile_cons_of_pos (by simpa using hc)]
    simp [ih]

theorem digit_iff (c : UInt8) : digitB c = true ↔ isD c := by
  unfold digitB isD
  simp
  omega

theorem run_pos {q : UInt8 → Bool} {c : UInt8} {r : List UInt8} (h : q c = true) : 1 ≤ runL q (c :: r) := by
  unfold runL
  rw [List.takeWhile_cons_of_pos h]; simp

theorem sign_le (l : List UInt8) : signL l ≤ l.length := by
  match l with
  | [] => simp [signL]
  | [c] =>
    show (if oneSign c then 1 else 0) ≤ 1
    split <;> omega
  | c :: d :: r =>
    show (if twoSign c d then 2 else if oneSign c then 1 else 0) ≤ r.length + 1 + 1
    split
    · omega
    · split <;> omega

theorem first_len {l : List UInt8} {k v : Int} {n : Nat} (h : firstF l = .tok k n v) : 1 ≤ n ∧ n ≤ l.length := by
  cases l with
  | nil => cases h
  | cons c r =>
    simp only [firstF] at h
    split at h
    · rename_i hs
      unfold nameF at h
      split at h
      · cases h
      · cases h
        exact ⟨run_pos (by unfold alnumB; simp [hs]), run_le _ _⟩
    · split at h
      · rename_i hd
        unfold numF at h
        split at h
        · cases h
        · split at h
          · cases h
          · cases h
            exact ⟨run_pos hd, run_le _ _⟩
      · unfold signF at h
        split at h
        · cases h
        · cases h
          exact ⟨by omega, sign_le _⟩

/-- What counts nothing but a Num. -/
theorem first_num {l : List UInt8} {k v : Int} {n : Nat} (h : firstF l = .tok k n v) : (k = 1 ∨ k = 2 ∨ k = 3) ∧ (¬ k = 2 → v = 0) ∧ 0 ≤ v ∧ v ≤ 9223372036854775807 := by
  cases l with
  | nil => cases h
  | cons c r =>
    simp only [firstF] at h
    split at h
    · unfold nameF at h
      split at h
      · cases h
      · cases h; exact ⟨.inl rfl, fun _ => rfl, by omega, by omega⟩
    · split at h
      · unfold numF at h
        split at h
        · cases h
        · split at h
          · cases h
          · cases h; exact ⟨.inr (.inl rfl), fun h => absurd rfl h, by omega, by omega⟩
      · unfold signF at h
        split at h
        · cases h
        · cases h; exact ⟨.inr (.inr rfl), fun _ => rfl, by omega, by omega⟩

theorem lex_skip (l : List UInt8) (p : Nat) : lexL l p = lexL (l.drop (runL (· == 32) l)) (p + runL (· == 32) l) := by
  induction l generalizing p with
  | nil => rfl
  | cons c r ih =>
    by_cases h : c = 32
    · subst h
      rw [lex_blank, ih (p + 1)]
      have : runL (· == 32) (32 :: r) = runL (· == 32) r + 1 := by unfold runL; rw [List.takeWhile_cons_of_pos (by decide)]; rfl
      rw [this, List.drop_succ_cons]
      congr 1
      omega
    · have : runL (· == 32) (c :: r) = 0 := by unfold runL; rw [List.takeWhile_cons_of_neg (by simpa using h)]; rfl
      rw [this]; rfl

theorem skip_head (l : List UInt8) : ¬ (l.drop (runL (· == 32) l)).head? = some 32 := by
  rw [drop_run]
  intro h
  have := List.head?_dropWhile_not (p := fun c : UInt8 => c == 32) (l := l)
  rw [h] at this
  simp at this

/-- All cases of a text's first token. -/
theorem lex_cases (l : List UInt8) (p : Nat) (h1 : ¬ l.head? = some 32) : (l = [] ∧ lexL l p = .ok []) ∨ (∃ e, ¬ l = [] ∧ firstF l = .bad e ∧ lexL l p = .bad p e) ∨
    ∃ k n v, ¬ l = [] ∧ firstF l = .tok k n v ∧ 1 ≤ n ∧ n ≤ l.length ∧ lexL l p = (lexL (l.drop n) (p + n)).after [⟨k, l.take n, v, p⟩] := by
  by_cases h0 : l = []
  · subst h0; exact .inl ⟨rfl, lex_nil p⟩
  · right
    cases h : firstF l with
    | bad e => exact .inl ⟨e, h0, rfl, lex_bad h0 h1 h⟩
    | tok k n v =>
      obtain ⟨a, b⟩ := first_len h
      exact .inr ⟨k, n, v, h0, rfl, a, b, lex_tok h1 a h⟩

/-- An induction that goes as the lexer does. -/
theorem lex_induct {C : List UInt8 → Nat → Prop} (hnil : ∀ p, C [] p) (hblank : ∀ r p, C r (p + 1) → C (32 :: r) p) (hbad : ∀ l p e, ¬ l.head? = some 32 → ¬ l = [] → firstF l = .bad e → C l p)
    (htok : ∀ l p k n v, ¬ l.head? = some 32 → ¬ l = [] → firstF l = .tok k n v → 1 ≤ n → n ≤ l.length → C (l.drop n) (p + n) → C l p) : ∀ (m : Nat) (l : List UInt8) (p : Nat), l.length ≤ m → C l p := by
  intro m
  induction m with
  | zero =>
    intro l p h
    obtain rfl : l = [] := List.length_eq_zero_iff.1 (by omega)
    exact hnil p
  | succ m ih =>
    intro l p h
    by_cases h32 : l.head? = some 32
    · cases l with
      | nil => cases h32
      | cons c r =>
        obtain rfl : c = 32 := by simpa using h32
        exact hblank r p (ih r (p + 1) (by simpa using h))
    · rcases lex_cases l p h32 with ⟨rfl, _⟩ | ⟨e, h0, hf, _⟩ | ⟨k, n, v, h0, hf, h1, h2, _⟩
      · exact hnil p
      · exact hbad l p e h32 h0 hf
      · exact htok l p k n v h32 h0 hf h1 h2 (ih _ _ (by simp; omega))

theorem after_ok {E : LexEnd} {a ts : List Tk} (h : E.after a = .ok ts) : ∃ ts', E = .ok ts' ∧ ts = a ++ ts' := by
  cases E with
  | bad p e => cases h
  | ok x => cases h; exact ⟨x, rfl, rfl⟩

/-- Each word stands where it says. -/
def Stands : List UInt8 → Nat → List Tk → Prop
  | l, _, [] => ∀ c ∈ l, c = 32
  | l, p, t :: ts => ∃ b r, l = List.replicate b 32 ++ (t.text ++ r) ∧ t.place = p + b ∧ ¬ t.text = [] ∧ (¬ t.kind = 2 → t.num = 0) ∧ Stands r (t.place + t.text.length) ts

theorem stands_blank {r : List UInt8} {p : Nat} {ts : List Tk} (h : Stands r (p + 1) ts) : Stands (32 :: r) p ts := by
  cases ts with
  | nil =>
    intro c hc
    rcases List.mem_cons.1 hc with rfl | hc
    · rfl
    · exact h c hc
  | cons t ts =>
    obtain ⟨b, q, rfl, h1, h2⟩ := h
    exact ⟨b + 1, q, rfl, by omega, h2⟩

theorem lex_stands (l : List UInt8) (p : Nat) : ∀ ts, lexL l p = .ok ts → Stands l p ts := by
  refine lex_induct (C := fun l p => ∀ ts, lexL l p = .ok ts → Stands l p ts) ?_ ?_ ?_ ?_ l.length l p (Nat.le_refl _)
  · intro p ts h
    rw [lex_nil] at h; cases h
    intro c hc; cases hc
  · intro r p ih ts h
    rw [lex_blank] at h
    exact stands_blank (ih ts h)
  · intro l p e h1 h0 hf ts h
    rw [lex_bad h0 h1 hf] at h; cases h
  · intro l p k n v h1 h0 hf hn hl ih ts h
    rw [lex_tok h1 hn hf] at h
    obtain ⟨ts', h', rfl⟩ := after_ok h
    refine ⟨0, l.drop n, by simp, rfl, ?_, (first_num hf).2.1, ?_⟩
    · intro e
      have := congrArg List.length e
      rw [List.length_take, List.length_nil] at this
      omega
    · have := ih ts' h'
      rwa [show (l.take n).length = n by simp; omega]

/-- The texts, a blank between. -/
def joinB : List (List UInt8) → List UInt8
  | [] => []
  | [x] => x
  | x :: y :: r => x ++ 32 :: joinB (y :: r)

def textsT (ts : List Tk) : List UInt8 := joinB (ts.map (·.text))

theorem join_snoc : ∀ (xs : List (List UInt8)) (x : List UInt8), joinB (xs ++ [x]) = if xs = [] then x else joinB xs ++ 32 :: x
  | [], x => rfl
  | [y], x => rfl
  | y :: z :: r, x => by
    rw [if_neg (by simp)]
    have ih := join_snoc (z :: r) x
    rw [if_neg (by simp)] at ih
    show y ++ 32 :: joinB ((z :: r) ++ [x]) = (y ++ 32 :: joinB (z :: r)) ++ 32 :: x
    rw [ih]; simp

theorem join_len : ∀ (xs : List (List UInt8)), (joinB xs).length ≤ (xs.map List.length).sum + xs.length
  | [] => by simp [joinB]
  | [x] => by simp [joinB]
  | x :: y :: r => by
    have := join_len (y :: r)
    show (x ++ 32 :: joinB (y :: r)).length ≤ _
    simp only [List.length_append, List.length_cons, List.map_cons, List.sum_cons] at this ⊢
    omega

theorem lex_sizes (l : List UInt8) (p : Nat) : ∀ ts, lexL l p = .ok ts → (ts.map fun t => t.text.length).sum ≤ l.length ∧ ts.length ≤ l.length ∧ (∀ t ∈ ts, t.text.length ≤ l.length ∧ t.place ≤ p + l.length ∧ (t.kind = 1 ∨ t.kind = 2 ∨ t.kind = 3) ∧ 0 ≤ t.num ∧ t.num ≤ 9223372036854775807) := by
  refine lex_induct (C := fun l p => ∀ ts, lexL l p = .ok ts → (ts.map fun t => t.text.length).sum ≤ l.length ∧ ts.length ≤ l.length ∧ (∀ t ∈ ts, t.text.length ≤ l.length ∧ t.place ≤ p + l.length ∧ (t.kind = 1 ∨ t.kind = 2 ∨ t.kind = 3) ∧ 0 ≤ t.num ∧ t.num ≤ 9223372036854775807)) ?_ ?_ ?_ ?_ l.length l p (Nat.le_refl _)
  · intro p ts h
    rw [lex_nil] at h; cases h
    exact ⟨by simp, by simp, fun t ht => by cases ht⟩
  · intro r p ih ts h
    rw [lex_blank] at h
    obtain ⟨a, b, c⟩ := ih ts h
    exact ⟨by simp; omega, by simp; omega, fun t ht => by have := c t ht; simp; exact ⟨by omega, by omega, this.2.2⟩⟩
  · intro l p e h1 h0 hf ts h
    rw [lex_bad h0 h1 hf] at h; cases h
  · intro l p k n v h1 h0 hf hn hl ih ts h
    rw [lex_tok h1 hn hf] at h
    obtain ⟨ts', h', rfl⟩ := after_ok h
    obtain ⟨a, b, c⟩ := ih ts' h'
    have hf2 := first_num hf
    simp only [List.length_drop] at a b c
    refine ⟨by simp; omega, by simp; omega, fun t ht => ?_⟩
    rcases List.mem_cons.1 ht with rfl | ht
    · exact ⟨by simp; omega, by simp, hf2.1, hf2.2.2⟩
    · have := c t ht
      exact ⟨by omega, by omega, this.2.2⟩

theorem texts_len {l : List UInt8} {p : Nat} {ts : List Tk} (h : lexL l p = .ok ts) : (textsT ts).length ≤ 2 * l.length := by
  obtain ⟨a, b, _⟩ := lex_sizes l p ts h
  have := join_len (ts.map (·.text))
  rw [List.map_map, List.length_map] at this
  unfold textsT
  have e : (List.length ∘ fun t : Tk => t.text) = fun t : Tk => t.text.length := rfl
  rw [e] at this
  omega

end Go.Proofs.YtjkjjpoeegpkaaaDoor
