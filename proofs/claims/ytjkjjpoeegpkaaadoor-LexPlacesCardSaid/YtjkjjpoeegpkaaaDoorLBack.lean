/-
  No statement: words with blanks between are those words again.
-/
import Derived.Test.YtjkjjpoeegpkaaaDoorLTokens
namespace Go.Proofs.YtjkjjpoeegpkaaaDoor
open Go.RowKit

theorem run_app {q : UInt8 → Bool} : ∀ (x r : List UInt8), (∀ c ∈ x, q c = true) → (∀ c t, r = c :: t → q c = false) → runL q (x ++ r) = x.length
  | [], r, _, h => by
    cases r with
    | nil => rfl
    | cons c t =>
      unfold runL
      rw [List.nil_append, List.takeWhile_cons_of_neg (by rw [h c t rfl]; decide)]
  | c :: x, r, h, h2 => by
    have ih := run_app x r (fun d hd => h d (by simp [hd])) h2
    unfold runL at ih ⊢
    rw [List.cons_append, List.takeWhile_cons_of_pos (h c (by simp)), List.length_cons, ih, List.length_cons]

/-- What may stand behind a word: nothing, or a blank. -/
def Blank (r : List UInt8) : Prop := r = [] ∨ ∃ t, r = 32 :: t

theorem Blank.not {q : UInt8 → Bool} {r : List UInt8} (h : Blank r) (hq : q 32 = false) : ∀ c t, r = c :: t → q c = false := by
  rintro c t rfl
  rcases h with h | ⟨t', h⟩
  · cases h
  · cases h; exact hq

theorem take_all (q : UInt8 → Bool) (l : List UInt8) : ∀ c ∈ l.take (runL q l), q c = true := by
  rw [take_run]
  exact fun c hc => List.all_eq_true.1 List.all_takeWhile c hc

theorem run_take {q : UInt8 → Bool} (hq : q 32 = false) (l : List UInt8) {r : List UInt8} (hr : Blank r) : runL q (l.take (runL q l) ++ r) = runL q l := by
  rw [run_app _ _ (take_all q l) (hr.not hq), List.length_take]
  have := run_le q l
  omega

theorem head_take {l r : List UInt8} {n : Nat} (hn : 1 ≤ n) (hl : n ≤ l.length) : (l.take n ++ r).head? = l.head? := by
  cases l with
  | nil => simp at hl; omega
  | cons c t =>
    obtain ⟨m, rfl⟩ : ∃ m, n = m + 1 := ⟨n - 1, by omega⟩
    rfl

theorem name_back (l : List UInt8) {r : List UInt8} (hr : Blank r) {n : Nat} {k v : Int} (h : nameF l = .tok k n v) : nameF (l.take n ++ r) = .tok k n v := by
  unfold nameF at h ⊢
  split at h
  · cases h
  · rename_i h8
    cases h
    rw [run_take (by decide) l hr, if_neg h8]

theorem num_back (l : List UInt8) {r : List UInt8} (hr : Blank r) (h1 : 1 ≤ runL digitB l) {n : Nat} {k v : Int} (h : numF l = .tok k n v) : numF (l.take n ++ r) = .tok k n v := by
  unfold numF at h
  split at h
  · cases h
  · rename_i hno
    split at h
    · cases h
    · rename_i hv
      cases h
      have hle := run_le digitB l
      have hlen : (l.take (runL digitB l)).length = runL digitB l := by rw [List.length_take]; omega
      unfold numF
      rw [run_take (by decide) l hr, head_take h1 hle, List.take_append_of_le_length (by omega), List.take_take, Nat.min_self, List.drop_append, hlen]
      rw [if_neg, if_neg hv]
      rintro (h | ⟨d, h, hd⟩)
      · exact hno (.inl h)
      · rw [List.drop_of_length_le (by omega), List.nil_append, Nat.sub_self, List.drop_zero] at h
        rcases hr with rfl | ⟨t, rfl⟩
        · cases h
        · cases h
          cases hd

theorem two_blank (c : UInt8) : twoSign c 32 = false := rfl

theorem sign_back (l : List UInt8) {r : List UInt8} (hr : Blank r) (h0 : ¬ signL l = 0) : signL (l.take (signL l) ++ r) = signL l := by
  have one : ∀ c : UInt8, oneSign c = true → signL ([c] ++ r) = 1 := fun c hc => by
    rcases hr with rfl | ⟨t, rfl⟩
    · show (if oneSign c = true then 1 else 0) = 1
      rw [if_pos hc]
    · show (if twoSign c 32 = true then 2 else if oneSign c = true then 1 else 0) = 1
      rw [two_blank, if_neg (by decide), if_pos hc]
  match l with
  | [] => exact absurd rfl h0
  | [c] =>
    have e : signL [c] = if oneSign c = true then 1 else 0 := rfl
    rw [e] at h0 ⊢
    cases hc : oneSign c with
    | false => rw [hc] at h0; exact absurd rfl h0
    | true => rw [if_pos rfl]; exact one c hc
  | c :: d :: q =>
    have e : signL (c :: d :: q) = if twoSign c d = true then 2 else if oneSign c = true then 1 else 0 := rfl
    rw [e] at h0 ⊢
    cases h2 : twoSign c d with
    | true =>
      rw [if_pos rfl]
      show (if twoSign c d = true then 2 else if oneSign c = true then 1 else 0) = 2
      rw [if_pos h2]
    | false =>
      rw [h2] at h0
      rw [if_neg (by decide)] at h0 ⊢
      cases hc : oneSign c with
      | false => rw [hc] at h0; exact absurd rfl h0
      | true => rw [if_pos rfl]; exact one c hc

theorem first_back {l : List UInt8} {r : List UInt8} (hr : Blank r) {n : Nat} {k v : Int} (h : firstF l = .tok k n v) : firstF (l.take n ++ r) = .tok k n v := by
  obtain ⟨hn, hl⟩ := first_len h
  cases l with
  | nil => cases h
  | cons c t =>
    obtain ⟨x, hx⟩ : ∃ x, (c :: t).take n ++ r = c :: x := by
      obtain ⟨m, rfl⟩ : ∃ m, n = m + 1 := ⟨n - 1, by omega⟩
      exact ⟨_, rfl⟩
    simp only [firstF] at h
    rw [hx]
    simp only [firstF]
    rw [← hx]
    split at h
    · rename_i hs
      rw [if_pos hs]; exact name_back _ hr h
    · rename_i hs
      rw [if_neg hs]
      split at h
      · rename_i hd
        rw [if_pos hd]; exact num_back _ hr (run_pos hd) h
      · rename_i hd
        rw [if_neg hd]
        unfold signF at h ⊢
        split at h
        · cases h
        · rename_i h0
          cases h
          rw [sign_back _ hr h0, if_neg h0]

/-- A token, but for its place. -/
def coreT (t : Tk) : Int × List UInt8 × Int := (t.kind, t.text, t.num)

theorem lex_back (l : List UInt8) (p : Nat) : ∀ ts, lexL l p = .ok ts → ∀ q, ∃ ts', lexL (textsT ts) q = .ok ts' ∧ ts'.map coreT = ts.map coreT := by
  refine lex_induct (C := fun l p => ∀ ts, lexL l p = .ok ts → ∀ q, ∃ ts', lexL (textsT ts) q = .ok ts' ∧ ts'.map coreT = ts.map coreT) ?_ ?_ ?_ ?_ l.length l p (Nat.le_refl _)
  · intro p ts h q
    rw [lex_nil] at h; cases h
    exact ⟨[], lex_nil q, rfl⟩
  · intro r p ih ts h
    rw [lex_blank] at h
    exact ih ts h
  · intro l p e h1 h0 hf ts h
    rw [lex_bad h0 h1 hf] at h; cases h
  · intro l p k n v h1 h0 hf hn hl ih ts h q
    rw [lex_tok h1 hn hf] at h
    obtain ⟨ts', h', rfl⟩ := after_ok h
    have go : ∀ r, Blank r → ∀ T, lexL r (q + n) = .ok T → lexL (l.take n ++ r) q = .ok (⟨k, l.take n, v, q⟩ :: T) := fun r hr T hT => by
      have ht : (l.take n).length = n := by rw [List.length_take]; omega
      rw [lex_tok (by rw [head_take hn hl]; exact h1) hn (first_back hr hf)]
      rw [show (l.take n ++ r).drop n = r by rw [List.drop_append, ht, List.drop_of_length_le (by omega), Nat.sub_self]; rfl, show (l.take n ++ r).take n = l.take n by rw [List.take_append_of_le_length (by omega), List.take_take, Nat.min_self], hT]
      rfl
    cases ts' with
    | nil =>
      refine ⟨[⟨k, l.take n, v, q⟩], ?_, ?_⟩
      · have := go [] (.inl rfl) [] (lex_nil _)
        rw [List.append_nil] at this
        exact this
      · rfl
    | cons t ts' =>
      obtain ⟨T, hT, hc⟩ := ih (t :: ts') h' (q + n + 1)
      refine ⟨⟨k, l.take n, v, q⟩ :: T, ?_, ?_⟩
      · have e : textsT ([⟨k, l.take n, v, p⟩] ++ t :: ts') = l.take n ++ 32 :: textsT (t :: ts') := rfl
        rw [e]
        exact go _ (.inr ⟨_, rfl⟩) T ((lex_blank _ _).trans hT)
      · rw [List.map_cons, hc]
        rfl

theorem lex_bad_ne (l : List UInt8) (p : Nat) : ∀ q e, lexL l p = .bad q e → e = 1 ∨ e = 2 ∨ e = 5 := by
  refine lex_induct (C := fun l p => ∀ q e, lexL l p = .bad q e → e = 1 ∨ e = 2 ∨ e = 5) ?_ ?_ ?_ ?_ l.length l p (Nat.le_refl _)
  · intro p q e h
    rw [lex_nil] at h; cases h
  · intro r p ih q e h
    rw [lex_blank] at h
    exact ih q e h
  · intro l p e h1 h0 hf q e2 h
    rw [lex_bad h0 h1 hf] at h; cases h
    exact first_bad hf
  · intro l p k n v h1 h0 hf hn hl ih q e h
    rw [lex_tok h1 hn hf] at h
    cases hx : lexL (l.drop n) (p + n) with
    | ok ts => rw [hx] at h; cases h
    | bad q' e' => rw [hx] at h; cases h; exact ih _ _ hx

theorem lexT_bad_ne {l : List UInt8} {p : Nat} {e : Int} (h : lexT l = .bad p e) : (e == 0) = false ∧ (e != 0) = true := by
  have : e = 4 ∨ e = 1 ∨ e = 2 ∨ e = 5 := by
    unfold lexT at h
    split at h
    · cases h; exact .inl rfl
    · exact .inr (lex_bad_ne _ _ _ _ h)
  rcases this with h | h | h | h <;> rw [h] <;> exact ⟨by decide, by decide⟩

theorem lexT_back {l : List UInt8} {ts : List Tk} (h : lexT l = .ok ts) (hl : l.length ≤ 500) : ∃ ts', lexT (textsT ts) = .ok ts' ∧ ts'.map coreT = ts.map coreT := by
  unfold lexT at h
  rw [if_neg (by omega)] at h
  obtain ⟨ts', h1, h2⟩ := lex_back l 0 ts h 0
  have := texts_len h
  refine ⟨ts', ?_, h2⟩
  unfold lexT
  rw [if_neg (by omega)]
  exact h1

end Go.Proofs.YtjkjjpoeegpkaaaDoor
