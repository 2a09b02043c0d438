/-
  No statement: plain facts on tables with no room: the newest stay.
-/
import Derived.Test.YtikifgenfpkidaaTbM1
set_option linter.unusedVariables false
set_option linter.unusedSimpArgs false
namespace Go.Proofs.Ytikifgenfpkidaa
open Go.RowKit

/-- Is the i-th newer than the j-th? -/
def nw (t : Nat → Nat) (i j : Nat) : Bool := decide (t j < t i) || (decide (t j = t i) && decide (j < i))
theorem nw_iff {t : Nat → Nat} {i j : Nat} : nw t i j = true ↔ t j < t i ∨ (t j = t i ∧ j < i) := by
  unfold nw
  simp only [Bool.or_eq_true, Bool.and_eq_true, decide_eq_true_eq]

def rowI (t : Nat → Nat) (i : Nat) : RD := bareR (kyI i) (t i : Nat) (i : Nat)

theorem newR_rowI (t : Nat → Nat) (i j : Nat) : newR (rowI t i) (rowI t j) = nw t i j := by
  unfold newR rowI bareR
  simp only
  unfold cmpSt
  rw [cmpI_self, cmpS_self]
  unfold nw
  rcases Nat.lt_trichotomy (t i) (t j) with h | h | h
  · have : cmpI (t i : Nat) (t j : Nat) = -1 := by unfold cmpI; rw [if_pos (by omega)]
    rw [this]
    rw [decide_eq_false (by omega), decide_eq_false (by omega : ¬ t j = t i)]
    rfl
  · rw [h, cmpI_self, decide_eq_false (by omega), decide_eq_true (rfl : t j = t j)]
    rcases Nat.lt_trichotomy i j with h2 | h2 | h2
    · have : cmpI (i : Nat) (j : Nat) = -1 := by unfold cmpI; rw [if_pos (by omega)]
      rw [this, decide_eq_false (by omega)]; rfl
    · rw [h2, cmpI_self, decide_eq_false (by omega)]; rfl
    · have : cmpI (i : Nat) (j : Nat) = 1 := by unfold cmpI; rw [if_neg (by omega), if_pos (by omega)]
      rw [this, decide_eq_true (by omega)]; rfl
  · have : cmpI (t i : Nat) (t j : Nat) = 1 := by unfold cmpI; rw [if_neg (by omega), if_pos (by omega)]
    rw [this, decide_eq_true (by omega)]; rfl

/-- The indices of which s holds. -/
def fI (s : Nat → Bool) (m : Nat) : List Nat := (List.range m).filter s
def fL (t : Nat → Nat) (s : Nat → Bool) (m : Nat) : List RD := (fI s m).map (rowI t)
theorem fL_len (t : Nat → Nat) (s : Nat → Bool) (m : Nat) : (fL t s m).length = (fI s m).length := by simp [fL]
theorem fI_succ (s : Nat → Bool) (m : Nat) : fI s (m + 1) = if s m = true then fI s m ++ [m] else fI s m := by
  unfold fI
  rw [List.range_succ, List.filter_append]
  by_cases h : s m = true
  · rw [if_pos h, List.filter_cons_of_pos h]; rfl
  · rw [if_neg h, List.filter_cons_of_neg h]; simp
theorem fI_mem {s : Nat → Bool} {m i : Nat} : i ∈ fI s m ↔ i < m ∧ s i = true := by unfold fI; rw [List.mem_filter, List.mem_range]
theorem fI_cong {s r : Nat → Bool} {m : Nat} (h : ∀ i, i < m → s i = r i) : fI s m = fI r m := List.filter_congr (fun i hi => h i (List.mem_range.1 hi))
theorem fI_mono {s r : Nat → Bool} : ∀ {m : Nat}, (∀ i, i < m → s i = true → r i = true) → (fI s m).length ≤ (fI r m).length
  | 0, _ => Nat.le_refl _
  | m + 1, h => by
    have ih := fI_mono (m := m) (fun i hi => h i (by omega))
    rw [fI_succ, fI_succ]
    by_cases hs : s m = true
    · rw [if_pos hs, if_pos (h m (by omega) hs), List.length_append, List.length_append]; simp only [List.length_cons, List.length_nil]; omega
    · rw [if_neg hs]
      by_cases hr : r m = true
      · rw [if_pos hr, List.length_append]; omega
      · rw [if_neg hr]; exact ih
theorem fI_le (s : Nat → Bool) : ∀ m, (fI s m).length ≤ m
  | 0 => Nat.le_refl _
  | m + 1 => by
    have ih := fI_le s m
    rw [fI_succ]
    split
    · rw [List.length_append]; simp only [List.length_cons, List.length_nil]; omega
    · omega
/-- One less. -/
theorem fI_less {s : Nat → Bool} : ∀ {m y : Nat}, y < m → s y = true → (fI (fun i => s i && !decide (i = y)) m).length + 1 = (fI s m).length
  | 0, y, h, _ => by omega
  | m + 1, y, h, hs => by
    rw [fI_succ, fI_succ]
    by_cases hy : y = m
    · subst hy
      rw [if_pos hs, if_neg (by simp)]
      rw [fI_cong (s := fun i => s i && !decide (i = y)) (r := s) (fun i hi => by rw [decide_eq_false (by omega)]; simp), List.length_append]
      rfl
    · have ih := fI_less (m := m) (y := y) (by omega) hs
      by_cases hm : s m = true
      · rw [if_pos hm, if_pos (by simp [hm]; omega), List.length_append, List.length_append]; simp only [List.length_cons, List.length_nil]; omega
      · rw [if_neg hm, if_neg (by simp [hm])]; exact ih

theorem fI_all {m i : Nat} (hi : i < m) : (fI (fun j => !decide (j = i)) m).length + 1 ≤ m := by
  have h : (fI (fun j => (fun _ => true) j && !decide (j = i)) m).length + 1 = (fI (fun _ => true) m).length := fI_less (s := fun _ => true) hi rfl
  have h2 := fI_le (fun _ => true) m
  have e : fI (fun j => !decide (j = i)) m = fI (fun j => (fun _ => true) j && !decide (j = i)) m := fI_cong (fun j _ => by simp)
  rw [e]; omega

theorem fL_rise (t : Nat → Nat) (s : Nat → Bool) {m : Nat} (hm : m ≤ 60) : Rising lsS (kyR (fL t s m)) := by
  unfold kyR fL Rising
  rw [List.map_map, List.pairwise_map]
  have h1 : (fI s m).Pairwise (· < ·) := List.Pairwise.sublist List.filter_sublist List.pairwise_lt_range
  exact List.Pairwise.imp_of_mem (fun {i j} hi hj h => kyI_lt h (by have := (fI_mem.1 hj).1; omega)) h1
theorem fL_below (t : Nat → Nat) (s : Nat → Bool) {m : Nat} (hm : m < 60) : ∀ y ∈ fL t s m, lsS y.key (kyI m) = true := fun y hy => by
  obtain ⟨i, hi, rfl⟩ := List.mem_map.1 hy
  exact kyI_lt (fI_mem.1 hi).1 hm
theorem fL_fix (t : Nat → Nat) (s : Nat → Bool) (m : Nat) : Fix (fL t s m) := fun x hx => by
  obtain ⟨i, hi, rfl⟩ := List.mem_map.1 hx
  exact ⟨bareR_fine _ _ _, rfl⟩
theorem kyI_inj {i j : Nat} (hi : i < 60) (hj : j < 60) (h : kyI i = kyI j) : i = j := by
  rcases Nat.lt_trichotomy i j with h' | h' | h'
  · exact absurd h (ls_ne (kyI_lt h' hj))
  · exact h'
  · exact absurd h.symm (ls_ne (kyI_lt h' hi))
theorem fL_drop (t : Nat → Nat) (s : Nat → Bool) {m y : Nat} (hm : m ≤ 60) (hy : y < 60) : dropT (fL t s m) (kyI y) = fL t (fun i => s i && !decide (i = y)) m := by
  rw [dropT_filter (fL_rise t s hm)]
  unfold fL
  rw [List.filter_map]
  congr 1
  unfold fI
  rw [List.filter_filter]
  apply List.filter_congr
  intro i hi
  have hi60 : i < 60 := by have := List.mem_range.1 hi; omega
  show (!decide (kyI i = kyI y) && s i) = (s i && !decide (i = y))
  rw [Bool.and_comm]
  congr 2
  exact decide_eq_decide.2 ⟨fun e => kyI_inj hi60 hy e, fun e => by rw [e]⟩

/-- The oldest of indices. -/
def leastI (t : Nat → Nat) (m : Nat) (l : List Nat) : Nat := l.foldl (fun m r => if nw t m r = true then r else m) m
theorem leastK_map (t : Nat → Nat) : ∀ (l : List Nat) (m : Nat), leastK (rowI t m) (l.map (rowI t)) = rowI t (leastI t m l)
  | [], m => rfl
  | x :: l, m => by
    show leastK (if newR (rowI t m) (rowI t x) = true then rowI t x else rowI t m) (l.map (rowI t)) = rowI t (leastI t (if nw t m x = true then x else m) l)
    rw [newR_rowI]
    by_cases h : nw t m x = true
    · rw [if_pos h, if_pos h]; exact leastK_map t l x
    · rw [if_neg h, if_neg h]; exact leastK_map t l m
theorem leastI_spec (t : Nat → Nat) : ∀ (l : List Nat) (m : Nat), (leastI t m l = m ∨ leastI t m l ∈ l) ∧ (m = leastI t m l ∨ nw t m (leastI t m l) = true) ∧ ∀ x ∈ l, x = leastI t m l ∨ nw t x (leastI t m l) = true
  | [], m => ⟨.inl rfl, .inl rfl, fun x hx => by cases hx⟩
  | x :: l, m => by
    show (leastI t (if nw t m x = true then x else m) l = m ∨ leastI t (if nw t m x = true then x else m) l ∈ x :: l) ∧ (m = leastI t (if nw t m x = true then x else m) l ∨ nw t m (leastI t (if nw t m x = true then x else m) l) = true) ∧ ∀ y ∈ x :: l, y = leastI t (if nw t m x = true then x else m) l ∨ nw t y (leastI t (if nw t m x = true then x else m) l) = true
    by_cases h : nw t m x = true
    · rw [if_pos h]
      obtain ⟨h1, h2, h3⟩ := leastI_spec t l x
      obtain ⟨z, hz⟩ : ∃ z, leastI t x l = z := ⟨_, rfl⟩
      rw [hz] at h1 h2 h3 ⊢
      refine ⟨.inr (by rcases h1 with h1 | h1; rw [h1]; exact List.Mem.head _; exact List.Mem.tail _ h1), .inr ?_, fun y hy => ?_⟩
      · rcases h2 with h2 | h2
        · rw [← h2]; exact h
        · rw [nw_iff] at *; omega
      · rcases List.mem_cons.1 hy with rfl | hy
        · exact h2
        · exact h3 y hy
    · rw [if_neg h]
      obtain ⟨h1, h2, h3⟩ := leastI_spec t l m
      obtain ⟨z, hz⟩ : ∃ z, leastI t m l = z := ⟨_, rfl⟩
      rw [hz] at h1 h2 h3 ⊢
      refine ⟨by rcases h1 with h1 | h1; exact .inl h1; exact .inr (List.Mem.tail _ h1), h2, fun y hy => ?_⟩
      rcases List.mem_cons.1 hy with rfl | hy
      · have h' : ¬ (t y < t m ∨ (t y = t m ∧ y < m)) := fun e => h (nw_iff.2 e)
        by_cases e : y = z
        · exact .inl e
        · refine .inr (nw_iff.2 ?_)
          rcases h2 with h2 | h2
          · rw [← h2] at e ⊢; omega
          · rw [nw_iff] at h2; omega
      · exact h3 y hy

/-- Those that are there behind m puts: as many as have room, each newer than each that isn't. -/
def StI (t : Nat → Nat) (k : Nat) (s : Nat → Bool) (m : Nat) : Prop :=
  (fI s m).length = (if m ≤ k then m else k) ∧ ∀ i j, i < m → j < m → s i = true → s j = false → nw t i j = true

theorem errR_rowI {t : Nat → Nat} {i : Nat} (hi : i < 60) (ht : t i < 256) : errR (rowI t i) = 0 :=
  bare_err hi (by unfold countB; rw [Bool.and_eq_true, decide_eq_true_eq, decide_eq_true_eq]; omega) (by unfold countB; rw [Bool.and_eq_true, decide_eq_true_eq, decide_eq_true_eq]; omega)

theorem putI (t : Nat → Nat) (k : Nat) (hk : 1 ≤ k) (s : Nat → Bool) (m : Nat) (hm : m < 60) (ht : t m < 256) (h : StI t k s m) :
    ∃ s', StI t k s' (m + 1) ∧ (putX k (fL t s m) (rowI t m)).2 = fL t s' (m + 1) ∧ (m < k → (putX k (fL t s m) (rowI t m)).1 = 0) := by
  obtain ⟨h1, h2⟩ := h
  have he := errR_rowI hm ht
  have hend : ∀ s', (∀ i, i < m → s' i = s i) → s' m = true → fL t s' (m + 1) = fL t s m ++ [rowI t m] := fun s' e1 e2 => by
    unfold fL
    rw [fI_succ, if_pos e2, fI_cong e1, List.map_append]; rfl
  by_cases hlt : m < k
  · rw [if_pos (by omega)] at h1
    have hall : ∀ i, i < m → s i = true := fun i hi => by
      cases hs : s i with
      | true => rfl
      | false =>
        have h3 := fI_mono (s := s) (r := fun j => !decide (j = i)) (m := m) (fun j hj hsj => by
          have : j ≠ i := fun e => by rw [e, hs] at hsj; cases hsj
          simp [this])
        have h4 := fI_all hi
        omega
    have hp := putX_end (most := k) he (by rw [fL_len]; omega) (fL_below t s hm) (fL_rise t s (by omega))
    refine ⟨fun _ => true, ⟨?_, fun i j _ _ _ e => by cases e⟩, ?_, fun _ => by rw [hp]⟩
    · rw [if_pos (by omega), fI_succ, if_pos rfl, fI_cong (r := s) (fun i hi => (hall i hi).symm), List.length_append, h1]; rfl
    · rw [hp, hend (fun _ => true) (fun i hi => (hall i hi).symm) rfl]; rfl
  · have hkl : (fI s m).length = k := by rw [h1]; split <;> omega
    obtain ⟨z0, l0, hz⟩ : ∃ z0 l0, fI s m = z0 :: l0 := by
      cases hf : fI s m with
      | nil => rw [hf] at hkl; simp at hkl; omega
      | cons a b => exact ⟨a, b, rfl⟩
    obtain ⟨y, hy⟩ : ∃ y, leastI t z0 (z0 :: l0) = y := ⟨_, rfl⟩
    obtain ⟨l1, -, l3⟩ := leastI_spec t (z0 :: l0) z0
    rw [hy] at l1 l3
    have hyI : y ∈ fI s m := by
      rw [hz]
      rcases l1 with l1 | l1
      · rw [l1]; exact List.Mem.head _
      · exact l1
    obtain ⟨hym, hys⟩ := fI_mem.1 hyI
    have hmin : ∀ i, i < m → s i = true → i = y ∨ nw t i y = true := fun i hi hs => l3 i (by rw [← hz]; exact fI_mem.2 ⟨hi, hs⟩)
    have hno : getT (fL t s m) (kyI m) = none := getT_no (fun hh => by
      obtain ⟨x, hx, e⟩ := List.mem_map.1 hh
      exact ls_ne (fL_below t s hm x hx) e)
    have hput : putX k (fL t s m) (rowI t m) = if nw t m y = true then (0, putT (dropT (fL t s m) (kyI y)) (rowI t m)) else (9, fL t s m) := by
      unfold putX
      rw [if_pos he, show (rowI t m).key = kyI m from rfl, hno]
      simp only
      rw [if_neg (by rw [fL_len]; omega)]
      have hfl : fL t s m = rowI t z0 :: l0.map (rowI t) := by unfold fL; rw [hz]; rfl
      have hle : leastK (rowI t z0) (rowI t z0 :: l0.map (rowI t)) = rowI t y := by rw [← hy]; exact leastK_map t (z0 :: l0) z0
      rw [hfl]
      show (if newR (rowI t m) (leastK (rowI t z0) (rowI t z0 :: l0.map (rowI t))) = true then _ else _) = _
      rw [hle, newR_rowI]
      rfl
    rw [hput]
    by_cases hN : nw t m y = true
    · rw [if_pos hN]
      refine ⟨fun i => if i = m then true else s i && !decide (i = y), ⟨?_, fun i j hi hj hsi hsj => ?_⟩, ?_, fun hh => absurd hh hlt⟩
      · rw [if_neg (by omega), fI_succ, if_pos (by simp), fI_cong (r := fun i => s i && !decide (i = y)) (fun i hi => by rw [if_neg (by omega)]), List.length_append]
        have := fI_less hym hys
        simp only [List.length_cons, List.length_nil]; omega
      · dsimp only at hsi hsj
        by_cases him : i = m
        · by_cases hjm : j = m
          · rw [if_pos hjm] at hsj; cases hsj
          · rw [if_neg hjm] at hsj
            subst him
            by_cases hjy : j = y
            · rw [hjy]; exact hN
            · rw [decide_eq_false hjy] at hsj
              have := h2 y j hym (by omega) hys (by simpa using hsj)
              rw [nw_iff] at *; omega
        · rw [if_neg him] at hsi
          obtain ⟨g1, g2⟩ := Bool.and_eq_true_iff.1 hsi
          have giy : i ≠ y := by simpa using g2
          by_cases hjm : j = m
          · rw [if_pos hjm] at hsj; cases hsj
          · rw [if_neg hjm] at hsj
            by_cases hjy : j = y
            · rw [hjy]
              exact (hmin i (by omega) g1).resolve_left giy
            · rw [decide_eq_false hjy] at hsj
              exact h2 i j (by omega) (by omega) g1 (by simpa using hsj)
      · show putT (dropT (fL t s m) (kyI y)) (rowI t m) = _
        rw [fL_drop t s (by omega) (by omega), putT_end (x := rowI t m)]
        · unfold fL
          rw [fI_succ, if_pos (by simp), fI_cong (s := fun i => if i = m then true else s i && !decide (i = y)) (r := fun i => s i && !decide (i = y)) (fun i hi => by rw [if_neg (by omega)]), List.map_append]; rfl
        · have hr := fL_rise t (fun i => s i && !decide (i = y)) (m := m) (by omega)
          unfold kyR Rising at *
          rw [List.map_append, List.pairwise_append]
          refine ⟨hr, by simp, fun a ha b hb => ?_⟩
          obtain ⟨x, hx, rfl⟩ := List.mem_map.1 ha
          simp only [List.map_cons, List.map_nil, List.mem_singleton] at hb
          subst hb
          exact fL_below t _ hm x hx
    · rw [if_neg hN]
      have hym2 : nw t y m = true := by
        have h' : ¬ (t y < t m ∨ (t y = t m ∧ y < m)) := fun e => hN (nw_iff.2 e)
        rw [nw_iff]; omega
      refine ⟨fun i => if i = m then false else s i, ⟨?_, fun i j hi hj hsi hsj => ?_⟩, ?_, fun hh => absurd hh hlt⟩
      · rw [if_neg (by omega), fI_succ, if_neg (by simp), fI_cong (r := s) (fun i hi => by rw [if_neg (by omega)])]; exact hkl
      · dsimp only at hsi hsj
        by_cases him : i = m
        · rw [if_pos him] at hsi; cases hsi
        · rw [if_neg him] at hsi
          by_cases hjm : j = m
          · rw [hjm]
            rcases hmin i (by omega) hsi with h | h
            · rw [h]; exact hym2
            · rw [nw_iff] at *; omega
          · rw [if_neg hjm] at hsj
            exact h2 i j (by omega) (by omega) hsi hsj
      · unfold fL
        rw [fI_succ, if_neg (by simp), fI_cong (s := fun i => if i = m then false else s i) (r := s) (fun i hi => by rw [if_neg (by omega)])]

/-- Which are there: those than which fewer are newer than there is room. -/
theorem rank_iff {t : Nat → Nat} {k : Nat} (hk : 1 ≤ k) {s : Nat → Bool} {n i : Nat} (hi : i < n) (h : StI t k s n) : s i = decide ((fI (fun j => nw t j i) n).length < k) := by
  obtain ⟨h1, h2⟩ := h
  cases hs : s i with
  | true =>
    refine (decide_eq_true ?_).symm
    have h3 := fI_mono (s := fun j => nw t j i) (r := fun j => s j && !decide (j = i)) (m := n) (fun j hj hnj => by
      have hji : j ≠ i := fun e => by rw [e, nw_iff] at hnj; omega
      rw [decide_eq_false hji]
      cases hsj : s j with
      | true => rfl
      | false =>
        have := h2 i j hi hj hs hsj
        rw [nw_iff] at *; omega)
    have h4 := fI_less hi hs
    split at h1 <;> omega
  | false =>
    refine (decide_eq_false ?_).symm
    have h3 := fI_mono (s := s) (r := fun j => nw t j i) (m := n) (fun j hj hsj => h2 j i hj hi hsj hs)
    have h5 := fI_mono (s := s) (r := fun j => !decide (j = i)) (m := n) (fun j hj hsj => by
      have : j ≠ i := fun e => by rw [e, hs] at hsj; cases hsj
      simp [this])
    have h4 := fI_all hi
    split at h1 <;> omega

end Go.Proofs.Ytikifgenfpkidaa
