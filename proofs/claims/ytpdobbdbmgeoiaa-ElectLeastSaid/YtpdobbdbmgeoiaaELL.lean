/-
  No statement: rows by their loads, as plain facts.
-/
import Derived.Test.YtpdobbdbmgeoiaaELN
set_option linter.unusedVariables false
set_option linter.unusedSimpArgs false
namespace Go.Proofs.Ytpdobbdbmgeoiaa
open Go.RowKit

def kI (k : Nat) : ByteArray := ⟨#[107, UInt8.ofNat (97 + k)]⟩
def pI (k : Nat) : ByteArray := ⟨#[47, 122, 47, 109, UInt8.ofNat (122 - k)]⟩
def rowW (z : Nat → Int) (k : Nat) : RD := whoR (kI k) (pI k) (z k)
def LW (z : Nat → Int) (n : Nat) : List RD := (List.range n).map (rowW z)
def chW (z : Nat → Int) (k : Nat) : CH := ⟨kI k, pI k, z k⟩
def CW (z : Nat → Int) (n : Nat) : List CH := (List.range n).map (chW z)

theorem pI_deep {k : Nat} (h : k < 20) : 0 < depthP (pI k).data.toList := by
  have ha : (List.range 20).all (fun k => decide (0 < depthP (pI k).data.toList)) = true := by kernel_rfl
  exact of_decide_eq_true (List.all_eq_true.1 ha k (List.mem_range.2 h))
theorem pI_less {i j : Nat} (hij : i < j) (h : j < 20) : Op.bytesLess (pI j).data.toList (pI i).data.toList = true := by
  have ha : (List.range 20).all (fun j => (List.range j).all fun i => Op.bytesLess (pI j).data.toList (pI i).data.toList) = true := by kernel_rfl
  exact List.all_eq_true.1 (List.all_eq_true.1 ha j (List.mem_range.2 h)) i (List.mem_range.2 hij)
theorem pI_cmp {i j : Nat} (hij : i < j) (h : j < 20) : cmpS (pI j) (pI i) = -1 := by
  refine cmpS_lt ?_
  rw [Lib.toList_data, Lib.toList_data]
  exact pI_less hij h
theorem pI_inj {i j : Nat} (hi : i < 20) (hj : j < 20) (h : pI i = pI j) : i = j := by
  rcases Nat.lt_trichotomy i j with h1 | h1 | h1
  · have := pI_cmp h1 hj; rw [h, cmpS_self] at this; cases this
  · exact h1
  · have := pI_cmp h1 hi; rw [h, cmpS_self] at this; cases this

theorem LW_len (z : Nat → Int) (n : Nat) : (LW z n).length = n := by simp [LW]
theorem CW_len (z : Nat → Int) (n : Nat) : (CW z n).length = n := by simp [CW]
theorem LW_succ (z : Nat → Int) (n : Nat) : LW z (n + 1) = LW z n ++ [rowW z n] := by simp [LW, List.range_succ]
theorem LW_stand {z : Nat → Int} {n : Nat} (h : n ≤ 20) : standL (LW z n) = CW z n := by
  unfold standL LW CW
  rw [List.filter_eq_self.2 (fun x hx => by
    obtain ⟨k, hk, rfl⟩ := List.mem_map.1 hx
    exact (stand_who _ _ _ (pI_deep (by have := List.mem_range.1 hk; omega))).1), List.map_map]
  refine List.map_congr_left fun k hk => ?_
  exact (stand_who _ _ _ (pI_deep (by have := List.mem_range.1 hk; omega))).2
theorem LW_ok (z : Nat → Int) (n : Nat) : ∀ x ∈ LW z n, OkE x := fun x hx => by
  obtain ⟨k, hk, rfl⟩ := List.mem_map.1 hx
  exact okE_who _ _ _ (by show 5 ≤ 281474976710656; omega)

/-- The least load, the last of them. -/
def Best (z : Nat → Int) (k b : Nat) : Prop := (k = 0 → b = 0) ∧ (0 < k → b < k) ∧ ∀ j, j < k → z b ≤ z j ∧ (z j = z b → j ≤ b)
theorem best_yes {z : Nat → Int} {k b : Nat} (h : Best z k b) (hz : z k ≤ z b) : Best z (k + 1) k := by
  refine ⟨fun e => by omega, fun _ => by omega, fun j hj => ?_⟩
  by_cases e : j = k
  · subst e; exact ⟨Int.le_refl _, fun _ => Nat.le_refl _⟩
  · have := (h.2.2 j (by omega)).1
    exact ⟨by omega, fun _ => by omega⟩
theorem best_no {z : Nat → Int} {k b : Nat} (h : Best z k b) (hz : ¬ z k ≤ z b) : Best z (k + 1) b := by
  have hk : 0 < k := by
    rcases Nat.eq_zero_or_pos k with h0 | h0
    · subst h0; rw [h.1 rfl] at hz; exact absurd (Int.le_refl _) hz
    · exact h0
  refine ⟨fun e => by omega, fun _ => by have := h.2.1 hk; omega, fun j hj => ?_⟩
  by_cases e : j = k
  · subst e; exact ⟨by omega, fun e => by omega⟩
  · exact h.2.2 j (by omega)
theorem best_min {z : Nat → Int} {n b : Nat} (h : Best z n b) (h0 : 0 < n) (hn : n ≤ 20) : IsMin (chW z b) (CW z n) := by
  have hb := h.2.1 h0
  refine ⟨List.mem_map.2 ⟨b, List.mem_range.2 hb, rfl⟩, fun x hx => ?_⟩
  obtain ⟨j, hj, rfl⟩ := List.mem_map.1 hx
  have hj' := List.mem_range.1 hj
  obtain ⟨h1, h2⟩ := h.2.2 j hj'
  unfold cmpC chW
  show orI (cmpI (z b) (z j)) (orI (cmpS (pI b) (pI j)) (cmpS (kI b) (kI j))) ≤ 0
  by_cases e : z j = z b
  · have hjb := h2 e
    rw [e, cmpI_self]
    rcases Nat.lt_or_eq_of_le hjb with h3 | h3
    · rw [pI_cmp h3 (by omega)]; simp [orI]
    · subst h3; rw [cmpS_self, cmpS_self]; simp [orI]
  · have : cmpI (z b) (z j) = -1 := by unfold cmpI; rw [if_pos (by omega)]
    rw [this]; simp [orI]

theorem cmpS_negE (a b : ByteArray) : cmpS a b = - cmpS b a := by
  unfold cmpS
  cases h1 : Op.bytesLess a.toList b.toList <;> cases h2 : Op.bytesLess b.toList a.toList
  · rfl
  · rfl
  · rfl
  · have := strictS.asymm (a := a) (b := b) h1
    unfold lsS at this
    rw [h2] at this; cases this

/-- Those in order rise, by load, then Rep. -/
theorem asc_next {z : Nat → Int} {n : Nat} (hn : n ≤ 20) {L : List CH} (hp : L.Perm (CW z n)) (ha : Asc L) {i j : Nat} (hij : i < j) {x y : CH} (hx : L[i]? = some x) (hy : L[j]? = some y) : x.load < y.load ∨ (x.load = y.load ∧ lsS x.rep y.rep = true) := by
  obtain ⟨hi, hx'⟩ := List.getElem?_eq_some_iff.1 hx
  obtain ⟨hj, hy'⟩ := List.getElem?_eq_some_iff.1 hy
  have hc := List.pairwise_iff_getElem.1 ha i j hi hj hij
  rw [hx', hy'] at hc
  have hnd : L.Nodup := hp.symm.nodup (by
    unfold CW List.Nodup
    rw [List.pairwise_map]
    refine List.Pairwise.imp_of_mem (fun {a b} ha hb hab e => ?_) List.pairwise_lt_range
    have := pI_inj (by have := List.mem_range.1 ha; omega) (by have := List.mem_range.1 hb; omega) (congrArg CH.rep e)
    omega)
  have hne : x ≠ y := fun e => by
    have h1 := List.pairwise_iff_getElem.1 hnd i j hi hj hij
    rw [hx', hy'] at h1
    exact h1 e
  obtain ⟨a, ha1, rfl⟩ := List.mem_map.1 (hp.subset (List.mem_of_getElem? hx))
  obtain ⟨b, hb1, rfl⟩ := List.mem_map.1 (hp.subset (List.mem_of_getElem? hy))
  have ha2 := List.mem_range.1 ha1
  have hb2 := List.mem_range.1 hb1
  have hc' : orI (cmpI (z a) (z b)) (orI (cmpS (pI a) (pI b)) (cmpS (kI a) (kI b))) ≤ 0 := hc
  show z a < z b ∨ (z a = z b ∧ lsS (pI a) (pI b) = true)
  rcases Int.lt_trichotomy (z a) (z b) with h | h | h
  · exact .inl h
  · refine .inr ⟨h, ?_⟩
    rw [h, cmpI_self] at hc'
    rcases Nat.lt_trichotomy a b with h1 | h1 | h1
    · exfalso
      have h2 := pI_cmp h1 (by omega)
      have h3 : cmpS (pI a) (pI b) = 1 := by have := cmpS_negE (pI a) (pI b); omega
      rw [h3] at hc'
      simp [orI] at hc'
    · subst h1; exact absurd rfl hne
    · show Op.bytesLess _ _ = true
      rw [Lib.toList_data, Lib.toList_data]
      exact pI_less h1 (by omega)
  · exfalso
    have h1 : cmpI (z a) (z b) = 1 := by unfold cmpI; rw [if_neg (by omega), if_pos h]
    rw [h1] at hc'
    simp [orI] at hc'

end Go.Proofs.Ytpdobbdbmgeoiaa
