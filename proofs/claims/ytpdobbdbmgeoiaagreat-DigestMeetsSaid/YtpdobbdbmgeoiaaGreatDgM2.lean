/-
  No statement: a row's twin is the same row; marks that may be rise.
-/
import Derived.Test.YtpdobbdbmgeoiaaGreatDgSame
import Derived.Test.YtpdobbdbmgeoiaaGreatDgCheck
set_option linter.unusedVariables false
set_option linter.unusedSimpArgs false
namespace Go.Proofs.YtpdobbdbmgeoiaaGreat
open Go.RowKit

theorem cmpL_selfD : ∀ l, cmpL l l = 0
  | [] => rfl
  | a :: r => by unfold cmpL; rw [if_pos (cmpI_self a)]; exact cmpL_selfD r

/-- A twin is the same value. -/
theorem cmpV_dt (x : AD) : cmpV (twA x).k (twA x).n (twA x).s (twA x).len (twA x).z x.k x.n x.s x.len x.z = 0 := by
  show cmpV x.k (twN x.k x.n) (twS x.k x.s) (twL x.k x.len) x.z x.k x.n x.s x.len x.z = 0
  unfold cmpV twN twS twL
  rw [if_pos rfl]
  by_cases k1 : x.k = 1
  · rw [if_pos k1, if_pos k1]; exact cmpI_self _
  · rw [if_neg k1]
    by_cases k2 : x.k = 2
    · rw [if_pos k2, if_pos k2]; exact cmpS_self _
    · rw [if_neg k2]
      by_cases k3 : x.k = 3
      · rw [if_pos k3, if_pos k3]; exact cmpL_selfD _
      · rw [if_neg k3]

theorem sameAs_dt (A : Nat → AD) : ∀ (n k : Nat), sameAs (fromA (twF A) n k) (fromA A n k) = true := by
  intro n k
  generalize hd : n - k = d
  induction d generalizing k with
  | zero => rw [fromA_nil (twF A) (n := n) (k := k) (by omega), fromA_nil A (n := n) (k := k) (by omega)]; rfl
  | succ d ih =>
    rw [fromA_cons (twF A) (n := n) (k := k) (by omega), fromA_cons A (n := n) (k := k) (by omega)]
    show (sameAD (twA (A k)) (A k) && _) = true
    rw [ih (k + 1) (by omega), Bool.and_true]
    unfold sameAD
    have : ((twA (A k)).m.toList == (A k).m.toList) = true := by rw [show (twA (A k)).m = (A k).m from rfl]; exact beq_self_eq_true _
    rw [this, Bool.true_and]
    exact decide_eq_true (cmpV_dt _)

theorem sameR_dt (x : RD) : sameR (dtR x) x = true := by
  unfold sameR
  show ((x.key.toList == x.key.toList) && (decide (cmpSt x.t x.i x.q x.o x.t x.i x.q x.o = 0) && (decide (x.len = x.len) && sameAs (fromA (twF x.A) x.len 0) (fromA x.A x.len 0)))) = true
  rw [sameAs_dt, cmpSt_self]
  simp

theorem errMs_rise : ∀ (l : List MK) (p : ByteArray), errMs p l = 0 → Rising lsS (p :: l.map MK.key)
  | [], _, _ => List.pairwise_singleton _ _
  | m :: r, p, h => by
    have h' : (if errM p m = 0 then errMs m.key r else errM p m) = 0 := h
    by_cases e : errM p m = 0
    · rw [if_pos e] at h'
      have ih := errMs_rise r m.key h'
      have h1 : lsS p m.key = true := by
        unfold errM at e
        split at e
        · cases e
        · split at e
          · cases e
          · next hh => simpa using hh
      rw [List.map_cons]
      refine List.pairwise_cons.2 ⟨fun k hk => ?_, ih⟩
      rcases List.mem_cons.1 hk with rfl | hk
      · exact h1
      · exact strictS.trans _ _ _ h1 ((List.pairwise_cons.1 ih).1 k hk)
    · rw [if_neg e] at h'; exact absurd h' e

theorem errMarks_rise {l : List MK} (h : errMarks l = 0) : l.length ≤ 64 ∧ Rising lsS (l.map MK.key) := by
  unfold errMarks at h
  split at h
  · cases h
  · next hh => exact ⟨by omega, (List.pairwise_cons.1 (errMs_rise l _ h)).2⟩

theorem riseS_of {kl : List ByteArray} (h : ∀ j, j + 1 < kl.length → lsS (atS kl j) (atS kl (j + 1)) = true) : Rising lsS kl := by
  induction kl with
  | nil => exact List.Pairwise.nil
  | cons x r ih =>
    have hr := ih (fun j hj => h (j + 1) (by simp at hj ⊢; omega))
    refine List.pairwise_cons.2 ⟨fun k hk => ?_, hr⟩
    cases r with
    | nil => cases hk
    | cons y t =>
      have h0 : lsS x y = true := h 0 (by simp)
      rcases List.mem_cons.1 hk with rfl | hk
      · exact h0
      · exact strictS.trans _ _ _ h0 ((List.pairwise_cons.1 hr).1 k hk)

/-- Rows that were made anew, beside those that they were made of. -/
theorem same_dt (L : List RD) : ∀ j, j < L.length → sameR (atD (L.map dtR) j) (atD L j) = true := fun j hj => by
  rw [atD_lt (by rw [List.length_map]; exact hj), atD_lt hj, List.getElem_map]
  exact sameR_dt _

end Go.Proofs.YtpdobbdbmgeoiaaGreat
