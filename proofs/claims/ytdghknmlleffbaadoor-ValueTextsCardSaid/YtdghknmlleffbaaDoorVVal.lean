/-
  No statement: a value that came in, opened; the order of values is one.
-/
import Derived.Test.YtdghknmlleffbaaDoorVLaid
import Derived.Test.YtdghknmlleffbaaDoorVCmp
import Derived.Lib.SmallJoins
import Derived.ChangeSlices
namespace Go.Proofs.YtdghknmlleffbaaDoor
open Go.RowKit Go.ChangeShapes

theorem in64_getD {zs : List Int} (h : ∀ n ∈ zs, (Lit.int .i64 n).wf = true) (j : Nat) : In64 (zs.getD j 0) := by
  by_cases hj : j < zs.length
  · rw [List.getD, List.getElem?_eq_getElem hj]
    exact in64_of_wf (h _ (List.getElem_mem hj))
  · rw [List.getD, List.getElem?_eq_none (by omega)]
    unfold In64; simp

theorem in64_zero : In64 0 := by unfold In64; omega

set_option maxRecDepth 100000 in
theorem value_of {H : Type} {enc : TypeId × Value → H} {W : World} {base : Nat} {v : Value} {d : DataW H} {p : List MemPlace} (hv : Value.okWide Tryd.prog W .any base 24 v) (h : DataW.Trod enc Tryd.prog W 0 (fun _ => true) true 24 v d p) :
    ∃ (k n : Int) (s : ByteArray) (a : Option Addr) (len cap : Nat) (z : Nat → Int), v = val k n s (.slice a len cap) ∧ In64 k ∧ In64 n ∧ s.size ≤ maxLen ∧ (∀ j, In64 (z j)) ∧ Reads W a len z := by
  obtain ⟨v0, v1, v2, v3, y0, y1, y2, y3, m, rfl, rfl, rfl, h0, h1, h2, h3⟩ := Joins.open_agg4 Tryd.underlying24 (by kernel_rfl) (by kernel_rfl) hv h
  obtain ⟨k, e0, -, w0⟩ := DataW.trod_int Tryd.underlying3 h0
  obtain ⟨n, e1, -, w1⟩ := DataW.trod_int Tryd.underlying2 h1
  obtain ⟨s, e2, -, w2⟩ := DataW.trod_string Tryd.underlying9 h2
  cases e0; cases e1; cases e2
  rcases open_ints Tryd.underlying22 Tryd.underlying2 (by kernel_rfl) h3 with ⟨hcs, _⟩ | ⟨x, l, c, zs, hcs, _, hl, hm, hz, _, hcell, hwz⟩
  · cases hcs
    exact ⟨k, n, s, none, 0, 0, fun _ => 0, rfl, in64_of_wf w0, in64_of_wf w1, w2, fun _ => in64_zero, ⟨Nat.zero_le _, .inl rfl⟩⟩
  · cases hcs
    simp only [if_true] at hz
    refine ⟨k, n, s, some x, l, c, fun j => zs.getD j 0, rfl, in64_of_wf w0, in64_of_wf w1, w2, in64_getD hwz, ⟨Nat.le_trans hl hm, ?_⟩⟩
    by_cases hl0 : l = 0
    · exact .inl hl0
    · right
      obtain ⟨b, off, spot⟩ := x
      have hspot : spot = none := by simpa [Addr.add] using World.cell?_spot (hcell 0 (by omega))
      subst hspot
      exact ⟨b, off, rfl, fun j hj => by rw [← Addr.add_lit]; exact hcell j (by omega)⟩

theorem ordL : ∀ (a b c : List Int), Ord3 (cmpL a b) (cmpL b c) (cmpL a c)
  | [], [], c => fun _ h => by
    simp only [cmpL]
    exact ⟨h, fun h => .inr h, fun h => h.resolve_left (by decide)⟩
  | [], _ :: _, [] => fun _ h => by simp [cmpL] at h
  | [], _ :: _, _ :: _ => fun _ _ => by simp [cmpL]
  | _ :: _, [], _ => fun h _ => by simp [cmpL] at h
  | _ :: _, _ :: _, [] => fun _ h => by simp [cmpL] at h
  | a :: r, b :: q, c :: p => by
    have h1 := ordL r q p
    unfold Ord3 at *
    simp only [cmpL]
    unfold cmpI
    omega

theorem ordV (k1 n1 : Int) (s1 : ByteArray) (l1 : Nat) (z1 : Nat → Int) (k2 n2 : Int) (s2 : ByteArray) (l2 : Nat) (z2 : Nat → Int) (k3 n3 : Int) (s3 : ByteArray) (l3 : Nat) (z3 : Nat → Int) :
    Ord3 (cmpV k1 n1 s1 l1 z1 k2 n2 s2 l2 z2) (cmpV k2 n2 s2 l2 z2 k3 n3 s3 l3 z3) (cmpV k1 n1 s1 l1 z1 k3 n3 s3 l3 z3) := by
  by_cases e1 : k1 = k2
  · subst e1
    by_cases e2 : k1 = k3
    · subst e2
      unfold cmpV
      rw [if_pos rfl, if_pos rfl, if_pos rfl]
      by_cases h1 : k1 = 1
      · rw [if_pos h1, if_pos h1, if_pos h1]; exact ordI _ _ _
      rw [if_neg h1, if_neg h1, if_neg h1]
      by_cases h2 : k1 = 2
      · rw [if_pos h2, if_pos h2, if_pos h2]; exact ordS _ _ _
      rw [if_neg h2, if_neg h2, if_neg h2]
      by_cases h3 : k1 = 3
      · rw [if_pos h3, if_pos h3, if_pos h3]; exact ordL _ _ _
      rw [if_neg h3, if_neg h3, if_neg h3]
      unfold Ord3; omega
    · intro h1 h2
      have e : ∀ n s l z, cmpV k1 n s l z k3 n3 s3 l3 z3 = cmpI k1 k3 := fun _ _ _ _ => by unfold cmpV; rw [if_neg e2]
      rw [e] at h2 ⊢
      rw [e]
      have : ¬ cmpI k1 k3 = 0 := cmpI_ne e2
      omega
  · have e12 : cmpV k1 n1 s1 l1 z1 k2 n2 s2 l2 z2 = cmpI k1 k2 := by unfold cmpV; rw [if_neg e1]
    rw [e12]
    by_cases e2 : k2 = k3
    · subst e2
      intro h1 h2
      have e : cmpV k1 n1 s1 l1 z1 k2 n3 s3 l3 z3 = cmpI k1 k2 := by unfold cmpV; rw [if_neg e1]
      rw [e]
      have : ¬ cmpI k1 k2 = 0 := cmpI_ne e1
      omega
    · have e23 : cmpV k2 n2 s2 l2 z2 k3 n3 s3 l3 z3 = cmpI k2 k3 := by unfold cmpV; rw [if_neg e2]
      rw [e23]
      intro h1 h2
      have h3 := ordI k1 k2 k3 h1 h2
      have m1 : ¬ cmpI k1 k2 = 0 := cmpI_ne e1
      have m2 : ¬ cmpI k2 k3 = 0 := cmpI_ne e2
      by_cases e3 : k1 = k3
      · exfalso; subst e3
        unfold cmpI at *; omega
      · have e13 : cmpV k1 n1 s1 l1 z1 k3 n3 s3 l3 z3 = cmpI k1 k3 := by unfold cmpV; rw [if_neg e3]
        rw [e13]; exact h3

end Go.Proofs.YtdghknmlleffbaaDoor
