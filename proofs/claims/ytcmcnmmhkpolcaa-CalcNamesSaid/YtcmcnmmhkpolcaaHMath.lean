/-
  No statement: what an expression is where names have numbers, as plain data.
-/
import Derived.Test.YtcmcnmmhkpolcaaHE4
namespace Go.Proofs.Ytcmcnmmhkpolcaa
open Go.RowKit

/-- What an Op makes of two numbers. -/
def applyB (o : ByteArray) (a b : Int) : Option Int :=
  if o.data.toList == [43] then some (cut64 (a + b))
  else if o.data.toList == [45] then some (cut64 (a - b))
  else if o.data.toList == [42] then some (cut64 (a * b))
  else if o.data.toList == [47] then (if b = 0 then none else some (cut64 (a.tdiv b)))
  else (if b = 0 then none else some (a.tmod b))

/-- What a node is of what its kids are. -/
def evN (g : ByteArray → Option Int) (o m : ByteArray) (n : Int) (vs : List (Option Int)) : Option Int :=
  if isNum o then some n else if isName o then g m else if isNeg o then (vs.getD 0 none).map (fun a => cut64 (0 - a))
  else match vs.getD 0 none, vs.getD 1 none with
    | some a, some b => applyB o a b
    | _, _ => none

def evF (g : ByteArray → Option Int) : F → List (Option Int)
  | .nil => []
  | .cons o m n ks r => evN g o m n (evF g ks) :: evF g r

/-- What a tree is. -/
def evT (g : ByteArray → Option Int) (t : TN) : Option Int := evN g t.op t.nm t.n (evF g t.ks)

theorem ev_num (g : ByteArray → Option Int) {o m : ByteArray} {n : Int} {ks : F} (h : isNum o = true) : evT g ⟨o, m, n, ks⟩ = some n := by
  unfold evT evN; rw [if_pos h]
theorem ev_name (g : ByteArray → Option Int) {o m : ByteArray} {n : Int} {ks : F} (h : isNum o = false) (h2 : isName o = true) : evT g ⟨o, m, n, ks⟩ = g m := by
  unfold evT evN; rw [if_neg (by simp [h]), if_pos h2]
theorem ev_neg (g : ByteArray → Option Int) {o m : ByteArray} {n : Int} (a : TN) (h : isNum o = false) (h2 : isName o = false) (h3 : isNeg o = true) : evT g ⟨o, m, n, a.f⟩ = (evT g a).map (fun x => cut64 (0 - x)) := by
  unfold evT evN; rw [if_neg (by simp [h]), if_neg (by simp [h2]), if_pos h3]; rfl
theorem ev_two (g : ByteArray → Option Int) {o m : ByteArray} {n : Int} (a b : TN) (h : isNum o = false) (h2 : isName o = false) (h3 : isNeg o = false) :
    evT g ⟨o, m, n, .cons a.op a.nm a.n a.ks b.f⟩ = match evT g a, evT g b with | some x, some y => applyB o x y | _, _ => none := by
  unfold evT evN; rw [if_neg (by simp [h]), if_neg (by simp [h2]), if_neg (by simp [h3])]; rfl



theorem tmod_pos {c b : Int} (h : 0 ≤ c) : 0 ≤ c.tmod b ∧ c.tmod b ≤ c := by
  refine ⟨Int.tmod_nonneg b h, ?_⟩
  have h1 : (c.tmod b).natAbs ≤ c.natAbs := by rw [Int.natAbs_tmod]; exact Nat.mod_le _ _
  have h2 := Int.tmod_nonneg b h
  omega

theorem tmod_in {a : Int} (b : Int) (ha : In64 a) : In64 (a.tmod b) := by
  unfold In64 at ha ⊢
  rcases Int.le_total 0 a with h | h
  · have := tmod_pos (b := b) h
    omega
  · have h1 := tmod_pos (c := -a) (b := b) (by omega)
    rw [Int.neg_tmod] at h1
    omega

theorem apply_in {o : ByteArray} {a b v : Int} (ha : In64 a) (h : applyB o a b = some v) : In64 v := by
  unfold applyB at h
  split at h
  · cases h; exact cut64_in _
  split at h
  · cases h; exact cut64_in _
  split at h
  · cases h; exact cut64_in _
  split at h
  · split at h
    · cases h
    · cases h; exact cut64_in _
  · split at h
    · cases h
    · cases h; exact tmod_in b ha

/-- What a tree is fits into 64 bits. -/
theorem ev_in {g : ByteArray → Option Int} (hg : ∀ x v, g x = some v → In64 v) (t : TN) (ho : OkT t) (hn : NumsF t.f) : ∀ v, evT g t = some v → In64 v :=
  tree_induct1 (P := fun t => ∀ v, evT g t = some v → In64 v)
    (fun o m n h h0 h1 v hv => by rw [ev_num g h] at hv; cases hv; unfold In64; omega)
    (fun o m n h h2 _ v hv => by rw [ev_name g h h2] at hv; exact hg _ _ hv)
    (fun o m n a h h2 h3 ih v hv => by
      rw [ev_neg g a h h2 h3, Option.map_eq_some_iff] at hv
      obtain ⟨x, _, rfl⟩ := hv
      exact cut64_in _)
    (fun o m n a b h h2 h3 _ ih ik v hv => by
      rw [ev_two g a b h h2 h3] at hv
      split at hv
      · rename_i x y hx hy
        exact apply_in (ih _ hx) hv
      · cases hv) t ho hn

end Go.Proofs.Ytcmcnmmhkpolcaa
