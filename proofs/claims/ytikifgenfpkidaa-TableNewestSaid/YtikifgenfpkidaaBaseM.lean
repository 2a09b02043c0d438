/-
  No statement: plain lemmas on slices whose elements take several cells.
-/
import Derived.Test.YtikifgenfpkidaaBase
import Derived.Test.YtikifgenfpkidaaAppM
namespace Go.Proofs.Ytikifgenfpkidaa
open Go.RowKit

theorem ownsM_cases {w : World} {e : TypeId} {m : Nat} {v : Value} {n : Nat} {xs : List Value} (h : w.ownsRow 0 e m v n xs) :
    (v = .slice none 0 0 ∧ n = 0 ∧ xs = []) ∨
    ∃ g cap cur, v = .slice (some ⟨g, 0, none⟩) n cap ∧ v.ownBlock = some g ∧ w.heap[g]? = some (.cells cur e (0, 0)) ∧ n ≤ cap ∧ cap ≤ maxLen ∧ cur.size = cap * m ∧ cur.toList.take (n * m) = xs ∧ xs.length = n * m := by
  obtain ⟨h1, h2⟩ := h
  rcases h2 with ⟨rfl, rfl⟩ | ⟨g, cap, cur, rfl, _, hg, a, b, c, d⟩
  · exact .inl ⟨rfl, rfl, List.length_eq_zero_iff.1 (by simpa using h1)⟩
  · exact .inr ⟨g, cap, cur, rfl, rfl, hg, a, b, c, d, h1⟩

theorem ownsM_mk {w : World} {e : TypeId} {m g cap n : Nat} {cur : Array Value} {xs : List Value} (hg : w.heap[g]? = some (.cells cur e (0, 0))) (hn : n ≤ cap) (hm : cap ≤ maxLen) (hs : cur.size = cap * m) (ht : cur.toList.take (n * m) = xs) :
    w.ownsRow 0 e m (.slice (some ⟨g, 0, none⟩) n cap) n xs := by
  refine ⟨?_, .inr ⟨g, cap, cur, rfl, Nat.zero_le _, hg, hn, hm, hs, ht⟩⟩
  have := Nat.mul_le_mul_right m hn
  rw [← ht, List.length_take, Array.length_toList]; omega

/-- What an insert of one element leaves. -/
def InsPostM (w w' : World) (E : TypeId) (m : Nat) (v : Value) (n : Nat) (xs : List Value) (e : Ending) : Prop :=
  ∃ v', e = .returned v' ∧ w'.ownsRow 0 E m v' n xs ∧ w.grownBy w' v.ownBlock ∧ (v'.ownBlock = v.ownBlock ∨ ∃ b, v'.ownBlock = some b ∧ w.heap.size ≤ b)

theorem core_shift {w : World} {e : TypeId} {g I N M C : Nat} {cur : Array Value} {xs x : List Value} (hg : w.heap[g]? = some (.cells cur e (0, 0))) (hs : cur.size = C) (ht : cur.toList.take N = xs)
    (hx : xs.length = N) (hI : I ≤ N) (hM : x.length = M) (hC : N + M ≤ C) :
    ∃ c2, ((w.drew.setCells g (I + M) (xs.drop I)).setCells g I x).heap[g]? = some (.cells c2 e (0, 0)) ∧ c2.size = C ∧ c2.toList.take (N + M) = xs.take I ++ x ++ xs.drop I := by
  have hcl : cur.toList.length = C := by rw [Array.length_toList, hs]
  obtain ⟨c1, h1, t1⟩ := heap_setCells g e (xs.drop I) (I + M) w.drew cur hg (by rw [List.length_drop]; omega)
  have s1 : c1.size = C := by rw [← Array.length_toList, t1]; simp only [List.length_append, List.length_take, List.length_drop, Array.length_toList]; omega
  obtain ⟨c2, h2, t2⟩ := heap_setCells g e x I _ c1 h1 (by omega)
  have s2 : c2.size = C := by rw [← Array.length_toList, t2]; simp only [List.length_append, List.length_take, List.length_drop, Array.length_toList]; omega
  refine ⟨c2, h2, s2, ?_⟩
  have hl : (xs.take I ++ x ++ xs.drop I).length = N + M := by simp [List.length_take]; omega
  rw [t2, t1]
  have e1 : (cur.toList.take (I + M) ++ xs.drop I ++ cur.toList.drop (I + M + (xs.drop I).length)).take I = xs.take I := by
    rw [List.append_assoc, List.take_append_of_le_length (by rw [List.length_take]; omega), List.take_take, ← ht, List.take_take]
    congr 1; omega
  have e2 : (cur.toList.take (I + M) ++ xs.drop I ++ cur.toList.drop (I + M + (xs.drop I).length)).drop (I + x.length) = xs.drop I ++ cur.toList.drop (N + M) := by
    rw [List.append_assoc, List.drop_append_of_le_length (by rw [List.length_take]; omega), List.drop_take, hM, Nat.sub_self, List.take_zero, List.nil_append]
    have : I + M + (xs.drop I).length = N + M := by rw [List.length_drop]; omega
    rw [this]
  rw [e1, e2]
  have e3 : xs.take I ++ x ++ (xs.drop I ++ cur.toList.drop (N + M)) = (xs.take I ++ x ++ xs.drop I) ++ cur.toList.drop (N + M) := by simp
  rw [e3, ← hl, List.take_append_of_le_length (Nat.le_refl _), List.take_length]

theorem core_room {w : World} {e : TypeId} {g N M C : Nat} {cur : Array Value} {xs x : List Value} (hg : w.heap[g]? = some (.cells cur e (0, 0))) (hs : cur.size = C) (ht : cur.toList.take N = xs)
    (hx : xs.length = N) (hM : x.length = M) (hC : N + M ≤ C) :
    ∃ c2, (w.setCells g N x).heap[g]? = some (.cells c2 e (0, 0)) ∧ c2.size = C ∧ c2.toList.take (N + M) = xs ++ x := by
  obtain ⟨c2, h2, t2⟩ := heap_setCells g e x N w cur hg (by omega)
  have s2 : c2.size = C := by rw [← Array.length_toList, t2]; simp only [List.length_append, List.length_take, List.length_drop, Array.length_toList]; omega
  refine ⟨c2, h2, s2, ?_⟩
  rw [t2, ht, List.take_append_of_le_length (by simp; omega), List.take_of_length_le (by simp; omega)]

theorem core_grow {w : World} {e : TypeId} {I N M C : Nat} {Y Z : Array Value} {xs x : List Value} (hx : xs.length = N) (hI : I ≤ N) (hM : x.length = M) (hC : N + M ≤ C) (hY : Y.size = N + M - I) (hZ : Z.size = C - (N + M)) :
    ∃ c2, ((((w.alloc (.cells ((xs.take I).toArray ++ Y ++ Z) e)).drew.setCells w.heap.size I x).drew).setCells w.heap.size (I + M) (xs.drop I)).heap[w.heap.size]? = some (.cells c2 e (0, 0)) ∧ c2.size = C ∧ c2.toList.take (N + M) = xs.take I ++ x ++ xs.drop I := by
  have hti : (xs.take I).length = I := by rw [List.length_take]; omega
  have h0 : ((w.alloc (.cells ((xs.take I).toArray ++ Y ++ Z) e)).drew).heap[w.heap.size]? = some (.cells ((xs.take I).toArray ++ Y ++ Z) e (0, 0)) := heap_alloc_new w _
  have s0 : ((xs.take I).toArray ++ Y ++ Z).size = C := by simp [List.length_take]; omega
  obtain ⟨c1, h1, t1⟩ := heap_setCells w.heap.size e x I _ _ h0 (by rw [s0]; omega)
  have s1 : c1.size = C := by rw [← Array.length_toList, t1]; simp only [List.length_append, List.length_take, List.length_drop, Array.length_toList]; omega
  obtain ⟨c2, h2, t2⟩ := heap_setCells w.heap.size e (xs.drop I) (I + M) (((w.alloc (.cells ((xs.take I).toArray ++ Y ++ Z) e)).drew.setCells w.heap.size I x).drew) c1 h1 (by rw [s1, List.length_drop]; omega)
  have s2 : c2.size = C := by rw [← Array.length_toList, t2]; simp only [List.length_append, List.length_take, List.length_drop, Array.length_toList]; omega
  refine ⟨c2, h2, s2, ?_⟩
  rw [t2, t1]
  have e1 : ((((xs.take I).toArray ++ Y ++ Z).toList.take I ++ x ++ ((xs.take I).toArray ++ Y ++ Z).toList.drop (I + x.length))).take (I + M) = xs.take I ++ x := by
    have e0 : ((xs.take I).toArray ++ Y ++ Z).toList.take I = xs.take I := by
      rw [Array.toList_append, Array.toList_append, List.append_assoc, List.take_append_of_le_length (by simp [List.length_take]; omega)]
      exact List.take_of_length_le (by simp [List.length_take]; omega)
    rw [e0, List.take_append_of_le_length (by simp [List.length_take]; omega), List.take_of_length_le (by simp [List.length_take]; omega)]
  have hl : (xs.take I ++ x ++ xs.drop I).length = N + M := by simp [List.length_take]; omega
  rw [e1, ← hl, List.take_append_of_le_length (Nat.le_refl _), List.take_length]

section
variable {P : Program}
/-- copy at an element type of any size: all is read before anything is written. -/
theorem run_copy_m (w : World) (dT sT ty elem : TypeId) (m b o dLen dCap : Nat) (a : Addr) (sLen sCap : Nat) (cs : List Value)
    (hu : P.underlying dT = some (.slice elem)) (hs : (P.info? elem).map (·.size) = some m) (hn : cs.length = Nat.min sLen dLen * m)
    (hsrc : ∀ j v, cs[j]? = some v → w.cell? (a.add j) = some v) (hc : ∀ j, j < cs.length → (w.cell? ⟨b, o + j, none⟩).isSome = true) (hf : ∀ j, j < cs.length → w.frozen? ⟨b, o + j, none⟩ = false) (h1 : ∀ v ∈ cs, v.oneCell' = true) :
    (Builtin.copy_ #[dT, sT] ty #[.slice (some ⟨b, o, none⟩) dLen dCap, .slice (some a) sLen sCap]).run P w = .ok (goInt (Nat.min sLen dLen)) (w.setCells b o cs) := by
  have hl := run_loadCells_list (P := P) w a cs hsrc
  have hst := run_storeCells_cells (P := P) b o cs 0 w (by simpa using hc) (by simpa using hf) h1
  cases hq : P.info? elem with
  | none => simp [hq] at hs
  | some i =>
    have hi : i.size = m := by simpa [hq] using hs
    simp [Builtin.copy_, run_underlying hu, Builtin.lenOf, Builtin.firstCells, sizeOf, typeInfo, hq, hi, ← hn, hl, hst]
end

end Go.Proofs.Ytikifgenfpkidaa
