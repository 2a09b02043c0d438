/-
  No statement: plain lemmas on memory and on rising lists of texts, which this seat's walks of package sorted use.
-/
import Derived.WalkKit
import Derived.WalkSpells
import Derived.Lib.Hide
import Derived.Deep.Draws
import Derived.Sort.Walk0
namespace Go.Proofs.Ytpdobbdbmgeoiaa
open Go.RowKit

/-- w' is w but for new blocks and the blocks in S. -/
structure Kept (S : Nat → Prop) (w w' : World) : Prop where
  os : w'.os = w.os
  tape : w'.tape = w.tape
  output : w'.output = w.output
  size : w.heap.size ≤ w'.heap.size
  block : ∀ k, k < w.heap.size → ¬ S k → w'.heap[k]? = w.heap[k]?

theorem Kept.refl (S : Nat → Prop) (w : World) : Kept S w w := ⟨rfl, rfl, rfl, Nat.le_refl _, fun _ _ _ => rfl⟩

theorem Kept.trans {S T : Nat → Prop} {a b c : World} (h : Kept S a b) (k : Kept T b c) (hT : ∀ i, T i → i < a.heap.size → S i) : Kept S a c :=
  ⟨k.os.trans h.os, k.tape.trans h.tape, k.output.trans h.output, Nat.le_trans h.size k.size, fun i hi hS =>
    (k.block i (Nat.lt_of_lt_of_le hi h.size) (fun ht => hS (hT i ht hi))).trans (h.block i hi hS)⟩

theorem Kept.mono {S T : Nat → Prop} {a b : World} (h : Kept S a b) (hT : ∀ i, S i → i < a.heap.size → T i) : Kept T a b :=
  ⟨h.os, h.tape, h.output, h.size, fun i hi hS => h.block i hi (fun hs => hS (hT i hs hi))⟩

theorem Kept.alloc {S : Nat → Prop} {a w : World} (h : Kept S a w) (o : Obj) : Kept S a (w.alloc o) :=
  h.trans (T := S) ⟨rfl, rfl, rfl, by simp, fun k hk _ => Below.heap_alloc _ _ _ hk⟩ (fun _ hs _ => hs)

theorem Kept.drew {S : Nat → Prop} {a w : World} (h : Kept S a w) : Kept S a w.drew := ⟨h.os, h.tape, h.output, h.size, h.block⟩

theorem Kept.drewN {S : Nat → Prop} {a w : World} (h : Kept S a w) (n : Nat) : Kept S a (w.drewN n) := ⟨h.os, h.tape, h.output, h.size, h.block⟩

theorem Kept.setCell {S : Nat → Prop} {a w : World} (h : Kept S a w) {p : Addr} (hp : S p.block ∨ a.heap.size ≤ p.block) (u : Value) : Kept S a (w.setCell p u) :=
  h.trans (T := fun i => i = p.block) ⟨rfl, rfl, rfl, by simp [World.setCell], fun k _ hk => Below.heap_setCell _ _ _ _ hk⟩
    (fun i hi hl => by subst hi; rcases hp with hp | hp; exact hp; omega)

theorem Kept.grown {S : Nat → Prop} {a w w' : World} {row : Option Nat} (h : Kept S a w) (hg : w.grownBy w' row) (hr : ∀ k, row = some k → S k ∨ a.heap.size ≤ k) : Kept S a w' :=
  h.trans (T := fun i => row = some i) ⟨hg.os, hg.tape, hg.output, hg.size, fun k hk hne => hg.block k hk (fun e => hne e.symm)⟩
    (fun i hi hl => by rcases hr i hi with hp | hp; exact hp; omega)

theorem Kept.below {S : Nat → Prop} {B : Nat} {w w' : World} (h : Kept S w w') (hS : ∀ k, S k → B ≤ k) (hB : B ≤ w.heap.size) : Below B w w' :=
  ⟨h.os, h.tape, h.output, h.size, fun k hk => h.block k (by omega) (fun hs => by have := hS k hs; omega)⟩

theorem Kept.heap {S : Nat → Prop} {w w' : World} {k : Nat} {o : Obj} (h : Kept S w w') (hk : w.heap[k]? = some o) (hS : ¬ S k) : w'.heap[k]? = some o :=
  (h.block k (lt_of_block hk) hS).trans hk

theorem Kept.cell {S : Nat → Prop} {w w' : World} {a : Addr} {v : Value} (h : Kept S w w') (hk : w.cell? a = some v) (hS : ¬ S a.block) : w'.cell? a = some v :=
  (World.cell?_of_block (h.block a.block (World.block_lt_of_cell? w a hk) hS)).trans hk

theorem Kept.owns {S : Nat → Prop} {w w' : World} {base : Nat} {e : TypeId} {size : Nat} {v : Value} {n : Nat} {xs : List Value} (h : Kept S w w') (ho : w.ownsRow base e size v n xs)
    (hS : ∀ b, v.ownBlock = some b → ¬ S b) : w'.ownsRow base e size v n xs := by
  refine ⟨ho.1, ?_⟩
  rcases ho.2 with hn | ⟨g, cap, cur, rfl, hb, hgg, rest⟩
  · exact .inl hn
  · exact .inr ⟨g, cap, cur, rfl, hb, h.heap hgg (hS g (by simp [Value.ownBlock])), rest⟩

/-- Of a slice that is owned: nil with nothing in it, or a block. -/
theorem owns_cases {w : World} {e : TypeId} {v : Value} {n : Nat} {xs : List Value} (h : w.ownsRow 0 e 1 v n xs) :
    (v = .slice none 0 0 ∧ n = 0 ∧ xs = []) ∨
    ∃ g cap cur, v = .slice (some ⟨g, 0, none⟩) n cap ∧ v.ownBlock = some g ∧ w.heap[g]? = some (.cells cur e (0, 0)) ∧ n ≤ cap ∧ cap ≤ maxLen ∧ cur.size = cap ∧ cur.toList.take n = xs ∧ xs.length = n ∧ g < w.heap.size := by
  obtain ⟨h1, h2⟩ := h
  rw [Nat.mul_one] at h1
  rcases h2 with ⟨rfl, rfl⟩ | ⟨g, cap, cur, rfl, _, hg, a, b, c, d⟩
  · exact .inl ⟨rfl, rfl, List.length_eq_zero_iff.1 h1⟩
  · rw [Nat.mul_one] at c d
    exact .inr ⟨g, cap, cur, rfl, rfl, hg, a, b, c, d, h1, lt_of_block hg⟩

theorem owns_mk {w : World} {e : TypeId} {g cap n : Nat} {cur : Array Value} {xs : List Value} (hg : w.heap[g]? = some (.cells cur e (0, 0))) (hn : n ≤ cap) (hm : cap ≤ maxLen) (hs : cur.size = cap) (ht : cur.toList.take n = xs) :
    w.ownsRow 0 e 1 (.slice (some ⟨g, 0, none⟩) n cap) n xs := by
  refine ⟨?_, .inr ⟨g, cap, cur, rfl, Nat.zero_le _, hg, hn, hm, by rw [Nat.mul_one]; exact hs, by rw [Nat.mul_one]; exact ht⟩⟩
  rw [← ht, List.length_take, Array.length_toList, Nat.mul_one]; omega

theorem owns_len {w : World} {e : TypeId} {v : Value} {n : Nat} {xs : List Value} (h : w.ownsRow 0 e 1 v n xs) : xs.length = n := by rw [h.1, Nat.mul_one]

theorem owns_cell {w : World} {e : TypeId} {g n : Nat} {cur : Array Value} {xs : List Value} (hg : w.heap[g]? = some (.cells cur e (0, 0))) (ht : cur.toList.take n = xs) {j : Nat} {v : Value} (hj : xs[j]? = some v) : w.cell? ⟨g, j, none⟩ = some v := by
  rw [cell_of_row w g j cur e (0, 0) hg]
  rw [← ht, List.getElem?_take] at hj
  split at hj
  · simpa using hj
  · cases hj

/-- Cells written one behind the other into a block that is known whole. -/
theorem heap_setCells (b : Nat) (e : TypeId) : ∀ (vs : List Value) (o : Nat) (w : World) (cur : Array Value), w.heap[b]? = some (.cells cur e (0, 0)) → o + vs.length ≤ cur.size →
    ∃ cur', (w.setCells b o vs).heap[b]? = some (.cells cur' e (0, 0)) ∧ cur'.toList = cur.toList.take o ++ vs ++ cur.toList.drop (o + vs.length)
  | [], o, w, cur, h, _ => ⟨cur, h, by simp⟩
  | v :: r, o, w, cur, h, hl => by
    have h1 := heap_setCell_same w b o cur e v h
    have hs : (cur.setIfInBounds o v).size = cur.size := by simp
    obtain ⟨cur', hc, ht⟩ := heap_setCells b e r (o + 1) _ _ h1 (by simp at hl ⊢; omega)
    refine ⟨cur', hc, ?_⟩
    rw [ht]
    simp only [List.length_cons] at hl ⊢
    have ho : o < cur.toList.length := by rw [Array.length_toList]; omega
    have hto : (cur.toList.take o).length = o := by rw [List.length_take]; omega
    have hset : (cur.toList.take o ++ [cur.toList[o]]).set o v = cur.toList.take o ++ [v] := by
      rw [List.set_append, if_neg (by omega), hto, Nat.sub_self]; rfl
    rw [Array.toList_setIfInBounds, List.take_set, List.drop_set_of_lt (by omega), List.take_succ_eq_append_getElem ho, hset]
    simp [Nat.add_assoc, Nat.add_comm 1]

theorem kept_setCells (b : Nat) : ∀ (vs : List Value) (o : Nat) (w : World), Kept (· = b) w (w.setCells b o vs)
  | [], _, w => Kept.refl _ w
  | v :: r, o, w => ((Kept.refl (fun i => i = b) w).setCell (p := ⟨b, o, none⟩) (Or.inl rfl) v).trans (kept_setCells b r (o + 1) _) (fun _ h _ => h)

theorem grownBy_of_kept {S : Nat → Prop} {w w' : World} {row : Option Nat} (h : Kept S w w') (hS : ∀ k, S k → row = some k) : w.grownBy w' row :=
  ⟨h.os, h.tape, h.output, h.size, fun k hk hne => h.block k hk (fun hs => hne (hS k hs).symm)⟩


/-- What Insert of one element leaves: a slice that holds it at its place, in the old block or in a new one; no other old block has turned. -/
def InsPost (w w' : World) (E : TypeId) (v : Value) (xs : List Value) (e : Ending) : Prop :=
  ∃ v', e = .returned v' ∧ w'.ownsRow 0 E 1 v' xs.length xs ∧ w.grownBy w' v.ownBlock ∧ (v'.ownBlock = v.ownBlock ∨ ∃ b, v'.ownBlock = some b ∧ w.heap.size ≤ b)

theorem insPost_shift {w : World} {e : TypeId} {g cap n i : Nat} {cur : Array Value} {xs : List Value} {x : Value} (hg : w.heap[g]? = some (.cells cur e (0, 0))) (hs : cur.size = cap) (ht : cur.toList.take n = xs)
    (hx : xs.length = n) (hi : i < n) (hr : n + 1 ≤ cap) (hm : cap ≤ maxLen) (e' : Ending) (he : e' = .returned (.slice (some ⟨g, 0, none⟩) (n + 1) cap)) :
    InsPost w ((w.drew.setCells g (i + 1) (xs.drop i)).setCells g i [x]) e (.slice (some ⟨g, 0, none⟩) n cap) (xs.take i ++ x :: xs.drop i) e' := by
  obtain ⟨c1, h1, t1⟩ := heap_setCells g e (xs.drop i) (i + 1) w.drew cur hg (by rw [List.length_drop]; omega)
  have s1 : c1.size = cap := by
    rw [← Array.length_toList, t1]; simp [List.length_take]; omega
  obtain ⟨c2, h2, t2⟩ := heap_setCells g e [x] i _ c1 h1 (by simp; omega)
  have s2 : c2.size = cap := by
    rw [← Array.length_toList, t2]; simp [List.length_take]; omega
  have hl : (xs.take i ++ x :: xs.drop i).length = n + 1 := by simp [List.length_take]; omega
  refine ⟨_, he, ?_, grownBy_of_kept (S := (· = g)) (((Kept.refl (· = g) w).drew.trans (kept_setCells g _ _ _) (fun _ h _ => h)).trans (kept_setCells g _ _ _) (fun _ h _ => h)) (fun k hk => by subst hk; rfl), Or.inl rfl⟩
  rw [hl]
  refine owns_mk h2 hr hm s2 ?_
  rw [t2, t1]
  have e1 : (cur.toList.take (i + 1) ++ xs.drop i ++ cur.toList.drop (i + 1 + (xs.drop i).length)).take i = xs.take i := by
    rw [List.append_assoc, List.take_append_of_le_length (by rw [List.length_take, Array.length_toList]; omega), List.take_take, ← ht, List.take_take]
    congr 1; omega
  have e2 : (cur.toList.take (i + 1) ++ xs.drop i ++ cur.toList.drop (i + 1 + (xs.drop i).length)).drop (i + [x].length) = xs.drop i ++ cur.toList.drop (n + 1) := by
    rw [List.append_assoc, List.drop_append_of_le_length (by rw [List.length_take, Array.length_toList]; simp; omega), List.drop_take]
    have : i + 1 + (xs.drop i).length = n + 1 := by rw [List.length_drop]; omega
    rw [this]; simp
  rw [e1, e2]
  have e3 : xs.take i ++ [x] ++ (xs.drop i ++ cur.toList.drop (n + 1)) = (xs.take i ++ x :: xs.drop i) ++ cur.toList.drop (n + 1) := by simp
  rw [e3, ← hl, List.take_append_of_le_length (Nat.le_refl _), List.take_length]

theorem insPost_room {w : World} {e : TypeId} {g cap n : Nat} {cur : Array Value} {xs : List Value} {x : Value} (hg : w.heap[g]? = some (.cells cur e (0, 0))) (hs : cur.size = cap) (ht : cur.toList.take n = xs)
    (hx : xs.length = n) (hr : n + 1 ≤ cap) (hm : cap ≤ maxLen) (e' : Ending) (he : e' = .returned (.slice (some ⟨g, 0, none⟩) (n + 1) cap)) :
    InsPost w (w.setCells g n [x]) e (.slice (some ⟨g, 0, none⟩) n cap) (xs.take n ++ x :: xs.drop n) e' := by
  obtain ⟨c2, h2, t2⟩ := heap_setCells g e [x] n w cur hg (by simp; omega)
  have s2 : c2.size = cap := by
    rw [← Array.length_toList, t2]; simp [List.length_take]; omega
  have hl : (xs.take n ++ x :: xs.drop n).length = n + 1 := by simp [List.length_take]; omega
  refine ⟨_, he, ?_, grownBy_of_kept (S := (· = g)) (kept_setCells g _ _ _) (fun k hk => by subst hk; rfl), Or.inl rfl⟩
  rw [hl]
  refine owns_mk h2 hr hm s2 ?_
  rw [t2, ht, List.take_of_length_le (by omega : xs.length ≤ n), List.drop_of_length_le (by omega : xs.length ≤ n), List.take_append_of_le_length (by simp; omega), List.take_of_length_le (by simp; omega)]

theorem insPost_new {w w' : World} {e : TypeId} {G n i : Nat} {v : Value} {ROW : Array Value} {xs : List Value} {x : Value} (hx : xs.length = n) (hi : i ≤ n) (hG : n + 1 ≤ G) (hm : G ≤ maxLen)
    (hw : Kept (fun _ => False) w w') (hrow : w'.heap[w.heap.size]? = some (.cells ROW e (0, 0))) (hs : ROW.size = G) (ht : ROW.toList.take (n + 1) = xs.take i ++ x :: xs.drop i) (e' : Ending) (he : e' = .returned (.slice (some ⟨w.heap.size, 0, none⟩) (n + 1) G)) :
    InsPost w w' e v (xs.take i ++ x :: xs.drop i) e' := by
  have hl : (xs.take i ++ x :: xs.drop i).length = n + 1 := by simp [List.length_take]; omega
  refine ⟨_, he, ?_, grownBy_of_kept hw (fun _ h => h.elim), Or.inr ⟨_, rfl, Nat.le_refl _⟩⟩
  rw [hl]
  exact owns_mk hrow hG hm hs ht

theorem insPost_end {w : World} {e : TypeId} {G n : Nat} {v : Value} {Z : Array Value} {xs : List Value} {x : Value} (hx : xs.length = n) (hG : n + 1 ≤ G) (hm : G ≤ maxLen) (hZ : Z.size = G - (n + 1))
    (e' : Ending) (he : e' = .returned (.slice (some ⟨w.heap.size, 0, none⟩) (n + 1) G)) :
    InsPost w (w.drew.alloc (.cells ((xs ++ [x]).toArray ++ Z) e)) e v (xs.take n ++ x :: xs.drop n) e' := by
  refine insPost_new (i := n) (ROW := (xs ++ [x]).toArray ++ Z) hx (Nat.le_refl _) hG hm ((Kept.refl _ w).drew.alloc _) (heap_alloc_new w.drew _) (by simp; omega) ?_ e' he
  rw [Array.toList_append, List.take_append_of_le_length (by simp; omega), List.take_of_length_le (by simp; omega), List.take_of_length_le (by omega : xs.length ≤ n), List.drop_of_length_le (by omega : xs.length ≤ n)]

theorem insPost_grow {w : World} {e : TypeId} {G n i : Nat} {v : Value} {Y Z : Array Value} {xs : List Value} {x : Value} (hx : xs.length = n) (hi : i < n) (hG : n + 1 ≤ G) (hm : G ≤ maxLen) (hY : Y.size = n + 1 - i) (hZ : Z.size = G - (n + 1))
    (e' : Ending) (he : e' = .returned (.slice (some ⟨w.heap.size, 0, none⟩) (n + 1) G)) :
    InsPost w ((((w.alloc (.cells ((xs.take i).toArray ++ Y ++ Z) e)).drew.setCells w.heap.size i [x]).drew).setCells w.heap.size (i + 1) (xs.drop i)) e v (xs.take i ++ x :: xs.drop i) e' := by
  have hti : (xs.take i).length = i := by rw [List.length_take]; omega
  have h0 : ((w.alloc (.cells ((xs.take i).toArray ++ Y ++ Z) e)).drew).heap[w.heap.size]? = some (.cells ((xs.take i).toArray ++ Y ++ Z) e (0, 0)) := heap_alloc_new w _
  have s0 : ((xs.take i).toArray ++ Y ++ Z).size = G := by simp [List.length_take]; omega
  obtain ⟨c1, h1, t1⟩ := heap_setCells w.heap.size e [x] i _ _ h0 (by rw [s0]; simp; omega)
  have s1 : c1.size = G := by
    rw [← Array.length_toList, t1]; simp [List.length_take]; omega
  obtain ⟨c2, h2, t2⟩ := heap_setCells w.heap.size e (xs.drop i) (i + 1) (((w.alloc (.cells ((xs.take i).toArray ++ Y ++ Z) e)).drew.setCells w.heap.size i [x]).drew) c1 h1 (by rw [s1, List.length_drop]; omega)
  have s2 : c2.size = G := by
    rw [← Array.length_toList, t2]; simp [List.length_take]; omega
  have k0 : Kept (fun k => k = w.heap.size) w ((((w.alloc (.cells ((xs.take i).toArray ++ Y ++ Z) e)).drew.setCells w.heap.size i [x]).drew).setCells w.heap.size (i + 1) (xs.drop i)) :=
    ((((Kept.refl (fun k => k = w.heap.size) w).alloc _).drew.trans (kept_setCells w.heap.size _ _ _) (fun _ h _ => h)).drew).trans (kept_setCells w.heap.size _ _ _) (fun _ h _ => h)
  refine insPost_new (ROW := c2) hx (Nat.le_of_lt hi) hG hm (k0.mono (fun k hk hl => by omega)) h2 s2 ?_ e' he
  rw [t2, t1]
  have e1 : ((((xs.take i).toArray ++ Y ++ Z).toList.take i ++ [x] ++ ((xs.take i).toArray ++ Y ++ Z).toList.drop (i + [x].length))).take (i + 1) = xs.take i ++ [x] := by
    have e0 : ((xs.take i).toArray ++ Y ++ Z).toList.take i = xs.take i := by
      rw [Array.toList_append, Array.toList_append, List.append_assoc, List.take_append_of_le_length (by simp [List.length_take]; omega)]
      exact List.take_of_length_le (by simp [List.length_take]; omega)
    rw [e0, List.take_append_of_le_length (by simp [List.length_take]; omega), List.take_of_length_le (by simp [List.length_take]; omega)]
  have hl : (xs.take i ++ x :: xs.drop i).length = n + 1 := by simp [List.length_take]; omega
  rw [e1]
  have e3 : ∀ R : List Value, xs.take i ++ [x] ++ xs.drop i ++ R = (xs.take i ++ x :: xs.drop i) ++ R := fun R => by simp
  rw [e3, ← hl, List.take_append_of_le_length (Nat.le_refl _), List.take_length]

/-- What Delete of one element leaves: the same block, without the element; no other old block has turned. -/
def DelPost (w w' : World) (E : TypeId) (v : Value) (xs : List Value) (e : Ending) : Prop :=
  ∃ v', e = .returned v' ∧ w'.ownsRow 0 E 1 v' xs.length xs ∧ w.grownBy w' v.ownBlock ∧ v'.ownBlock = v.ownBlock

theorem delPost {w : World} {e : TypeId} {g cap n i : Nat} {cur : Array Value} {xs : List Value} {z : Value} (hg : w.heap[g]? = some (.cells cur e (0, 0))) (hs : cur.size = cap) (ht : cur.toList.take n = xs)
    (hx : xs.length = n) (hi : i < n) (hn : n ≤ cap) (hm : cap ≤ maxLen) (e' : Ending) (he : e' = .returned (.slice (some ⟨g, 0, none⟩) (n - 1) cap)) :
    DelPost w ((w.drew.setCells g i (xs.drop (i + 1))).setCells g (n - 1) [z]) e (.slice (some ⟨g, 0, none⟩) n cap) (xs.eraseIdx i) e' := by
  obtain ⟨c1, h1, t1⟩ := heap_setCells g e (xs.drop (i + 1)) i w.drew cur hg (by rw [List.length_drop]; omega)
  have s1 : c1.size = cap := by
    rw [← Array.length_toList, t1]; simp [List.length_take]; omega
  obtain ⟨c2, h2, t2⟩ := heap_setCells g e [z] (n - 1) _ c1 h1 (by simp; omega)
  have s2 : c2.size = cap := by
    rw [← Array.length_toList, t2]; simp [List.length_take]; omega
  have hl : (xs.eraseIdx i).length = n - 1 := by rw [List.length_eraseIdx, if_pos (by omega), hx]
  refine ⟨_, he, ?_, grownBy_of_kept (S := (· = g)) (((Kept.refl (· = g) w).drew.trans (kept_setCells g _ _ _) (fun _ h _ => h)).trans (kept_setCells g _ _ _) (fun _ h _ => h)) (fun k hk => by subst hk; rfl), rfl⟩
  rw [hl]
  refine owns_mk h2 (by omega) hm s2 ?_
  have hte : cur.toList.take i = xs.take i := by
    rw [← ht, List.take_take]; congr 1; omega
  have hti : (xs.take i).length = i := by rw [List.length_take]; omega
  rw [t2, t1, hte, List.eraseIdx_eq_take_drop_succ]
  have hb : (xs.take i ++ xs.drop (i + 1)).length = n - 1 := by rw [List.length_append, hti, List.length_drop]; omega
  rw [List.append_assoc, List.take_append_of_le_length (by simp [List.length_take]; omega), List.take_take, Nat.min_self, ← hb, List.take_append_of_le_length (Nat.le_refl _), List.take_length]

/-- What a copy leaves: a new slice of the same elements; no old block has turned. -/
def TwinPost (w w' : World) (E : TypeId) (xs : List Value) (e : Ending) : Prop :=
  ∃ v', e = .returned v' ∧ w'.ownsRow 0 E 1 v' xs.length xs ∧ w.grownBy w' none ∧ ∃ b, v'.ownBlock = some b ∧ w.heap.size ≤ b

theorem twin_nil {w : World} {e : TypeId} {v : Value} {xs : List Value} (h : w.ownsRow 0 e 1 v 0 xs) : w.ownsRow 0 e 1 v ([] : List Value).length [] := by
  obtain rfl : xs = [] := List.length_eq_zero_iff.1 (owns_len h)
  exact h

theorem twin_row {w : World} {e : TypeId} {g n : Nat} {xs : List Value} (h : w.ownsRow 0 e 1 (.slice (some ⟨g, 0, none⟩) n n) n xs) (h0 : ¬ n = 0) :
    ∃ cur, w.heap[g]? = some (.cells cur e (0, 0)) ∧ cur.size = n ∧ g < w.heap.size := by
  rcases owns_cases h with ⟨_, rfl, _⟩ | ⟨g', cap, cur, hv, hob, hg, hnc, hm, hs, ht, hx, hl⟩
  · exact absurd rfl h0
  · simp only [Value.slice.injEq, Option.some.injEq, Addr.mk.injEq] at hv
    obtain ⟨⟨rfl, _⟩, _, rfl⟩ := hv
    exact ⟨cur, hg, hs, hl⟩

theorem twin_full {w : World} {e : TypeId} {g n : Nat} {cur : Array Value} {xs : List Value} (hg : w.heap[g]? = some (.cells cur e (0, 0))) (hs : cur.size = n) (hx : xs.length = n) (hm : n ≤ maxLen) :
    (w.setRow g (xs ++ cur.toList.drop xs.length).toArray).ownsRow 0 e 1 (.slice (some ⟨g, 0, none⟩) n n) xs.length xs := by
  rw [hx]
  have hh := setRow_heap w g cur (xs ++ cur.toList.drop n).toArray e (0, 0) hg
  refine owns_mk hh (Nat.le_refl _) hm ?_ ?_
  · simp; omega
  · simp [List.take_append_of_le_length (Nat.le_of_eq hx.symm)]
    exact List.take_of_length_le (Nat.le_of_eq hx)

theorem twin_grown {w w1 : World} {cs : Array Value} (h : w.grownBy w1 none) : w.grownBy (w1.setRow w.heap.size cs) none :=
  ⟨h.os, h.tape, h.output, by rw [size_setRow]; exact h.size, fun k hk hne => by
    rw [setRow_other w1 w.heap.size k cs (by omega)]
    exact h.block k hk hne⟩

theorem text_eq {x y : ByteArray} (h : x.data.toList = y.data.toList) : x = y := by
  cases x; cases y; simp only [ByteArray.mk.injEq]; exact Array.toList_inj.1 h

end Go.Proofs.Ytpdobbdbmgeoiaa
