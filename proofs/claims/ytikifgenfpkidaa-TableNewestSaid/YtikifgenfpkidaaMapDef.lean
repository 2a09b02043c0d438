/-
  No statement: what it is that a map lies in memory: its two slices, of the same length, each in a block of its own.
-/
import Derived.Test.YtikifgenfpkidaaBase
import Derived.Test.YtikifgenfpkidaaKeys
namespace Go.Proofs.Ytikifgenfpkidaa
open Go.RowKit

/-- At block p lies a map of two owned slices; all its blocks are among F. -/
def MapIn (w : World) (T kE vE : TypeId) (p : Nat) (F : Nat → Prop) (ks vs : List Value) : Prop :=
  ∃ kv vv, w.heap[p]? = some (.cells #[kv, vv] T (0, 0)) ∧ w.ownsRow 0 kE 1 kv ks.length ks ∧ w.ownsRow 0 vE 1 vv ks.length vs ∧
    kv.ownBlock ≠ some p ∧ vv.ownBlock ≠ some p ∧ (∀ b, kv.ownBlock = some b → vv.ownBlock ≠ some b) ∧
    F p ∧ (∀ b, kv.ownBlock = some b → F b) ∧ (∀ b, vv.ownBlock = some b → F b) ∧ (∀ k, F k → k < w.heap.size)

/-- The blocks of before, and new ones. -/
def Grew (w : World) (F F' : Nat → Prop) : Prop := ∀ k, F' k → F k ∨ w.heap.size ≤ k

theorem Grew.refl (w : World) (F : Nat → Prop) : Grew w F F := fun _ h => Or.inl h

theorem Grew.trans {w w1 : World} {F G H : Nat → Prop} (h1 : Grew w F G) (h2 : Grew w1 G H) (hs : w.heap.size ≤ w1.heap.size) : Grew w F H := fun k hk => by
  rcases h2 k hk with h | h
  · exact h1 k h
  · exact Or.inr (by omega)

theorem MapIn.kept {w w' : World} {T kE vE : TypeId} {p : Nat} {F S : Nat → Prop} {ks vs : List Value} (h : MapIn w T kE vE p F ks vs) (hk : Kept S w w') (hS : ∀ k, F k → ¬ S k) : MapIn w' T kE vE p F ks vs := by
  obtain ⟨kv, vv, h0, h1, h2, d0, d1, d2, f0, f1, f2, f3⟩ := h
  exact ⟨kv, vv, hk.heap h0 (hS p f0), hk.owns h1 (fun b hb => hS b (f1 b hb)), hk.owns h2 (fun b hb => hS b (f2 b hb)), d0, d1, d2, f0, f1, f2, fun k hf => Nat.lt_of_lt_of_le (f3 k hf) hk.size⟩

theorem MapIn.drewN {w : World} {T kE vE : TypeId} {p : Nat} {F : Nat → Prop} {ks vs : List Value} (h : MapIn w T kE vE p F ks vs) (q : Nat) : MapIn (w.drewN q) T kE vE p F ks vs :=
  h.kept ((Kept.refl (fun _ => False) w).drewN q) (fun _ _ h => h)

theorem MapIn.lt {w : World} {T kE vE : TypeId} {p : Nat} {F : Nat → Prop} {ks vs : List Value} (h : MapIn w T kE vE p F ks vs) : ∀ k, F k → k < w.heap.size := by
  obtain ⟨kv, vv, h0, h1, h2, d0, d1, d2, f0, f1, f2, f3⟩ := h
  exact f3

theorem MapIn.len {w : World} {T kE vE : TypeId} {p : Nat} {F : Nat → Prop} {ks vs : List Value} (h : MapIn w T kE vE p F ks vs) : vs.length = ks.length := by
  obtain ⟨kv, vv, h0, h1, h2, d0, d1, d2, f0, f1, f2, f3⟩ := h
  exact owns_len h2

/-- A slice that is owned shows what it is. -/
theorem owns_slice {w : World} {e : TypeId} {v : Value} {n : Nat} {xs : List Value} (h : w.ownsRow 0 e 1 v n xs) : ∃ a c, v = .slice a n c := by
  rcases owns_cases h with ⟨rfl, rfl, _⟩ | ⟨g, cap, cur, rfl, _⟩
  · exact ⟨none, 0, rfl⟩
  · exact ⟨some ⟨g, 0, none⟩, cap, rfl⟩

theorem owns_block {w : World} {e : TypeId} {v : Value} {n : Nat} {xs : List Value} (h : w.ownsRow 0 e 1 v n xs) (h0 : 0 < n) :
    ∃ g c cur, v = .slice (some ⟨g, 0, none⟩) n c ∧ w.heap[g]? = some (.cells cur e (0, 0)) ∧ cur.size = c ∧ n ≤ c ∧ c ≤ maxLen ∧ cur.toList.take n = xs ∧ xs.length = n := by
  rcases owns_cases h with ⟨rfl, rfl, _⟩ | ⟨g, cap, cur, rfl, _, hg, hnc, hm, hs, ht, hx, _⟩
  · omega
  · exact ⟨g, cap, cur, rfl, hg, hs, hnc, hm, ht, hx⟩

theorem cell0_of_two {w : World} {p : Nat} {a b : Value} {T : TypeId} (h : w.heap[p]? = some (.cells #[a, b] T (0, 0))) : w.cell? ⟨p, 0, none⟩ = some a := by simp [World.cell?, h]
theorem cell1_of_two {w : World} {p : Nat} {a b : Value} {T : TypeId} (h : w.heap[p]? = some (.cells #[a, b] T (0, 0))) : w.cell? ⟨p, 1, none⟩ = some b := by simp [World.cell?, h]
theorem free_of_two {w : World} {p : Nat} {a b : Value} {T : TypeId} (h : w.heap[p]? = some (.cells #[a, b] T (0, 0))) (i : Nat) : w.frozen? ⟨p, i, none⟩ = false := by simp [World.frozen?, h]

/-- One element of an owned slice overwritten. -/
theorem owns_set {w : World} {e : TypeId} {g n c : Nat} {xs : List Value} (h : w.ownsRow 0 e 1 (.slice (some ⟨g, 0, none⟩) n c) n xs) (h0 : 0 < n) (i : Nat) (u : Value) :
    (w.setCell ⟨g, i, none⟩ u).ownsRow 0 e 1 (.slice (some ⟨g, 0, none⟩) n c) n (xs.set i u) := by
  obtain ⟨g', c', cur, hv, hg, hs, hnc, hm, ht, hx⟩ := owns_block h h0
  simp only [Value.slice.injEq, Option.some.injEq, Addr.mk.injEq] at hv
  obtain ⟨⟨rfl, _⟩, _, rfl⟩ := hv
  refine owns_mk (heap_setCell_same w g i cur e u hg) hnc hm (by simpa using hs) ?_
  rw [Array.toList_setIfInBounds, List.take_set, ht]

/-- The same with the fields' values in sight, and a length for each. -/
structure Fields (w : World) (T kE vE : TypeId) (p : Nat) (F : Nat → Prop) (kv vv : Value) (nk nv : Nat) (X Y : List Value) : Prop where
  row : w.heap[p]? = some (.cells #[kv, vv] T (0, 0))
  k : w.ownsRow 0 kE 1 kv nk X
  v : w.ownsRow 0 vE 1 vv nv Y
  dk : kv.ownBlock ≠ some p
  dv : vv.ownBlock ≠ some p
  dkv : ∀ b, kv.ownBlock = some b → vv.ownBlock ≠ some b
  fp : F p
  fk : ∀ b, kv.ownBlock = some b → F b
  fv : ∀ b, vv.ownBlock = some b → F b
  lt : ∀ k, F k → k < w.heap.size

theorem MapIn.fields {w : World} {T kE vE : TypeId} {p : Nat} {F : Nat → Prop} {ks vs : List Value} (h : MapIn w T kE vE p F ks vs) : ∃ ka kc va vc, Fields w T kE vE p F (.slice ka ks.length kc) (.slice va ks.length vc) ks.length ks.length ks vs := by
  obtain ⟨kv, vv, h0, h1, h2, d0, d1, d2, f0, f1, f2, f3⟩ := h
  obtain ⟨ka, kc, rfl⟩ := owns_slice h1
  obtain ⟨va, vc, rfl⟩ := owns_slice h2
  exact ⟨ka, kc, va, vc, h0, h1, h2, d0, d1, d2, f0, f1, f2, f3⟩

theorem Fields.mapIn {w : World} {T kE vE : TypeId} {p : Nat} {F : Nat → Prop} {kv vv : Value} {nk nv : Nat} {X Y : List Value} (h : Fields w T kE vE p F kv vv nk nv X Y) (hn : nk = nv) : MapIn w T kE vE p F X Y := by
  subst hn
  have := owns_len h.k
  subst this
  exact ⟨kv, vv, h.row, h.k, h.v, h.dk, h.dv, h.dkv, h.fp, h.fk, h.fv, h.lt⟩

theorem Fields.kept {w w' : World} {T kE vE : TypeId} {p : Nat} {F S : Nat → Prop} {kv vv : Value} {nk nv : Nat} {X Y : List Value} (h : Fields w T kE vE p F kv vv nk nv X Y) (hk : Kept S w w') (hS : ∀ k, F k → ¬ S k) : Fields w' T kE vE p F kv vv nk nv X Y :=
  ⟨hk.heap h.row (hS p h.fp), hk.owns h.k (fun b hb => hS b (h.fk b hb)), hk.owns h.v (fun b hb => hS b (h.fv b hb)), h.dk, h.dv, h.dkv, h.fp, h.fk, h.fv, fun k hf => Nat.lt_of_lt_of_le (h.lt k hf) hk.size⟩

theorem Fields.plt {w : World} {T kE vE : TypeId} {p : Nat} {F : Nat → Prop} {kv vv : Value} {nk nv : Nat} {X Y : List Value} (h : Fields w T kE vE p F kv vv nk nv X Y) : p < w.heap.size := h.lt p h.fp

/-- The footprint with the block of one value more. -/
def With (F : Nat → Prop) (v : Value) : Nat → Prop := fun k => F k ∨ v.ownBlock = some k

theorem keptOf {F : Nat → Prop} {w w1 : World} {v : Value} (hg : w.grownBy w1 v.ownBlock) (hf : ∀ b, v.ownBlock = some b → F b) : Kept F w w1 :=
  (Kept.refl F w).grown hg (fun k hk => Or.inl (hf k hk))

/-- The first field's slice made anew and stored. -/
theorem Fields.store0 {w w1 : World} {T kE vE : TypeId} {p : Nat} {F : Nat → Prop} {kv vv kv' : Value} {nk nv n : Nat} {X Y X' : List Value} (h : Fields w T kE vE p F kv vv nk nv X Y)
    (hg : w.grownBy w1 kv.ownBlock) (ho : w1.ownsRow 0 kE 1 kv' n X') (hb : kv'.ownBlock = kv.ownBlock ∨ ∃ b, kv'.ownBlock = some b ∧ w.heap.size ≤ b) :
    Fields (w1.setCell ⟨p, 0, none⟩ kv') T kE vE p (With F kv') kv' vv n nv X' Y ∧ Kept F w (w1.setCell ⟨p, 0, none⟩ kv') ∧ Grew w F (With F kv') := by
  have hK : Kept F w w1 := keptOf hg h.fk
  have hK2 : Kept F w (w1.setCell ⟨p, 0, none⟩ kv') := hK.setCell (Or.inl h.fp) _
  have hrow : w1.heap[p]? = some (.cells #[kv, vv] T (0, 0)) := by rw [hg.block p h.plt (fun e => h.dk e.symm)]; exact h.row
  have hdk : kv'.ownBlock ≠ some p := by
    rcases hb with hb | ⟨b, hb, hl⟩
    · rw [hb]; exact h.dk
    · rw [hb]; intro e; cases e; have := h.plt; omega
  have hv1 : w1.ownsRow 0 vE 1 vv nv Y := by
    refine h.v.kept hg ?_
    cases hvv : vv.ownBlock with
    | none => exact Or.inl rfl
    | some b => exact Or.inr (fun e => h.dkv b e.symm hvv)
  refine ⟨⟨?_, ownsRow_setCell_other ho (a := ⟨p, 0, none⟩) hdk _, ownsRow_setCell_other hv1 (a := ⟨p, 0, none⟩) h.dv _, hdk, h.dv, ?_, Or.inl h.fp, fun b hb => Or.inr hb, fun b hb => Or.inl (h.fv b hb), ?_⟩, hK2, ?_⟩
  · rw [heap_setCell_same w1 p 0 #[kv, vv] T kv' hrow]; rfl
  · intro b hb' e
    rcases hb with hb | ⟨b2, hb, hl⟩
    · rw [hb] at hb'; exact h.dkv b hb' e
    · rw [hb] at hb'; cases hb'; have := h.lt _ (h.fv _ e); omega
  · intro k hk
    rcases hk with hk | hk
    · exact Nat.lt_of_lt_of_le (h.lt k hk) hK2.size
    · rw [World.size_setCell]; exact (ho.lt k hk).2
  · intro k hk
    rcases hk with hk | hk
    · exact Or.inl hk
    · rcases hb with hb | ⟨b2, hb, hl⟩
      · rw [hb] at hk; exact Or.inl (h.fk k hk)
      · rw [hb] at hk; cases hk; exact Or.inr hl

/-- The second field's slice made anew and stored. -/
theorem Fields.store1 {w w1 : World} {T kE vE : TypeId} {p : Nat} {F : Nat → Prop} {kv vv vv' : Value} {nk nv n : Nat} {X Y Y' : List Value} (h : Fields w T kE vE p F kv vv nk nv X Y)
    (hg : w.grownBy w1 vv.ownBlock) (ho : w1.ownsRow 0 vE 1 vv' n Y') (hb : vv'.ownBlock = vv.ownBlock ∨ ∃ b, vv'.ownBlock = some b ∧ w.heap.size ≤ b) :
    Fields (w1.setCell ⟨p, 1, none⟩ vv') T kE vE p (With F vv') kv vv' nk n X Y' ∧ Kept F w (w1.setCell ⟨p, 1, none⟩ vv') ∧ Grew w F (With F vv') := by
  have hK : Kept F w w1 := keptOf hg h.fv
  have hK2 : Kept F w (w1.setCell ⟨p, 1, none⟩ vv') := hK.setCell (Or.inl h.fp) _
  have hrow : w1.heap[p]? = some (.cells #[kv, vv] T (0, 0)) := by rw [hg.block p h.plt (fun e => h.dv e.symm)]; exact h.row
  have hdv : vv'.ownBlock ≠ some p := by
    rcases hb with hb | ⟨b, hb, hl⟩
    · rw [hb]; exact h.dv
    · rw [hb]; intro e; cases e; have := h.plt; omega
  have hk1 : w1.ownsRow 0 kE 1 kv nk X := by
    refine h.k.kept hg ?_
    cases hkk : kv.ownBlock with
    | none => exact Or.inl rfl
    | some b => exact Or.inr (fun e => h.dkv b hkk e.symm)
  refine ⟨⟨?_, ownsRow_setCell_other hk1 (a := ⟨p, 1, none⟩) h.dk _, ownsRow_setCell_other ho (a := ⟨p, 1, none⟩) hdv _, h.dk, hdv, ?_, Or.inl h.fp, fun b hb => Or.inl (h.fk b hb), fun b hb => Or.inr hb, ?_⟩, hK2, ?_⟩
  · rw [heap_setCell_same w1 p 1 #[kv, vv] T vv' hrow]; rfl
  · intro b hkb e
    rcases hb with hb | ⟨b2, hb, hl⟩
    · rw [hb] at e; exact h.dkv b hkb e
    · rw [hb] at e; cases e; have := h.lt _ (h.fk _ hkb); omega
  · intro k hk
    rcases hk with hk | hk
    · exact Nat.lt_of_lt_of_le (h.lt k hk) hK2.size
    · rw [World.size_setCell]; exact (ho.lt k hk).2
  · intro k hk
    rcases hk with hk | hk
    · exact Or.inl hk
    · rcases hb with hb | ⟨b2, hb, hl⟩
      · rw [hb] at hk; exact Or.inl (h.fv k hk)
      · rw [hb] at hk; cases hk; exact Or.inr hl

/-- Cells of the map's own block while one of its slices is made anew. -/
theorem Fields.during {w w1 : World} {T kE vE : TypeId} {p : Nat} {F : Nat → Prop} {kv vv v : Value} {nk nv : Nat} {X Y : List Value} (h : Fields w T kE vE p F kv vv nk nv X Y) (hg : w.grownBy w1 v.ownBlock) (hd : v.ownBlock ≠ some p) :
    w1.cell? ⟨p, 0, none⟩ = some kv ∧ w1.cell? ⟨p, 1, none⟩ = some vv ∧ w1.frozen? ⟨p, 0, none⟩ = false ∧ w1.frozen? ⟨p, 1, none⟩ = false ∧ p < w1.heap.size := by
  have hrow : w1.heap[p]? = some (.cells #[kv, vv] T (0, 0)) := by rw [hg.block p h.plt (fun e => hd e.symm)]; exact h.row
  exact ⟨cell0_of_two hrow, cell1_of_two hrow, free_of_two hrow 0, free_of_two hrow 1, lt_of_block hrow⟩

/-- What a call that turns one map leaves: the map anew, in old blocks of its own and in new ones; nothing else has turned. -/
def Turned (w w' : World) (T kE vE : TypeId) (p : Nat) (F : Nat → Prop) (X Y : List Value) : Prop :=
  ∃ F', MapIn w' T kE vE p F' X Y ∧ Grew w F F' ∧ Kept F w w'

/-- Both fields made anew, one behind the other. -/
theorem Fields.both {w w0 w1 w2 w3 : World} {T kE vE : TypeId} {p : Nat} {F : Nat → Prop} {kv vv kv' vv' : Value} {nk nv n : Nat} {X Y X' Y' : List Value} (h : Fields w T kE vE p F kv vv nk nv X Y)
    (k0 : Kept (fun _ => False) w w0) (hg : w0.grownBy w1 kv.ownBlock) (ho : w1.ownsRow 0 kE 1 kv' n X') (hb : kv'.ownBlock = kv.ownBlock ∨ ∃ b, kv'.ownBlock = some b ∧ w0.heap.size ≤ b)
    (k1 : Kept (fun _ => False) (w1.setCell ⟨p, 0, none⟩ kv') w2) (hg2 : w2.grownBy w3 vv.ownBlock) (ho2 : w3.ownsRow 0 vE 1 vv' n Y') (hb2 : vv'.ownBlock = vv.ownBlock ∨ ∃ b, vv'.ownBlock = some b ∧ w2.heap.size ≤ b) :
    Turned w (w3.setCell ⟨p, 1, none⟩ vv') T kE vE p F X' Y' := by
  obtain ⟨a1, a2, a3⟩ := (h.kept k0 (fun _ _ h => h)).store0 hg ho hb
  obtain ⟨b1, b2, b3⟩ := (a1.kept k1 (fun _ _ h => h)).store1 hg2 ho2 hb2
  have hs0 := k0.size
  have hs1 := a2.size
  have hs2 := k1.size
  refine ⟨_, b1.mapIn rfl, fun k hk => ?_, ?_⟩
  · rcases b3 k hk with h1 | h1
    · rcases a3 k h1 with h2 | h2
      · exact Or.inl h2
      · exact Or.inr (by omega)
    · exact Or.inr (by omega)
  · refine ((k0.mono (T := F) (fun _ h _ => h.elim)).trans a2 (fun _ h _ => h)).trans ((k1.mono (T := With F kv') (fun _ h _ => h.elim)).trans b2 (fun _ h _ => h)) (fun i hi hl => ?_)
    rcases a3 i hi with h2 | h2
    · exact h2
    · omega

/-- A new map of two new slices. -/
theorem mapIn_new {w W : World} {T kE vE : TypeId} {kv vv : Value} {n a b : Nat} {X Y : List Value} (hW : Kept (fun _ => False) w W) (ho : W.ownsRow 0 kE 1 kv n X) (ho2 : W.ownsRow 0 vE 1 vv n Y)
    (ha : kv.ownBlock = some a) (hb : vv.ownBlock = some b) (hab : a ≠ b) (hwa : w.heap.size ≤ a) (hwb : w.heap.size ≤ b) :
    ∃ F', MapIn (W.alloc (.cells #[kv, vv] T)) T kE vE W.heap.size F' X Y ∧ (∀ k, F' k → w.heap.size ≤ k) ∧ Kept (fun _ => False) w (W.alloc (.cells #[kv, vv] T)) := by
  have la := (ho.lt a ha).2
  have lb := (ho2.lt b hb).2
  have hl := owns_len ho
  subst hl
  refine ⟨fun k => k = W.heap.size ∨ k = a ∨ k = b, ⟨kv, vv, heap_alloc_new W _, ho.alloc _, ho2.alloc _, ?_, ?_, ?_, Or.inl rfl, ?_, ?_, ?_⟩, ?_, hW.alloc _⟩
  · rw [ha]; intro e; cases e; omega
  · rw [hb]; intro e; cases e; omega
  · intro c hc e; rw [ha] at hc; rw [hb] at e; cases hc; cases e; exact hab rfl
  · intro c hc; rw [ha] at hc; cases hc; exact Or.inr (Or.inl rfl)
  · intro c hc; rw [hb] at hc; cases hc; exact Or.inr (Or.inr rfl)
  · intro k hk
    rw [World.size_alloc]
    rcases hk with rfl | rfl | rfl <;> omega
  · intro k hk
    have := hW.size
    rcases hk with rfl | rfl | rfl <;> omega

/-- The two slices made one behind the other, in either order. -/
theorem mapIn_twin {w w0 w1 w2 : World} {T kE vE : TypeId} {kv vv : Value} {n : Nat} {X Y : List Value} (h0 : Kept (fun _ => False) w w0)
    (g1 : w0.grownBy w1 none) (o1 : w1.ownsRow 0 kE 1 kv n X) (b1 : ∃ b, kv.ownBlock = some b ∧ w0.heap.size ≤ b) (g2 : w1.grownBy w2 none) (o2 : w2.ownsRow 0 vE 1 vv n Y) (b2 : ∃ b, vv.ownBlock = some b ∧ w1.heap.size ≤ b) :
    ∃ F', MapIn (w2.alloc (.cells #[kv, vv] T)) T kE vE w2.heap.size F' X Y ∧ (∀ k, F' k → w.heap.size ≤ k) ∧ Kept (fun _ => False) w (w2.alloc (.cells #[kv, vv] T)) := by
  obtain ⟨a, ha, sa⟩ := b1
  obtain ⟨b, hb, sb⟩ := b2
  have s0 := h0.size
  have s1 := g1.size
  have l1 := (o1.lt a ha).2
  exact mapIn_new ((h0.grown g1 (fun _ h => by cases h)).grown g2 (fun _ h => by cases h)) (o1.kept g2 (by rw [ha]; simp)) o2 ha hb (by omega) (by omega) (by omega)

theorem mapIn_twin' {w w0 w1 w2 : World} {T kE vE : TypeId} {kv vv : Value} {n : Nat} {X Y : List Value} (h0 : Kept (fun _ => False) w w0)
    (g1 : w0.grownBy w1 none) (o1 : w1.ownsRow 0 vE 1 vv n Y) (b1 : ∃ b, vv.ownBlock = some b ∧ w0.heap.size ≤ b) (g2 : w1.grownBy w2 none) (o2 : w2.ownsRow 0 kE 1 kv n X) (b2 : ∃ b, kv.ownBlock = some b ∧ w1.heap.size ≤ b) :
    ∃ F', MapIn (w2.alloc (.cells #[kv, vv] T)) T kE vE w2.heap.size F' X Y ∧ (∀ k, F' k → w.heap.size ≤ k) ∧ Kept (fun _ => False) w (w2.alloc (.cells #[kv, vv] T)) := by
  obtain ⟨b, hb, sb⟩ := b1
  obtain ⟨a, ha, sa⟩ := b2
  have s0 := h0.size
  have s1 := g1.size
  have l1 := (o1.lt b hb).2
  exact mapIn_new ((h0.grown g1 (fun _ h => by cases h)).grown g2 (fun _ h => by cases h)) o2 (o1.kept g2 (by rw [hb]; simp)) ha hb (by omega) (by omega) (by omega)

end Go.Proofs.Ytikifgenfpkidaa
