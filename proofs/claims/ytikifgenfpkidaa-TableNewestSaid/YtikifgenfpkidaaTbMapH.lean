/-
  No statement: what it is that a map lies in memory behind a first cell, as a table has it.
-/
import Derived.Test.YtikifgenfpkidaaMapDef
import Derived.Test.YtikifgenfpkidaaBaseM
namespace Go.Proofs.Ytikifgenfpkidaa
open Go.RowKit

theorem ownsM_slice {w : World} {e : TypeId} {m : Nat} {v : Value} {n : Nat} {xs : List Value} (h : w.ownsRow 0 e m v n xs) : ∃ a c, v = .slice a n c := by
  rcases ownsM_cases h with ⟨rfl, rfl, _⟩ | ⟨g, cap, cur, rfl, _⟩
  · exact ⟨none, 0, rfl⟩
  · exact ⟨some ⟨g, 0, none⟩, cap, rfl⟩

theorem ownsM_block {w : World} {e : TypeId} {m : Nat} {v : Value} {n : Nat} {xs : List Value} (h : w.ownsRow 0 e m v n xs) (h0 : 0 < n) :
    ∃ g c cur, v = .slice (some ⟨g, 0, none⟩) n c ∧ w.heap[g]? = some (.cells cur e (0, 0)) ∧ cur.size = c * m ∧ n ≤ c ∧ c ≤ maxLen ∧ cur.toList.take (n * m) = xs ∧ xs.length = n * m := by
  rcases ownsM_cases h with ⟨rfl, rfl, _⟩ | ⟨g, cap, cur, rfl, _, hg, hnc, hm, hs, ht, hx⟩
  · omega
  · exact ⟨g, cap, cur, rfl, hg, hs, hnc, hm, ht, hx⟩

theorem cell1_of_three {w : World} {p : Nat} {h a b : Value} {T : TypeId} (hh : w.heap[p]? = some (.cells #[h, a, b] T (0, 0))) : w.cell? ⟨p, 1, none⟩ = some a := by simp [World.cell?, hh]
theorem cell2_of_three {w : World} {p : Nat} {h a b : Value} {T : TypeId} (hh : w.heap[p]? = some (.cells #[h, a, b] T (0, 0))) : w.cell? ⟨p, 2, none⟩ = some b := by simp [World.cell?, hh]
theorem cell0_of_three {w : World} {p : Nat} {h a b : Value} {T : TypeId} (hh : w.heap[p]? = some (.cells #[h, a, b] T (0, 0))) : w.cell? ⟨p, 0, none⟩ = some h := by simp [World.cell?, hh]
theorem free_of_three {w : World} {p : Nat} {h a b : Value} {T : TypeId} (hh : w.heap[p]? = some (.cells #[h, a, b] T (0, 0))) (i : Nat) : w.frozen? ⟨p, i, none⟩ = false := by simp [World.frozen?, hh]

/-- At block p lies a map of two owned slices; all its blocks are among F. -/
def MapInH (m : Nat) (w : World) (T kE vE : TypeId) (p : Nat) (hd : Value) (F : Nat → Prop) (ks vs : List Value) : Prop :=
  ∃ kv vv, w.heap[p]? = some (.cells #[hd, kv, vv] T (0, 0)) ∧ w.ownsRow 0 kE 1 kv ks.length ks ∧ w.ownsRow 0 vE m vv ks.length vs ∧
    kv.ownBlock ≠ some p ∧ vv.ownBlock ≠ some p ∧ (∀ b, kv.ownBlock = some b → vv.ownBlock ≠ some b) ∧
    F p ∧ (∀ b, kv.ownBlock = some b → F b) ∧ (∀ b, vv.ownBlock = some b → F b) ∧ (∀ k, F k → k < w.heap.size)

theorem MapInH.kept {m : Nat} {w w' : World} {T kE vE : TypeId} {p : Nat} {hd : Value} {F S : Nat → Prop} {ks vs : List Value} (h : MapInH m w T kE vE p hd F ks vs) (hk : Kept S w w') (hS : ∀ k, F k → ¬ S k) : MapInH m w' T kE vE p hd F ks vs := by
  obtain ⟨kv, vv, h0, h1, h2, d0, d1, d2, f0, f1, f2, f3⟩ := h
  exact ⟨kv, vv, hk.heap h0 (hS p f0), hk.owns h1 (fun b hb => hS b (f1 b hb)), hk.owns h2 (fun b hb => hS b (f2 b hb)), d0, d1, d2, f0, f1, f2, fun k hf => Nat.lt_of_lt_of_le (f3 k hf) hk.size⟩

theorem MapInH.drewN {m : Nat} {w : World} {T kE vE : TypeId} {p : Nat} {hd : Value} {F : Nat → Prop} {ks vs : List Value} (h : MapInH m w T kE vE p hd F ks vs) (q : Nat) : MapInH m (w.drewN q) T kE vE p hd F ks vs :=
  h.kept ((Kept.refl (fun _ => False) w).drewN q) (fun _ _ h => h)

theorem MapInH.lt {m : Nat} {w : World} {T kE vE : TypeId} {p : Nat} {hd : Value} {F : Nat → Prop} {ks vs : List Value} (h : MapInH m w T kE vE p hd F ks vs) : ∀ k, F k → k < w.heap.size := by
  obtain ⟨kv, vv, h0, h1, h2, d0, d1, d2, f0, f1, f2, f3⟩ := h
  exact f3

theorem MapInH.len {m : Nat} {w : World} {T kE vE : TypeId} {p : Nat} {hd : Value} {F : Nat → Prop} {ks vs : List Value} (h : MapInH m w T kE vE p hd F ks vs) : vs.length = ks.length * m := by
  obtain ⟨kv, vv, h0, h1, h2, d0, d1, d2, f0, f1, f2, f3⟩ := h
  exact h2.1

/-- The same with the fields' values in sight, and a length for each. -/
structure FieldsH (m : Nat) (w : World) (T kE vE : TypeId) (p : Nat) (hd : Value) (F : Nat → Prop) (kv vv : Value) (nk nv : Nat) (X Y : List Value) : Prop where
  row : w.heap[p]? = some (.cells #[hd, kv, vv] T (0, 0))
  k : w.ownsRow 0 kE 1 kv nk X
  v : w.ownsRow 0 vE m vv nv Y
  dk : kv.ownBlock ≠ some p
  dv : vv.ownBlock ≠ some p
  dkv : ∀ b, kv.ownBlock = some b → vv.ownBlock ≠ some b
  fp : F p
  fk : ∀ b, kv.ownBlock = some b → F b
  fv : ∀ b, vv.ownBlock = some b → F b
  lt : ∀ k, F k → k < w.heap.size

theorem MapInH.fields {m : Nat} {w : World} {T kE vE : TypeId} {p : Nat} {hd : Value} {F : Nat → Prop} {ks vs : List Value} (h : MapInH m w T kE vE p hd F ks vs) : ∃ ka kc va vc, FieldsH m w T kE vE p hd F (.slice ka ks.length kc) (.slice va ks.length vc) ks.length ks.length ks vs := by
  obtain ⟨kv, vv, h0, h1, h2, d0, d1, d2, f0, f1, f2, f3⟩ := h
  obtain ⟨ka, kc, rfl⟩ := owns_slice h1
  obtain ⟨va, vc, rfl⟩ := ownsM_slice h2
  exact ⟨ka, kc, va, vc, h0, h1, h2, d0, d1, d2, f0, f1, f2, f3⟩

theorem FieldsH.mapIn {m : Nat} {w : World} {T kE vE : TypeId} {p : Nat} {hd : Value} {F : Nat → Prop} {kv vv : Value} {nk nv : Nat} {X Y : List Value} (h : FieldsH m w T kE vE p hd F kv vv nk nv X Y) (hn : nk = nv) : MapInH m w T kE vE p hd F X Y := by
  subst hn
  have := owns_len h.k
  subst this
  exact ⟨kv, vv, h.row, h.k, h.v, h.dk, h.dv, h.dkv, h.fp, h.fk, h.fv, h.lt⟩

theorem FieldsH.kept {m : Nat} {w w' : World} {T kE vE : TypeId} {p : Nat} {hd : Value} {F S : Nat → Prop} {kv vv : Value} {nk nv : Nat} {X Y : List Value} (h : FieldsH m w T kE vE p hd F kv vv nk nv X Y) (hk : Kept S w w') (hS : ∀ k, F k → ¬ S k) : FieldsH m w' T kE vE p hd F kv vv nk nv X Y :=
  ⟨hk.heap h.row (hS p h.fp), hk.owns h.k (fun b hb => hS b (h.fk b hb)), hk.owns h.v (fun b hb => hS b (h.fv b hb)), h.dk, h.dv, h.dkv, h.fp, h.fk, h.fv, fun k hf => Nat.lt_of_lt_of_le (h.lt k hf) hk.size⟩

theorem FieldsH.plt {m : Nat} {w : World} {T kE vE : TypeId} {p : Nat} {hd : Value} {F : Nat → Prop} {kv vv : Value} {nk nv : Nat} {X Y : List Value} (h : FieldsH m w T kE vE p hd F kv vv nk nv X Y) : p < w.heap.size := h.lt p h.fp

/-- The first field's slice made anew and stored. -/
theorem FieldsH.store0 {m : Nat} {w w1 : World} {T kE vE : TypeId} {p : Nat} {hd : Value} {F : Nat → Prop} {kv vv kv' : Value} {nk nv n : Nat} {X Y X' : List Value} (h : FieldsH m w T kE vE p hd F kv vv nk nv X Y)
    (hg : w.grownBy w1 kv.ownBlock) (ho : w1.ownsRow 0 kE 1 kv' n X') (hb : kv'.ownBlock = kv.ownBlock ∨ ∃ b, kv'.ownBlock = some b ∧ w.heap.size ≤ b) :
    FieldsH m (w1.setCell ⟨p, 1, none⟩ kv') T kE vE p hd (With F kv') kv' vv n nv X' Y ∧ Kept F w (w1.setCell ⟨p, 1, none⟩ kv') ∧ Grew w F (With F kv') := by
  have hK : Kept F w w1 := keptOf hg h.fk
  have hK2 : Kept F w (w1.setCell ⟨p, 1, none⟩ kv') := hK.setCell (Or.inl h.fp) _
  have hrow : w1.heap[p]? = some (.cells #[hd, kv, vv] T (0, 0)) := by rw [hg.block p h.plt (fun e => h.dk e.symm)]; exact h.row
  have hdk : kv'.ownBlock ≠ some p := by
    rcases hb with hb | ⟨b, hb, hl⟩
    · rw [hb]; exact h.dk
    · rw [hb]; intro e; cases e; have := h.plt; omega
  have hv1 : w1.ownsRow 0 vE m vv nv Y := by
    refine h.v.kept hg ?_
    cases hvv : vv.ownBlock with
    | none => exact Or.inl rfl
    | some b => exact Or.inr (fun e => h.dkv b e.symm hvv)
  refine ⟨⟨?_, ownsRow_setCell_other ho (a := ⟨p, 1, none⟩) hdk _, ownsRow_setCell_other hv1 (a := ⟨p, 1, none⟩) h.dv _, hdk, h.dv, ?_, Or.inl h.fp, fun b hb => Or.inr hb, fun b hb => Or.inl (h.fv b hb), ?_⟩, hK2, ?_⟩
  · rw [heap_setCell_same w1 p 1 #[hd, kv, vv] T kv' hrow]; rfl
  · intro b hb' e
    rcases hb with hb | ⟨b2, hb, hl⟩
    · rw [hb] at hb'; exact h.dkv b hb' e
    · rw [hb] at hb'; cases hb'; have := h.lt _ (h.fv _ e); omega
  · intro k hk
    rcases hk with hk | hk
    · exact Nat.lt_of_lt_of_le (h.lt k hk) hK2.size
    · rw [World.size_setCell]; exact (ho.lt k hk).2
  · intro k hk
    rcases hk with hk | hk
    · exact Or.inl hk
    · rcases hb with hb | ⟨b2, hb, hl⟩
      · rw [hb] at hk; exact Or.inl (h.fk k hk)
      · rw [hb] at hk; cases hk; exact Or.inr hl

/-- The second field's slice made anew and stored. -/
theorem FieldsH.store1 {m : Nat} {w w1 : World} {T kE vE : TypeId} {p : Nat} {hd : Value} {F : Nat → Prop} {kv vv vv' : Value} {nk nv n : Nat} {X Y Y' : List Value} (h : FieldsH m w T kE vE p hd F kv vv nk nv X Y)
    (hg : w.grownBy w1 vv.ownBlock) (ho : w1.ownsRow 0 vE m vv' n Y') (hb : vv'.ownBlock = vv.ownBlock ∨ ∃ b, vv'.ownBlock = some b ∧ w.heap.size ≤ b) :
    FieldsH m (w1.setCell ⟨p, 2, none⟩ vv') T kE vE p hd (With F vv') kv vv' nk n X Y' ∧ Kept F w (w1.setCell ⟨p, 2, none⟩ vv') ∧ Grew w F (With F vv') := by
  have hK : Kept F w w1 := keptOf hg h.fv
  have hK2 : Kept F w (w1.setCell ⟨p, 2, none⟩ vv') := hK.setCell (Or.inl h.fp) _
  have hrow : w1.heap[p]? = some (.cells #[hd, kv, vv] T (0, 0)) := by rw [hg.block p h.plt (fun e => h.dv e.symm)]; exact h.row
  have hdv : vv'.ownBlock ≠ some p := by
    rcases hb with hb | ⟨b, hb, hl⟩
    · rw [hb]; exact h.dv
    · rw [hb]; intro e; cases e; have := h.plt; omega
  have hk1 : w1.ownsRow 0 kE 1 kv nk X := by
    refine h.k.kept hg ?_
    cases hkk : kv.ownBlock with
    | none => exact Or.inl rfl
    | some b => exact Or.inr (fun e => h.dkv b hkk e.symm)
  refine ⟨⟨?_, ownsRow_setCell_other hk1 (a := ⟨p, 2, none⟩) h.dk _, ownsRow_setCell_other ho (a := ⟨p, 2, none⟩) hdv _, h.dk, hdv, ?_, Or.inl h.fp, fun b hb => Or.inl (h.fk b hb), fun b hb => Or.inr hb, ?_⟩, hK2, ?_⟩
  · rw [heap_setCell_same w1 p 2 #[hd, kv, vv] T vv' hrow]; rfl
  · intro b hkb e
    rcases hb with hb | ⟨b2, hb, hl⟩
    · rw [hb] at e; exact h.dkv b hkb e
    · rw [hb] at e; cases e; have := h.lt _ (h.fk _ hkb); omega
  · intro k hk
    rcases hk with hk | hk
    · exact Nat.lt_of_lt_of_le (h.lt k hk) hK2.size
    · rw [World.size_setCell]; exact (ho.lt k hk).2
  · intro k hk
    rcases hk with hk | hk
    · exact Or.inl hk
    · rcases hb with hb | ⟨b2, hb, hl⟩
      · rw [hb] at hk; exact Or.inl (h.fv k hk)
      · rw [hb] at hk; cases hk; exact Or.inr hl

/-- Cells of the map's own block while one of its slices is made anew. -/
theorem FieldsH.during {m : Nat} {w w1 : World} {T kE vE : TypeId} {p : Nat} {hd : Value} {F : Nat → Prop} {kv vv v : Value} {nk nv : Nat} {X Y : List Value} (h : FieldsH m w T kE vE p hd F kv vv nk nv X Y) (hg : w.grownBy w1 v.ownBlock) (hdv : v.ownBlock ≠ some p) :
    w1.cell? ⟨p, 1, none⟩ = some kv ∧ w1.cell? ⟨p, 2, none⟩ = some vv ∧ w1.frozen? ⟨p, 1, none⟩ = false ∧ w1.frozen? ⟨p, 2, none⟩ = false ∧ p < w1.heap.size := by
  have hrow : w1.heap[p]? = some (.cells #[hd, kv, vv] T (0, 0)) := by rw [hg.block p h.plt (fun e => hdv e.symm)]; exact h.row
  exact ⟨cell1_of_three hrow, cell2_of_three hrow, free_of_three hrow 1, free_of_three hrow 2, lt_of_block hrow⟩

/-- What a call that turns one map leaves: the map anew, in old blocks of its own and in new ones; nothing else has turned. -/
def TurnedH (m : Nat) (w w' : World) (T kE vE : TypeId) (p : Nat) (hd : Value) (F : Nat → Prop) (X Y : List Value) : Prop :=
  ∃ F', MapInH m w' T kE vE p hd F' X Y ∧ Grew w F F' ∧ Kept F w w'

/-- Both fields made anew, one behind the other. -/
theorem FieldsH.both {m : Nat} {w w0 w1 w2 w3 : World} {T kE vE : TypeId} {p : Nat} {hd : Value} {F : Nat → Prop} {kv vv kv' vv' : Value} {nk nv n : Nat} {X Y X' Y' : List Value} (h : FieldsH m w T kE vE p hd F kv vv nk nv X Y)
    (k0 : Kept (fun _ => False) w w0) (hg : w0.grownBy w1 kv.ownBlock) (ho : w1.ownsRow 0 kE 1 kv' n X') (hb : kv'.ownBlock = kv.ownBlock ∨ ∃ b, kv'.ownBlock = some b ∧ w0.heap.size ≤ b)
    (k1 : Kept (fun _ => False) (w1.setCell ⟨p, 1, none⟩ kv') w2) (hg2 : w2.grownBy w3 vv.ownBlock) (ho2 : w3.ownsRow 0 vE m vv' n Y') (hb2 : vv'.ownBlock = vv.ownBlock ∨ ∃ b, vv'.ownBlock = some b ∧ w2.heap.size ≤ b) :
    TurnedH m w (w3.setCell ⟨p, 2, none⟩ vv') T kE vE p hd F X' Y' := by
  obtain ⟨a1, a2, a3⟩ := (h.kept k0 (fun _ _ h => h)).store0 hg ho hb
  obtain ⟨b1, b2, b3⟩ := (a1.kept k1 (fun _ _ h => h)).store1 hg2 ho2 hb2
  have hs0 := k0.size
  have hs1 := a2.size
  have hs2 := k1.size
  refine ⟨_, b1.mapIn rfl, fun k hk => ?_, ?_⟩
  · rcases b3 k hk with h1 | h1
    · rcases a3 k h1 with h2 | h2
      · exact Or.inl h2
      · exact Or.inr (by omega)
    · exact Or.inr (by omega)
  · refine ((k0.mono (T := F) (fun _ h _ => h.elim)).trans a2 (fun _ h _ => h)).trans ((k1.mono (T := With F kv') (fun _ h _ => h.elim)).trans b2 (fun _ h _ => h)) (fun i hi hl => ?_)
    rcases a3 i hi with h2 | h2
    · exact h2
    · omega

end Go.Proofs.Ytikifgenfpkidaa
