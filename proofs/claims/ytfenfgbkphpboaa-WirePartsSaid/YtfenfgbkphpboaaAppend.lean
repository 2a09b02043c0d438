/-
  No statement: append chains over things that lie apart in memory.
-/
import Derived.Test.YtfenfgbkphpboaaApp
import Derived.Test.YtfenfgbkphpboaaSep
namespace Go.Proofs.Ytfenfgbkphpboaa
open Go.RowKit
variable {P : Program}

/-- A block whose cells are known. -/
def BlkOb (p : Nat) (cs : Array Value) (T : TypeId) : Ob where
  holds w F := w.heap[p]? = some (.cells cs T (0, 0)) ∧ F p
  stable h hk hS := ⟨hk.heap h.1 (hS p h.2), h.2⟩

theorem Sep.pushBlk {W w : World} {os : List Ob} (h : Sep W w os) (cs : Array Value) (T : TypeId) : Sep W (w.alloc (.cells cs T)) (BlkOb w.heap.size cs T :: os) :=
  h.push (F := fun k => k = w.heap.size) ((Kept.refl _ w).alloc _) ⟨heap_alloc_new w _, rfl⟩ (fun k hk => by subst hk; simp)

theorem Sep.blk {W w : World} {os : List Ob} {p j : Nat} {cs : Array Value} {T : TypeId} {u : Value} (h : Sep W w os) (hm : BlkOb p cs T ∈ os) (hj : cs[j]? = some u) : w.cell? ⟨p, j, none⟩ = some u := by
  obtain ⟨F, ho, _⟩ := h.get hm
  rw [cell_of_row w p j cs T (0, 0) ho.1]; exact hj

/-- A part of a row that lies apart, as the source of an append. -/
theorem Sep.from {W w : World} {os : List Ob} {e : TypeId} {g c n : Nat} {xs : List Value} (h : Sep W w os) (hm : RowOb e (.slice (some ⟨g, 0, none⟩) n c) n xs ∈ os) (k m d : Nat) (hk : k + m ≤ n) (A : Addr) (hA : m = 0 ∨ A = ⟨g, k, none⟩) :
    From w (.slice (some A) m d) m ((xs.drop k).take m) := by
  have hx := owns_len (h.row hm)
  refine Or.inr ⟨A, d, rfl, by rw [List.length_take, List.length_drop]; omega, fun j x hj => ?_⟩
  rcases hA with rfl | rfl
  · simp at hj
  · rw [Addr.add_lit]
    rw [List.getElem?_take] at hj
    split at hj
    · rw [List.getElem?_drop] at hj
      exact h.cell hm hj
    · cases hj

/-- What an append chain of the call's own leaves lies apart from all that was there. -/
theorem Sep.pushOwn {W w w' : World} {os : List Ob} {e : TypeId} {v : Value} {n : Nat} {xs : List Value} (h : Sep W w os) (hk : Kept (fun _ => False) w w') (ho : w'.ownsRow w.heap.size e 1 v n xs) : Sep W w' (RowOb e v n xs :: os) := by
  refine h.push (F := fun k => v.ownBlock = some k) hk ⟨⟨ho.1, ?_⟩, fun b hb => hb⟩ (fun k hk2 => ho.lt k hk2)
  rcases ho.2 with hn | ⟨g, cap, cur, h1, _, h3⟩
  · exact Or.inl hn
  · exact Or.inr ⟨g, cap, cur, h1, Nat.zero_le _, h3⟩

theorem keptOwn {w w1 w2 : World} {e : TypeId} {v : Value} {n : Nat} {xs : List Value} (hk : Kept (fun _ => False) w w1) (ho : w1.ownsRow w.heap.size e 1 v n xs) (hg : w1.grownBy w2 v.ownBlock) : Kept (fun _ => False) w w2 :=
  hk.grown hg (fun k hk2 => Or.inr (ho.lt k hk2).1)

/-- The same, of a chain that began in w0: what it owns lies in blocks that are newer, and nothing that was there has turned. -/
theorem step_chain {ops : Array Oper} {o : Oper} {a : Act} {w0 w : World} {K : Act → World → Prop} {Q : Exit → Act → World → Prop} {E : Prop}
    (hg : o.guard = none) (s x : Operand) (t : TypeId) (hop : o.op = Op.call { callee := Callee.builtin Builtin.append, args := #[s, x], argTypes := #[t, t] })
    {e : TypeId} {i : TypeInfo} {z : Value} {bytes : Nat} (ht : P.underlying t = some (.slice e)) (hi : P.info? e = some i) (hz : i.zero = some z) (hsize : i.size = 1) (hby : i.bytes = bytes) (hzs : z.cells.size = 1)
    (v u : Value) (n m : Nat) (xs news : List Value) (hs : a.eval s = v) (hx : a.eval x = u) (hk : Kept (fun _ => False) w0 w) (hown : w.ownsRow w0.heap.size e 1 v n xs) (hfrom : From w u m news) (h1 : ∀ x ∈ news, x.oneCell' = true) (h63 : n + m ≤ maxLen) (hbytes : (n + m) * bytes ≤ 140737488355328)
    (hK : ∀ v' w', Kept (fun _ => False) w0 w' → w'.ownsRow w0.heap.size e 1 v' (n + m) (xs ++ news) → w.grownBy w' v.ownBlock → (v ≠ .slice none 0 0 → v' ≠ .slice none 0 0) → K (a.put o.dst v') w') :
    if Region.wanted o (yielded ops a.tmps) = true then Oper.wp P o a w K Q else E :=
  step_append_from hg s x t hop ht hi hz hsize hby hzs v u n m xs news hs hx hown hfrom h1 h63 hbytes hk.size (fun v' w' ho hgr hn => hK v' w' (keptOwn hk hown hgr) ho hgr hn)

theorem own_empty {W : World} {e : TypeId} {b base : Nat} (h : W.heap[b]? = some (.cells #[] e (0, 0))) (hb : base ≤ b) : W.ownsRow base e 1 (.slice (some ⟨b, 0, none⟩) 0 0) 0 [] :=
  ⟨rfl, Or.inr ⟨b, 0, #[], rfl, hb, h, Nat.le_refl _, Nat.zero_le _, rfl, rfl⟩⟩

/-- An owned slice that is not nil shows its block. -/
theorem own_shown {W : World} {e : TypeId} {v : Value} {n base : Nat} {xs : List Value} (h : W.ownsRow base e 1 v n xs) (hn : v ≠ .slice none 0 0) : ∃ g c, v = .slice (some ⟨g, 0, none⟩) n c := by
  rcases h.2 with ⟨h, _⟩ | ⟨g, c, _, h, _⟩
  · exact absurd h hn
  · exact ⟨g, c, h⟩

theorem SepL.front {B : Nat} {w : World} {r : List Ob} : ∀ {os : List Ob} {U : Nat → Prop}, SepL B w (os ++ r) U → SepL B w os U
  | [], _, _ => trivial
  | _ :: _, _, ⟨F, h1, h2, h3, h4⟩ => ⟨F, h1, h2, h3, SepL.front h4⟩

theorem Sep.front {W w : World} {os r : List Ob} (h : Sep W w (os ++ r)) : Sep W w os := ⟨h.1, h.2.front⟩

theorem owns_caps {w : World} {base : Nat} {e : TypeId} {a : Option Addr} {c n : Nat} {xs : List Value} (h : w.ownsRow base e 1 (.slice a n c) n xs) : n ≤ c ∧ c ≤ maxLen := by
  rcases h.2 with ⟨h, _⟩ | ⟨g, cap, cur, h, _, _, h1, h2, _⟩
  · simp only [Value.slice.injEq] at h
    obtain ⟨_, rfl, rfl⟩ := h
    exact ⟨Nat.le_refl _, Nat.zero_le _⟩
  · simp only [Value.slice.injEq] at h
    obtain ⟨_, _, rfl⟩ := h
    exact ⟨h1, h2⟩

/-- Without the second. -/
theorem Sep.tail' {W w : World} {a b : Ob} {r : List Ob} (h : Sep W w (a :: b :: r)) : Sep W w (b :: r) := h.tail

/-- One element of the first thing, a slice, overwritten. -/
theorem Sep.setRow {W w : World} {os : List Ob} {e : TypeId} {g c n : Nat} {xs : List Value} (h : Sep W w (RowOb e (.slice (some ⟨g, 0, none⟩) n c) n xs :: os)) (h0 : 0 < n) (i : Nat) (u : Value) :
    Sep W (w.setCell ⟨g, i, none⟩ u) (RowOb e (.slice (some ⟨g, 0, none⟩) n c) n (xs.set i u) :: os) := by
  obtain ⟨F, ho, hl, hf⟩ := h.head
  have hK : Kept F w (w.setCell ⟨g, i, none⟩ u) := (Kept.refl F w).setCell (Or.inl (ho.2 g rfl)) u
  exact hf _ (RowOb e (.slice (some ⟨g, 0, none⟩) n c) n (xs.set i u)) F hK ⟨owns_set ho.1 h0 i u, ho.2⟩ (Grew.refl _ _) (fun k hk => Nat.lt_of_lt_of_le (hl k hk) hK.size)

theorem Sep.rowFree {W w : World} {os : List Ob} {e : TypeId} {g c n j : Nat} {xs : List Value} (h : Sep W w os) (hm : RowOb e (.slice (some ⟨g, 0, none⟩) n c) n xs ∈ os) : w.frozen? ⟨g, j, none⟩ = false := by
  rcases owns_cases (h.row hm) with ⟨h, _⟩ | ⟨g', cap', cur, h, _, hg, _, _, _, ht, _⟩
  · cases h
  · simp only [Value.slice.injEq, Option.some.injEq, Addr.mk.injEq] at h
    obtain ⟨⟨rfl, _⟩, _⟩ := h
    exact frozen_of_row w _ j _ _ hg

/-- The empty slice that a chain begins with, where it was made. -/
theorem own_fresh {w w0 : World} {e : TypeId} {k : Nat} (h : w0.heap.size ≤ w.heap.size) (hk : k = w.heap.size) : (w.alloc (.cells #[] e)).ownsRow w0.heap.size e 1 (.slice (some ⟨k, 0, none⟩) 0 0) 0 [] := by
  subst hk
  exact own_empty (heap_alloc_new w _) h

/-- A slice that is nil lies apart from all. -/
theorem Sep.pushNil {W w : World} {os : List Ob} (h : Sep W w os) (e : TypeId) : Sep W w (RowOb e (.slice none 0 0) 0 [] :: os) :=
  h.push (F := fun _ => False) (Kept.refl _ _) ⟨World.ownsRow_nil _ _ _ _, fun b hb => by simp [Value.ownBlock] at hb⟩ (fun _ hk => hk.elim)

end Go.Proofs.Ytfenfgbkphpboaa
