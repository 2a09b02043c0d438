/-
  No statement: things that lie in memory apart from one another, each in blocks of its own that are younger than the call; what becomes of them when one is turned.
-/
import Derived.Test.YtfenfgbkphpboaaMapDef
namespace Go.Proofs.Ytfenfgbkphpboaa
open Go.RowKit

/-- A thing in memory: what is so of it, given its blocks; it stays so while other blocks turn. -/
structure Ob where
  holds : World → (Nat → Prop) → Prop
  stable : ∀ {w w' : World} {S F : Nat → Prop}, holds w F → Kept S w w' → (∀ k, F k → ¬ S k) → holds w' F

/-- Each thing holds, in blocks from B on, apart from the blocks that are used already and from one another. -/
def SepL (B : Nat) (w : World) : List Ob → (Nat → Prop) → Prop
  | [], _ => True
  | o :: r, used => ∃ F : Nat → Prop, o.holds w F ∧ (∀ k, F k → B ≤ k ∧ k < w.heap.size) ∧ (∀ k, F k → ¬ used k) ∧ SepL B w r (fun k => used k ∨ F k)

theorem SepL.mono {B : Nat} {w : World} : ∀ {os : List Ob} {U V : Nat → Prop}, SepL B w os U → (∀ k, V k → U k) → SepL B w os V
  | [], _, _, _, _ => trivial
  | _ :: _, _, _, ⟨F, h1, h2, h3, h4⟩, hV => ⟨F, h1, h2, fun k hk hv => h3 k hk (hV k hv), SepL.mono h4 (fun k hk => hk.elim (fun h => Or.inl (hV k h)) Or.inr)⟩

/-- What is turned lies among the used blocks: all that is apart from them stays. -/
theorem SepL.frame {B : Nat} {w w' : World} {S : Nat → Prop} (hk : Kept S w w') : ∀ {os : List Ob} {U V : Nat → Prop}, SepL B w os U → (∀ k, k < w.heap.size → S k → U k) → (∀ k, k < w.heap.size → V k → U k) → SepL B w' os V
  | [], _, _, _, _, _ => trivial
  | o :: _, _, _, ⟨F, h1, h2, h3, h4⟩, hS, hV =>
    ⟨F, o.stable h1 hk (fun k hf hs => h3 k hf (hS k (h2 k hf).2 hs)), fun k hf => ⟨(h2 k hf).1, Nat.lt_of_lt_of_le (h2 k hf).2 hk.size⟩, fun k hf hv => h3 k hf (hV k (h2 k hf).2 hv),
      SepL.frame hk h4 (fun k hl hs => Or.inl (hS k hl hs)) (fun k hl hv => hv.elim (fun h => Or.inl (hV k hl h)) Or.inr)⟩

theorem SepL.get {B : Nat} {w : World} {o : Ob} : ∀ {os : List Ob} {U : Nat → Prop}, SepL B w os U → o ∈ os → ∃ F : Nat → Prop, o.holds w F ∧ ∀ k, F k → B ≤ k ∧ k < w.heap.size
  | [], _, _, hm => by cases hm
  | a :: r, _, ⟨F, h1, h2, _, h4⟩, hm => by
    rcases List.mem_cons.1 hm with rfl | hm
    · exact ⟨F, h1, h2⟩
    · exact SepL.get h4 hm

theorem SepL.swap {B : Nat} {w : World} {a b : Ob} {r : List Ob} {U : Nat → Prop} (h : SepL B w (a :: b :: r) U) : SepL B w (b :: a :: r) U := by
  obtain ⟨F, h1, h2, h3, G, g1, g2, g3, h4⟩ := h
  exact ⟨G, g1, g2, fun k hk hu => g3 k hk (Or.inl hu), F, h1, h2, fun k hk hu => hu.elim (h3 k hk) (fun hg => g3 k hg (Or.inr hk)), h4.mono (fun k hk => by rcases hk with (hk | hk) | hk; exact Or.inl (Or.inl hk); exact Or.inr hk; exact Or.inl (Or.inr hk))⟩

theorem SepL.cons {B : Nat} {w : World} {a : Ob} {r r' : List Ob} {U : Nat → Prop} (h : SepL B w (a :: r) U) (f : ∀ V, SepL B w r V → SepL B w r' V) : SepL B w (a :: r') U := by
  obtain ⟨F, h1, h2, h3, h4⟩ := h
  exact ⟨F, h1, h2, h3, f _ h4⟩

/-- Since W: nothing that was there has turned, and these things lie in newer blocks, apart from one another. -/
def Sep (W w : World) (os : List Ob) : Prop := Kept (fun _ => False) W w ∧ SepL W.heap.size w os (fun _ => False)

theorem Sep.start (W : World) : Sep W W [] := ⟨Kept.refl _ _, trivial⟩

theorem Sep.kept {W w w' : World} {os : List Ob} (h : Sep W w os) (hk : Kept (fun _ => False) w w') : Sep W w' os :=
  ⟨h.1.trans hk (fun _ h _ => h), SepL.frame hk h.2 (fun _ _ h => h.elim) (fun _ _ h => h)⟩

theorem Sep.drewN {W w : World} {os : List Ob} (h : Sep W w os) (q : Nat) : Sep W (w.drewN q) os := h.kept ((Kept.refl _ _).drewN q)

theorem Sep.swap {W w : World} {a b : Ob} {r : List Ob} (h : Sep W w (a :: b :: r)) : Sep W w (b :: a :: r) := ⟨h.1, h.2.swap⟩

/-- The third ahead. -/
theorem Sep.third {W w : World} {a b c : Ob} {r : List Ob} (h : Sep W w (a :: b :: c :: r)) : Sep W w (c :: a :: b :: r) :=
  Sep.swap ⟨h.1, h.2.cons (fun _ h => h.swap)⟩

theorem Sep.tail {W w : World} {a : Ob} {r : List Ob} (h : Sep W w (a :: r)) : Sep W w r := by
  obtain ⟨h0, F, h1, h2, h3, h4⟩ := h
  exact ⟨h0, h4.mono (fun _ h => h.elim)⟩

theorem Sep.get {W w : World} {o : Ob} {os : List Ob} (h : Sep W w os) (hm : o ∈ os) : ∃ F : Nat → Prop, o.holds w F ∧ ∀ k, F k → W.heap.size ≤ k ∧ k < w.heap.size := h.2.get hm

/-- One thing more, in new blocks. -/
theorem Sep.push {W w w' : World} {o : Ob} {os : List Ob} {F : Nat → Prop} (h : Sep W w os) (hk : Kept (fun _ => False) w w') (ho : o.holds w' F) (hF : ∀ k, F k → w.heap.size ≤ k ∧ k < w'.heap.size) : Sep W w' (o :: os) :=
  ⟨(h.kept hk).1, F, ho, fun k hf => ⟨Nat.le_trans h.1.size (hF k hf).1, (hF k hf).2⟩, fun _ _ h => h, SepL.frame hk h.2 (fun _ _ h => h.elim) (fun k hl hv => hv.elim (fun h => h) (fun hf => by have := (hF k hf).1; omega))⟩

/-- The first thing is turned into another one, in its own blocks and in new ones. -/
theorem Sep.turn {W w w' : World} {o' : Ob} {os : List Ob} {F F' : Nat → Prop} (h : Sep W w os) (hs : SepL W.heap.size w os F) (hb : ∀ k, F k → W.heap.size ≤ k) (hk : Kept F w w') (ho : o'.holds w' F') (hg : Grew w F F') (hl : ∀ k, F' k → k < w'.heap.size) : Sep W w' (o' :: os) :=
  ⟨h.1.trans hk (fun i hi hlt => by have := hb i hi; omega), F', ho, fun k hf => ⟨(hg k hf).elim (hb k) (fun h' => Nat.le_trans h.1.size h'), hl k hf⟩, fun _ _ h => h,
    SepL.frame hk hs (fun _ _ h => h) (fun k hlt hv => hv.elim (fun h => h.elim) (fun hf => (hg k hf).elim (fun h => h) (fun h' => by omega)))⟩

theorem Sep.head {W w : World} {o : Ob} {os : List Ob} (h : Sep W w (o :: os)) : ∃ F : Nat → Prop, o.holds w F ∧ (∀ k, F k → k < w.heap.size) ∧
    ∀ (w' : World) (o' : Ob) (F' : Nat → Prop), Kept F w w' → o'.holds w' F' → Grew w F F' → (∀ k, F' k → k < w'.heap.size) → Sep W w' (o' :: os) := by
  obtain ⟨h0, F, h1, h2, h3, h4⟩ := h
  exact ⟨F, h1, fun k hk => (h2 k hk).2, fun w' o' F' hk ho hg hl => Sep.turn ⟨h0, h4.mono (fun _ h => h.elim)⟩ (h4.mono (fun _ h => Or.inr h)) (fun k hk => (h2 k hk).1) hk ho hg hl⟩

/-- A slice of elements of one cell, in a block of its own. -/
def RowOb (e : TypeId) (v : Value) (n : Nat) (xs : List Value) : Ob where
  holds w F := w.ownsRow 0 e 1 v n xs ∧ (∀ b, v.ownBlock = some b → F b)
  stable h hk hS := ⟨hk.owns h.1 (fun b hb => hS b (h.2 b hb)), h.2⟩

/-- A map. -/
def MapOb (T kE vE : TypeId) (p : Nat) (ks vs : List Value) : Ob where
  holds w F := MapIn w T kE vE p F ks vs
  stable h hk hS := h.kept hk hS

theorem Sep.pushRow {W w w' : World} {os : List Ob} {e : TypeId} {v : Value} {n b : Nat} {xs : List Value} (h : Sep W w os) (hg : w.grownBy w' none) (ho : w'.ownsRow 0 e 1 v n xs) (hb : v.ownBlock = some b) (hl : w.heap.size ≤ b) : Sep W w' (RowOb e v n xs :: os) :=
  h.push (F := fun k => k = b) ((Kept.refl _ w).grown hg (fun _ h => by cases h)) ⟨ho, fun c hc => by rw [hb] at hc; cases hc; rfl⟩ (fun k hk => by subst hk; exact ⟨hl, (ho.lt k hb).2⟩)

theorem Sep.row {W w : World} {os : List Ob} {e : TypeId} {v : Value} {n : Nat} {xs : List Value} (h : Sep W w os) (hm : RowOb e v n xs ∈ os) : w.ownsRow 0 e 1 v n xs := by
  obtain ⟨F, ho, _⟩ := h.get hm
  exact ho.1

/-- A cell of an owned slice that lies apart. -/
theorem Sep.cell {W w : World} {os : List Ob} {e : TypeId} {g c n j : Nat} {xs : List Value} {u : Value} (h : Sep W w os) (hm : RowOb e (.slice (some ⟨g, 0, none⟩) n c) n xs ∈ os) (hj : xs[j]? = some u) : w.cell? ⟨g, j, none⟩ = some u := by
  rcases owns_cases (h.row hm) with ⟨h, _⟩ | ⟨g', cap', cur, h, _, hg, _, _, _, ht, _⟩
  · cases h
  · simp only [Value.slice.injEq, Option.some.injEq, Addr.mk.injEq] at h
    obtain ⟨⟨rfl, _⟩, _⟩ := h
    exact owns_cell hg ht hj

theorem Sep.map {W w : World} {os : List Ob} {T kE vE : TypeId} {p : Nat} {ks vs : List Value} (h : Sep W w os) (hm : MapOb T kE vE p ks vs ∈ os) : ∃ F : Nat → Prop, MapIn w T kE vE p F ks vs := by
  obtain ⟨F, ho, _⟩ := h.get hm
  exact ⟨F, ho⟩

/-- A cell that was there ahead of the call. -/
theorem Sep.old {W w : World} {os : List Ob} {a : Addr} {v : Value} (h : Sep W w os) (hc : W.cell? a = some v) : w.cell? a = some v := h.1.cell hc (fun h => h)

theorem Sep.below {W w : World} {os : List Ob} (h : Sep W w os) : Below W.heap.size W w := h.1.below (fun _ h => h.elim) (Nat.le_refl _)

end Go.Proofs.Ytfenfgbkphpboaa
