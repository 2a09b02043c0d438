/-
  No statement: twinAttrs of package table: attributes in new memory.
-/
import Derived.Test.YtpdobbdbmgeoiaaTbGet
import Derived.Test.YtpdobbdbmgeoiaaTbMem
import Derived.Test.YtpdobbdbmgeoiaaJAppM
import Derived.Deep.Cut
set_option linter.unusedVariables false
set_option linter.unusedSimpArgs false
namespace Go.Proofs.Ytpdobbdbmgeoiaa
open Go.RowKit

theorem five {w : World} {b : Nat} {v0 v1 v2 v3 v4 : Value} {t : TypeId} (h : w.heap[b]? = some (.cells #[v0, v1, v2, v3, v4] t (0, 0))) :
    (w.cell? ⟨b, 0, none⟩ = some v0 ∧ w.cell? ⟨b, 1, none⟩ = some v1 ∧ w.cell? ⟨b, 2, none⟩ = some v2 ∧ w.cell? ⟨b, 3, none⟩ = some v3 ∧ w.cell? ⟨b, 4, none⟩ = some v4) ∧
    (w.frozen? ⟨b, 0, none⟩ = false ∧ w.frozen? ⟨b, 1, none⟩ = false ∧ w.frozen? ⟨b, 2, none⟩ = false ∧ w.frozen? ⟨b, 3, none⟩ = false ∧ w.frozen? ⟨b, 4, none⟩ = false) := by
  refine ⟨⟨?_, ?_, ?_, ?_, ?_⟩, ⟨?_, ?_, ?_, ?_, ?_⟩⟩ <;> simp [World.cell?, World.frozen?, h]
theorem five_set {w : World} {b : Nat} {a0 a1 a2 a3 a4 : Value} {t : TypeId} (h : w.heap[b]? = some (.cells #[a0, a1, a2, a3, a4] t (0, 0))) (v0 v1 v2 v3 v4 : Value) :
    (((((w.setCell ⟨b, 0, none⟩ v0).setCell ⟨b, 1, none⟩ v1).setCell ⟨b, 2, none⟩ v2).setCell ⟨b, 3, none⟩ v3).setCell ⟨b, 4, none⟩ v4).heap[b]? = some (.cells #[v0, v1, v2, v3, v4] t (0, 0)) := by
  rw [heap_setCell_same _ b 4 _ t v4 (heap_setCell_same _ b 3 _ t v3 (heap_setCell_same _ b 2 _ t v2 (heap_setCell_same _ b 1 _ t v1 (heap_setCell_same _ b 0 _ t v0 h))))]
  rfl
theorem five_below {b : Nat} {A W : World} {B : Nat} (h : Below b A W) (hB : b ≤ B) (v0 v1 v2 v3 v4 : Value) :
    Below b A (((((W.setCell ⟨B, 0, none⟩ v0).setCell ⟨B, 1, none⟩ v1).setCell ⟨B, 2, none⟩ v2).setCell ⟨B, 3, none⟩ v3).setCell ⟨B, 4, none⟩ v4) :=
  ((((h.setCell (p := ⟨B, 0, none⟩) hB v0).setCell (p := ⟨B, 1, none⟩) hB v1).setCell (p := ⟨B, 2, none⟩) hB v2).setCell (p := ⟨B, 3, none⟩) hB v3).setCell (p := ⟨B, 4, none⟩) hB v4
theorem ReadsG.new {w : World} {B : Nat} {a : Option Addr} {len : Nat} {z : Nat → Int} (h : Reads w a len z) (hn : ∀ q, a = some q → B ≤ q.block) : ReadsG (fun k => B ≤ k) w a len z := by
  refine ⟨h.1, h.2.imp id ?_⟩
  rintro ⟨b, off, rfl, hc⟩
  exact ⟨b, off, rfl, hn _ rfl, hc⟩

/-- Get of a name that is there. -/
theorem getK_any (a : Option Addr) (n c : Nat) (A : Nat → AD) (k : Nat) (hk : k < n) (hn : n ≤ 1000) (hl : ∀ j, j < n → (A j).len ≤ 1000000) (hR : RiseA A n) (w : World) (h : ReadsA w a n A) :
    Calls Try.prog 34 #[.slice a n c, .string (A k).m] w fun e w' => (∃ y d, e = .returned (.tuple #[.agg #[.int .i64 (A k).k, .int .i64 (twN (A k).k (A k).n), .string (twS (A k).k (A k).s), .slice y (twL (A k).k (A k).len) d], .bool true]) ∧ ReadsG (fun b => w.heap.size ≤ b) w' y (twL (A k).k (A k).len) (A k).z) ∧ Below w.heap.size w w' := by
  refine (getL_any a n c A (A k).m hn hl hR w h).mono ?_
  rintro e w' ⟨h1, h2⟩
  have hrn := rising_nm hR
  have hat := nm_at A hk
  have hp : pos lsS (nmD (twsA A n)) (A k).m = k := pos_of_at strictS hrn hat
  rw [if_pos ((has_iff _ _).2 (List.mem_of_getElem? hat))] at h1
  obtain ⟨v, y, d, _, hv, he, hr, hq⟩ := h1
  rw [hp] at hv
  subst hv
  exact ⟨⟨y, d, he, ReadsG.new hr hq⟩, h2⟩

/-- An attribute with its list's place. -/
abbrev AT := AD × Option Addr × Nat
def fiveC (x : AD) (y : Option Addr) (c : Nat) : List Value := [.string x.m, .int .i64 x.k, .int .i64 x.n, .string x.s, .slice y x.len c]
def fiveCT (t : AT) : List Value := fiveC t.1 t.2.1 t.2.2
theorem fiveC_one (x : AD) (y : Option Addr) (c : Nat) : ∀ u ∈ fiveC x y c, u.oneCell' = true := by
  intro u hu
  simp only [fiveC, List.mem_cons, List.not_mem_nil, or_false] at hu
  rcases hu with rfl | rfl | rfl | rfl | rfl <;> rfl
theorem new_fiveC (w : World) (x : AD) (y : Option Addr) (c : Nat) : ∀ j u, (fiveC x y c)[j]? = some u → (w.alloc (.cells #[.string x.m, .int .i64 x.k, .int .i64 x.n, .string x.s, .slice y x.len c] 70)).cell? ((⟨w.heap.size, 0, none⟩ : Addr).add j) = some u := fun j u hj => by
  rw [Addr.add_lit, Nat.zero_add, cell_of_row _ _ _ _ _ (0, 0) (heap_alloc_new w _)]
  simpa [fiveC] using hj

theorem flat_len {α : Type} {f : α → List Value} {m : Nat} (hf : ∀ x, (f x).length = m) : ∀ l : List α, (l.flatMap f).length = l.length * m
  | [] => by simp
  | x :: l => by rw [List.flatMap_cons, List.length_append, hf, flat_len hf l, List.length_cons, Nat.succ_mul]; omega
theorem flat_at {α : Type} {f : α → List Value} {m : Nat} (hf : ∀ x, (f x).length = m) : ∀ (l : List α) {j i : Nat} (hj : j < l.length), i < m → (l.flatMap f)[j * m + i]? = (f l[j])[i]?
  | [], j, i, hj, _ => by simp at hj
  | x :: l, 0, i, _, hi => by rw [List.flatMap_cons, Nat.zero_mul, Nat.zero_add, List.getElem?_append_left (by rw [hf]; exact hi)]; rfl
  | x :: l, j + 1, i, hj, hi => by
    rw [List.flatMap_cons, List.getElem?_append_right (by rw [hf, Nat.succ_mul]; omega), hf, show (j + 1) * m + i - m = j * m + i by rw [Nat.succ_mul]; omega, flat_at hf l (by simpa using hj) hi]
    rfl

/-- A row of attributes that is owned. -/
def OwnA (w : World) (B : Nat) (v : Value) (T : List AT) : Prop :=
  w.ownsRow B 70 5 v T.length (T.flatMap fiveCT) ∧ ∀ t ∈ T, ReadsG (fun b => B ≤ b ∧ v.ownBlock ≠ some b) w t.2.1 t.1.len t.1.z

theorem OwnA.below {w w' : World} {B : Nat} {v : Value} {T : List AT} (h : OwnA w B v T) (hb : Below w.heap.size w w') : OwnA w' B v T :=
  ⟨owns_below h.1 hb, fun t ht => (((h.2 t ht).mono (H := fun b => (B ≤ b ∧ v.ownBlock ≠ some b)) (fun _ h _ => h)).kept (keptNew hb) (fun _ _ h => h))⟩

/-- A slice whose block may be written. -/
def FreeA (w : World) (b : Option Addr) : Prop := ∀ q, b = some q → ∃ cur t, w.heap[q.block]? = some (.cells cur t (0, 0))
theorem FreeA.kept {S : Nat → Prop} {w w' : World} {b : Option Addr} (h : FreeA w b) (hk : Kept S w w') (hS : ∀ q, b = some q → ¬ S q.block) : FreeA w' b := fun q hq => by
  obtain ⟨cur, t, hg⟩ := h q hq
  exact ⟨cur, t, hk.heap hg (hS q hq)⟩

/-- Owned attributes as they read. -/
theorem OwnA.reads {w : World} {B : Nat} {a : Option Addr} {l c : Nat} {T : List AT} {A : Nat → AD} (h : OwnA w B (.slice a l c) T) (hT : T.map (·.1) = fromA A T.length 0) : l = T.length ∧ ReadsAG (fun b => B ≤ b) w a T.length A ∧ FreeA w a ∧ ∀ q, a = some q → B ≤ q.block := by
  obtain ⟨h1, h2⟩ := h
  rcases h1.2 with ⟨hv, h0⟩ | ⟨g, cap, cur, hv, hb, hg, hnc, hm, hs, ht⟩
  · simp only [Value.slice.injEq] at hv
    obtain ⟨rfl, rfl, rfl⟩ := hv
    rw [h0]
    exact ⟨rfl, ⟨Nat.zero_le _, .inl rfl⟩, (fun q hq => by cases hq), (fun q hq => by cases hq)⟩
  · simp only [Value.slice.injEq] at hv
    obtain ⟨rfl, rfl, hcc⟩ := hv
    refine ⟨rfl, ⟨Nat.le_trans hnc hm, .inr ⟨g, 0, rfl, hb, fun j hj => ?_⟩⟩, (fun q hq => by cases hq; exact ⟨cur, _, hg⟩), (fun q hq => by cases hq; exact hb)⟩
    have e : A j = T[j].1 := by
      have h3 : (T.map (·.1))[j]? = (fromA A T.length 0)[j]? := by rw [hT]
      rw [List.getElem?_map, List.getElem?_eq_getElem hj] at h3
      simp [fromA, hj] at h3
      exact h3.symm
    have hc : ∀ i u, i < 5 → (fiveCT T[j])[i]? = some u → w.cell? ⟨g, 0 + j * 5 + i, none⟩ = some u := fun i u hi hu => by
      rw [Nat.zero_add]
      obtain ⟨g', e1, e2⟩ := owns_at (w := w) (base := B) (e := 70) (size := 5) (a := ⟨g, 0, none⟩) (n := T.length) (c := cap) (xs := T.flatMap fiveCT) ⟨h1.1, .inr ⟨g, cap, cur, rfl, hb, hg, hnc, hm, hs, ht⟩⟩ (j := j * 5 + i) (u := u) (by rw [flat_at (m := 5) (fun t => rfl) T hj hi]; exact hu)
      cases e1
      exact e2
    rw [e]
    exact ⟨T[j].2.1, T[j].2.2, ⟨hc 0 _ (by omega) rfl, hc 1 _ (by omega) rfl, hc 2 _ (by omega) rfl, hc 3 _ (by omega) rfl, hc 4 _ (by omega) rfl⟩, (h2 _ (List.getElem_mem hj)).mono (fun b hb _ => hb.1)⟩

/-- One attribute more. -/
theorem OwnA.more {w w' : World} {B : Nat} {v v' : Value} {T : List AT} {t : AT} (h : OwnA w B v T) (hr : ReadsG (fun b => B ≤ b ∧ v.ownBlock ≠ some b) w t.2.1 t.1.len t.1.z)
    (ho : w'.ownsRow B 70 5 v' (T.length + 1) (T.flatMap fiveCT ++ fiveCT t)) (hg : w.grownBy w' v.ownBlock) (hq : ∀ q, v'.ownBlock = some q → v.ownBlock = some q ∨ w.heap.size ≤ q) : OwnA w' B v' (T ++ [t]) := by
  refine ⟨by rw [List.length_append, List.flatMap_append]; simpa using ho, fun u hu => ?_⟩
  have hk : Kept (fun b => v.ownBlock = some b) w w' := (Kept.refl _ w).grown hg (fun k hk => .inl hk)
  have hu' : ReadsG (fun b => B ≤ b ∧ v.ownBlock ≠ some b) w u.2.1 u.1.len u.1.z := by
    rcases List.mem_append.1 hu with hu | hu
    · exact h.2 u hu
    · rw [List.mem_singleton] at hu; subst hu; exact hr
  exact ((hu'.mono (H := fun b => (B ≤ b ∧ v'.ownBlock ≠ some b) ∧ v.ownBlock ≠ some b) (fun b hb hl => ⟨⟨hb.1, fun e => by rcases hq b e with h | h; exact hb.2 h; omega⟩, hb.2⟩)).kept hk (fun b hb => hb.2)).mono (fun b hb _ => hb.1)

theorem OwnA.start {w w2 : World} {v : Value} (h : w2.ownsRow w.heap.size 70 5 v 0 []) : OwnA w2 w.heap.size v [] := ⟨h, fun t ht => by cases ht⟩

theorem infoA : (Try.prog.info? 70).map (fun i => (i.zero, i.size, i.bytes)) = some (some (.agg #[.string ⟨#[]⟩, .int .i64 0, .int .i64 0, .string ⟨#[]⟩, .slice none 0 0]), 5, 72) := by kernel_rfl

/-- The data of a row's twin attributes. -/
def twF (A : Nat → AD) : Nat → AD := fun j => twA (A j)

/-- Attributes made anew. -/
def TwsPost (w : World) (n : Nat) (A : Nat → AD) (e : Ending) (w' : World) : Prop :=
  (∃ b d, e = .returned (.slice b n d) ∧ ReadsAG (fun k => w.heap.size ≤ k) w' b n (twF A) ∧ FreeA w' b ∧ ∀ q, b = some q → w.heap.size ≤ q.block) ∧ Below w.heap.size w w'

end Go.Proofs.Ytpdobbdbmgeoiaa
